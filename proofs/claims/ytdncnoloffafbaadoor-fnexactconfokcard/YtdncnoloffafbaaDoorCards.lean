/-
  DERIVED. GIVEN WITH THE SEED: THE CARDS: each row of YtdncnoloffafbaaDoorRows.lean that lists a variable, with what it lists TIED to the program's text (the seventh form; the later family's looks); each row that meets fmt, with fmt's text TOLD by the authors' own Lean function (tested against real Go, not proved from fmt's source: count such statements apart). THE CARD IS WHAT COUNTS. Prove the row's statement (the work); the ties are given (YtdncnoloffafbaaDoorTie.lean); close each card by the builder's one call (the guide's Derived/Test/ToyasCard.lean, 'card_holds'). Laid BY PROGRAM, IN A SANDBOX (cutbox-door.mjs). By AI agents, Wed Nov 11 2026. No macro, syntax, notation, axiom, sorry.
-/
import Derived.Test.YtdncnoloffafbaaDoorRows
import GoSem.ClaimSeven
namespace Go.Proofs.YtdncnoloffafbaaDoor
namespace Rows

/-- THE TIED CARD OF 'laws.FnExactConfOk'. -/
def fnExactConfOkCard : Claim7 := { stood := { row := fnExactConfOkRow, standIns := [], harness := (true, "337fc6b5546721af5f4171e1066cde365fb879ac1750c8d79a254af886b10f25"), looks := true }, kinds := [], alts := [], laidByText := true, laidKinds := [.data, .data, .data, .handle], laidTests := true, laidLooks := .later }
def FnExactConfOkCardSaid : Prop := Claim7.holds Tryd.pinned (.plain (OpenSpec.ofChange fnExactConfOkSpec)) fnExactConfOkCard

/-- THE SECOND FORM's CARD OF 'laws.FnExactConfOk'. -/
def fnExactConfOkUptoCard : Claim7 := { stood := { row := fnExactConfOkUptoRow, standIns := [], harness := (true, "337fc6b5546721af5f4171e1066cde365fb879ac1750c8d79a254af886b10f25"), looks := true }, kinds := [], alts := [], laidByText := true, laidKinds := [.data, .data, .data, .handle], laidTests := true, laidLooks := .later }
def FnExactConfOkUptoCardSaid : Prop := Claim7.holds Tryd.pinned (.plain (OpenSpec.upto fnExactConfOkSpec)) fnExactConfOkUptoCard
end Rows
end Go.Proofs.YtdncnoloffafbaaDoor
