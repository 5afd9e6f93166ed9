/-
  DERIVED. GIVEN WITH THE SEED: THE CARDS: each row of YtmgjnjodjobagaaDoorRows.lean that lists a variable, with what it lists TIED to the program's text (the seventh form; the later family's looks); each row that meets fmt, with fmt's text TOLD by the authors' own Lean function (tested against real Go, not proved from fmt's source: count such statements apart). THE CARD IS WHAT COUNTS. Prove the row's statement (the work); the ties are given (YtmgjnjodjobagaaDoorTie.lean); close each card by the builder's one call (the guide's Derived/Test/ToyasCard.lean, 'card_holds'). Laid BY PROGRAM, IN A SANDBOX (cutbox-door.mjs). By AI agents, Wed Nov 11 2026. No macro, syntax, notation, axiom, sorry.
-/
import Derived.Test.YtmgjnjodjobagaaDoorRows
import GoSem.ClaimSeven
namespace Go.Proofs.YtmgjnjodjobagaaDoor
namespace Rows

/-- THE TIED CARD OF 'laws.FnHeadBack'. -/
def fnHeadBackCard : Claim7 := { stood := { row := fnHeadBackRow, standIns := [], harness := (true, "310e9ac5830db7e0d9c64635739e1b48ddac591ee160df3522eed3a243e0cee4"), looks := false }, kinds := [], alts := [], laidByText := true, laidKinds := [.data, .data, .data], laidTests := true, laidLooks := .later }
def FnHeadBackCardSaid : Prop := Claim7.holds Tryd.pinned (.plain (OpenSpec.ofChange fnHeadBackSpec)) fnHeadBackCard

/-- THE TIED CARD OF 'laws.FnHeadStrict'. -/
def fnHeadStrictCard : Claim7 := { stood := { row := fnHeadStrictRow, standIns := [], harness := (true, "310e9ac5830db7e0d9c64635739e1b48ddac591ee160df3522eed3a243e0cee4"), looks := false }, kinds := [], alts := [], laidByText := true, laidKinds := [.data, .data, .data], laidTests := true, laidLooks := .later }
def FnHeadStrictCardSaid : Prop := Claim7.holds Tryd.pinned (.plain (OpenSpec.ofChange fnHeadStrictSpec)) fnHeadStrictCard

/-- THE TIED CARD OF 'laws.FnHeadForm'. -/
def fnHeadFormCard : Claim7 := { stood := { row := fnHeadFormRow, standIns := [], harness := (true, "310e9ac5830db7e0d9c64635739e1b48ddac591ee160df3522eed3a243e0cee4"), looks := false }, kinds := [], alts := [], laidByText := true, laidKinds := [.data, .data, .data], laidTests := true, laidLooks := .later }
def FnHeadFormCardSaid : Prop := Claim7.holds Tryd.pinned (.plain (OpenSpec.ofChange fnHeadFormSpec)) fnHeadFormCard

/-- THE TIED CARD OF 'laws.FnExactHeadText'. -/
def fnExactHeadTextCard : Claim7 := { stood := { row := fnExactHeadTextRow, standIns := [], harness := (true, "310e9ac5830db7e0d9c64635739e1b48ddac591ee160df3522eed3a243e0cee4"), looks := false }, kinds := [], alts := [], laidByText := true, laidKinds := [.data, .data, .data], laidTests := true, laidLooks := .later }
def FnExactHeadTextCardSaid : Prop := Claim7.holds Tryd.pinned (.plain (OpenSpec.ofChange fnExactHeadTextSpec)) fnExactHeadTextCard

/-- THE SECOND FORM's CARD OF 'laws.FnHeadBack'. -/
def fnHeadBackUptoCard : Claim7 := { stood := { row := fnHeadBackUptoRow, standIns := [], harness := (true, "310e9ac5830db7e0d9c64635739e1b48ddac591ee160df3522eed3a243e0cee4"), looks := false }, kinds := [], alts := [], laidByText := true, laidKinds := [.data, .data, .data], laidTests := true, laidLooks := .later }
def FnHeadBackUptoCardSaid : Prop := Claim7.holds Tryd.pinned (.plain (OpenSpec.upto fnHeadBackSpec)) fnHeadBackUptoCard

/-- THE SECOND FORM's CARD OF 'laws.FnHeadStrict'. -/
def fnHeadStrictUptoCard : Claim7 := { stood := { row := fnHeadStrictUptoRow, standIns := [], harness := (true, "310e9ac5830db7e0d9c64635739e1b48ddac591ee160df3522eed3a243e0cee4"), looks := false }, kinds := [], alts := [], laidByText := true, laidKinds := [.data, .data, .data], laidTests := true, laidLooks := .later }
def FnHeadStrictUptoCardSaid : Prop := Claim7.holds Tryd.pinned (.plain (OpenSpec.upto fnHeadStrictSpec)) fnHeadStrictUptoCard

/-- THE SECOND FORM's CARD OF 'laws.FnHeadForm'. -/
def fnHeadFormUptoCard : Claim7 := { stood := { row := fnHeadFormUptoRow, standIns := [], harness := (true, "310e9ac5830db7e0d9c64635739e1b48ddac591ee160df3522eed3a243e0cee4"), looks := false }, kinds := [], alts := [], laidByText := true, laidKinds := [.data, .data, .data], laidTests := true, laidLooks := .later }
def FnHeadFormUptoCardSaid : Prop := Claim7.holds Tryd.pinned (.plain (OpenSpec.upto fnHeadFormSpec)) fnHeadFormUptoCard

/-- THE SECOND FORM's CARD OF 'laws.FnExactHeadText'. -/
def fnExactHeadTextUptoCard : Claim7 := { stood := { row := fnExactHeadTextUptoRow, standIns := [], harness := (true, "310e9ac5830db7e0d9c64635739e1b48ddac591ee160df3522eed3a243e0cee4"), looks := false }, kinds := [], alts := [], laidByText := true, laidKinds := [.data, .data, .data], laidTests := true, laidLooks := .later }
def FnExactHeadTextUptoCardSaid : Prop := Claim7.holds Tryd.pinned (.plain (OpenSpec.upto fnExactHeadTextSpec)) fnExactHeadTextUptoCard
end Rows
end Go.Proofs.YtmgjnjodjobagaaDoor
