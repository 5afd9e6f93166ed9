/-
  DERIVED. GIVEN WITH THE SEED: THE CARDS: each row of YtcipidcnkllanaaDoorRows.lean that lists a variable, with what it lists TIED to the program's text (the seventh form; the later family's looks); each row that meets fmt, with fmt's text TOLD by the authors' own Lean function (tested against real Go, not proved from fmt's source: count such statements apart). THE CARD IS WHAT COUNTS. Prove the row's statement (the work); the ties are given (YtcipidcnkllanaaDoorTie.lean); close each card by the builder's one call (the guide's Derived/Test/ToyasCard.lean, 'card_holds'). Laid BY PROGRAM, IN A SANDBOX (cutbox-door.mjs). By AI agents, Wed Nov 11 2026. No macro, syntax, notation, axiom, sorry.
-/
import Derived.Test.YtcipidcnkllanaaDoorRows
import GoSem.ClaimSeven
namespace Go.Proofs.YtcipidcnkllanaaDoor
namespace Rows

/-- THE TIED CARD OF 'laws.FnClausesMore'. -/
def fnClausesMoreCard : Claim7 := { stood := { row := fnClausesMoreRow, standIns := [], harness := (true, "f484f519fb06bdeb8a6c40ce9adde4d578f2aa229f83ba714b8be731755cb009"), looks := true }, kinds := [], alts := [], laidByText := true, laidKinds := [.sentinel], laidTests := true, laidLooks := .later }
def FnClausesMoreCardSaid : Prop := Claim7.holds Tryd.pinned (.plain (OpenSpec.ofChange fnClausesMoreSpec)) fnClausesMoreCard

/-- THE SECOND FORM's CARD OF 'laws.FnClausesMore'. -/
def fnClausesMoreUptoCard : Claim7 := { stood := { row := fnClausesMoreUptoRow, standIns := [], harness := (true, "f484f519fb06bdeb8a6c40ce9adde4d578f2aa229f83ba714b8be731755cb009"), looks := true }, kinds := [], alts := [], laidByText := true, laidKinds := [.sentinel], laidTests := true, laidLooks := .later }
def FnClausesMoreUptoCardSaid : Prop := Claim7.holds Tryd.pinned (.plain (OpenSpec.upto fnClausesMoreSpec)) fnClausesMoreUptoCard
end Rows
end Go.Proofs.YtcipidcnkllanaaDoor
