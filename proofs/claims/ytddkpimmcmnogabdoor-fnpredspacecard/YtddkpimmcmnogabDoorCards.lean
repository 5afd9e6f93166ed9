/-
  DERIVED. GIVEN WITH THE SEED: THE CARDS: each row of YtddkpimmcmnogabDoorRows.lean that lists a variable, with what it lists TIED to the program's text (the seventh form; the later family's looks); each row that meets fmt, with fmt's text TOLD by the authors' own Lean function (tested against real Go, not proved from fmt's source: count such statements apart). THE CARD IS WHAT COUNTS. Prove the row's statement (the work); the ties are given (YtddkpimmcmnogabDoorTie.lean); close each card by the builder's one call (the guide's Derived/Test/ToyasCard.lean, 'card_holds'). Laid BY PROGRAM, IN A SANDBOX (cutbox-door.mjs). By AI agents, Wed Nov 11 2026. No macro, syntax, notation, axiom, sorry.
-/
import Derived.Test.YtddkpimmcmnogabDoorRows
import GoSem.ClaimSeven
namespace Go.Proofs.YtddkpimmcmnogabDoor
namespace Rows

/-- THE TIED CARD OF 'laws.FnPredSpace'. -/
def fnPredSpaceCard : Claim7 := { stood := { row := fnPredSpaceRow, standIns := [], harness := (true, "ec96788416d2402139541751da8c0d451309e0e5a30f6120a90b7b617893947b"), looks := true }, kinds := [], alts := [], laidByText := true, laidKinds := [.sentinel], laidTests := true, laidLooks := .later }
def FnPredSpaceCardSaid : Prop := Claim7.holds Tryd.pinned (.plain (OpenSpec.ofChange fnPredSpaceSpec)) fnPredSpaceCard

/-- THE TIED CARD OF 'laws.FnPredAlg'. -/
def fnPredAlgCard : Claim7 := { stood := { row := fnPredAlgRow, standIns := [], harness := (true, "ec96788416d2402139541751da8c0d451309e0e5a30f6120a90b7b617893947b"), looks := true }, kinds := [], alts := [], laidByText := true, laidKinds := [.sentinel], laidTests := true, laidLooks := .later }
def FnPredAlgCardSaid : Prop := Claim7.holds Tryd.pinned (.plain (OpenSpec.ofChange fnPredAlgSpec)) fnPredAlgCard

/-- THE SECOND FORM's CARD OF 'laws.FnPredSpace'. -/
def fnPredSpaceUptoCard : Claim7 := { stood := { row := fnPredSpaceUptoRow, standIns := [], harness := (true, "ec96788416d2402139541751da8c0d451309e0e5a30f6120a90b7b617893947b"), looks := true }, kinds := [], alts := [], laidByText := true, laidKinds := [.sentinel], laidTests := true, laidLooks := .later }
def FnPredSpaceUptoCardSaid : Prop := Claim7.holds Tryd.pinned (.plain (OpenSpec.upto fnPredSpaceSpec)) fnPredSpaceUptoCard

/-- THE SECOND FORM's CARD OF 'laws.FnPredAlg'. -/
def fnPredAlgUptoCard : Claim7 := { stood := { row := fnPredAlgUptoRow, standIns := [], harness := (true, "ec96788416d2402139541751da8c0d451309e0e5a30f6120a90b7b617893947b"), looks := true }, kinds := [], alts := [], laidByText := true, laidKinds := [.sentinel], laidTests := true, laidLooks := .later }
def FnPredAlgUptoCardSaid : Prop := Claim7.holds Tryd.pinned (.plain (OpenSpec.upto fnPredAlgSpec)) fnPredAlgUptoCard
end Rows
end Go.Proofs.YtddkpimmcmnogabDoor
