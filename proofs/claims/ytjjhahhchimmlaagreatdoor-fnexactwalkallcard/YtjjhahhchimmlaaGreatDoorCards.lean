/-
  DERIVED. GIVEN WITH THE SEED: THE CARDS: each row of YtjjhahhchimmlaaGreatDoorRows.lean that lists a variable, with what it lists TIED to the program's text (the seventh form; the later family's looks); each row that meets fmt, with fmt's text TOLD by the authors' own Lean function (tested against real Go, not proved from fmt's source: count such statements apart). THE CARD IS WHAT COUNTS. Prove the row's statement (the work); the ties are given (YtjjhahhchimmlaaGreatDoorTie.lean); close each card by the builder's one call (the guide's Derived/Test/ToyasCard.lean, 'card_holds'). Laid BY PROGRAM, IN A SANDBOX (cutbox-door.mjs). By AI agents, Wed Nov 11 2026. No macro, syntax, notation, axiom, sorry.
-/
import Derived.Test.YtjjhahhchimmlaaGreatDoorRows
import GoSem.ClaimSeven
namespace Go.Proofs.YtjjhahhchimmlaaGreatDoor
namespace Rows

/-- THE TIED CARD OF 'laws.FnExactWalkStep'. -/
def fnExactWalkStepCard : Claim7 := { stood := { row := fnExactWalkStepRow, standIns := [], harness := (true, "6a7cf92837d63d19a60751f7ab77adb0fe2d0005eb0bb3b300394891f5bb4bda"), looks := true }, kinds := [], alts := [], laidByText := true, laidKinds := [.data, .data, .data, .handle], laidTests := true, laidLooks := .later }
def FnExactWalkStepCardSaid : Prop := Claim7.holds Tryz.pinned (.plain (OpenSpec.ofChange fnExactWalkStepSpec)) fnExactWalkStepCard

/-- THE TIED CARD OF 'laws.FnExactWalkAll'. -/
def fnExactWalkAllCard : Claim7 := { stood := { row := fnExactWalkAllRow, standIns := [], harness := (true, "6a7cf92837d63d19a60751f7ab77adb0fe2d0005eb0bb3b300394891f5bb4bda"), looks := true }, kinds := [], alts := [], laidByText := true, laidKinds := [.data, .data, .data, .handle], laidTests := true, laidLooks := .later }
def FnExactWalkAllCardSaid : Prop := Claim7.holds Tryz.pinned (.plain (OpenSpec.ofChange fnExactWalkAllSpec)) fnExactWalkAllCard

/-- THE TIED CARD OF 'laws.FnExactWalkEnd'. -/
def fnExactWalkEndCard : Claim7 := { stood := { row := fnExactWalkEndRow, standIns := [], harness := (true, "6a7cf92837d63d19a60751f7ab77adb0fe2d0005eb0bb3b300394891f5bb4bda"), looks := true }, kinds := [], alts := [], laidByText := true, laidKinds := [.data, .data, .data, .handle], laidTests := true, laidLooks := .later }
def FnExactWalkEndCardSaid : Prop := Claim7.holds Tryz.pinned (.plain (OpenSpec.ofChange fnExactWalkEndSpec)) fnExactWalkEndCard

/-- THE SECOND FORM's CARD OF 'laws.FnExactWalkStep'. -/
def fnExactWalkStepUptoCard : Claim7 := { stood := { row := fnExactWalkStepUptoRow, standIns := [], harness := (true, "6a7cf92837d63d19a60751f7ab77adb0fe2d0005eb0bb3b300394891f5bb4bda"), looks := true }, kinds := [], alts := [], laidByText := true, laidKinds := [.data, .data, .data, .handle], laidTests := true, laidLooks := .later }
def FnExactWalkStepUptoCardSaid : Prop := Claim7.holds Tryz.pinned (.plain (OpenSpec.upto fnExactWalkStepSpec)) fnExactWalkStepUptoCard

/-- THE SECOND FORM's CARD OF 'laws.FnExactWalkAll'. -/
def fnExactWalkAllUptoCard : Claim7 := { stood := { row := fnExactWalkAllUptoRow, standIns := [], harness := (true, "6a7cf92837d63d19a60751f7ab77adb0fe2d0005eb0bb3b300394891f5bb4bda"), looks := true }, kinds := [], alts := [], laidByText := true, laidKinds := [.data, .data, .data, .handle], laidTests := true, laidLooks := .later }
def FnExactWalkAllUptoCardSaid : Prop := Claim7.holds Tryz.pinned (.plain (OpenSpec.upto fnExactWalkAllSpec)) fnExactWalkAllUptoCard

/-- THE SECOND FORM's CARD OF 'laws.FnExactWalkEnd'. -/
def fnExactWalkEndUptoCard : Claim7 := { stood := { row := fnExactWalkEndUptoRow, standIns := [], harness := (true, "6a7cf92837d63d19a60751f7ab77adb0fe2d0005eb0bb3b300394891f5bb4bda"), looks := true }, kinds := [], alts := [], laidByText := true, laidKinds := [.data, .data, .data, .handle], laidTests := true, laidLooks := .later }
def FnExactWalkEndUptoCardSaid : Prop := Claim7.holds Tryz.pinned (.plain (OpenSpec.upto fnExactWalkEndSpec)) fnExactWalkEndUptoCard
end Rows
end Go.Proofs.YtjjhahhchimmlaaGreatDoor
