/-
  DERIVED. GIVEN WITH THE SEED: THE CARDS: each row of YtdncnoloffafbaaGreatDoorRows.lean that lists a variable, with what it lists TIED to the program's text (the seventh form; the later family's looks); each row that meets fmt, with fmt's text TOLD by the authors' own Lean function (tested against real Go, not proved from fmt's source: count such statements apart). THE CARD IS WHAT COUNTS. Prove the row's statement (the work); the ties are given (YtdncnoloffafbaaGreatDoorTie.lean); close each card by the builder's one call (the guide's Derived/Test/ToyasCard.lean, 'card_holds'). Laid BY PROGRAM, IN A SANDBOX (cutbox-door.mjs). By AI agents, Wed Nov 11 2026. No macro, syntax, notation, axiom, sorry.
-/
import Derived.Test.YtdncnoloffafbaaGreatDoorRows
import GoSem.ClaimSeven
namespace Go.Proofs.YtdncnoloffafbaaGreatDoor
namespace Rows

/-- THE TIED CARD OF 'laws.FnExactWalkStep'. -/
def fnExactWalkStepCard : Claim7 := { stood := { row := fnExactWalkStepRow, standIns := [], harness := (true, "2a1677407da7283835187b858bb0dd02e7316c2b42a2536fb98e0c4828340dd8"), looks := true }, kinds := [], alts := [], laidByText := true, laidKinds := [.data, .data, .data, .handle], laidTests := true, laidLooks := .later }
def FnExactWalkStepCardSaid : Prop := Claim7.holds Tryz.pinned (.plain (OpenSpec.ofChange fnExactWalkStepSpec)) fnExactWalkStepCard

/-- THE TIED CARD OF 'laws.FnExactWalkAll'. -/
def fnExactWalkAllCard : Claim7 := { stood := { row := fnExactWalkAllRow, standIns := [], harness := (true, "2a1677407da7283835187b858bb0dd02e7316c2b42a2536fb98e0c4828340dd8"), looks := true }, kinds := [], alts := [], laidByText := true, laidKinds := [.data, .data, .data, .handle], laidTests := true, laidLooks := .later }
def FnExactWalkAllCardSaid : Prop := Claim7.holds Tryz.pinned (.plain (OpenSpec.ofChange fnExactWalkAllSpec)) fnExactWalkAllCard

/-- THE TIED CARD OF 'laws.FnExactWalkEnd'. -/
def fnExactWalkEndCard : Claim7 := { stood := { row := fnExactWalkEndRow, standIns := [], harness := (true, "2a1677407da7283835187b858bb0dd02e7316c2b42a2536fb98e0c4828340dd8"), looks := true }, kinds := [], alts := [], laidByText := true, laidKinds := [.data, .data, .data, .handle], laidTests := true, laidLooks := .later }
def FnExactWalkEndCardSaid : Prop := Claim7.holds Tryz.pinned (.plain (OpenSpec.ofChange fnExactWalkEndSpec)) fnExactWalkEndCard

/-- THE TIED CARD OF 'laws.FnStep'. -/
def fnStepCard : Claim7 := { stood := { row := fnStepRow, standIns := [], harness := (true, "2a1677407da7283835187b858bb0dd02e7316c2b42a2536fb98e0c4828340dd8"), looks := true }, kinds := [], alts := [], laidByText := true, laidKinds := [.data, .data, .data, .handle], laidTests := true, laidLooks := .later }
def FnStepCardSaid : Prop := Claim7.holds Tryz.pinned (.plain (OpenSpec.ofChange fnStepSpec)) fnStepCard

/-- THE TIED CARD OF 'laws.FnWalk'. -/
def fnWalkCard : Claim7 := { stood := { row := fnWalkRow, standIns := [], harness := (true, "2a1677407da7283835187b858bb0dd02e7316c2b42a2536fb98e0c4828340dd8"), looks := true }, kinds := [], alts := [], laidByText := true, laidKinds := [.data, .data, .data, .handle], laidTests := true, laidLooks := .later }
def FnWalkCardSaid : Prop := Claim7.holds Tryz.pinned (.plain (OpenSpec.ofChange fnWalkSpec)) fnWalkCard

/-- THE TIED CARD OF 'laws.FnWalkRest'. -/
def fnWalkRestCard : Claim7 := { stood := { row := fnWalkRestRow, standIns := [], harness := (true, "2a1677407da7283835187b858bb0dd02e7316c2b42a2536fb98e0c4828340dd8"), looks := true }, kinds := [], alts := [], laidByText := true, laidKinds := [.data, .data, .data, .handle], laidTests := true, laidLooks := .later }
def FnWalkRestCardSaid : Prop := Claim7.holds Tryz.pinned (.plain (OpenSpec.ofChange fnWalkRestSpec)) fnWalkRestCard

/-- THE TIED CARD OF 'laws.FnWalkLoop'. -/
def fnWalkLoopCard : Claim7 := { stood := { row := fnWalkLoopRow, standIns := [], harness := (true, "2a1677407da7283835187b858bb0dd02e7316c2b42a2536fb98e0c4828340dd8"), looks := true }, kinds := [], alts := [], laidByText := true, laidKinds := [.data, .data, .data, .handle], laidTests := true, laidLooks := .later }
def FnWalkLoopCardSaid : Prop := Claim7.holds Tryz.pinned (.plain (OpenSpec.ofChange fnWalkLoopSpec)) fnWalkLoopCard

/-- THE TIED CARD OF 'laws.FnWalkEnd'. -/
def fnWalkEndCard : Claim7 := { stood := { row := fnWalkEndRow, standIns := [], harness := (true, "2a1677407da7283835187b858bb0dd02e7316c2b42a2536fb98e0c4828340dd8"), looks := true }, kinds := [], alts := [], laidByText := true, laidKinds := [.data, .data, .data, .handle], laidTests := true, laidLooks := .later }
def FnWalkEndCardSaid : Prop := Claim7.holds Tryz.pinned (.plain (OpenSpec.ofChange fnWalkEndSpec)) fnWalkEndCard

/-- THE TIED CARD OF 'laws.FnWalkTrim'. -/
def fnWalkTrimCard : Claim7 := { stood := { row := fnWalkTrimRow, standIns := [], harness := (true, "2a1677407da7283835187b858bb0dd02e7316c2b42a2536fb98e0c4828340dd8"), looks := true }, kinds := [], alts := [], laidByText := true, laidKinds := [.data, .data, .data, .handle], laidTests := true, laidLooks := .later }
def FnWalkTrimCardSaid : Prop := Claim7.holds Tryz.pinned (.plain (OpenSpec.ofChange fnWalkTrimSpec)) fnWalkTrimCard

/-- THE TIED CARD OF 'laws.FnWalkOther'. -/
def fnWalkOtherCard : Claim7 := { stood := { row := fnWalkOtherRow, standIns := [], harness := (true, "2a1677407da7283835187b858bb0dd02e7316c2b42a2536fb98e0c4828340dd8"), looks := true }, kinds := [], alts := [], laidByText := true, laidKinds := [.data, .data, .data, .handle], laidTests := true, laidLooks := .later }
def FnWalkOtherCardSaid : Prop := Claim7.holds Tryz.pinned (.plain (OpenSpec.ofChange fnWalkOtherSpec)) fnWalkOtherCard

/-- THE TIED CARD OF 'laws.FnConfForm'. -/
def fnConfFormCard : Claim7 := { stood := { row := fnConfFormRow, standIns := [], harness := (true, "2a1677407da7283835187b858bb0dd02e7316c2b42a2536fb98e0c4828340dd8"), looks := true }, kinds := [], alts := [], laidByText := true, laidKinds := [.data, .data, .data, .handle], laidTests := true, laidLooks := .later }
def FnConfFormCardSaid : Prop := Claim7.holds Tryz.pinned (.plain (OpenSpec.ofChange fnConfFormSpec)) fnConfFormCard

/-- THE SECOND FORM's CARD OF 'laws.FnExactWalkStep'. -/
def fnExactWalkStepUptoCard : Claim7 := { stood := { row := fnExactWalkStepUptoRow, standIns := [], harness := (true, "2a1677407da7283835187b858bb0dd02e7316c2b42a2536fb98e0c4828340dd8"), looks := true }, kinds := [], alts := [], laidByText := true, laidKinds := [.data, .data, .data, .handle], laidTests := true, laidLooks := .later }
def FnExactWalkStepUptoCardSaid : Prop := Claim7.holds Tryz.pinned (.plain (OpenSpec.upto fnExactWalkStepSpec)) fnExactWalkStepUptoCard

/-- THE SECOND FORM's CARD OF 'laws.FnExactWalkAll'. -/
def fnExactWalkAllUptoCard : Claim7 := { stood := { row := fnExactWalkAllUptoRow, standIns := [], harness := (true, "2a1677407da7283835187b858bb0dd02e7316c2b42a2536fb98e0c4828340dd8"), looks := true }, kinds := [], alts := [], laidByText := true, laidKinds := [.data, .data, .data, .handle], laidTests := true, laidLooks := .later }
def FnExactWalkAllUptoCardSaid : Prop := Claim7.holds Tryz.pinned (.plain (OpenSpec.upto fnExactWalkAllSpec)) fnExactWalkAllUptoCard

/-- THE SECOND FORM's CARD OF 'laws.FnExactWalkEnd'. -/
def fnExactWalkEndUptoCard : Claim7 := { stood := { row := fnExactWalkEndUptoRow, standIns := [], harness := (true, "2a1677407da7283835187b858bb0dd02e7316c2b42a2536fb98e0c4828340dd8"), looks := true }, kinds := [], alts := [], laidByText := true, laidKinds := [.data, .data, .data, .handle], laidTests := true, laidLooks := .later }
def FnExactWalkEndUptoCardSaid : Prop := Claim7.holds Tryz.pinned (.plain (OpenSpec.upto fnExactWalkEndSpec)) fnExactWalkEndUptoCard

/-- THE SECOND FORM's CARD OF 'laws.FnStep'. -/
def fnStepUptoCard : Claim7 := { stood := { row := fnStepUptoRow, standIns := [], harness := (true, "2a1677407da7283835187b858bb0dd02e7316c2b42a2536fb98e0c4828340dd8"), looks := true }, kinds := [], alts := [], laidByText := true, laidKinds := [.data, .data, .data, .handle], laidTests := true, laidLooks := .later }
def FnStepUptoCardSaid : Prop := Claim7.holds Tryz.pinned (.plain (OpenSpec.upto fnStepSpec)) fnStepUptoCard

/-- THE SECOND FORM's CARD OF 'laws.FnWalk'. -/
def fnWalkUptoCard : Claim7 := { stood := { row := fnWalkUptoRow, standIns := [], harness := (true, "2a1677407da7283835187b858bb0dd02e7316c2b42a2536fb98e0c4828340dd8"), looks := true }, kinds := [], alts := [], laidByText := true, laidKinds := [.data, .data, .data, .handle], laidTests := true, laidLooks := .later }
def FnWalkUptoCardSaid : Prop := Claim7.holds Tryz.pinned (.plain (OpenSpec.upto fnWalkSpec)) fnWalkUptoCard

/-- THE SECOND FORM's CARD OF 'laws.FnWalkRest'. -/
def fnWalkRestUptoCard : Claim7 := { stood := { row := fnWalkRestUptoRow, standIns := [], harness := (true, "2a1677407da7283835187b858bb0dd02e7316c2b42a2536fb98e0c4828340dd8"), looks := true }, kinds := [], alts := [], laidByText := true, laidKinds := [.data, .data, .data, .handle], laidTests := true, laidLooks := .later }
def FnWalkRestUptoCardSaid : Prop := Claim7.holds Tryz.pinned (.plain (OpenSpec.upto fnWalkRestSpec)) fnWalkRestUptoCard

/-- THE SECOND FORM's CARD OF 'laws.FnWalkLoop'. -/
def fnWalkLoopUptoCard : Claim7 := { stood := { row := fnWalkLoopUptoRow, standIns := [], harness := (true, "2a1677407da7283835187b858bb0dd02e7316c2b42a2536fb98e0c4828340dd8"), looks := true }, kinds := [], alts := [], laidByText := true, laidKinds := [.data, .data, .data, .handle], laidTests := true, laidLooks := .later }
def FnWalkLoopUptoCardSaid : Prop := Claim7.holds Tryz.pinned (.plain (OpenSpec.upto fnWalkLoopSpec)) fnWalkLoopUptoCard

/-- THE SECOND FORM's CARD OF 'laws.FnWalkEnd'. -/
def fnWalkEndUptoCard : Claim7 := { stood := { row := fnWalkEndUptoRow, standIns := [], harness := (true, "2a1677407da7283835187b858bb0dd02e7316c2b42a2536fb98e0c4828340dd8"), looks := true }, kinds := [], alts := [], laidByText := true, laidKinds := [.data, .data, .data, .handle], laidTests := true, laidLooks := .later }
def FnWalkEndUptoCardSaid : Prop := Claim7.holds Tryz.pinned (.plain (OpenSpec.upto fnWalkEndSpec)) fnWalkEndUptoCard

/-- THE SECOND FORM's CARD OF 'laws.FnWalkTrim'. -/
def fnWalkTrimUptoCard : Claim7 := { stood := { row := fnWalkTrimUptoRow, standIns := [], harness := (true, "2a1677407da7283835187b858bb0dd02e7316c2b42a2536fb98e0c4828340dd8"), looks := true }, kinds := [], alts := [], laidByText := true, laidKinds := [.data, .data, .data, .handle], laidTests := true, laidLooks := .later }
def FnWalkTrimUptoCardSaid : Prop := Claim7.holds Tryz.pinned (.plain (OpenSpec.upto fnWalkTrimSpec)) fnWalkTrimUptoCard

/-- THE SECOND FORM's CARD OF 'laws.FnWalkOther'. -/
def fnWalkOtherUptoCard : Claim7 := { stood := { row := fnWalkOtherUptoRow, standIns := [], harness := (true, "2a1677407da7283835187b858bb0dd02e7316c2b42a2536fb98e0c4828340dd8"), looks := true }, kinds := [], alts := [], laidByText := true, laidKinds := [.data, .data, .data, .handle], laidTests := true, laidLooks := .later }
def FnWalkOtherUptoCardSaid : Prop := Claim7.holds Tryz.pinned (.plain (OpenSpec.upto fnWalkOtherSpec)) fnWalkOtherUptoCard

/-- THE SECOND FORM's CARD OF 'laws.FnConfForm'. -/
def fnConfFormUptoCard : Claim7 := { stood := { row := fnConfFormUptoRow, standIns := [], harness := (true, "2a1677407da7283835187b858bb0dd02e7316c2b42a2536fb98e0c4828340dd8"), looks := true }, kinds := [], alts := [], laidByText := true, laidKinds := [.data, .data, .data, .handle], laidTests := true, laidLooks := .later }
def FnConfFormUptoCardSaid : Prop := Claim7.holds Tryz.pinned (.plain (OpenSpec.upto fnConfFormSpec)) fnConfFormUptoCard
end Rows
end Go.Proofs.YtdncnoloffafbaaGreatDoor
