/-
  DERIVED. GIVEN WITH THE SEED: THE CARDS: each row of YtddkpimmcmnogaaDoorRows.lean that lists a variable, with what it lists TIED to the program's text (the seventh form; the later family's looks); each row that meets fmt, with fmt's text TOLD by the authors' own Lean function (tested against real Go, not proved from fmt's source: count such statements apart). THE CARD IS WHAT COUNTS. Prove the row's statement (the work); the ties are given (YtddkpimmcmnogaaDoorTie.lean); close each card by the builder's one call (the guide's Derived/Test/ToyasCard.lean, 'card_holds'). Laid BY PROGRAM, IN A SANDBOX (cutbox-door.mjs). By AI agents, Wed Nov 11 2026. No macro, syntax, notation, axiom, sorry.
-/
import Derived.Test.YtddkpimmcmnogaaDoorRows
import GoSem.ClaimSeven
namespace Go.Proofs.YtddkpimmcmnogaaDoor
namespace Rows

/-- THE TIED CARD OF 'laws.FnExactPredOk'. -/
def fnExactPredOkCard : Claim7 := { stood := { row := fnExactPredOkRow, standIns := [], harness := (true, "251c54a4ad6589777474ed61488f537f16b4ed91cf094dd94b8ca47d86b8f1e9"), looks := true }, kinds := [], alts := [], laidByText := true, laidKinds := [.sentinel], laidTests := true, laidLooks := .later }
def FnExactPredOkCardSaid : Prop := Claim7.holds Tryd.pinned (.plain (OpenSpec.ofChange fnExactPredOkSpec)) fnExactPredOkCard

/-- THE TIED CARD OF 'laws.FnExactPredParts'. -/
def fnExactPredPartsCard : Claim7 := { stood := { row := fnExactPredPartsRow, standIns := [], harness := (true, "251c54a4ad6589777474ed61488f537f16b4ed91cf094dd94b8ca47d86b8f1e9"), looks := true }, kinds := [], alts := [], laidByText := true, laidKinds := [.sentinel], laidTests := true, laidLooks := .later }
def FnExactPredPartsCardSaid : Prop := Claim7.holds Tryd.pinned (.plain (OpenSpec.ofChange fnExactPredPartsSpec)) fnExactPredPartsCard

/-- THE TIED CARD OF 'laws.FnExactPredHas'. -/
def fnExactPredHasCard : Claim7 := { stood := { row := fnExactPredHasRow, standIns := [], harness := (true, "251c54a4ad6589777474ed61488f537f16b4ed91cf094dd94b8ca47d86b8f1e9"), looks := true }, kinds := [], alts := [], laidByText := true, laidKinds := [.sentinel], laidTests := true, laidLooks := .later }
def FnExactPredHasCardSaid : Prop := Claim7.holds Tryd.pinned (.plain (OpenSpec.ofChange fnExactPredHasSpec)) fnExactPredHasCard

/-- THE TIED CARD OF 'laws.FnExactPredSame'. -/
def fnExactPredSameCard : Claim7 := { stood := { row := fnExactPredSameRow, standIns := [], harness := (true, "251c54a4ad6589777474ed61488f537f16b4ed91cf094dd94b8ca47d86b8f1e9"), looks := true }, kinds := [], alts := [], laidByText := true, laidKinds := [.sentinel], laidTests := true, laidLooks := .later }
def FnExactPredSameCardSaid : Prop := Claim7.holds Tryd.pinned (.plain (OpenSpec.ofChange fnExactPredSameSpec)) fnExactPredSameCard

/-- THE TIED CARD OF 'laws.FnExactPredDeep'. -/
def fnExactPredDeepCard : Claim7 := { stood := { row := fnExactPredDeepRow, standIns := [], harness := (true, "251c54a4ad6589777474ed61488f537f16b4ed91cf094dd94b8ca47d86b8f1e9"), looks := true }, kinds := [], alts := [], laidByText := true, laidKinds := [.sentinel], laidTests := true, laidLooks := .later }
def FnExactPredDeepCardSaid : Prop := Claim7.holds Tryd.pinned (.plain (OpenSpec.ofChange fnExactPredDeepSpec)) fnExactPredDeepCard

/-- THE TIED CARD OF 'laws.FnExactPredSpace'. -/
def fnExactPredSpaceCard : Claim7 := { stood := { row := fnExactPredSpaceRow, standIns := [], harness := (true, "251c54a4ad6589777474ed61488f537f16b4ed91cf094dd94b8ca47d86b8f1e9"), looks := true }, kinds := [], alts := [], laidByText := true, laidKinds := [.sentinel], laidTests := true, laidLooks := .later }
def FnExactPredSpaceCardSaid : Prop := Claim7.holds Tryd.pinned (.plain (OpenSpec.ofChange fnExactPredSpaceSpec)) fnExactPredSpaceCard

/-- THE TIED CARD OF 'laws.FnPredParts'. -/
def fnPredPartsCard : Claim7 := { stood := { row := fnPredPartsRow, standIns := [], harness := (true, "251c54a4ad6589777474ed61488f537f16b4ed91cf094dd94b8ca47d86b8f1e9"), looks := true }, kinds := [], alts := [], laidByText := true, laidKinds := [.sentinel], laidTests := true, laidLooks := .later }
def FnPredPartsCardSaid : Prop := Claim7.holds Tryd.pinned (.plain (OpenSpec.ofChange fnPredPartsSpec)) fnPredPartsCard

/-- THE TIED CARD OF 'laws.FnPredSame'. -/
def fnPredSameCard : Claim7 := { stood := { row := fnPredSameRow, standIns := [], harness := (true, "251c54a4ad6589777474ed61488f537f16b4ed91cf094dd94b8ca47d86b8f1e9"), looks := true }, kinds := [], alts := [], laidByText := true, laidKinds := [.sentinel], laidTests := true, laidLooks := .later }
def FnPredSameCardSaid : Prop := Claim7.holds Tryd.pinned (.plain (OpenSpec.ofChange fnPredSameSpec)) fnPredSameCard

/-- THE TIED CARD OF 'laws.FnPredDeep'. -/
def fnPredDeepCard : Claim7 := { stood := { row := fnPredDeepRow, standIns := [], harness := (true, "251c54a4ad6589777474ed61488f537f16b4ed91cf094dd94b8ca47d86b8f1e9"), looks := true }, kinds := [], alts := [], laidByText := true, laidKinds := [.sentinel], laidTests := true, laidLooks := .later }
def FnPredDeepCardSaid : Prop := Claim7.holds Tryd.pinned (.plain (OpenSpec.ofChange fnPredDeepSpec)) fnPredDeepCard

/-- THE TIED CARD OF 'laws.FnPredForm'. -/
def fnPredFormCard : Claim7 := { stood := { row := fnPredFormRow, standIns := [], harness := (true, "251c54a4ad6589777474ed61488f537f16b4ed91cf094dd94b8ca47d86b8f1e9"), looks := true }, kinds := [], alts := [], laidByText := true, laidKinds := [.sentinel], laidTests := true, laidLooks := .later }
def FnPredFormCardSaid : Prop := Claim7.holds Tryd.pinned (.plain (OpenSpec.ofChange fnPredFormSpec)) fnPredFormCard

/-- THE TIED CARD OF 'laws.FnPredNot'. -/
def fnPredNotCard : Claim7 := { stood := { row := fnPredNotRow, standIns := [], harness := (true, "251c54a4ad6589777474ed61488f537f16b4ed91cf094dd94b8ca47d86b8f1e9"), looks := true }, kinds := [], alts := [], laidByText := true, laidKinds := [.sentinel], laidTests := true, laidLooks := .later }
def FnPredNotCardSaid : Prop := Claim7.holds Tryd.pinned (.plain (OpenSpec.ofChange fnPredNotSpec)) fnPredNotCard

/-- THE TIED CARD OF 'laws.FnPredHas'. -/
def fnPredHasCard : Claim7 := { stood := { row := fnPredHasRow, standIns := [], harness := (true, "251c54a4ad6589777474ed61488f537f16b4ed91cf094dd94b8ca47d86b8f1e9"), looks := true }, kinds := [], alts := [], laidByText := true, laidKinds := [.sentinel], laidTests := true, laidLooks := .later }
def FnPredHasCardSaid : Prop := Claim7.holds Tryd.pinned (.plain (OpenSpec.ofChange fnPredHasSpec)) fnPredHasCard

/-- THE SECOND FORM's CARD OF 'laws.FnExactPredOk'. -/
def fnExactPredOkUptoCard : Claim7 := { stood := { row := fnExactPredOkUptoRow, standIns := [], harness := (true, "251c54a4ad6589777474ed61488f537f16b4ed91cf094dd94b8ca47d86b8f1e9"), looks := true }, kinds := [], alts := [], laidByText := true, laidKinds := [.sentinel], laidTests := true, laidLooks := .later }
def FnExactPredOkUptoCardSaid : Prop := Claim7.holds Tryd.pinned (.plain (OpenSpec.upto fnExactPredOkSpec)) fnExactPredOkUptoCard

/-- THE SECOND FORM's CARD OF 'laws.FnExactPredParts'. -/
def fnExactPredPartsUptoCard : Claim7 := { stood := { row := fnExactPredPartsUptoRow, standIns := [], harness := (true, "251c54a4ad6589777474ed61488f537f16b4ed91cf094dd94b8ca47d86b8f1e9"), looks := true }, kinds := [], alts := [], laidByText := true, laidKinds := [.sentinel], laidTests := true, laidLooks := .later }
def FnExactPredPartsUptoCardSaid : Prop := Claim7.holds Tryd.pinned (.plain (OpenSpec.upto fnExactPredPartsSpec)) fnExactPredPartsUptoCard

/-- THE SECOND FORM's CARD OF 'laws.FnExactPredHas'. -/
def fnExactPredHasUptoCard : Claim7 := { stood := { row := fnExactPredHasUptoRow, standIns := [], harness := (true, "251c54a4ad6589777474ed61488f537f16b4ed91cf094dd94b8ca47d86b8f1e9"), looks := true }, kinds := [], alts := [], laidByText := true, laidKinds := [.sentinel], laidTests := true, laidLooks := .later }
def FnExactPredHasUptoCardSaid : Prop := Claim7.holds Tryd.pinned (.plain (OpenSpec.upto fnExactPredHasSpec)) fnExactPredHasUptoCard

/-- THE SECOND FORM's CARD OF 'laws.FnExactPredSame'. -/
def fnExactPredSameUptoCard : Claim7 := { stood := { row := fnExactPredSameUptoRow, standIns := [], harness := (true, "251c54a4ad6589777474ed61488f537f16b4ed91cf094dd94b8ca47d86b8f1e9"), looks := true }, kinds := [], alts := [], laidByText := true, laidKinds := [.sentinel], laidTests := true, laidLooks := .later }
def FnExactPredSameUptoCardSaid : Prop := Claim7.holds Tryd.pinned (.plain (OpenSpec.upto fnExactPredSameSpec)) fnExactPredSameUptoCard

/-- THE SECOND FORM's CARD OF 'laws.FnExactPredDeep'. -/
def fnExactPredDeepUptoCard : Claim7 := { stood := { row := fnExactPredDeepUptoRow, standIns := [], harness := (true, "251c54a4ad6589777474ed61488f537f16b4ed91cf094dd94b8ca47d86b8f1e9"), looks := true }, kinds := [], alts := [], laidByText := true, laidKinds := [.sentinel], laidTests := true, laidLooks := .later }
def FnExactPredDeepUptoCardSaid : Prop := Claim7.holds Tryd.pinned (.plain (OpenSpec.upto fnExactPredDeepSpec)) fnExactPredDeepUptoCard

/-- THE SECOND FORM's CARD OF 'laws.FnExactPredSpace'. -/
def fnExactPredSpaceUptoCard : Claim7 := { stood := { row := fnExactPredSpaceUptoRow, standIns := [], harness := (true, "251c54a4ad6589777474ed61488f537f16b4ed91cf094dd94b8ca47d86b8f1e9"), looks := true }, kinds := [], alts := [], laidByText := true, laidKinds := [.sentinel], laidTests := true, laidLooks := .later }
def FnExactPredSpaceUptoCardSaid : Prop := Claim7.holds Tryd.pinned (.plain (OpenSpec.upto fnExactPredSpaceSpec)) fnExactPredSpaceUptoCard

/-- THE SECOND FORM's CARD OF 'laws.FnPredParts'. -/
def fnPredPartsUptoCard : Claim7 := { stood := { row := fnPredPartsUptoRow, standIns := [], harness := (true, "251c54a4ad6589777474ed61488f537f16b4ed91cf094dd94b8ca47d86b8f1e9"), looks := true }, kinds := [], alts := [], laidByText := true, laidKinds := [.sentinel], laidTests := true, laidLooks := .later }
def FnPredPartsUptoCardSaid : Prop := Claim7.holds Tryd.pinned (.plain (OpenSpec.upto fnPredPartsSpec)) fnPredPartsUptoCard

/-- THE SECOND FORM's CARD OF 'laws.FnPredSame'. -/
def fnPredSameUptoCard : Claim7 := { stood := { row := fnPredSameUptoRow, standIns := [], harness := (true, "251c54a4ad6589777474ed61488f537f16b4ed91cf094dd94b8ca47d86b8f1e9"), looks := true }, kinds := [], alts := [], laidByText := true, laidKinds := [.sentinel], laidTests := true, laidLooks := .later }
def FnPredSameUptoCardSaid : Prop := Claim7.holds Tryd.pinned (.plain (OpenSpec.upto fnPredSameSpec)) fnPredSameUptoCard

/-- THE SECOND FORM's CARD OF 'laws.FnPredDeep'. -/
def fnPredDeepUptoCard : Claim7 := { stood := { row := fnPredDeepUptoRow, standIns := [], harness := (true, "251c54a4ad6589777474ed61488f537f16b4ed91cf094dd94b8ca47d86b8f1e9"), looks := true }, kinds := [], alts := [], laidByText := true, laidKinds := [.sentinel], laidTests := true, laidLooks := .later }
def FnPredDeepUptoCardSaid : Prop := Claim7.holds Tryd.pinned (.plain (OpenSpec.upto fnPredDeepSpec)) fnPredDeepUptoCard

/-- THE SECOND FORM's CARD OF 'laws.FnPredForm'. -/
def fnPredFormUptoCard : Claim7 := { stood := { row := fnPredFormUptoRow, standIns := [], harness := (true, "251c54a4ad6589777474ed61488f537f16b4ed91cf094dd94b8ca47d86b8f1e9"), looks := true }, kinds := [], alts := [], laidByText := true, laidKinds := [.sentinel], laidTests := true, laidLooks := .later }
def FnPredFormUptoCardSaid : Prop := Claim7.holds Tryd.pinned (.plain (OpenSpec.upto fnPredFormSpec)) fnPredFormUptoCard

/-- THE SECOND FORM's CARD OF 'laws.FnPredNot'. -/
def fnPredNotUptoCard : Claim7 := { stood := { row := fnPredNotUptoRow, standIns := [], harness := (true, "251c54a4ad6589777474ed61488f537f16b4ed91cf094dd94b8ca47d86b8f1e9"), looks := true }, kinds := [], alts := [], laidByText := true, laidKinds := [.sentinel], laidTests := true, laidLooks := .later }
def FnPredNotUptoCardSaid : Prop := Claim7.holds Tryd.pinned (.plain (OpenSpec.upto fnPredNotSpec)) fnPredNotUptoCard

/-- THE SECOND FORM's CARD OF 'laws.FnPredHas'. -/
def fnPredHasUptoCard : Claim7 := { stood := { row := fnPredHasUptoRow, standIns := [], harness := (true, "251c54a4ad6589777474ed61488f537f16b4ed91cf094dd94b8ca47d86b8f1e9"), looks := true }, kinds := [], alts := [], laidByText := true, laidKinds := [.sentinel], laidTests := true, laidLooks := .later }
def FnPredHasUptoCardSaid : Prop := Claim7.holds Tryd.pinned (.plain (OpenSpec.upto fnPredHasSpec)) fnPredHasUptoCard
end Rows
end Go.Proofs.YtddkpimmcmnogaaDoor
