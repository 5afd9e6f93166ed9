/-
  DERIVED. GIVEN WITH THE SEED: THE CARDS: each row of YtlbbhiigfgegeaaDoorRows.lean that lists a variable, with what it lists TIED to the program's text (the seventh form; the later family's looks); each row that meets fmt, with fmt's text TOLD by the authors' own Lean function (tested against real Go, not proved from fmt's source: count such statements apart). THE CARD IS WHAT COUNTS. Prove the row's statement (the work); the ties are given (YtlbbhiigfgegeaaDoorTie.lean); close each card by the builder's one call (the guide's Derived/Test/ToyasCard.lean, 'card_holds'). Laid BY PROGRAM, IN A SANDBOX (cutbox-door.mjs). By AI agents, Wed Nov 11 2026. No macro, syntax, notation, axiom, sorry.
-/
import Derived.Test.YtlbbhiigfgegeaaDoorRows
import GoSem.ClaimSeven
namespace Go.Proofs.YtlbbhiigfgegeaaDoor
namespace Rows

/-- THE TIED CARD OF 'laws.FnRuleBack'. -/
def fnRuleBackCard : Claim7 := { stood := { row := fnRuleBackRow, standIns := [], harness := (true, "eb3e6b556d378a69b5c2ea193b89b82cd740d7869fe68e2d4ce8f95787ce8fd4"), looks := true }, kinds := [], alts := [], laidByText := true, laidKinds := [.data, .data, .data, .data, .handle, .pinned], laidTests := true, laidLooks := .later }
def FnRuleBackCardSaid : Prop := Claim7.holds Tryd.pinned (.plain (OpenSpec.ofChange fnRuleBackSpec)) fnRuleBackCard

/-- THE TIED CARD OF 'laws.FnRuleStrict'. -/
def fnRuleStrictCard : Claim7 := { stood := { row := fnRuleStrictRow, standIns := [], harness := (true, "eb3e6b556d378a69b5c2ea193b89b82cd740d7869fe68e2d4ce8f95787ce8fd4"), looks := true }, kinds := [], alts := [], laidByText := true, laidKinds := [.data, .data, .data, .data, .handle, .pinned], laidTests := true, laidLooks := .later }
def FnRuleStrictCardSaid : Prop := Claim7.holds Tryd.pinned (.plain (OpenSpec.ofChange fnRuleStrictSpec)) fnRuleStrictCard

/-- THE TIED CARD OF 'laws.FnRuleDo'. -/
def fnRuleDoCard : Claim7 := { stood := { row := fnRuleDoRow, standIns := [], harness := (true, "eb3e6b556d378a69b5c2ea193b89b82cd740d7869fe68e2d4ce8f95787ce8fd4"), looks := true }, kinds := [], alts := [], laidByText := true, laidKinds := [.handle], laidTests := true, laidLooks := .later }
def FnRuleDoCardSaid : Prop := Claim7.holds Tryd.pinned (.plain (OpenSpec.ofChange fnRuleDoSpec)) fnRuleDoCard

/-- THE TIED CARD OF 'laws.FnRuleCmp'. -/
def fnRuleCmpCard : Claim7 := { stood := { row := fnRuleCmpRow, standIns := [], harness := (true, "eb3e6b556d378a69b5c2ea193b89b82cd740d7869fe68e2d4ce8f95787ce8fd4"), looks := true }, kinds := [], alts := [], laidByText := true, laidKinds := [.data, .data, .data, .handle], laidTests := true, laidLooks := .later }
def FnRuleCmpCardSaid : Prop := Claim7.holds Tryd.pinned (.plain (OpenSpec.ofChange fnRuleCmpSpec)) fnRuleCmpCard

/-- THE TIED CARD OF 'laws.FnRuleThree'. -/
def fnRuleThreeCard : Claim7 := { stood := { row := fnRuleThreeRow, standIns := [], harness := (true, "eb3e6b556d378a69b5c2ea193b89b82cd740d7869fe68e2d4ce8f95787ce8fd4"), looks := true }, kinds := [], alts := [], laidByText := true, laidKinds := [.data, .data, .data, .handle], laidTests := true, laidLooks := .later }
def FnRuleThreeCardSaid : Prop := Claim7.holds Tryd.pinned (.plain (OpenSpec.ofChange fnRuleThreeSpec)) fnRuleThreeCard

/-- THE TIED CARD OF 'laws.FnRuleForm'. -/
def fnRuleFormCard : Claim7 := { stood := { row := fnRuleFormRow, standIns := [], harness := (true, "eb3e6b556d378a69b5c2ea193b89b82cd740d7869fe68e2d4ce8f95787ce8fd4"), looks := true }, kinds := [], alts := [], laidByText := true, laidKinds := [.handle], laidTests := true, laidLooks := .later }
def FnRuleFormCardSaid : Prop := Claim7.holds Tryd.pinned (.plain (OpenSpec.ofChange fnRuleFormSpec)) fnRuleFormCard

/-- THE TIED CARD OF 'laws.FnExactRuleOk'. -/
def fnExactRuleOkCard : Claim7 := { stood := { row := fnExactRuleOkRow, standIns := [], harness := (true, "eb3e6b556d378a69b5c2ea193b89b82cd740d7869fe68e2d4ce8f95787ce8fd4"), looks := true }, kinds := [], alts := [], laidByText := true, laidKinds := [.handle], laidTests := true, laidLooks := .later }
def FnExactRuleOkCardSaid : Prop := Claim7.holds Tryd.pinned (.plain (OpenSpec.ofChange fnExactRuleOkSpec)) fnExactRuleOkCard

/-- THE TIED CARD OF 'laws.FnExactRuleText'. -/
def fnExactRuleTextCard : Claim7 := { stood := { row := fnExactRuleTextRow, standIns := [], harness := (true, "eb3e6b556d378a69b5c2ea193b89b82cd740d7869fe68e2d4ce8f95787ce8fd4"), looks := true }, kinds := [], alts := [], laidByText := true, laidKinds := [.data, .data, .data, .handle], laidTests := true, laidLooks := .later }
def FnExactRuleTextCardSaid : Prop := Claim7.holds Tryd.pinned (.plain (OpenSpec.ofChange fnExactRuleTextSpec)) fnExactRuleTextCard

/-- THE TIED CARD OF 'laws.FnExactRuleRead'. -/
def fnExactRuleReadCard : Claim7 := { stood := { row := fnExactRuleReadRow, standIns := [], harness := (true, "eb3e6b556d378a69b5c2ea193b89b82cd740d7869fe68e2d4ce8f95787ce8fd4"), looks := true }, kinds := [], alts := [], laidByText := true, laidKinds := [.data, .handle, .pinned], laidTests := true, laidLooks := .later }
def FnExactRuleReadCardSaid : Prop := Claim7.holds Tryd.pinned (.plain (OpenSpec.ofChange fnExactRuleReadSpec)) fnExactRuleReadCard

/-- THE TIED CARD OF 'laws.FnExactRuleDo'. -/
def fnExactRuleDoCard : Claim7 := { stood := { row := fnExactRuleDoRow, standIns := [], harness := (true, "eb3e6b556d378a69b5c2ea193b89b82cd740d7869fe68e2d4ce8f95787ce8fd4"), looks := true }, kinds := [], alts := [], laidByText := true, laidKinds := [.handle], laidTests := true, laidLooks := .later }
def FnExactRuleDoCardSaid : Prop := Claim7.holds Tryd.pinned (.plain (OpenSpec.ofChange fnExactRuleDoSpec)) fnExactRuleDoCard

/-- THE TIED CARD OF 'laws.FnExactRuleCmp'. -/
def fnExactRuleCmpCard : Claim7 := { stood := { row := fnExactRuleCmpRow, standIns := [], harness := (true, "eb3e6b556d378a69b5c2ea193b89b82cd740d7869fe68e2d4ce8f95787ce8fd4"), looks := true }, kinds := [], alts := [], laidByText := true, laidKinds := [.data, .data, .data, .handle], laidTests := true, laidLooks := .later }
def FnExactRuleCmpCardSaid : Prop := Claim7.holds Tryd.pinned (.plain (OpenSpec.ofChange fnExactRuleCmpSpec)) fnExactRuleCmpCard

/-- THE SECOND FORM's CARD OF 'laws.FnRuleBack'. -/
def fnRuleBackUptoCard : Claim7 := { stood := { row := fnRuleBackUptoRow, standIns := [], harness := (true, "eb3e6b556d378a69b5c2ea193b89b82cd740d7869fe68e2d4ce8f95787ce8fd4"), looks := true }, kinds := [], alts := [], laidByText := true, laidKinds := [.data, .data, .data, .data, .handle, .pinned], laidTests := true, laidLooks := .later }
def FnRuleBackUptoCardSaid : Prop := Claim7.holds Tryd.pinned (.plain (OpenSpec.upto fnRuleBackSpec)) fnRuleBackUptoCard

/-- THE SECOND FORM's CARD OF 'laws.FnRuleStrict'. -/
def fnRuleStrictUptoCard : Claim7 := { stood := { row := fnRuleStrictUptoRow, standIns := [], harness := (true, "eb3e6b556d378a69b5c2ea193b89b82cd740d7869fe68e2d4ce8f95787ce8fd4"), looks := true }, kinds := [], alts := [], laidByText := true, laidKinds := [.data, .data, .data, .data, .handle, .pinned], laidTests := true, laidLooks := .later }
def FnRuleStrictUptoCardSaid : Prop := Claim7.holds Tryd.pinned (.plain (OpenSpec.upto fnRuleStrictSpec)) fnRuleStrictUptoCard

/-- THE SECOND FORM's CARD OF 'laws.FnRuleDo'. -/
def fnRuleDoUptoCard : Claim7 := { stood := { row := fnRuleDoUptoRow, standIns := [], harness := (true, "eb3e6b556d378a69b5c2ea193b89b82cd740d7869fe68e2d4ce8f95787ce8fd4"), looks := true }, kinds := [], alts := [], laidByText := true, laidKinds := [.handle], laidTests := true, laidLooks := .later }
def FnRuleDoUptoCardSaid : Prop := Claim7.holds Tryd.pinned (.plain (OpenSpec.upto fnRuleDoSpec)) fnRuleDoUptoCard

/-- THE SECOND FORM's CARD OF 'laws.FnRuleCmp'. -/
def fnRuleCmpUptoCard : Claim7 := { stood := { row := fnRuleCmpUptoRow, standIns := [], harness := (true, "eb3e6b556d378a69b5c2ea193b89b82cd740d7869fe68e2d4ce8f95787ce8fd4"), looks := true }, kinds := [], alts := [], laidByText := true, laidKinds := [.data, .data, .data, .handle], laidTests := true, laidLooks := .later }
def FnRuleCmpUptoCardSaid : Prop := Claim7.holds Tryd.pinned (.plain (OpenSpec.upto fnRuleCmpSpec)) fnRuleCmpUptoCard

/-- THE SECOND FORM's CARD OF 'laws.FnRuleThree'. -/
def fnRuleThreeUptoCard : Claim7 := { stood := { row := fnRuleThreeUptoRow, standIns := [], harness := (true, "eb3e6b556d378a69b5c2ea193b89b82cd740d7869fe68e2d4ce8f95787ce8fd4"), looks := true }, kinds := [], alts := [], laidByText := true, laidKinds := [.data, .data, .data, .handle], laidTests := true, laidLooks := .later }
def FnRuleThreeUptoCardSaid : Prop := Claim7.holds Tryd.pinned (.plain (OpenSpec.upto fnRuleThreeSpec)) fnRuleThreeUptoCard

/-- THE SECOND FORM's CARD OF 'laws.FnRuleForm'. -/
def fnRuleFormUptoCard : Claim7 := { stood := { row := fnRuleFormUptoRow, standIns := [], harness := (true, "eb3e6b556d378a69b5c2ea193b89b82cd740d7869fe68e2d4ce8f95787ce8fd4"), looks := true }, kinds := [], alts := [], laidByText := true, laidKinds := [.handle], laidTests := true, laidLooks := .later }
def FnRuleFormUptoCardSaid : Prop := Claim7.holds Tryd.pinned (.plain (OpenSpec.upto fnRuleFormSpec)) fnRuleFormUptoCard

/-- THE SECOND FORM's CARD OF 'laws.FnExactRuleOk'. -/
def fnExactRuleOkUptoCard : Claim7 := { stood := { row := fnExactRuleOkUptoRow, standIns := [], harness := (true, "eb3e6b556d378a69b5c2ea193b89b82cd740d7869fe68e2d4ce8f95787ce8fd4"), looks := true }, kinds := [], alts := [], laidByText := true, laidKinds := [.handle], laidTests := true, laidLooks := .later }
def FnExactRuleOkUptoCardSaid : Prop := Claim7.holds Tryd.pinned (.plain (OpenSpec.upto fnExactRuleOkSpec)) fnExactRuleOkUptoCard

/-- THE SECOND FORM's CARD OF 'laws.FnExactRuleText'. -/
def fnExactRuleTextUptoCard : Claim7 := { stood := { row := fnExactRuleTextUptoRow, standIns := [], harness := (true, "eb3e6b556d378a69b5c2ea193b89b82cd740d7869fe68e2d4ce8f95787ce8fd4"), looks := true }, kinds := [], alts := [], laidByText := true, laidKinds := [.data, .data, .data, .handle], laidTests := true, laidLooks := .later }
def FnExactRuleTextUptoCardSaid : Prop := Claim7.holds Tryd.pinned (.plain (OpenSpec.upto fnExactRuleTextSpec)) fnExactRuleTextUptoCard

/-- THE SECOND FORM's CARD OF 'laws.FnExactRuleRead'. -/
def fnExactRuleReadUptoCard : Claim7 := { stood := { row := fnExactRuleReadUptoRow, standIns := [], harness := (true, "eb3e6b556d378a69b5c2ea193b89b82cd740d7869fe68e2d4ce8f95787ce8fd4"), looks := true }, kinds := [], alts := [], laidByText := true, laidKinds := [.data, .handle, .pinned], laidTests := true, laidLooks := .later }
def FnExactRuleReadUptoCardSaid : Prop := Claim7.holds Tryd.pinned (.plain (OpenSpec.upto fnExactRuleReadSpec)) fnExactRuleReadUptoCard

/-- THE SECOND FORM's CARD OF 'laws.FnExactRuleDo'. -/
def fnExactRuleDoUptoCard : Claim7 := { stood := { row := fnExactRuleDoUptoRow, standIns := [], harness := (true, "eb3e6b556d378a69b5c2ea193b89b82cd740d7869fe68e2d4ce8f95787ce8fd4"), looks := true }, kinds := [], alts := [], laidByText := true, laidKinds := [.handle], laidTests := true, laidLooks := .later }
def FnExactRuleDoUptoCardSaid : Prop := Claim7.holds Tryd.pinned (.plain (OpenSpec.upto fnExactRuleDoSpec)) fnExactRuleDoUptoCard

/-- THE SECOND FORM's CARD OF 'laws.FnExactRuleCmp'. -/
def fnExactRuleCmpUptoCard : Claim7 := { stood := { row := fnExactRuleCmpUptoRow, standIns := [], harness := (true, "eb3e6b556d378a69b5c2ea193b89b82cd740d7869fe68e2d4ce8f95787ce8fd4"), looks := true }, kinds := [], alts := [], laidByText := true, laidKinds := [.data, .data, .data, .handle], laidTests := true, laidLooks := .later }
def FnExactRuleCmpUptoCardSaid : Prop := Claim7.holds Tryd.pinned (.plain (OpenSpec.upto fnExactRuleCmpSpec)) fnExactRuleCmpUptoCard
end Rows
end Go.Proofs.YtlbbhiigfgegeaaDoor
