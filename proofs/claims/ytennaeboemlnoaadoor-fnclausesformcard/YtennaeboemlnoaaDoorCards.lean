/-
  DERIVED. GIVEN WITH THE SEED: THE CARDS: each row of YtennaeboemlnoaaDoorRows.lean that lists a variable, with what it lists TIED to the program's text (the seventh form; the later family's looks); each row that meets fmt, with fmt's text TOLD by the authors' own Lean function (tested against real Go, not proved from fmt's source: count such statements apart). THE CARD IS WHAT COUNTS. Prove the row's statement (the work); the ties are given (YtennaeboemlnoaaDoorTie.lean); close each card by the builder's one call (the guide's Derived/Test/ToyasCard.lean, 'card_holds'). Laid BY PROGRAM, IN A SANDBOX (cutbox-door.mjs). By AI agents, Wed Nov 11 2026. No macro, syntax, notation, axiom, sorry.
-/
import Derived.Test.YtennaeboemlnoaaDoorRows
import GoSem.ClaimSeven
namespace Go.Proofs.YtennaeboemlnoaaDoor
namespace Rows

/-- THE TIED CARD OF 'laws.FnExactClausesOk'. -/
def fnExactClausesOkCard : Claim7 := { stood := { row := fnExactClausesOkRow, standIns := [], harness := (true, "c33bc84ba9152c75fab6d82a03f48ef7fd0939bb59088798662a5ff8d888129c"), looks := true }, kinds := [], alts := [], laidByText := true, laidKinds := [.sentinel], laidTests := true, laidLooks := .later }
def FnExactClausesOkCardSaid : Prop := Claim7.holds Tryd.pinned (.plain (OpenSpec.ofChange fnExactClausesOkSpec)) fnExactClausesOkCard

/-- THE TIED CARD OF 'laws.FnExactClausesDo'. -/
def fnExactClausesDoCard : Claim7 := { stood := { row := fnExactClausesDoRow, standIns := [], harness := (true, "c33bc84ba9152c75fab6d82a03f48ef7fd0939bb59088798662a5ff8d888129c"), looks := true }, kinds := [], alts := [], laidByText := true, laidKinds := [.sentinel], laidTests := true, laidLooks := .later }
def FnExactClausesDoCardSaid : Prop := Claim7.holds Tryd.pinned (.plain (OpenSpec.ofChange fnExactClausesDoSpec)) fnExactClausesDoCard

/-- THE TIED CARD OF 'laws.FnExactClausesTable'. -/
def fnExactClausesTableCard : Claim7 := { stood := { row := fnExactClausesTableRow, standIns := [], harness := (true, "c33bc84ba9152c75fab6d82a03f48ef7fd0939bb59088798662a5ff8d888129c"), looks := true }, kinds := [], alts := [], laidByText := true, laidKinds := [.sentinel], laidTests := true, laidLooks := .later }
def FnExactClausesTableCardSaid : Prop := Claim7.holds Tryd.pinned (.plain (OpenSpec.ofChange fnExactClausesTableSpec)) fnExactClausesTableCard

/-- THE TIED CARD OF 'laws.FnClausesDo'. -/
def fnClausesDoCard : Claim7 := { stood := { row := fnClausesDoRow, standIns := [], harness := (true, "c33bc84ba9152c75fab6d82a03f48ef7fd0939bb59088798662a5ff8d888129c"), looks := true }, kinds := [], alts := [], laidByText := true, laidKinds := [.sentinel], laidTests := true, laidLooks := .later }
def FnClausesDoCardSaid : Prop := Claim7.holds Tryd.pinned (.plain (OpenSpec.ofChange fnClausesDoSpec)) fnClausesDoCard

/-- THE TIED CARD OF 'laws.FnClausesRules'. -/
def fnClausesRulesCard : Claim7 := { stood := { row := fnClausesRulesRow, standIns := [], harness := (true, "c33bc84ba9152c75fab6d82a03f48ef7fd0939bb59088798662a5ff8d888129c"), looks := true }, kinds := [], alts := [], laidByText := true, laidKinds := [.sentinel], laidTests := true, laidLooks := .later }
def FnClausesRulesCardSaid : Prop := Claim7.holds Tryd.pinned (.plain (OpenSpec.ofChange fnClausesRulesSpec)) fnClausesRulesCard

/-- THE TIED CARD OF 'laws.FnClausesMore'. -/
def fnClausesMoreCard : Claim7 := { stood := { row := fnClausesMoreRow, standIns := [], harness := (true, "c33bc84ba9152c75fab6d82a03f48ef7fd0939bb59088798662a5ff8d888129c"), looks := true }, kinds := [], alts := [], laidByText := true, laidKinds := [.sentinel], laidTests := true, laidLooks := .later }
def FnClausesMoreCardSaid : Prop := Claim7.holds Tryd.pinned (.plain (OpenSpec.ofChange fnClausesMoreSpec)) fnClausesMoreCard

/-- THE TIED CARD OF 'laws.FnClausesForm'. -/
def fnClausesFormCard : Claim7 := { stood := { row := fnClausesFormRow, standIns := [], harness := (true, "c33bc84ba9152c75fab6d82a03f48ef7fd0939bb59088798662a5ff8d888129c"), looks := true }, kinds := [], alts := [], laidByText := true, laidKinds := [.sentinel], laidTests := true, laidLooks := .later }
def FnClausesFormCardSaid : Prop := Claim7.holds Tryd.pinned (.plain (OpenSpec.ofChange fnClausesFormSpec)) fnClausesFormCard

/-- THE TIED CARD OF 'laws.FnClausesSwap'. -/
def fnClausesSwapCard : Claim7 := { stood := { row := fnClausesSwapRow, standIns := [], harness := (true, "c33bc84ba9152c75fab6d82a03f48ef7fd0939bb59088798662a5ff8d888129c"), looks := true }, kinds := [], alts := [], laidByText := true, laidKinds := [.sentinel], laidTests := true, laidLooks := .later }
def FnClausesSwapCardSaid : Prop := Claim7.holds Tryd.pinned (.plain (OpenSpec.ofChange fnClausesSwapSpec)) fnClausesSwapCard

/-- THE TIED CARD OF 'laws.FnTableForm'. -/
def fnTableFormCard : Claim7 := { stood := { row := fnTableFormRow, standIns := [], harness := (true, "c33bc84ba9152c75fab6d82a03f48ef7fd0939bb59088798662a5ff8d888129c"), looks := true }, kinds := [], alts := [], laidByText := true, laidKinds := [.data, .data, .data, .handle], laidTests := true, laidLooks := .later }
def FnTableFormCardSaid : Prop := Claim7.holds Tryd.pinned (.plain (OpenSpec.ofChange fnTableFormSpec)) fnTableFormCard

/-- THE SECOND FORM's CARD OF 'laws.FnExactClausesOk'. -/
def fnExactClausesOkUptoCard : Claim7 := { stood := { row := fnExactClausesOkUptoRow, standIns := [], harness := (true, "c33bc84ba9152c75fab6d82a03f48ef7fd0939bb59088798662a5ff8d888129c"), looks := true }, kinds := [], alts := [], laidByText := true, laidKinds := [.sentinel], laidTests := true, laidLooks := .later }
def FnExactClausesOkUptoCardSaid : Prop := Claim7.holds Tryd.pinned (.plain (OpenSpec.upto fnExactClausesOkSpec)) fnExactClausesOkUptoCard

/-- THE SECOND FORM's CARD OF 'laws.FnExactClausesDo'. -/
def fnExactClausesDoUptoCard : Claim7 := { stood := { row := fnExactClausesDoUptoRow, standIns := [], harness := (true, "c33bc84ba9152c75fab6d82a03f48ef7fd0939bb59088798662a5ff8d888129c"), looks := true }, kinds := [], alts := [], laidByText := true, laidKinds := [.sentinel], laidTests := true, laidLooks := .later }
def FnExactClausesDoUptoCardSaid : Prop := Claim7.holds Tryd.pinned (.plain (OpenSpec.upto fnExactClausesDoSpec)) fnExactClausesDoUptoCard

/-- THE SECOND FORM's CARD OF 'laws.FnExactClausesTable'. -/
def fnExactClausesTableUptoCard : Claim7 := { stood := { row := fnExactClausesTableUptoRow, standIns := [], harness := (true, "c33bc84ba9152c75fab6d82a03f48ef7fd0939bb59088798662a5ff8d888129c"), looks := true }, kinds := [], alts := [], laidByText := true, laidKinds := [.sentinel], laidTests := true, laidLooks := .later }
def FnExactClausesTableUptoCardSaid : Prop := Claim7.holds Tryd.pinned (.plain (OpenSpec.upto fnExactClausesTableSpec)) fnExactClausesTableUptoCard

/-- THE SECOND FORM's CARD OF 'laws.FnClausesDo'. -/
def fnClausesDoUptoCard : Claim7 := { stood := { row := fnClausesDoUptoRow, standIns := [], harness := (true, "c33bc84ba9152c75fab6d82a03f48ef7fd0939bb59088798662a5ff8d888129c"), looks := true }, kinds := [], alts := [], laidByText := true, laidKinds := [.sentinel], laidTests := true, laidLooks := .later }
def FnClausesDoUptoCardSaid : Prop := Claim7.holds Tryd.pinned (.plain (OpenSpec.upto fnClausesDoSpec)) fnClausesDoUptoCard

/-- THE SECOND FORM's CARD OF 'laws.FnClausesRules'. -/
def fnClausesRulesUptoCard : Claim7 := { stood := { row := fnClausesRulesUptoRow, standIns := [], harness := (true, "c33bc84ba9152c75fab6d82a03f48ef7fd0939bb59088798662a5ff8d888129c"), looks := true }, kinds := [], alts := [], laidByText := true, laidKinds := [.sentinel], laidTests := true, laidLooks := .later }
def FnClausesRulesUptoCardSaid : Prop := Claim7.holds Tryd.pinned (.plain (OpenSpec.upto fnClausesRulesSpec)) fnClausesRulesUptoCard

/-- THE SECOND FORM's CARD OF 'laws.FnClausesMore'. -/
def fnClausesMoreUptoCard : Claim7 := { stood := { row := fnClausesMoreUptoRow, standIns := [], harness := (true, "c33bc84ba9152c75fab6d82a03f48ef7fd0939bb59088798662a5ff8d888129c"), looks := true }, kinds := [], alts := [], laidByText := true, laidKinds := [.sentinel], laidTests := true, laidLooks := .later }
def FnClausesMoreUptoCardSaid : Prop := Claim7.holds Tryd.pinned (.plain (OpenSpec.upto fnClausesMoreSpec)) fnClausesMoreUptoCard

/-- THE SECOND FORM's CARD OF 'laws.FnClausesForm'. -/
def fnClausesFormUptoCard : Claim7 := { stood := { row := fnClausesFormUptoRow, standIns := [], harness := (true, "c33bc84ba9152c75fab6d82a03f48ef7fd0939bb59088798662a5ff8d888129c"), looks := true }, kinds := [], alts := [], laidByText := true, laidKinds := [.sentinel], laidTests := true, laidLooks := .later }
def FnClausesFormUptoCardSaid : Prop := Claim7.holds Tryd.pinned (.plain (OpenSpec.upto fnClausesFormSpec)) fnClausesFormUptoCard

/-- THE SECOND FORM's CARD OF 'laws.FnClausesSwap'. -/
def fnClausesSwapUptoCard : Claim7 := { stood := { row := fnClausesSwapUptoRow, standIns := [], harness := (true, "c33bc84ba9152c75fab6d82a03f48ef7fd0939bb59088798662a5ff8d888129c"), looks := true }, kinds := [], alts := [], laidByText := true, laidKinds := [.sentinel], laidTests := true, laidLooks := .later }
def FnClausesSwapUptoCardSaid : Prop := Claim7.holds Tryd.pinned (.plain (OpenSpec.upto fnClausesSwapSpec)) fnClausesSwapUptoCard

/-- THE SECOND FORM's CARD OF 'laws.FnTableForm'. -/
def fnTableFormUptoCard : Claim7 := { stood := { row := fnTableFormUptoRow, standIns := [], harness := (true, "c33bc84ba9152c75fab6d82a03f48ef7fd0939bb59088798662a5ff8d888129c"), looks := true }, kinds := [], alts := [], laidByText := true, laidKinds := [.data, .data, .data, .handle], laidTests := true, laidLooks := .later }
def FnTableFormUptoCardSaid : Prop := Claim7.holds Tryd.pinned (.plain (OpenSpec.upto fnTableFormSpec)) fnTableFormUptoCard
end Rows
end Go.Proofs.YtennaeboemlnoaaDoor
