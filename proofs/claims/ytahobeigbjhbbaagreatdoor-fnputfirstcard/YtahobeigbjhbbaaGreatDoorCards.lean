/-
  DERIVED. GIVEN WITH THE SEED: THE CARDS: each row of YtahobeigbjhbbaaGreatDoorRows.lean that lists a variable, with what it lists TIED to the program's text (the seventh form; the later family's looks); each row that meets fmt, with fmt's text TOLD by the authors' own Lean function (tested against real Go, not proved from fmt's source: count such statements apart). THE CARD IS WHAT COUNTS. Prove the row's statement (the work); the ties are given (YtahobeigbjhbbaaGreatDoorTie.lean); close each card by the builder's one call (the guide's Derived/Test/ToyasCard.lean, 'card_holds'). Laid BY PROGRAM, IN A SANDBOX (cutbox-door.mjs). By AI agents, Wed Nov 11 2026. No macro, syntax, notation, axiom, sorry.
-/
import Derived.Test.YtahobeigbjhbbaaGreatDoorRows
import GoSem.ClaimSeven
namespace Go.Proofs.YtahobeigbjhbbaaGreatDoor
namespace Rows

/-- THE TIED CARD OF 'laws.FnTablePut'. -/
def fnTablePutCard : Claim7 := { stood := { row := fnTablePutRow, standIns := [], harness := (true, "cba188e07b404ad61cc846b4d05d6cf2fb1a869e7916df2c05f060ebd347aece"), looks := true }, kinds := [], alts := [], laidByText := true, laidKinds := [.data, .data, .data, .handle], laidTests := true, laidLooks := .later }
def FnTablePutCardSaid : Prop := Claim7.holds Tryz.pinned (.plain (OpenSpec.ofChange fnTablePutSpec)) fnTablePutCard

/-- THE TIED CARD OF 'laws.FnTableDrop'. -/
def fnTableDropCard : Claim7 := { stood := { row := fnTableDropRow, standIns := [], harness := (true, "cba188e07b404ad61cc846b4d05d6cf2fb1a869e7916df2c05f060ebd347aece"), looks := true }, kinds := [], alts := [], laidByText := true, laidKinds := [.data, .data, .data, .handle], laidTests := true, laidLooks := .later }
def FnTableDropCardSaid : Prop := Claim7.holds Tryz.pinned (.plain (OpenSpec.ofChange fnTableDropSpec)) fnTableDropCard

/-- THE TIED CARD OF 'laws.FnPutOrder'. -/
def fnPutOrderCard : Claim7 := { stood := { row := fnPutOrderRow, standIns := [], harness := (true, "cba188e07b404ad61cc846b4d05d6cf2fb1a869e7916df2c05f060ebd347aece"), looks := true }, kinds := [], alts := [], laidByText := true, laidKinds := [.data, .data, .data, .handle], laidTests := true, laidLooks := .later }
def FnPutOrderCardSaid : Prop := Claim7.holds Tryz.pinned (.plain (OpenSpec.ofChange fnPutOrderSpec)) fnPutOrderCard

/-- THE TIED CARD OF 'laws.FnPutFirst'. -/
def fnPutFirstCard : Claim7 := { stood := { row := fnPutFirstRow, standIns := [], harness := (true, "cba188e07b404ad61cc846b4d05d6cf2fb1a869e7916df2c05f060ebd347aece"), looks := true }, kinds := [], alts := [], laidByText := true, laidKinds := [.data, .data, .data, .handle], laidTests := true, laidLooks := .later }
def FnPutFirstCardSaid : Prop := Claim7.holds Tryz.pinned (.plain (OpenSpec.ofChange fnPutFirstSpec)) fnPutFirstCard

/-- THE TIED CARD OF 'laws.FnTableSame'. -/
def fnTableSameCard : Claim7 := { stood := { row := fnTableSameRow, standIns := [], harness := (true, "cba188e07b404ad61cc846b4d05d6cf2fb1a869e7916df2c05f060ebd347aece"), looks := true }, kinds := [], alts := [], laidByText := true, laidKinds := [.data, .data, .data, .handle], laidTests := true, laidLooks := .later }
def FnTableSameCardSaid : Prop := Claim7.holds Tryz.pinned (.plain (OpenSpec.ofChange fnTableSameSpec)) fnTableSameCard

/-- THE TIED CARD OF 'laws.FnExactTableArea'. -/
def fnExactTableAreaCard : Claim7 := { stood := { row := fnExactTableAreaRow, standIns := [], harness := (true, "cba188e07b404ad61cc846b4d05d6cf2fb1a869e7916df2c05f060ebd347aece"), looks := true }, kinds := [], alts := [], laidByText := true, laidKinds := [.data, .data, .data, .handle], laidTests := true, laidLooks := .later }
def FnExactTableAreaCardSaid : Prop := Claim7.holds Tryz.pinned (.plain (OpenSpec.ofChange fnExactTableAreaSpec)) fnExactTableAreaCard

/-- THE TIED CARD OF 'laws.FnExactTableTrim'. -/
def fnExactTableTrimCard : Claim7 := { stood := { row := fnExactTableTrimRow, standIns := [], harness := (true, "cba188e07b404ad61cc846b4d05d6cf2fb1a869e7916df2c05f060ebd347aece"), looks := true }, kinds := [], alts := [], laidByText := true, laidKinds := [.data, .data, .data, .handle], laidTests := true, laidLooks := .later }
def FnExactTableTrimCardSaid : Prop := Claim7.holds Tryz.pinned (.plain (OpenSpec.ofChange fnExactTableTrimSpec)) fnExactTableTrimCard

/-- THE TIED CARD OF 'laws.FnExactTableTo'. -/
def fnExactTableToCard : Claim7 := { stood := { row := fnExactTableToRow, standIns := [], harness := (true, "cba188e07b404ad61cc846b4d05d6cf2fb1a869e7916df2c05f060ebd347aece"), looks := true }, kinds := [], alts := [], laidByText := true, laidKinds := [.data, .data, .data, .handle], laidTests := true, laidLooks := .later }
def FnExactTableToCardSaid : Prop := Claim7.holds Tryz.pinned (.plain (OpenSpec.ofChange fnExactTableToSpec)) fnExactTableToCard

/-- THE TIED CARD OF 'laws.FnAreaPart'. -/
def fnAreaPartCard : Claim7 := { stood := { row := fnAreaPartRow, standIns := [], harness := (true, "cba188e07b404ad61cc846b4d05d6cf2fb1a869e7916df2c05f060ebd347aece"), looks := true }, kinds := [], alts := [], laidByText := true, laidKinds := [.data, .data, .data, .handle], laidTests := true, laidLooks := .later }
def FnAreaPartCardSaid : Prop := Claim7.holds Tryz.pinned (.plain (OpenSpec.ofChange fnAreaPartSpec)) fnAreaPartCard

/-- THE TIED CARD OF 'laws.FnTrim'. -/
def fnTrimCard : Claim7 := { stood := { row := fnTrimRow, standIns := [], harness := (true, "cba188e07b404ad61cc846b4d05d6cf2fb1a869e7916df2c05f060ebd347aece"), looks := true }, kinds := [], alts := [], laidByText := true, laidKinds := [.data, .data, .data, .handle], laidTests := true, laidLooks := .later }
def FnTrimCardSaid : Prop := Claim7.holds Tryz.pinned (.plain (OpenSpec.ofChange fnTrimSpec)) fnTrimCard

/-- THE TIED CARD OF 'laws.FnTableTo'. -/
def fnTableToCard : Claim7 := { stood := { row := fnTableToRow, standIns := [], harness := (true, "cba188e07b404ad61cc846b4d05d6cf2fb1a869e7916df2c05f060ebd347aece"), looks := true }, kinds := [], alts := [], laidByText := true, laidKinds := [.data, .data, .data, .handle], laidTests := true, laidLooks := .later }
def FnTableToCardSaid : Prop := Claim7.holds Tryz.pinned (.plain (OpenSpec.ofChange fnTableToSpec)) fnTableToCard

/-- THE SECOND FORM's CARD OF 'laws.FnTablePut'. -/
def fnTablePutUptoCard : Claim7 := { stood := { row := fnTablePutUptoRow, standIns := [], harness := (true, "cba188e07b404ad61cc846b4d05d6cf2fb1a869e7916df2c05f060ebd347aece"), looks := true }, kinds := [], alts := [], laidByText := true, laidKinds := [.data, .data, .data, .handle], laidTests := true, laidLooks := .later }
def FnTablePutUptoCardSaid : Prop := Claim7.holds Tryz.pinned (.plain (OpenSpec.upto fnTablePutSpec)) fnTablePutUptoCard

/-- THE SECOND FORM's CARD OF 'laws.FnTableDrop'. -/
def fnTableDropUptoCard : Claim7 := { stood := { row := fnTableDropUptoRow, standIns := [], harness := (true, "cba188e07b404ad61cc846b4d05d6cf2fb1a869e7916df2c05f060ebd347aece"), looks := true }, kinds := [], alts := [], laidByText := true, laidKinds := [.data, .data, .data, .handle], laidTests := true, laidLooks := .later }
def FnTableDropUptoCardSaid : Prop := Claim7.holds Tryz.pinned (.plain (OpenSpec.upto fnTableDropSpec)) fnTableDropUptoCard

/-- THE SECOND FORM's CARD OF 'laws.FnPutOrder'. -/
def fnPutOrderUptoCard : Claim7 := { stood := { row := fnPutOrderUptoRow, standIns := [], harness := (true, "cba188e07b404ad61cc846b4d05d6cf2fb1a869e7916df2c05f060ebd347aece"), looks := true }, kinds := [], alts := [], laidByText := true, laidKinds := [.data, .data, .data, .handle], laidTests := true, laidLooks := .later }
def FnPutOrderUptoCardSaid : Prop := Claim7.holds Tryz.pinned (.plain (OpenSpec.upto fnPutOrderSpec)) fnPutOrderUptoCard

/-- THE SECOND FORM's CARD OF 'laws.FnPutFirst'. -/
def fnPutFirstUptoCard : Claim7 := { stood := { row := fnPutFirstUptoRow, standIns := [], harness := (true, "cba188e07b404ad61cc846b4d05d6cf2fb1a869e7916df2c05f060ebd347aece"), looks := true }, kinds := [], alts := [], laidByText := true, laidKinds := [.data, .data, .data, .handle], laidTests := true, laidLooks := .later }
def FnPutFirstUptoCardSaid : Prop := Claim7.holds Tryz.pinned (.plain (OpenSpec.upto fnPutFirstSpec)) fnPutFirstUptoCard

/-- THE SECOND FORM's CARD OF 'laws.FnTableSame'. -/
def fnTableSameUptoCard : Claim7 := { stood := { row := fnTableSameUptoRow, standIns := [], harness := (true, "cba188e07b404ad61cc846b4d05d6cf2fb1a869e7916df2c05f060ebd347aece"), looks := true }, kinds := [], alts := [], laidByText := true, laidKinds := [.data, .data, .data, .handle], laidTests := true, laidLooks := .later }
def FnTableSameUptoCardSaid : Prop := Claim7.holds Tryz.pinned (.plain (OpenSpec.upto fnTableSameSpec)) fnTableSameUptoCard

/-- THE SECOND FORM's CARD OF 'laws.FnExactTableArea'. -/
def fnExactTableAreaUptoCard : Claim7 := { stood := { row := fnExactTableAreaUptoRow, standIns := [], harness := (true, "cba188e07b404ad61cc846b4d05d6cf2fb1a869e7916df2c05f060ebd347aece"), looks := true }, kinds := [], alts := [], laidByText := true, laidKinds := [.data, .data, .data, .handle], laidTests := true, laidLooks := .later }
def FnExactTableAreaUptoCardSaid : Prop := Claim7.holds Tryz.pinned (.plain (OpenSpec.upto fnExactTableAreaSpec)) fnExactTableAreaUptoCard

/-- THE SECOND FORM's CARD OF 'laws.FnExactTableTrim'. -/
def fnExactTableTrimUptoCard : Claim7 := { stood := { row := fnExactTableTrimUptoRow, standIns := [], harness := (true, "cba188e07b404ad61cc846b4d05d6cf2fb1a869e7916df2c05f060ebd347aece"), looks := true }, kinds := [], alts := [], laidByText := true, laidKinds := [.data, .data, .data, .handle], laidTests := true, laidLooks := .later }
def FnExactTableTrimUptoCardSaid : Prop := Claim7.holds Tryz.pinned (.plain (OpenSpec.upto fnExactTableTrimSpec)) fnExactTableTrimUptoCard

/-- THE SECOND FORM's CARD OF 'laws.FnExactTableTo'. -/
def fnExactTableToUptoCard : Claim7 := { stood := { row := fnExactTableToUptoRow, standIns := [], harness := (true, "cba188e07b404ad61cc846b4d05d6cf2fb1a869e7916df2c05f060ebd347aece"), looks := true }, kinds := [], alts := [], laidByText := true, laidKinds := [.data, .data, .data, .handle], laidTests := true, laidLooks := .later }
def FnExactTableToUptoCardSaid : Prop := Claim7.holds Tryz.pinned (.plain (OpenSpec.upto fnExactTableToSpec)) fnExactTableToUptoCard

/-- THE SECOND FORM's CARD OF 'laws.FnAreaPart'. -/
def fnAreaPartUptoCard : Claim7 := { stood := { row := fnAreaPartUptoRow, standIns := [], harness := (true, "cba188e07b404ad61cc846b4d05d6cf2fb1a869e7916df2c05f060ebd347aece"), looks := true }, kinds := [], alts := [], laidByText := true, laidKinds := [.data, .data, .data, .handle], laidTests := true, laidLooks := .later }
def FnAreaPartUptoCardSaid : Prop := Claim7.holds Tryz.pinned (.plain (OpenSpec.upto fnAreaPartSpec)) fnAreaPartUptoCard

/-- THE SECOND FORM's CARD OF 'laws.FnTrim'. -/
def fnTrimUptoCard : Claim7 := { stood := { row := fnTrimUptoRow, standIns := [], harness := (true, "cba188e07b404ad61cc846b4d05d6cf2fb1a869e7916df2c05f060ebd347aece"), looks := true }, kinds := [], alts := [], laidByText := true, laidKinds := [.data, .data, .data, .handle], laidTests := true, laidLooks := .later }
def FnTrimUptoCardSaid : Prop := Claim7.holds Tryz.pinned (.plain (OpenSpec.upto fnTrimSpec)) fnTrimUptoCard

/-- THE SECOND FORM's CARD OF 'laws.FnTableTo'. -/
def fnTableToUptoCard : Claim7 := { stood := { row := fnTableToUptoRow, standIns := [], harness := (true, "cba188e07b404ad61cc846b4d05d6cf2fb1a869e7916df2c05f060ebd347aece"), looks := true }, kinds := [], alts := [], laidByText := true, laidKinds := [.data, .data, .data, .handle], laidTests := true, laidLooks := .later }
def FnTableToUptoCardSaid : Prop := Claim7.holds Tryz.pinned (.plain (OpenSpec.upto fnTableToSpec)) fnTableToUptoCard
end Rows
end Go.Proofs.YtahobeigbjhbbaaGreatDoor
