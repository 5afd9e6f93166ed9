/-
  DERIVED. GIVEN WITH THE SEED: THE CARDS: each row of YtcpbenajdomgeaaDoorRows.lean that lists a variable, with what it lists TIED to the program's text (the seventh form; the later family's looks); each row that meets fmt, with fmt's text TOLD by the authors' own Lean function (tested against real Go, not proved from fmt's source: count such statements apart). THE CARD IS WHAT COUNTS. Prove the row's statement (the work); the ties are given (YtcpbenajdomgeaaDoorTie.lean); close each card by the builder's one call (the guide's Derived/Test/ToyasCard.lean, 'card_holds'). Laid BY PROGRAM, IN A SANDBOX (cutbox-door.mjs). By AI agents, Wed Nov 11 2026. No macro, syntax, notation, axiom, sorry.
-/
import Derived.Test.YtcpbenajdomgeaaDoorRows
import GoSem.ClaimSeven
namespace Go.Proofs.YtcpbenajdomgeaaDoor
namespace Rows

/-- THE TIED CARD OF 'laws.FnExactTableOk'. -/
def fnExactTableOkCard : Claim7 := { stood := { row := fnExactTableOkRow, standIns := [], harness := (true, "02c2a33a132cdb5e2a775e74249693b9e7b6a27f0c5b22b898995f47163526a9"), looks := true }, kinds := [], alts := [], laidByText := true, laidKinds := [.data, .data, .data, .handle], laidTests := true, laidLooks := .later }
def FnExactTableOkCardSaid : Prop := Claim7.holds Tryd.pinned (.plain (OpenSpec.ofChange fnExactTableOkSpec)) fnExactTableOkCard

/-- THE TIED CARD OF 'laws.FnExactTablePut'. -/
def fnExactTablePutCard : Claim7 := { stood := { row := fnExactTablePutRow, standIns := [], harness := (true, "02c2a33a132cdb5e2a775e74249693b9e7b6a27f0c5b22b898995f47163526a9"), looks := true }, kinds := [], alts := [], laidByText := true, laidKinds := [.data, .data, .data, .handle], laidTests := true, laidLooks := .later }
def FnExactTablePutCardSaid : Prop := Claim7.holds Tryd.pinned (.plain (OpenSpec.ofChange fnExactTablePutSpec)) fnExactTablePutCard

/-- THE TIED CARD OF 'laws.FnExactTableDrop'. -/
def fnExactTableDropCard : Claim7 := { stood := { row := fnExactTableDropRow, standIns := [], harness := (true, "02c2a33a132cdb5e2a775e74249693b9e7b6a27f0c5b22b898995f47163526a9"), looks := true }, kinds := [], alts := [], laidByText := true, laidKinds := [.data, .data, .data, .handle], laidTests := true, laidLooks := .later }
def FnExactTableDropCardSaid : Prop := Claim7.holds Tryd.pinned (.plain (OpenSpec.ofChange fnExactTableDropSpec)) fnExactTableDropCard

/-- THE TIED CARD OF 'laws.FnExactTableAt'. -/
def fnExactTableAtCard : Claim7 := { stood := { row := fnExactTableAtRow, standIns := [], harness := (true, "02c2a33a132cdb5e2a775e74249693b9e7b6a27f0c5b22b898995f47163526a9"), looks := true }, kinds := [], alts := [], laidByText := true, laidKinds := [.data, .data, .data, .handle], laidTests := true, laidLooks := .later }
def FnExactTableAtCardSaid : Prop := Claim7.holds Tryd.pinned (.plain (OpenSpec.ofChange fnExactTableAtSpec)) fnExactTableAtCard

/-- THE TIED CARD OF 'laws.FnTableForm'. -/
def fnTableFormCard : Claim7 := { stood := { row := fnTableFormRow, standIns := [], harness := (true, "02c2a33a132cdb5e2a775e74249693b9e7b6a27f0c5b22b898995f47163526a9"), looks := true }, kinds := [], alts := [], laidByText := true, laidKinds := [.data, .data, .data, .handle], laidTests := true, laidLooks := .later }
def FnTableFormCardSaid : Prop := Claim7.holds Tryd.pinned (.plain (OpenSpec.ofChange fnTableFormSpec)) fnTableFormCard

/-- THE TIED CARD OF 'laws.FnRuleCmp'. -/
def fnRuleCmpCard : Claim7 := { stood := { row := fnRuleCmpRow, standIns := [], harness := (true, "02c2a33a132cdb5e2a775e74249693b9e7b6a27f0c5b22b898995f47163526a9"), looks := true }, kinds := [], alts := [], laidByText := true, laidKinds := [.data, .data, .data, .handle], laidTests := true, laidLooks := .later }
def FnRuleCmpCardSaid : Prop := Claim7.holds Tryd.pinned (.plain (OpenSpec.ofChange fnRuleCmpSpec)) fnRuleCmpCard

/-- THE SECOND FORM's CARD OF 'laws.FnExactTableOk'. -/
def fnExactTableOkUptoCard : Claim7 := { stood := { row := fnExactTableOkUptoRow, standIns := [], harness := (true, "02c2a33a132cdb5e2a775e74249693b9e7b6a27f0c5b22b898995f47163526a9"), looks := true }, kinds := [], alts := [], laidByText := true, laidKinds := [.data, .data, .data, .handle], laidTests := true, laidLooks := .later }
def FnExactTableOkUptoCardSaid : Prop := Claim7.holds Tryd.pinned (.plain (OpenSpec.upto fnExactTableOkSpec)) fnExactTableOkUptoCard

/-- THE SECOND FORM's CARD OF 'laws.FnExactTablePut'. -/
def fnExactTablePutUptoCard : Claim7 := { stood := { row := fnExactTablePutUptoRow, standIns := [], harness := (true, "02c2a33a132cdb5e2a775e74249693b9e7b6a27f0c5b22b898995f47163526a9"), looks := true }, kinds := [], alts := [], laidByText := true, laidKinds := [.data, .data, .data, .handle], laidTests := true, laidLooks := .later }
def FnExactTablePutUptoCardSaid : Prop := Claim7.holds Tryd.pinned (.plain (OpenSpec.upto fnExactTablePutSpec)) fnExactTablePutUptoCard

/-- THE SECOND FORM's CARD OF 'laws.FnExactTableDrop'. -/
def fnExactTableDropUptoCard : Claim7 := { stood := { row := fnExactTableDropUptoRow, standIns := [], harness := (true, "02c2a33a132cdb5e2a775e74249693b9e7b6a27f0c5b22b898995f47163526a9"), looks := true }, kinds := [], alts := [], laidByText := true, laidKinds := [.data, .data, .data, .handle], laidTests := true, laidLooks := .later }
def FnExactTableDropUptoCardSaid : Prop := Claim7.holds Tryd.pinned (.plain (OpenSpec.upto fnExactTableDropSpec)) fnExactTableDropUptoCard

/-- THE SECOND FORM's CARD OF 'laws.FnExactTableAt'. -/
def fnExactTableAtUptoCard : Claim7 := { stood := { row := fnExactTableAtUptoRow, standIns := [], harness := (true, "02c2a33a132cdb5e2a775e74249693b9e7b6a27f0c5b22b898995f47163526a9"), looks := true }, kinds := [], alts := [], laidByText := true, laidKinds := [.data, .data, .data, .handle], laidTests := true, laidLooks := .later }
def FnExactTableAtUptoCardSaid : Prop := Claim7.holds Tryd.pinned (.plain (OpenSpec.upto fnExactTableAtSpec)) fnExactTableAtUptoCard

/-- THE SECOND FORM's CARD OF 'laws.FnTableForm'. -/
def fnTableFormUptoCard : Claim7 := { stood := { row := fnTableFormUptoRow, standIns := [], harness := (true, "02c2a33a132cdb5e2a775e74249693b9e7b6a27f0c5b22b898995f47163526a9"), looks := true }, kinds := [], alts := [], laidByText := true, laidKinds := [.data, .data, .data, .handle], laidTests := true, laidLooks := .later }
def FnTableFormUptoCardSaid : Prop := Claim7.holds Tryd.pinned (.plain (OpenSpec.upto fnTableFormSpec)) fnTableFormUptoCard

/-- THE SECOND FORM's CARD OF 'laws.FnRuleCmp'. -/
def fnRuleCmpUptoCard : Claim7 := { stood := { row := fnRuleCmpUptoRow, standIns := [], harness := (true, "02c2a33a132cdb5e2a775e74249693b9e7b6a27f0c5b22b898995f47163526a9"), looks := true }, kinds := [], alts := [], laidByText := true, laidKinds := [.data, .data, .data, .handle], laidTests := true, laidLooks := .later }
def FnRuleCmpUptoCardSaid : Prop := Claim7.holds Tryd.pinned (.plain (OpenSpec.upto fnRuleCmpSpec)) fnRuleCmpUptoCard
end Rows
end Go.Proofs.YtcpbenajdomgeaaDoor
