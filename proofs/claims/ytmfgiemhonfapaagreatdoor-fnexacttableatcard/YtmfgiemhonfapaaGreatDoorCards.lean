/-
  DERIVED. GIVEN WITH THE SEED: THE CARDS: each row of YtmfgiemhonfapaaGreatDoorRows.lean that lists a variable, with what it lists TIED to the program's text (the seventh form; the later family's looks); each row that meets fmt, with fmt's text TOLD by the authors' own Lean function (tested against real Go, not proved from fmt's source: count such statements apart). THE CARD IS WHAT COUNTS. Prove the row's statement (the work); the ties are given (YtmfgiemhonfapaaGreatDoorTie.lean); close each card by the builder's one call (the guide's Derived/Test/ToyasCard.lean, 'card_holds'). Laid BY PROGRAM, IN A SANDBOX (cutbox-door.mjs). By AI agents, Wed Nov 11 2026. No macro, syntax, notation, axiom, sorry.
-/
import Derived.Test.YtmfgiemhonfapaaGreatDoorRows
import GoSem.ClaimSeven
namespace Go.Proofs.YtmfgiemhonfapaaGreatDoor
namespace Rows

/-- THE TIED CARD OF 'laws.FnTableAt'. -/
def fnTableAtCard : Claim7 := { stood := { row := fnTableAtRow, standIns := [], harness := (true, "f84a4ec49209def2b7a262f7077f83201e8e71805df614e10d0b2c23fd652195"), looks := true }, kinds := [], alts := [], laidByText := true, laidKinds := [.data, .data, .data, .handle], laidTests := true, laidLooks := .later }
def FnTableAtCardSaid : Prop := Claim7.holds Tryz.pinned (.plain (OpenSpec.ofChange fnTableAtSpec)) fnTableAtCard

/-- THE TIED CARD OF 'laws.FnTableDo'. -/
def fnTableDoCard : Claim7 := { stood := { row := fnTableDoRow, standIns := [], harness := (true, "f84a4ec49209def2b7a262f7077f83201e8e71805df614e10d0b2c23fd652195"), looks := true }, kinds := [], alts := [], laidByText := true, laidKinds := [.data, .data, .data, .handle], laidTests := true, laidLooks := .later }
def FnTableDoCardSaid : Prop := Claim7.holds Tryz.pinned (.plain (OpenSpec.ofChange fnTableDoSpec)) fnTableDoCard

/-- THE TIED CARD OF 'laws.FnExactTableAt'. -/
def fnExactTableAtCard : Claim7 := { stood := { row := fnExactTableAtRow, standIns := [], harness := (true, "f84a4ec49209def2b7a262f7077f83201e8e71805df614e10d0b2c23fd652195"), looks := true }, kinds := [], alts := [], laidByText := true, laidKinds := [.data, .data, .data, .handle], laidTests := true, laidLooks := .later }
def FnExactTableAtCardSaid : Prop := Claim7.holds Tryz.pinned (.plain (OpenSpec.ofChange fnExactTableAtSpec)) fnExactTableAtCard

/-- THE TIED CARD OF 'laws.FnExactTableDo'. -/
def fnExactTableDoCard : Claim7 := { stood := { row := fnExactTableDoRow, standIns := [], harness := (true, "f84a4ec49209def2b7a262f7077f83201e8e71805df614e10d0b2c23fd652195"), looks := true }, kinds := [], alts := [], laidByText := true, laidKinds := [.data, .data, .data, .handle], laidTests := true, laidLooks := .later }
def FnExactTableDoCardSaid : Prop := Claim7.holds Tryz.pinned (.plain (OpenSpec.ofChange fnExactTableDoSpec)) fnExactTableDoCard

/-- THE TIED CARD OF 'laws.FnExactTableSame'. -/
def fnExactTableSameCard : Claim7 := { stood := { row := fnExactTableSameRow, standIns := [], harness := (true, "f84a4ec49209def2b7a262f7077f83201e8e71805df614e10d0b2c23fd652195"), looks := true }, kinds := [], alts := [], laidByText := true, laidKinds := [.data, .data, .data, .handle], laidTests := true, laidLooks := .later }
def FnExactTableSameCardSaid : Prop := Claim7.holds Tryz.pinned (.plain (OpenSpec.ofChange fnExactTableSameSpec)) fnExactTableSameCard

/-- THE SECOND FORM's CARD OF 'laws.FnTableAt'. -/
def fnTableAtUptoCard : Claim7 := { stood := { row := fnTableAtUptoRow, standIns := [], harness := (true, "f84a4ec49209def2b7a262f7077f83201e8e71805df614e10d0b2c23fd652195"), looks := true }, kinds := [], alts := [], laidByText := true, laidKinds := [.data, .data, .data, .handle], laidTests := true, laidLooks := .later }
def FnTableAtUptoCardSaid : Prop := Claim7.holds Tryz.pinned (.plain (OpenSpec.upto fnTableAtSpec)) fnTableAtUptoCard

/-- THE SECOND FORM's CARD OF 'laws.FnTableDo'. -/
def fnTableDoUptoCard : Claim7 := { stood := { row := fnTableDoUptoRow, standIns := [], harness := (true, "f84a4ec49209def2b7a262f7077f83201e8e71805df614e10d0b2c23fd652195"), looks := true }, kinds := [], alts := [], laidByText := true, laidKinds := [.data, .data, .data, .handle], laidTests := true, laidLooks := .later }
def FnTableDoUptoCardSaid : Prop := Claim7.holds Tryz.pinned (.plain (OpenSpec.upto fnTableDoSpec)) fnTableDoUptoCard

/-- THE SECOND FORM's CARD OF 'laws.FnExactTableAt'. -/
def fnExactTableAtUptoCard : Claim7 := { stood := { row := fnExactTableAtUptoRow, standIns := [], harness := (true, "f84a4ec49209def2b7a262f7077f83201e8e71805df614e10d0b2c23fd652195"), looks := true }, kinds := [], alts := [], laidByText := true, laidKinds := [.data, .data, .data, .handle], laidTests := true, laidLooks := .later }
def FnExactTableAtUptoCardSaid : Prop := Claim7.holds Tryz.pinned (.plain (OpenSpec.upto fnExactTableAtSpec)) fnExactTableAtUptoCard

/-- THE SECOND FORM's CARD OF 'laws.FnExactTableDo'. -/
def fnExactTableDoUptoCard : Claim7 := { stood := { row := fnExactTableDoUptoRow, standIns := [], harness := (true, "f84a4ec49209def2b7a262f7077f83201e8e71805df614e10d0b2c23fd652195"), looks := true }, kinds := [], alts := [], laidByText := true, laidKinds := [.data, .data, .data, .handle], laidTests := true, laidLooks := .later }
def FnExactTableDoUptoCardSaid : Prop := Claim7.holds Tryz.pinned (.plain (OpenSpec.upto fnExactTableDoSpec)) fnExactTableDoUptoCard

/-- THE SECOND FORM's CARD OF 'laws.FnExactTableSame'. -/
def fnExactTableSameUptoCard : Claim7 := { stood := { row := fnExactTableSameUptoRow, standIns := [], harness := (true, "f84a4ec49209def2b7a262f7077f83201e8e71805df614e10d0b2c23fd652195"), looks := true }, kinds := [], alts := [], laidByText := true, laidKinds := [.data, .data, .data, .handle], laidTests := true, laidLooks := .later }
def FnExactTableSameUptoCardSaid : Prop := Claim7.holds Tryz.pinned (.plain (OpenSpec.upto fnExactTableSameSpec)) fnExactTableSameUptoCard
end Rows
end Go.Proofs.YtmfgiemhonfapaaGreatDoor
