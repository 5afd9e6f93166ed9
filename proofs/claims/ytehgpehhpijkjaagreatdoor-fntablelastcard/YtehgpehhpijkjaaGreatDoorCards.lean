/-
  DERIVED. GIVEN WITH THE SEED: THE CARDS: each row of YtehgpehhpijkjaaGreatDoorRows.lean that lists a variable, with what it lists TIED to the program's text (the seventh form; the later family's looks); each row that meets fmt, with fmt's text TOLD by the authors' own Lean function (tested against real Go, not proved from fmt's source: count such statements apart). THE CARD IS WHAT COUNTS. Prove the row's statement (the work); the ties are given (YtehgpehhpijkjaaGreatDoorTie.lean); close each card by the builder's one call (the guide's Derived/Test/ToyasCard.lean, 'card_holds'). Laid BY PROGRAM, IN A SANDBOX (cutbox-door.mjs). By AI agents, Wed Nov 11 2026. No macro, syntax, notation, axiom, sorry.
-/
import Derived.Test.YtehgpehhpijkjaaGreatDoorRows
import GoSem.ClaimSeven
namespace Go.Proofs.YtehgpehhpijkjaaGreatDoor
namespace Rows

/-- THE TIED CARD OF 'laws.FnAreaLess'. -/
def fnAreaLessCard : Claim7 := { stood := { row := fnAreaLessRow, standIns := [], harness := (true, "2c138de5802bc3acfbd32950812200fc018559fab84ae3a5200e80fdfa6a3e00"), looks := true }, kinds := [], alts := [], laidByText := true, laidKinds := [.data, .data, .data, .handle], laidTests := true, laidLooks := .later }
def FnAreaLessCardSaid : Prop := Claim7.holds Tryz.pinned (.plain (OpenSpec.ofChange fnAreaLessSpec)) fnAreaLessCard

/-- THE TIED CARD OF 'laws.FnToArea'. -/
def fnToAreaCard : Claim7 := { stood := { row := fnToAreaRow, standIns := [], harness := (true, "2c138de5802bc3acfbd32950812200fc018559fab84ae3a5200e80fdfa6a3e00"), looks := true }, kinds := [], alts := [], laidByText := true, laidKinds := [.data, .data, .data, .handle], laidTests := true, laidLooks := .later }
def FnToAreaCardSaid : Prop := Claim7.holds Tryz.pinned (.plain (OpenSpec.ofChange fnToAreaSpec)) fnToAreaCard

/-- THE TIED CARD OF 'laws.FnTableLast'. -/
def fnTableLastCard : Claim7 := { stood := { row := fnTableLastRow, standIns := [], harness := (true, "2c138de5802bc3acfbd32950812200fc018559fab84ae3a5200e80fdfa6a3e00"), looks := true }, kinds := [], alts := [], laidByText := true, laidKinds := [.data, .data, .data, .handle], laidTests := true, laidLooks := .later }
def FnTableLastCardSaid : Prop := Claim7.holds Tryz.pinned (.plain (OpenSpec.ofChange fnTableLastSpec)) fnTableLastCard

/-- THE TIED CARD OF 'laws.FnDropIdle'. -/
def fnDropIdleCard : Claim7 := { stood := { row := fnDropIdleRow, standIns := [], harness := (true, "2c138de5802bc3acfbd32950812200fc018559fab84ae3a5200e80fdfa6a3e00"), looks := true }, kinds := [], alts := [], laidByText := true, laidKinds := [.data, .data, .data, .handle], laidTests := true, laidLooks := .later }
def FnDropIdleCardSaid : Prop := Claim7.holds Tryz.pinned (.plain (OpenSpec.ofChange fnDropIdleSpec)) fnDropIdleCard

/-- THE SECOND FORM's CARD OF 'laws.FnAreaLess'. -/
def fnAreaLessUptoCard : Claim7 := { stood := { row := fnAreaLessUptoRow, standIns := [], harness := (true, "2c138de5802bc3acfbd32950812200fc018559fab84ae3a5200e80fdfa6a3e00"), looks := true }, kinds := [], alts := [], laidByText := true, laidKinds := [.data, .data, .data, .handle], laidTests := true, laidLooks := .later }
def FnAreaLessUptoCardSaid : Prop := Claim7.holds Tryz.pinned (.plain (OpenSpec.upto fnAreaLessSpec)) fnAreaLessUptoCard

/-- THE SECOND FORM's CARD OF 'laws.FnToArea'. -/
def fnToAreaUptoCard : Claim7 := { stood := { row := fnToAreaUptoRow, standIns := [], harness := (true, "2c138de5802bc3acfbd32950812200fc018559fab84ae3a5200e80fdfa6a3e00"), looks := true }, kinds := [], alts := [], laidByText := true, laidKinds := [.data, .data, .data, .handle], laidTests := true, laidLooks := .later }
def FnToAreaUptoCardSaid : Prop := Claim7.holds Tryz.pinned (.plain (OpenSpec.upto fnToAreaSpec)) fnToAreaUptoCard

/-- THE SECOND FORM's CARD OF 'laws.FnTableLast'. -/
def fnTableLastUptoCard : Claim7 := { stood := { row := fnTableLastUptoRow, standIns := [], harness := (true, "2c138de5802bc3acfbd32950812200fc018559fab84ae3a5200e80fdfa6a3e00"), looks := true }, kinds := [], alts := [], laidByText := true, laidKinds := [.data, .data, .data, .handle], laidTests := true, laidLooks := .later }
def FnTableLastUptoCardSaid : Prop := Claim7.holds Tryz.pinned (.plain (OpenSpec.upto fnTableLastSpec)) fnTableLastUptoCard

/-- THE SECOND FORM's CARD OF 'laws.FnDropIdle'. -/
def fnDropIdleUptoCard : Claim7 := { stood := { row := fnDropIdleUptoRow, standIns := [], harness := (true, "2c138de5802bc3acfbd32950812200fc018559fab84ae3a5200e80fdfa6a3e00"), looks := true }, kinds := [], alts := [], laidByText := true, laidKinds := [.data, .data, .data, .handle], laidTests := true, laidLooks := .later }
def FnDropIdleUptoCardSaid : Prop := Claim7.holds Tryz.pinned (.plain (OpenSpec.upto fnDropIdleSpec)) fnDropIdleUptoCard
end Rows
end Go.Proofs.YtehgpehhpijkjaaGreatDoor
