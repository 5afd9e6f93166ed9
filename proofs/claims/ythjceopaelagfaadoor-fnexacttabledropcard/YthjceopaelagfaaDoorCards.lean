/-
  DERIVED. GIVEN WITH THE SEED: THE CARDS: each row of YthjceopaelagfaaDoorRows.lean that lists a variable, with what it lists TIED to the program's text (the seventh form; the later family's looks); each row that meets fmt, with fmt's text TOLD by the authors' own Lean function (tested against real Go, not proved from fmt's source: count such statements apart). THE CARD IS WHAT COUNTS. Prove the row's statement (the work); the ties are given (YthjceopaelagfaaDoorTie.lean); close each card by the builder's one call (the guide's Derived/Test/ToyasCard.lean, 'card_holds'). Laid BY PROGRAM, IN A SANDBOX (cutbox-door.mjs). By AI agents, Wed Nov 11 2026. No macro, syntax, notation, axiom, sorry.
-/
import Derived.Test.YthjceopaelagfaaDoorRows
import GoSem.ClaimSeven
namespace Go.Proofs.YthjceopaelagfaaDoor
namespace Rows

/-- THE TIED CARD OF 'laws.FnExactTablePut'. -/
def fnExactTablePutCard : Claim7 := { stood := { row := fnExactTablePutRow, standIns := [], harness := (true, "b0352facb08fdacb3c73b6ed5b73f43bddf77cb515bce3fac45e9362f32f5334"), looks := true }, kinds := [], alts := [], laidByText := true, laidKinds := [.data, .data, .data, .handle], laidTests := true, laidLooks := .later }
def FnExactTablePutCardSaid : Prop := Claim7.holds Tryd.pinned (.plain (OpenSpec.ofChange fnExactTablePutSpec)) fnExactTablePutCard

/-- THE TIED CARD OF 'laws.FnExactTableDrop'. -/
def fnExactTableDropCard : Claim7 := { stood := { row := fnExactTableDropRow, standIns := [], harness := (true, "b0352facb08fdacb3c73b6ed5b73f43bddf77cb515bce3fac45e9362f32f5334"), looks := true }, kinds := [], alts := [], laidByText := true, laidKinds := [.data, .data, .data, .handle], laidTests := true, laidLooks := .later }
def FnExactTableDropCardSaid : Prop := Claim7.holds Tryd.pinned (.plain (OpenSpec.ofChange fnExactTableDropSpec)) fnExactTableDropCard

/-- THE TIED CARD OF 'laws.FnTableForm'. -/
def fnTableFormCard : Claim7 := { stood := { row := fnTableFormRow, standIns := [], harness := (true, "b0352facb08fdacb3c73b6ed5b73f43bddf77cb515bce3fac45e9362f32f5334"), looks := true }, kinds := [], alts := [], laidByText := true, laidKinds := [.data, .data, .data, .handle], laidTests := true, laidLooks := .later }
def FnTableFormCardSaid : Prop := Claim7.holds Tryd.pinned (.plain (OpenSpec.ofChange fnTableFormSpec)) fnTableFormCard

/-- THE SECOND FORM's CARD OF 'laws.FnExactTablePut'. -/
def fnExactTablePutUptoCard : Claim7 := { stood := { row := fnExactTablePutUptoRow, standIns := [], harness := (true, "b0352facb08fdacb3c73b6ed5b73f43bddf77cb515bce3fac45e9362f32f5334"), looks := true }, kinds := [], alts := [], laidByText := true, laidKinds := [.data, .data, .data, .handle], laidTests := true, laidLooks := .later }
def FnExactTablePutUptoCardSaid : Prop := Claim7.holds Tryd.pinned (.plain (OpenSpec.upto fnExactTablePutSpec)) fnExactTablePutUptoCard

/-- THE SECOND FORM's CARD OF 'laws.FnExactTableDrop'. -/
def fnExactTableDropUptoCard : Claim7 := { stood := { row := fnExactTableDropUptoRow, standIns := [], harness := (true, "b0352facb08fdacb3c73b6ed5b73f43bddf77cb515bce3fac45e9362f32f5334"), looks := true }, kinds := [], alts := [], laidByText := true, laidKinds := [.data, .data, .data, .handle], laidTests := true, laidLooks := .later }
def FnExactTableDropUptoCardSaid : Prop := Claim7.holds Tryd.pinned (.plain (OpenSpec.upto fnExactTableDropSpec)) fnExactTableDropUptoCard

/-- THE SECOND FORM's CARD OF 'laws.FnTableForm'. -/
def fnTableFormUptoCard : Claim7 := { stood := { row := fnTableFormUptoRow, standIns := [], harness := (true, "b0352facb08fdacb3c73b6ed5b73f43bddf77cb515bce3fac45e9362f32f5334"), looks := true }, kinds := [], alts := [], laidByText := true, laidKinds := [.data, .data, .data, .handle], laidTests := true, laidLooks := .later }
def FnTableFormUptoCardSaid : Prop := Claim7.holds Tryd.pinned (.plain (OpenSpec.upto fnTableFormSpec)) fnTableFormUptoCard
end Rows
end Go.Proofs.YthjceopaelagfaaDoor
