/-
  Clauses: the program's ClausesOk.
-/
import Derived.Test.YtennaeboemlnoaaDoorClaRead
namespace Go.Proofs.YtennaeboemlnoaaDoor
open Go.ChangeShapes Go.WideShapes Go.ChangeAt Go.RowKit Go.Joins
set_option linter.unusedVariables false

set_option maxHeartbeats 1000000 in
theorem iClausesOk_any (w : World) (v : Value) (l : List C3) (h : Cls w w.heap.size v l) (hn : l.length ≤ 1048576) (ep : Addr) (hE : w.cell? ⟨0, 0, none⟩ = some (errV ep)) :
    Calls Tryd.prog 15 #[v] w fun e w' => e = .returned (.bool (clB l)) ∧ Below w.heap.size w w' := by
  have HR := Lib.hid (readClauses_any w v l h hn ep hE)
  obtain ⟨a, cap, rfl, -⟩ := h
  clear hE
  generalize clB l = ok at *
  go_enter Tryd.func15, Tryd.ntmps15
  go_wp2_with fail
  refine HR.out.mono ?_
  rintro e w1 ⟨u, rfl, b1, -⟩
  go_wp2
  go_ret
  exact ⟨rfl, b1⟩

end Go.Proofs.YtennaeboemlnoaaDoor
