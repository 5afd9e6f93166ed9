/-
  The program's TableOk.
-/
import Derived.Test.YtennaeboemlnoaaDoorTabL
namespace Go.Proofs.YtennaeboemlnoaaDoor
open Go.ChangeShapes Go.WideShapes Go.ChangeAt Go.RowKit Go.Joins
set_option linter.unusedVariables false

set_option maxRecDepth 100000 in
set_option maxHeartbeats 2000000 in
theorem iTableOk_any (w : World) (v : Value) (l : List R4) (h : Rls w w.heap.size v l) (hlen : l.length ≤ 1048576) (hE : EtOk w) :
    Calls Tryd.prog 37 #[v] w fun e w' => e = .returned (.bool (tOk l)) ∧ Below w.heap.size w w' := by
  have HC := Lib.hid (readTable_any w v l h hlen hE)
  clear h hE
  go_enter Tryd.func37, Tryd.ntmps37
  go_wp2_with fail
  refine HC.out.mono ?_
  rintro e w1 ⟨g, rfl, -, -, b1⟩
  unfold lstV
  go_wp2
  go_ret
  exact ⟨rfl, b1.alloc b1.size _⟩

end Go.Proofs.YtennaeboemlnoaaDoor
