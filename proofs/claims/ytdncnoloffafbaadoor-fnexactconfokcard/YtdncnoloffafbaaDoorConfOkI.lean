/-
  The program's ConfOk.
-/
import Derived.Test.YtdncnoloffafbaaDoorConfReadB
namespace Go.Proofs.YtdncnoloffafbaaDoor
open Go.ChangeShapes Go.WideShapes Go.ChangeAt Go.RowKit Go.Joins
set_option linter.unusedVariables false

set_option maxRecDepth 100000 in
set_option maxHeartbeats 2000000 in
theorem iConfOk_any (w : World) (v : Value) (L : List (List R4)) (h : Cfs w w.heap.size v L) (hn : L.length ≤ 1048576) (hL : ∀ i, i < L.length → (tbAt L i).length ≤ 1048576) (hE : EtOk w) :
    Calls Tryd.prog 7 #[v] w fun e w' => e = .returned (.bool (cfB L)) ∧ Below w.heap.size w w' := by
  have HC := Lib.hid (readConf_any w v L h hn hL hE)
  clear h hE
  go_enter Tryd.func7, Tryd.ntmps7
  go_wp2_with fail
  refine HC.out.mono ?_
  rintro e w1 ⟨gs, k, rfl, -, b1⟩
  go_wp2_with (refine ct_alloc rfl rfl ?_)
  intro w2 p2 b2 s2
  go_wp2_with (refine ct_store rfl _ _ rfl _ rfl gs k rfl _ _ p2 ?_)
  intro w3 p3 g3
  go_wp2
  go_ret
  exact ⟨rfl, (belStep b1 b2).trans (ct_grown g3 b1.size (by have := b1.size; omega))⟩

end Go.Proofs.YtdncnoloffafbaaDoor
