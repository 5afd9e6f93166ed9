/-
  Nets: whether links are one, the program's and the model's answer.
-/
import Derived.Test.YtdncnoloffafbaaGreatDoorNetSpec
namespace Go.Proofs.YtdncnoloffafbaaGreatDoor
open Go.ChangeShapes Go.WideShapes Go.ChangeAt Go.RowKit Go.Joins
set_option linter.unusedVariables false

set_option maxHeartbeats 2000000 in
theorem iNetOk_any (w : World) (v : Value) (l : List K4) (h : Lks w w.heap.size v l) :
    Calls Tryz.prog 63 #[v] w fun e w' => e = .returned (.bool (netB l)) ∧ Below w.heap.size w w' := by
  have HR := Lib.hid (readNet_any w v l h)
  generalize netB l = ok at HR ⊢
  go_enter Tryz.func63, Tryz.ntmps63
  go_wp2_with fail
  refine HR.out.mono ?_
  rintro e w1 ⟨P, rfl, -, b1⟩
  have HB := Lib.hid b1
  clear b1 HR h
  go_wp2_with (refine wl_alloc rfl rfl ?_)
  intro w2 p2 b2 s2
  go_wp2_with (refine wl_store rfl _ _ rfl _ rfl _ _ rfl p2 ?_)
  intro w3 p3 g3
  have HB3 := Lib.hid (belStep HB.out (b2.trans (grownBel g3 (Nat.le_refl _) b2.size)))
  go_wp2
  go_ret
  exact ⟨rfl, HB3.out⟩

end Go.Proofs.YtdncnoloffafbaaGreatDoor
