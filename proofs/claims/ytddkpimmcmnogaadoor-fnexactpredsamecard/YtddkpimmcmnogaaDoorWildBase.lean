/-
  What the program's own functions on patterns return: a text is read as a set of masks or as none.
-/
import Derived.Test.YtddkpimmcmnogaaDoorWildMath
import Derived.Deep.RegionWith
namespace Go.Proofs.YtddkpimmcmnogaaDoor
open Go.ChangeShapes Go.WideShapes Go.ChangeAt Go.RowKit Go.Joins
set_option linter.unusedVariables false

set_option maxHeartbeats 400000 in
theorem wildBit_at (k : Nat) (hk : k < 6) (w : World) :
    Calls Tryd.prog 69 #[.int .i64 k] w fun e w' => e = .returned (.int .u8 (pw k)) ∧ w = w' := by
  match k, hk with
  | 0, _ | 1, _ | 2, _ | 3, _ | 4, _ | 5, _ =>
    go_enter Tryd.func69, Tryd.ntmps69
    go_wp2
    go_ret
    exact ⟨rfl, rfl⟩

end Go.Proofs.YtddkpimmcmnogaaDoor
