/-
  A packet at a switch is ok: the program's and the model's word.
-/
import Derived.Test.YtjjhahhchimmlaaGreatDoorNetRead
import Derived.Test.YtjjhahhchimmlaaGreatDoorNetSpec
import Derived.Test.YtjjhahhchimmlaaGreatDoorHeadB
namespace Go.Proofs.YtjjhahhchimmlaaGreatDoor
open Go.ChangeShapes Go.WideShapes Go.ChangeAt Go.RowKit Go.Joins
set_option linter.unusedVariables false

/-- A packet's value. -/
def spV (s a b c : Int) : Value := .agg #[.int .i64 s, .int .i64 a, .int .i64 b, .int .i64 c]
def spB (s a b c : Int) : Bool := swB s && okB a b c

set_option maxHeartbeats 1000000 in
theorem spotOk_any (s a b c : Int) (w : World) :
    Calls Tryz.prog 34 #[.agg #[.int .i64 s, .int .i64 a, .int .i64 b, .int .i64 c]] w fun e w' => e = .returned (.bool (spB s a b c)) ∧ Below w.heap.size w w' := by
  have HS := Lib.hid (fun W => switchOk_any s W)
  have HH := Lib.hid (fun W => iHeadOk_any a b c W)
  have HA := Lib.hid (below_alloc1 w (.cells #[.int .i64 s, .int .i64 a, .int .i64 b, .int .i64 c] 32))
  unfold spB
  generalize swB s = o1 at *
  generalize okB a b c = o2 at *
  cases o1
  · go_enter Tryz.func34, Tryz.ntmps34
    go_wp2_with fail
    refine (HS.out _).mono ?_
    rintro e w' ⟨rfl, rfl⟩
    go_wp2
    go_ret
    exact ⟨rfl, HA.out⟩
  · go_enter Tryz.func34, Tryz.ntmps34
    go_wp2_with fail
    refine (HS.out _).mono ?_
    rintro e w' ⟨rfl, rfl⟩
    go_wp2_with fail
    refine (HH.out _).mono ?_
    rintro e w1 ⟨rfl, b1⟩
    go_wp2
    go_ret
    exact ⟨rfl, belStep HA.out b1⟩

set_option maxHeartbeats 1000000 in
theorem l22Spot_any (s a b c : Int) (w : World) :
    Calls Tryz.prog 28 #[.agg #[.int .i64 s, .int .i64 a, .int .i64 b, .int .i64 c]] w fun e w' => e = .returned (.bool (spB s a b c)) ∧ Below w.heap.size w w' := by
  have HS := Lib.hid (fun W => l21Sw_any s W)
  have HH := Lib.hid (fun W => sHeadOk_any a b c W)
  have HA := Lib.hid (below_alloc1 w (.cells #[.int .i64 s, .int .i64 a, .int .i64 b, .int .i64 c] 32))
  unfold spB
  generalize swB s = o1 at *
  generalize okB a b c = o2 at *
  cases o1
  · go_enter Tryz.func28, Tryz.ntmps28
    go_wp2_with fail
    refine (HS.out _).mono ?_
    rintro e w' ⟨rfl, rfl⟩
    go_wp2
    go_ret
    exact ⟨rfl, HA.out⟩
  · go_enter Tryz.func28, Tryz.ntmps28
    go_wp2_with fail
    refine (HS.out _).mono ?_
    rintro e w' ⟨rfl, rfl⟩
    go_wp2_with fail
    refine (HH.out _).mono ?_
    rintro e w1 ⟨rfl, b1⟩
    go_wp2
    go_ret
    exact ⟨rfl, belStep HA.out b1⟩

end Go.Proofs.YtjjhahhchimmlaaGreatDoor
