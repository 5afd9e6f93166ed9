/-
  What strconv.Itoa returns at a number below ten, by a walk through the library's own text; and what the program's text of a head is.
-/
import Derived.Test.YtmgjnjodjobagaaDoorHeadText
namespace Go.Proofs.YtmgjnjodjobagaaDoor
open Go.ChangeShapes Go.WideShapes Go.ChangeAt Go.RowKit Go.Joins
set_option linter.unusedVariables false

set_option maxHeartbeats 1000000 in
theorem itoa_digit (n : Int) (h0 : 0 ≤ n) (h9 : n ≤ 9) (w : World) :
    Calls Tryd.prog 30 #[.int .i64 n] w fun e w' => e = .returned (.string (digB n)) ∧ w = w' := by
  obtain rfl | rfl | rfl | rfl | rfl | rfl | rfl | rfl | rfl | rfl : n = 0 ∨ n = 1 ∨ n = 2 ∨ n = 3 ∨ n = 4 ∨ n = 5 ∨ n = 6 ∨ n = 7 ∨ n = 8 ∨ n = 9 := by omega
  all_goals
    go_enter Tryd.func30, Tryd.ntmps30
    go_wp2
    go_ret
    exact ⟨rfl, rfl⟩

set_option maxHeartbeats 1000000 in
theorem text_any (n : Int) (h0 : 0 ≤ n) (h1 : n ≤ 63) (w : World) :
    Calls Tryd.prog 22 #[.int .u8 n] w fun e w' => e = .returned (.string (textB (n / 16) (n / 4 % 4) (n % 4))) ∧ w = w' := by
  have d1 := digB_size (n / 16)
  have d2 := digB_size (n / 4 % 4)
  have d3 := digB_size (n % 4)
  go_enter Tryd.func22, Tryd.ntmps22
  go_wp2_with (first
    | (go_at_call 31; refine (src_any _ h0 h1 _).mono ?_; rintro e w' ⟨rfl, rfl⟩)
    | (go_at_call 32; refine (dst_any _ h0 h1 _).mono ?_; rintro e w' ⟨rfl, rfl⟩)
    | (go_at_call 33; refine (tag_any _ h0 h1 _).mono ?_; rintro e w' ⟨rfl, rfl⟩)
    | (go_at_call 30; refine (itoa_digit _ (by omega) (by omega) _).mono ?_; rintro e w' ⟨rfl, rfl⟩))
  go_ret
  exact ⟨rfl, rfl⟩

set_option maxHeartbeats 400000 in
theorem iHeadText_no (a b c : Int) (hk : okB a b c = false) (w : World) :
    Calls Tryd.prog 8 #[.agg #[.int .i64 a, .int .i64 b, .int .i64 c]] w fun e w' => e = .returned (.string ⟨#[]⟩) ∧ Below w.heap.size w w' := by
  go_enter Tryd.func8, Tryd.ntmps8
  go_wp2_with (go_at_call 21; refine (bitsOf_no _ _ _ hk _).mono ?_; rintro e w1 ⟨rfl, hb⟩)
  go_ret
  exact ⟨rfl, (below_alloc1 _ _).trans (hb.mono (by simp))⟩

set_option maxHeartbeats 400000 in
theorem iHeadText_yes (a b c : Int) (hk : okB a b c = true) (w : World) :
    Calls Tryd.prog 8 #[.agg #[.int .i64 a, .int .i64 b, .int .i64 c]] w fun e w' => e = .returned (.string (textB a b c)) ∧ Below w.heap.size w w' := by
  obtain ⟨⟨ha0, ha3⟩, ⟨hb0, hb3⟩, ⟨hc0, hc3⟩⟩ := okB_true hk
  have e1 : Hid ((16 * a + 4 * b + c) / 16 = a) := by show _ = _; omega
  have e2 : Hid ((16 * a + 4 * b + c) / 4 % 4 = b) := by show _ = _; omega
  have e3 : Hid ((16 * a + 4 * b + c) % 4 = c) := by show _ = _; omega
  go_enter Tryd.func8, Tryd.ntmps8
  go_wp2_with fail
  refine (bitsOf_yes _ _ _ hk _).mono ?_
  rintro e w1 ⟨rfl, hb⟩
  go_wp2_with fail
  refine (text_any _ (by omega) (by omega) _).mono ?_
  rintro e w2 ⟨rfl, rfl⟩
  rw [e1.out, e2.out, e3.out]
  go_wp2
  go_ret
  exact ⟨rfl, (below_alloc1 _ _).trans (hb.mono (by simp))⟩

end Go.Proofs.YtmgjnjodjobagaaDoor
