/-
  What the other functions of chapter 1 that return heads return, the program's and the model's: the head of a number, a head with another tag; and what the statements' own helpers return: two heads are the same if their fields are.
-/
import Derived.Test.YtahobeigbjhbbaaGreatDoorHeadBase
namespace Go.Proofs.YtahobeigbjhbbaaGreatDoor
open Go.ChangeShapes Go.WideShapes Go.ChangeAt Go.RowKit Go.Joins
set_option linter.unusedVariables false

set_option maxHeartbeats 400000 in
theorem src_any (n : Int) (h0 : 0 ≤ n) (h1 : n ≤ 63) (w : World) :
    Calls Tryz.prog 117 #[.int .u8 n] w fun e w' => e = .returned (.int .i64 (n / 16)) ∧ w = w' := by
  rw [show n / 16 = wrap64 (bits BinOp.and IntKind.u8 (n / 16) 3) from by rw [bits_low (by omega) (by omega)]; omega]
  go_enter Tryz.func117, Tryz.ntmps117
  go_wp2
  go_ret
  exact ⟨rfl, rfl⟩

set_option maxHeartbeats 400000 in
theorem dst_any (n : Int) (h0 : 0 ≤ n) (h1 : n ≤ 63) (w : World) :
    Calls Tryz.prog 118 #[.int .u8 n] w fun e w' => e = .returned (.int .i64 (n / 4 % 4)) ∧ w = w' := by
  rw [show n / 4 % 4 = wrap64 (bits BinOp.and IntKind.u8 (n / 4) 3) from by rw [bits_low (by omega) (by omega)]]
  go_enter Tryz.func118, Tryz.ntmps118
  go_wp2
  go_ret
  exact ⟨rfl, rfl⟩

set_option maxHeartbeats 400000 in
theorem tag_any (n : Int) (h0 : 0 ≤ n) (h1 : n ≤ 63) (w : World) :
    Calls Tryz.prog 119 #[.int .u8 n] w fun e w' => e = .returned (.int .i64 (n % 4)) ∧ w = w' := by
  rw [show n % 4 = wrap64 (bits BinOp.and IntKind.u8 n 3) from by rw [bits_low (by omega) (by omega)]]
  go_enter Tryz.func119, Tryz.ntmps119
  go_wp2
  go_ret
  exact ⟨rfl, rfl⟩

set_option maxHeartbeats 400000 in
theorem head_any (n : Int) (h0 : 0 ≤ n) (h1 : n ≤ 63) (w : World) :
    Calls Tryz.prog 79 #[.int .u8 n] w fun e w' => e = .returned (.agg #[.int .i64 (n / 16), .int .i64 (n / 4 % 4), .int .i64 (n % 4)]) ∧ Below w.heap.size w w' := by
  go_enter Tryz.func79, Tryz.ntmps79
  go_wp2_with (first
    | (go_at_call 117; refine (src_any _ h0 h1 _).mono ?_; rintro e w' ⟨rfl, rfl⟩)
    | (go_at_call 118; refine (dst_any _ h0 h1 _).mono ?_; rintro e w' ⟨rfl, rfl⟩)
    | (go_at_call 119; refine (tag_any _ h0 h1 _).mono ?_; rintro e w' ⟨rfl, rfl⟩))
  exact bodyPost_ret (v := .agg #[.int .i64 (n / 16), .int .i64 (n / 4 % 4), .int .i64 (n % 4)]) (by simp [results, Tryz.results79, go_sem]) rfl ⟨rfl, below_alloc1 _ _⟩

set_option maxHeartbeats 400000 in
theorem l1Of_any (n : Int) (h0 : 0 ≤ n) (h1 : n ≤ 63) (w : World) :
    Calls Tryz.prog 81 #[.int .i64 n] w fun e w' => e = .returned (.agg #[.int .i64 (n / 16), .int .i64 (n / 4 % 4), .int .i64 (n % 4)]) ∧ Below w.heap.size w w' := by
  go_enter Tryz.func81, Tryz.ntmps81
  go_wp2
  exact bodyPost_ret (v := .agg #[.int .i64 (n / 16), .int .i64 (n / 4 % 4), .int .i64 (n % 4)]) (by simp [results, Tryz.results81, go_sem]) rfl ⟨rfl, below_alloc1 _ _⟩

/-! ### A head with another tag -/

/-- Two heads of the call's own, behind a call that leaves what was there. -/
theorem twoHeads {w w1 : World} {t u : TypeId} {a b c d e f : Value} (hb : Below ((w.alloc (.cells #[a, b, c] t)).alloc (.cells #[d, e, f] u)).heap.size ((w.alloc (.cells #[a, b, c] t)).alloc (.cells #[d, e, f] u)) w1) :
    w1.cell? ⟨w.heap.size, 0, none⟩ = some a ∧ w1.cell? ⟨w.heap.size, 1, none⟩ = some b ∧ w1.cell? ⟨w.heap.size, 2, none⟩ = some c ∧
    w1.cell? ⟨w.heap.size + 1, 0, none⟩ = some d ∧ w1.cell? ⟨w.heap.size + 1, 1, none⟩ = some e ∧ w1.cell? ⟨w.heap.size + 1, 2, none⟩ = some f := by
  have hc := belCell hb
  refine ⟨?_, ?_, ?_, ?_, ?_, ?_⟩ <;> (rw [hc _ _ (by simp; try omega)]; simp [go_sem])

theorem tag_math {a b c t : Int} (ha0 : 0 ≤ a) (ha3 : a ≤ 3) (hb0 : 0 ≤ b) (hb3 : b ≤ 3) (hc0 : 0 ≤ c) (hc3 : c ≤ 3) (t0 : 0 ≤ t) (t3 : t ≤ 3) :
    ((16 * a + 4 * b + c) / 4 * 4 + t) / 16 = a ∧ ((16 * a + 4 * b + c) / 4 * 4 + t) / 4 % 4 = b ∧ ((16 * a + 4 * b + c) / 4 * 4 + t) % 4 = t ∧ 0 ≤ (16 * a + 4 * b + c) / 4 * 4 + t ∧ (16 * a + 4 * b + c) / 4 * 4 + t ≤ 63 := by omega

/-! ### The statements' own helpers -/

end Go.Proofs.YtahobeigbjhbbaaGreatDoor
