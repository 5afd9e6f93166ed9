/-
  What the other functions of chapter 1 that return heads return, the program's and the model's: the head of a number, a head with another tag; and what the statements' own helpers return: two heads are the same if their fields are.
-/
import Derived.Test.YtmgjnjodjobagaaHeadBase
namespace Go.Proofs.Ytmgjnjodjobagaa
open Go.ChangeShapes Go.WideShapes Go.ChangeAt Go.RowKit Go.Joins
set_option linter.unusedVariables false

set_option maxHeartbeats 400000 in
theorem src_any (n : Int) (h0 : 0 ≤ n) (h1 : n ≤ 63) (w : World) :
    Calls Try.prog 39 #[.int .u8 n] w fun e w' => e = .returned (.int .i64 (n / 16)) ∧ w = w' := by
  rw [show n / 16 = wrap64 (bits BinOp.and IntKind.u8 (n / 16) 3) from by rw [bits_low (by omega) (by omega)]; omega]
  go_enter Try.func39, Try.ntmps39
  go_wp2
  go_ret
  exact ⟨rfl, rfl⟩

set_option maxHeartbeats 400000 in
theorem dst_any (n : Int) (h0 : 0 ≤ n) (h1 : n ≤ 63) (w : World) :
    Calls Try.prog 40 #[.int .u8 n] w fun e w' => e = .returned (.int .i64 (n / 4 % 4)) ∧ w = w' := by
  rw [show n / 4 % 4 = wrap64 (bits BinOp.and IntKind.u8 (n / 4) 3) from by rw [bits_low (by omega) (by omega)]]
  go_enter Try.func40, Try.ntmps40
  go_wp2
  go_ret
  exact ⟨rfl, rfl⟩

set_option maxHeartbeats 400000 in
theorem tag_any (n : Int) (h0 : 0 ≤ n) (h1 : n ≤ 63) (w : World) :
    Calls Try.prog 41 #[.int .u8 n] w fun e w' => e = .returned (.int .i64 (n % 4)) ∧ w = w' := by
  rw [show n % 4 = wrap64 (bits BinOp.and IntKind.u8 n 3) from by rw [bits_low (by omega) (by omega)]]
  go_enter Try.func41, Try.ntmps41
  go_wp2
  go_ret
  exact ⟨rfl, rfl⟩

set_option maxHeartbeats 400000 in
theorem withTag_any (n t : Int) (h0 : 0 ≤ n) (h1 : n ≤ 63) (t0 : 0 ≤ t) (t3 : t ≤ 3) (w : World) :
    Calls Try.prog 37 #[.int .u8 n, .int .i64 t] w fun e w' => e = .returned (.int .u8 (n / 4 * 4 + t)) ∧ w = w' := by
  rw [← bits_put h0 h1 t0 t3]
  go_enter Try.func37, Try.ntmps37
  go_wp2
  go_ret
  exact ⟨rfl, rfl⟩

set_option maxHeartbeats 400000 in
theorem head_any (n : Int) (h0 : 0 ≤ n) (h1 : n ≤ 63) (w : World) :
    Calls Try.prog 31 #[.int .u8 n] w fun e w' => e = .returned (.agg #[.int .i64 (n / 16), .int .i64 (n / 4 % 4), .int .i64 (n % 4)]) ∧ Below w.heap.size w w' := by
  go_enter Try.func31, Try.ntmps31
  go_wp2_with (first
    | (go_at_call 39; refine (src_any _ h0 h1 _).mono ?_; rintro e w' ⟨rfl, rfl⟩)
    | (go_at_call 40; refine (dst_any _ h0 h1 _).mono ?_; rintro e w' ⟨rfl, rfl⟩)
    | (go_at_call 41; refine (tag_any _ h0 h1 _).mono ?_; rintro e w' ⟨rfl, rfl⟩))
  exact bodyPost_ret (v := .agg #[.int .i64 (n / 16), .int .i64 (n / 4 % 4), .int .i64 (n % 4)]) (by simp [results, Try.results31, go_sem]) rfl ⟨rfl, below_alloc1 _ _⟩

set_option maxHeartbeats 400000 in
theorem l1Of_any (n : Int) (h0 : 0 ≤ n) (h1 : n ≤ 63) (w : World) :
    Calls Try.prog 30 #[.int .i64 n] w fun e w' => e = .returned (.agg #[.int .i64 (n / 16), .int .i64 (n / 4 % 4), .int .i64 (n % 4)]) ∧ Below w.heap.size w w' := by
  go_enter Try.func30, Try.ntmps30
  go_wp2
  exact bodyPost_ret (v := .agg #[.int .i64 (n / 16), .int .i64 (n / 4 % 4), .int .i64 (n % 4)]) (by simp [results, Try.results30, go_sem]) rfl ⟨rfl, below_alloc1 _ _⟩

set_option maxHeartbeats 400000 in
theorem sHeadOf_yes (n : Int) (h0 : 0 ≤ n) (h1 : n ≤ 63) (w : World) :
    Calls Try.prog 12 #[.int .i64 n] w fun e w' => e = .returned (.tuple #[.agg #[.int .i64 (n / 16), .int .i64 (n / 4 % 4), .int .i64 (n % 4)], .bool true]) ∧ Below w.heap.size w w' := by
  have hk := inB_mk h0 h1
  go_enter Try.func12, Try.ntmps12
  go_wp2_with (first
    | (go_at_call 29; refine (l6In_any _ _ _ _).mono ?_; rintro e w' ⟨rfl, rfl⟩)
    | (go_at_call 30; refine (l1Of_any _ h0 h1 _).mono ?_; rintro e w1 ⟨rfl, hb⟩; have hc := belCell hb; have hf := belFrozen hb))
  exact bodyPost_ret (v := .tuple #[.agg #[.int .i64 (n / 16), .int .i64 (n / 4 % 4), .int .i64 (n % 4)], .bool true]) (by simp [results, Try.results12, go_sem, hc]) rfl
    ⟨rfl, by repeat (first | exact (below_alloc1 _ _).trans (hb.mono (by simp)) | refine Below.setCell ?_ (by simp) _)⟩

set_option maxHeartbeats 400000 in
theorem sHeadOf_no (n : Int) (h : n < 0 ∨ 63 < n) (w : World) :
    Calls Try.prog 12 #[.int .i64 n] w fun e w' => e = .returned (.tuple #[.agg #[.int .i64 0, .int .i64 0, .int .i64 0], .bool false]) ∧ Below w.heap.size w w' := by
  have hk := inB_not h
  clear h
  go_enter Try.func12, Try.ntmps12
  go_wp2_with (go_at_call 29; refine (l6In_any _ _ _ _).mono ?_; rintro e w' ⟨rfl, rfl⟩)
  exact bodyPost_ret (v := .tuple #[.agg #[.int .i64 0, .int .i64 0, .int .i64 0], .bool false]) (by simp [results, Try.results12, go_sem]) rfl ⟨rfl, below_alloc1 _ _⟩

set_option maxHeartbeats 400000 in
theorem iHeadOf_yes (n : Int) (h0 : 0 ≤ n) (h1 : n ≤ 63) (w : World) :
    Calls Try.prog 13 #[.int .i64 n] w fun e w' => e = .returned (.tuple #[.agg #[.int .i64 (n / 16), .int .i64 (n / 4 % 4), .int .i64 (n % 4)], .bool true]) ∧ Below w.heap.size w w' := by
  have hd : decide (n < 0) = false := by simp; omega
  go_enter Try.func13, Try.ntmps13
  go_wp2_with (go_at_call 31; refine (head_any _ h0 h1 _).mono ?_; rintro e w1 ⟨rfl, hb⟩; have hc := belCell hb; have hf := belFrozen hb)
  exact bodyPost_ret (v := .tuple #[.agg #[.int .i64 (n / 16), .int .i64 (n / 4 % 4), .int .i64 (n % 4)], .bool true]) (by simp [results, Try.results13, go_sem, hc]) rfl
    ⟨rfl, by repeat (first | exact (below_alloc1 _ _).trans (hb.mono (by simp)) | refine Below.setCell ?_ (by simp) _)⟩

set_option maxHeartbeats 400000 in
theorem iHeadOf_no (n : Int) (h : n < 0 ∨ 63 < n) (w : World) :
    Calls Try.prog 13 #[.int .i64 n] w fun e w' => e = .returned (.tuple #[.agg #[.int .i64 0, .int .i64 0, .int .i64 0], .bool false]) ∧ Below w.heap.size w w' := by
  rcases h with h | h
  · go_enter Try.func13, Try.ntmps13
    go_wp2
    exact bodyPost_ret (v := .tuple #[.agg #[.int .i64 0, .int .i64 0, .int .i64 0], .bool false]) (by simp [results, Try.results13, go_sem]) rfl ⟨rfl, below_alloc1 _ _⟩
  · have hd : decide (n < 0) = false := by simp; omega
    have h64 : 64 ≤ n := by omega
    clear h
    go_enter Try.func13, Try.ntmps13
    go_wp2
    exact bodyPost_ret (v := .tuple #[.agg #[.int .i64 0, .int .i64 0, .int .i64 0], .bool false]) (by simp [results, Try.results13, go_sem]) rfl ⟨rfl, below_alloc1 _ _⟩

/-! ### A head with another tag -/

/-- Two heads of the call's own, behind a call that leaves what was there. -/
theorem twoHeads {w w1 : World} {t u : TypeId} {a b c d e f : Value} (hb : Below ((w.alloc (.cells #[a, b, c] t)).alloc (.cells #[d, e, f] u)).heap.size ((w.alloc (.cells #[a, b, c] t)).alloc (.cells #[d, e, f] u)) w1) :
    w1.cell? ⟨w.heap.size, 0, none⟩ = some a ∧ w1.cell? ⟨w.heap.size, 1, none⟩ = some b ∧ w1.cell? ⟨w.heap.size, 2, none⟩ = some c ∧
    w1.cell? ⟨w.heap.size + 1, 0, none⟩ = some d ∧ w1.cell? ⟨w.heap.size + 1, 1, none⟩ = some e ∧ w1.cell? ⟨w.heap.size + 1, 2, none⟩ = some f := by
  have hc := belCell hb
  refine ⟨?_, ?_, ?_, ?_, ?_, ?_⟩ <;> (rw [hc _ _ (by simp; try omega)]; simp [go_sem])

set_option maxHeartbeats 400000 in
theorem sHeadTag_yes (a b c t : Int) (hk : okB a b c = true) (ht : fldB t = true) (w : World) :
    Calls Try.prog 21 #[.agg #[.int .i64 a, .int .i64 b, .int .i64 c], .int .i64 t] w fun e w' => e = .returned (.tuple #[.agg #[.int .i64 a, .int .i64 b, .int .i64 t], .bool true]) ∧ Below w.heap.size w w' := by
  go_enter Try.func21, Try.ntmps21
  go_wp2_with (first
    | (go_at_call 18; refine (sHeadOk_any _ _ _ _).mono ?_; rintro e w1 ⟨rfl, hb⟩; have hf := belFrozen hb; obtain ⟨hc0, hc1, hc2, hd0, hd1, hd2⟩ := twoHeads hb)
    | (go_at_call 36; refine (l1Field_any _ _).mono ?_; rintro e w' ⟨rfl, rfl⟩))
  exact bodyPost_ret (v := .tuple #[.agg #[.int .i64 a, .int .i64 b, .int .i64 t], .bool true]) (by simp [results, Try.results21, go_sem, hd0, hd1, hd2]) rfl
    ⟨rfl, by repeat (first | exact (below_alloc2 _ _ _).trans (hb.mono (by simp; omega)) | refine Below.setCell ?_ (by simp) _)⟩

set_option maxHeartbeats 400000 in
theorem sHeadTag_no (a b c t : Int) (h : okB a b c = false ∨ fldB t = false) (w : World) :
    Calls Try.prog 21 #[.agg #[.int .i64 a, .int .i64 b, .int .i64 c], .int .i64 t] w fun e w' => e = .returned (.tuple #[.agg #[.int .i64 0, .int .i64 0, .int .i64 0], .bool false]) ∧ Below w.heap.size w w' := by
  cases hk : okB a b c
  · clear h
    go_enter Try.func21, Try.ntmps21
    go_wp2_with (go_at_call 18; refine (sHeadOk_any _ _ _ _).mono ?_; rintro e w1 ⟨rfl, hb⟩; have hf := belFrozen hb; obtain ⟨hc0, hc1, hc2, hd0, hd1, hd2⟩ := twoHeads hb)
    exact bodyPost_ret (v := .tuple #[.agg #[.int .i64 0, .int .i64 0, .int .i64 0], .bool false]) (by simp [results, Try.results21, go_sem, hd0, hd1, hd2]) rfl
      ⟨rfl, by repeat (first | exact (below_alloc2 _ _ _).trans (hb.mono (by simp; omega)) | refine Below.setCell ?_ (by simp) _)⟩
  · have ht : fldB t = false := by simpa [hk] using h
    clear h
    go_enter Try.func21, Try.ntmps21
    go_wp2_with (first
      | (go_at_call 18; refine (sHeadOk_any _ _ _ _).mono ?_; rintro e w1 ⟨rfl, hb⟩; have hf := belFrozen hb; obtain ⟨hc0, hc1, hc2, hd0, hd1, hd2⟩ := twoHeads hb)
      | (go_at_call 36; refine (l1Field_any _ _).mono ?_; rintro e w' ⟨rfl, rfl⟩))
    exact bodyPost_ret (v := .tuple #[.agg #[.int .i64 0, .int .i64 0, .int .i64 0], .bool false]) (by simp [results, Try.results21, go_sem, hd0, hd1, hd2]) rfl
      ⟨rfl, by repeat (first | exact (below_alloc2 _ _ _).trans (hb.mono (by simp; omega)) | refine Below.setCell ?_ (by simp) _)⟩

theorem tag_math {a b c t : Int} (ha0 : 0 ≤ a) (ha3 : a ≤ 3) (hb0 : 0 ≤ b) (hb3 : b ≤ 3) (hc0 : 0 ≤ c) (hc3 : c ≤ 3) (t0 : 0 ≤ t) (t3 : t ≤ 3) :
    ((16 * a + 4 * b + c) / 4 * 4 + t) / 16 = a ∧ ((16 * a + 4 * b + c) / 4 * 4 + t) / 4 % 4 = b ∧ ((16 * a + 4 * b + c) / 4 * 4 + t) % 4 = t ∧ 0 ≤ (16 * a + 4 * b + c) / 4 * 4 + t ∧ (16 * a + 4 * b + c) / 4 * 4 + t ≤ 63 := by omega

set_option maxHeartbeats 400000 in
theorem iHeadTag_yes (a b c t : Int) (hk : okB a b c = true) (ht : fldB t = true) (w : World) :
    Calls Try.prog 22 #[.agg #[.int .i64 a, .int .i64 b, .int .i64 c], .int .i64 t] w fun e w' => e = .returned (.tuple #[.agg #[.int .i64 a, .int .i64 b, .int .i64 t], .bool true]) ∧ Below w.heap.size w w' := by
  obtain ⟨⟨ha0, ha3⟩, ⟨hb0, hb3⟩, ⟨hc0, hc3⟩⟩ := okB_true hk
  obtain ⟨t0, t3⟩ := fldB_true ht
  obtain ⟨m1, m2, m3, m4, m5⟩ := tag_math ha0 ha3 hb0 hb3 hc0 hc3 t0 t3
  have M1 := Lib.hid m1
  have M2 := Lib.hid m2
  have M3 := Lib.hid m3
  clear m1 m2 m3
  go_enter Try.func22, Try.ntmps22
  go_wp2_with (first
    | (go_at_call 32; refine (bitsOf_yes _ _ _ hk _).mono ?_; rintro e w1 ⟨rfl, hb⟩; have hf := belFrozen hb; obtain ⟨-, -, -, hd0, hd1, hd2⟩ := twoHeads hb)
    | (go_at_call 33; refine (fieldOk_any _ _).mono ?_; rintro e w' ⟨rfl, rfl⟩)
    | (go_at_call 37; refine (withTag_any _ _ (by omega) (by omega) t0 t3 _).mono ?_; rintro e w' ⟨rfl, rfl⟩)
    | (go_at_call 31; refine (head_any _ m4 m5 _).mono ?_; rintro e w2 ⟨rfl, hb2⟩; have hc2 := belCell hb2; have hf2 := belFrozen hb2; rw [M1.out, M2.out, M3.out]; have hz : w.heap.size + 1 < w1.heap.size := by { have := hb.size; simp at this; omega }))
  exact bodyPost_ret (v := .tuple #[.agg #[.int .i64 a, .int .i64 b, .int .i64 t], .bool true]) (by simp [results, Try.results22, go_sem, hc2, hd0, hd1, hd2, hz]) rfl
    ⟨rfl, by repeat (first | exact (below_alloc2 _ _ _).trans ((hb.mono (by simp; omega)).trans (hb2.mono (by omega))) | refine Below.setCell ?_ (by simp) _)⟩

set_option maxHeartbeats 400000 in
theorem iHeadTag_no (a b c t : Int) (h : okB a b c = false ∨ fldB t = false) (w : World) :
    Calls Try.prog 22 #[.agg #[.int .i64 a, .int .i64 b, .int .i64 c], .int .i64 t] w fun e w' => e = .returned (.tuple #[.agg #[.int .i64 0, .int .i64 0, .int .i64 0], .bool false]) ∧ Below w.heap.size w w' := by
  cases hk : okB a b c
  · clear h
    go_enter Try.func22, Try.ntmps22
    go_wp2_with (go_at_call 32; refine (bitsOf_no _ _ _ hk _).mono ?_; rintro e w1 ⟨rfl, hb⟩; have hf := belFrozen hb; obtain ⟨-, -, -, hd0, hd1, hd2⟩ := twoHeads hb)
    exact bodyPost_ret (v := .tuple #[.agg #[.int .i64 0, .int .i64 0, .int .i64 0], .bool false]) (by simp [results, Try.results22, go_sem, hd0, hd1, hd2]) rfl
      ⟨rfl, by repeat (first | exact (below_alloc2 _ _ _).trans (hb.mono (by simp; omega)) | refine Below.setCell ?_ (by simp) _)⟩
  · have ht : fldB t = false := by simpa [hk] using h
    clear h
    go_enter Try.func22, Try.ntmps22
    go_wp2_with (first
      | (go_at_call 32; refine (bitsOf_yes _ _ _ hk _).mono ?_; rintro e w1 ⟨rfl, hb⟩; have hf := belFrozen hb; obtain ⟨-, -, -, hd0, hd1, hd2⟩ := twoHeads hb)
      | (go_at_call 33; refine (fieldOk_any _ _).mono ?_; rintro e w' ⟨rfl, rfl⟩))
    exact bodyPost_ret (v := .tuple #[.agg #[.int .i64 0, .int .i64 0, .int .i64 0], .bool false]) (by simp [results, Try.results22, go_sem, hd0, hd1, hd2]) rfl
      ⟨rfl, by repeat (first | exact (below_alloc2 _ _ _).trans (hb.mono (by simp; omega)) | refine Below.setCell ?_ (by simp) _)⟩

/-! ### The statements' own helpers -/

set_option maxHeartbeats 400000 in
theorem toHead_any (a b c : Int) (w : World) :
    Calls Try.prog 23 #[.agg #[.int .i64 a, .int .i64 b, .int .i64 c]] w fun e w' => e = .returned (.agg #[.int .i64 a, .int .i64 b, .int .i64 c]) ∧ Below w.heap.size w w' := by
  go_enter Try.func23, Try.ntmps23
  go_wp2
  exact bodyPost_ret (v := .agg #[.int .i64 a, .int .i64 b, .int .i64 c]) (by simp [results, Try.results23, go_sem]) rfl
    ⟨rfl, by repeat (first | exact below_alloc3 _ _ _ _ | refine Below.setCell ?_ (by simp) _)⟩

set_option maxHeartbeats 400000 in
theorem eqHead_same (a b c : Int) (w : World) :
    Calls Try.prog 24 #[.agg #[.int .i64 a, .int .i64 b, .int .i64 c], .agg #[.int .i64 a, .int .i64 b, .int .i64 c]] w fun e w' => e = .returned (.bool true) ∧ Below w.heap.size w w' := by
  go_enter Try.func24, Try.ntmps24
  go_wp2
  go_ret
  exact ⟨rfl, below_alloc2 _ _ _⟩

end Go.Proofs.Ytmgjnjodjobagaa
