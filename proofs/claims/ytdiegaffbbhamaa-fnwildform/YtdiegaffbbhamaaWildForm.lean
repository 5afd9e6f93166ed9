/-
  Proved: promise 16 (a pattern has six signs), at every two codes from which the text and the place are drawn; the codes read on as they did. No condition.
-/
import Derived.Test.YtdiegaffbbhamaaDrawWild
namespace Go.Proofs.Ytdiegaffbbhamaa
open Go.ChangeShapes Go.WideShapes Go.ChangeAt Go.RowKit Go.Joins
set_option linter.unusedVariables false

/-- The byte at a place of two texts, one behind the other. -/
theorem byA_append (s t : ByteArray) (i : Nat) : byA (s ++ t) i = if i < s.size then byA s i else byA t (i - s.size) := by
  unfold byA
  rw [ByteArray.data_append]
  simp only [Array.getD_eq_getD_getElem?]
  by_cases h : i < s.data.size
  · rw [Array.getElem?_append_left h, if_pos (show i < s.size from h)]
  · rw [Array.getElem?_append_right (by omega), if_neg (show ¬ i < s.size from h)]
    rfl
theorem byA_extract (s : ByteArray) (a b i : Nat) (hb : b ≤ s.size) (hi : a + i < b) : byA (s.extract a b) i = byA s (a + i) := by
  unfold byA
  rw [ByteArray.data_extract]
  simp only [Array.getD_eq_getD_getElem?]
  rw [Array.getElem?_extract, if_pos (by have : b ≤ s.data.size := hb; omega)]

/-- A text with one byte exchanged. -/
theorem byA_turn {s : ByteArray} (h6 : s.size = 6) {k : Nat} (hk : k < 6) (c : UInt8) (i : Nat) (hi : i < 6) :
    byA (s.extract 0 k ++ ⟨#[c]⟩ ++ s.extract (k + 1) 6) i = if i = k then c else byA s i := by
  have z1 : (s.extract 0 k).size = k := by simp; omega
  have z2 : (s.extract 0 k ++ ⟨#[c]⟩).size = k + 1 := by rw [ByteArray.size_append, z1]; rfl
  rw [byA_append, z2]
  by_cases h1 : i < k + 1
  · rw [if_pos h1, byA_append, z1]
    by_cases h2 : i < k
    · rw [if_pos h2, if_neg (by omega), byA_extract _ _ _ _ (by omega) (by omega), Nat.zero_add]
    · obtain rfl : i = k := by omega
      rw [if_neg h2, if_pos rfl, Nat.sub_self]
      rfl
  · rw [if_neg h1, if_neg (by omega), byA_extract _ _ _ _ (by omega) (by omega)]
    congr 1
    omega
theorem turn_size {s : ByteArray} (h6 : s.size = 6) {k : Nat} (hk : k < 6) (c : UInt8) : (s.extract 0 k ++ ⟨#[c]⟩ ++ s.extract (k + 1) 6).size = 6 := by
  rw [ByteArray.size_append, ByteArray.size_append]
  have z1 : (s.extract 0 k).size = k := by simp; omega
  have z2 : (s.extract (k + 1) 6).size = 5 - k := by simp; omega
  rw [z1, z2]
  show k + 1 + (5 - k) = 6
  omega
theorem okS_turn {s : ByteArray} (hs : okS s = true) {k : Nat} (hk : k < 6) (c : UInt8) : okS (s.extract 0 k ++ ⟨#[c]⟩ ++ s.extract (k + 1) 6) = sgn c := by
  have h6 := okS_size hs
  unfold okS
  rw [turn_size h6 hk]
  cases hc : sgn c
  · rw [all6_not.2 ⟨k, hk, by rw [byA_turn h6 hk c k hk, if_pos rfl]; exact hc⟩]; rfl
  · rw [all6_iff.2 fun i hi => by
      rw [byA_turn h6 hk c i hi]
      by_cases h : i = k
      · rw [if_pos h]; exact hc
      · rw [if_neg h]
        rcases okS_sgn hs i hi with e | e | e <;> rw [e] <;> rfl]
    rfl
theorem okS_len {s : ByteArray} (h : s.size ≠ 6) : okS s = false := by unfold okS; simp [h]

set_option maxHeartbeats 4000000 in
theorem walk_FnWildForm (a : Option Addr) (len cap : Nat) (a' : Option Addr) (len' cap' : Nat) (w : World) (hb : BytesIn w w.heap.size a len cap) (hb' : BytesIn w w.heap.size a' len' cap') :
    Calls Try.prog 13 #[.slice a len cap, .slice a' len' cap'] w fun e w' => e = .returned (.bool true) ∧ Below w.heap.size w w' := by
  have HB := Lib.hid hb
  have hm : (len : Int) ≤ maxLen := by have := hb.1; have := hb.2.1; omega
  have hm' : (len' : Int) ≤ maxLen := by have := hb'.1; have := hb'.2.1; omega
  unfold maxLen at hm hm'
  clear hb hb'
  by_cases hlen : (1048576 : Int) < (len : Int)
  · go_enter Try.func13, Try.ntmps13
    go_wp2
    go_ret
    exact ⟨rfl, Below.refl _ _⟩
  have hl1 : decide ((1048576 : Int) < (len : Int)) = false := by simp; omega
  have hl1n : decide ((1048576 : Nat) < len) = false := by simp; omega
  by_cases hlen' : (1048576 : Int) < (len' : Int)
  · go_enter Try.func13, Try.ntmps13
    go_wp2
    go_ret
    exact ⟨rfl, Below.refl _ _⟩
  have hl2 : decide ((1048576 : Int) < (len' : Int)) = false := by simp; omega
  have hl2n : decide ((1048576 : Nat) < len') = false := by simp; omega
  go_enter Try.func13, Try.ntmps13
  go_wp2_with fail
  refine (drawWildOk_any _ _ _ _ HB.out).mono ?_
  rintro e w1 ⟨s, hs, rfl, b1⟩
  go_wp2_with fail
  refine (iWildOk_any s (by omega) _).mono ?_
  rintro e w2 ⟨rfl, b2⟩
  have B2 : Hid (Below w.heap.size w w2) := belStep b1 b2
  clear b1 b2
  go_wp2_with fail
  refine (sWildOk_any s (by omega) _).mono ?_
  rintro e w' ⟨rfl, rfl⟩
  cases hk : okS s
  · go_wp2_with fail
    refine (sWildOk_any s (by omega) _).mono ?_
    rintro e w' ⟨rfl, rfl⟩
    rw [hk]
    go_wp2
    go_ret
    exact ⟨rfl, B2.out⟩
  · have h6 := okS_size hk
    have l0 : (0 : Int) ≤ (len' : Int) := Int.natCast_nonneg _
    go_wp2_with fail
    obtain ⟨k, hk6, hkl⟩ : ∃ k : Nat, k < 6 ∧ (len' : Int) % 6 = (k : Int) := ⟨((len' : Int) % 6).toNat, by omega, by omega⟩
    rw [hkl]
    clear hkl
    -- the pieces of the text
    have f1 : ∀ W : World, (Instr.slice 9 (.string s) (some (.int .i64 1)) none none).run Try.prog W = .ok (.string (s.extract 1 6)) W := fun W => by
      rw [run_slice_string_from_if (P := Try.prog) W 9 s .i64 1 Try.underlying9]
      simp [h6]
    have f2 : ∀ W : World, (Instr.slice 9 (.string s) none (some (.int .i64 (k : Int))) none).run Try.prog W = .ok (.string (s.extract 0 k)) W := fun W => by
      rw [run_slice_string_to_if (P := Try.prog) W 9 s .i64 (k : Int) Try.underlying9]
      simp [h6]
      omega
    have f3 : ∀ W : World, (Instr.slice 9 (.string s) (some (.int .i64 ((k : Int) + 1))) none none).run Try.prog W = .ok (.string (s.extract (k + 1) 6)) W := fun W => by
      rw [run_slice_string_from_if (P := Try.prog) W 9 s .i64 ((k : Int) + 1) Try.underlying9]
      have e1 : ((k : Int) + 1).toNat = k + 1 := by omega
      have e2 : (0 : Int) ≤ (k : Int) + 1 ∧ (k : Int) + 1 ≤ 6 := by omega
      simp [h6, e1, e2]
    have z1 : (s.extract 1 6).size = 5 := by simp [h6]
    have z2 : (s.extract 0 k).size = k := by simp; omega
    have z3 : (s.extract (k + 1) 6).size = 5 - k := by simp; omega
    have O1 : Hid (∀ W : World, Calls Try.prog 16 #[.string (s ++ ⟨#[120]⟩)] W fun e w' => e = .returned (.bool false) ∧ Below W.heap.size W w') := fun W => by
      have := iWildOk_any (s ++ ⟨#[120]⟩) (by rw [ByteArray.size_append, h6]; decide) W
      rw [okS_len (by rw [ByteArray.size_append, h6]; decide)] at this
      exact this
    have O2 : Hid (∀ W : World, Calls Try.prog 16 #[.string (s.extract 1 6)] W fun e w' => e = .returned (.bool false) ∧ Below W.heap.size W w') := fun W => by
      have := iWildOk_any (s.extract 1 6) (by omega) W
      rw [okS_len (by omega)] at this
      exact this
    have O3 : Hid (∀ W : World, Calls Try.prog 16 #[.string (s.extract 0 k ++ ⟨#[50]⟩ ++ s.extract (k + 1) 6)] W fun e w' => e = .returned (.bool false) ∧ Below W.heap.size W w') := fun W => by
      have := iWildOk_any (s.extract 0 k ++ ⟨#[50]⟩ ++ s.extract (k + 1) 6) (by rw [turn_size h6 hk6]; omega) W
      rw [okS_turn hk hk6] at this
      exact this
    have O4 : Hid (∀ W : World, Calls Try.prog 16 #[.string (s.extract 0 k ++ ⟨#[120]⟩ ++ s.extract (k + 1) 6)] W fun e w' => e = .returned (.bool true) ∧ Below W.heap.size W w') := fun W => by
      have := iWildOk_any (s.extract 0 k ++ ⟨#[120]⟩ ++ s.extract (k + 1) 6) (by rw [turn_size h6 hk6]; omega) W
      rw [okS_turn hk hk6] at this
      exact this
    have y1 : (⟨#[120]⟩ : ByteArray).size = 1 := rfl
    have y2 : (⟨#[50]⟩ : ByteArray).size = 1 := rfl
    have q3 : IntKind.i64.wrap ((k : Int) + 1) = (k : Int) + 1 := by rw [IntKind.wrap_i64]; omega
    have k0 : (0 : Int) ≤ (k : Int) := Int.natCast_nonneg _
    have k6 : (k : Int) < 6 := by omega
    have q1 : ¬ 9223372036854775807 < k + 1 := by omega
    have q2 : ¬ 9223372036854775807 < k + 1 + (5 - k) := by omega
    generalize s.extract 1 6 = t1 at *
    generalize s.extract 0 k = t2 at *
    generalize s.extract (k + 1) 6 = t3 at *
    clear hk
    go_region_held3 (fun w' => Below w2.heap.size w2 w') (first | assumption | exact (Below.refl _ _).drew | exact belStep (by assumption) hq)
      (first
        | (go_at_call 16; ((with_reducible refine (O1.out _).mono ?_); rintro e wq ⟨rfl, hq⟩))
        | (go_at_call 16; ((with_reducible refine (O2.out _).mono ?_); rintro e wq ⟨rfl, hq⟩))
        | (go_at_call 16; ((with_reducible refine (O3.out _).mono ?_); rintro e wq ⟨rfl, hq⟩))
        | (go_at_call 16; ((with_reducible refine (O4.out _).mono ?_); rintro e wq ⟨rfl, hq⟩)))
    go_wp2
    go_ret
    exact ⟨rfl, belStep B2.out (by assumption)⟩

set_option maxRecDepth 100000 in
theorem lifted_FnWildForm (os : Os) (started : os.Started) (H : Type) (enc : TypeId × Value → H) :
    ReturnsInHanded {} Try.checked os 13 .any (Rows.fnWildFormSpec.pre6 enc Try.prog Try.f13 Rows.fnWildFormRow.domain false) (Rows.fnWildFormSpec.post enc Try.prog Try.f13 false true false false) := by
  refine returnsInHanded_of_change (C := Try.checked) own started (by kernel_rfl) Try.func13
    (ChangeSpec.witness6 (enc := enc) (C := Try.checked) false ⟨#[], #[.slice none 0 0, .slice none 0 0], []⟩ 8 (by kernel_rfl) (by kernel_rfl) (by kernel_rfl) (by kernel_rfl)) ?_
  intro W base args ds gs before hval0 hW hcnd _
  have hval : ∀ (j : Nat) t v, Try.f13.params[j]? = some t → args[j]? = some v → Value.okWide Try.prog W .any base t v := hval0
  have hW' := hW
  obtain ⟨p, q, hA0, hV, rfl, hfz, hnd⟩ := hW
  have hA : DataW.TrodAll enc Try.prog W 0 (fun _ => true) true Try.f13.params.toList args.toList ds p := hA0
  rw [Try.params13] at hA hval
  obtain ⟨v0, vs0, d0, ds0, p0, q0, hargs, rfl, rfl, h0, r0⟩ := trodAll_cons hA
  obtain ⟨v1, vs1, d1, ds1, p1, q1, rfl, rfl, rfl, h1, r1⟩ := trodAll_cons r0
  obtain ⟨rfl, rfl, rfl⟩ := trodAll_nil r1
  obtain rfl : args = #[v0, v1] := by cases args; simp_all
  obtain ⟨rfl, rfl⟩ := trodVars_none hV
  have k0 := h0
  have lt0 : ∀ x ∈ p0, x.block < W.heap.size := by obtain ⟨m, hm⟩ := k0; exact DataW.trod_lt m _ _ _ hm
  have k1 := h1
  have lt1 : ∀ x ∈ p1, x.block < W.heap.size := by obtain ⟨m, hm⟩ := k1; exact DataW.trod_lt m _ _ _ hm
  obtain ⟨a0, len0, cap0, rfl⟩ := okWide_slice Try.underlying39 (hval 0 39 v0 rfl rfl)
  have w0 : BytesIn W W.heap.size a0 len0 cap0 := isRow_of h0
  obtain ⟨a1, len1, cap1, rfl⟩ := okWide_slice Try.underlying39 (hval 1 39 v1 rfl rfl)
  have w1 : BytesIn W W.heap.size a1 len1 cap1 := isRow_of h1
  clear hA0 hval0
  refine (walk_FnWildForm a0 len0 cap0 a1 len1 cap1 W w0 w1).mono fun e W' ⟨he, bel⟩ => ?_
  subst he
  exact ⟨_, rfl, _, _, _, [], _, [], hW', trodAll_mk1 (shut_bool Try.underlying4 _), (trodAll_cons_mk (Below.trod laidOut (by kernel_rfl) (of_decide_eq_true (by kernel_rfl)) k0 bel lt0) (trodAll_cons_mk (Below.trod laidOut (by kernel_rfl) (of_decide_eq_true (by kernel_rfl)) k1 bel lt1) (trodAll_mk0))), rfl, bel.frame _, fun h => by cases h⟩

theorem over_FnWildForm : Rows.fnWildFormRow.holds Try.pinned (OpenSpec.ofChange Rows.fnWildFormSpec) :=
  OpenClaim.holds_of_wide 13 Try.f13 rfl rfl rfl rfl rfl rfl rfl ⟨rfl, rfl, rfl, rfl, rfl⟩ rfl rfl rfl rfl rfl (by kernel_rfl) Try.func13 (by kernel_rfl)
    (of_decide_eq_true (by kernel_rfl)) (by unfold Func.isWrapper; first | (rw [if_pos (by decide +kernel)]; kernel_rfl) | (rw [if_neg (by decide +kernel)]; exact ⟨rfl, rfl⟩))
    (fun os started H enc _ => lifted_FnWildForm os started H enc)

theorem proved_FnWildForm : Rows.FnWildFormSaid := over_FnWildForm

end Go.Proofs.Ytdiegaffbbhamaa
