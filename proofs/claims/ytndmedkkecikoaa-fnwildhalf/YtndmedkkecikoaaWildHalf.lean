/-
  Proved: promise 27 (an x is 0, or 1), at every two codes from which the pattern and the place are drawn; the codes read on as they did. No condition.
-/
import Derived.Test.YtndmedkkecikoaaSpaceF
import Derived.Test.YtndmedkkecikoaaOwnB
namespace Go.Proofs.Ytndmedkkecikoaa
open Go.ChangeShapes Go.WideShapes Go.ChangeAt Go.RowKit Go.Joins
set_option linter.unusedVariables false

/-- A text with one byte exchanged. -/
theorem byA_turnH {s : ByteArray} (h6 : s.size = 6) {k : Nat} (hk : k < 6) (c : UInt8) (i : Nat) (hi : i < 6) :
    byA (s.extract 0 k ++ ⟨#[c]⟩ ++ s.extract (k + 1) 6) i = if i = k then c else byA s i := by
  have z1 : (s.extract 0 k).size = k := by simp; omega
  have z2 : (s.extract 0 k ++ ⟨#[c]⟩).size = k + 1 := by rw [ByteArray.size_append, z1]; rfl
  rw [byA_app, z2]
  by_cases h1 : i < k + 1
  · rw [if_pos h1, byA_app, z1]
    by_cases h2 : i < k
    · rw [if_pos h2, if_neg (by omega), byA_ext _ _ _ _ (by omega) (by omega), Nat.zero_add]
    · obtain rfl : i = k := by omega
      rw [if_neg h2, if_pos rfl, Nat.sub_self]
      rfl
  · rw [if_neg h1, if_neg (by omega), byA_ext _ _ _ _ (by omega) (by omega)]
    congr 1
    omega
theorem turn_sizeH {s : ByteArray} (h6 : s.size = 6) {k : Nat} (hk : k < 6) (c : UInt8) : (s.extract 0 k ++ ⟨#[c]⟩ ++ s.extract (k + 1) 6).size = 6 := by
  rw [ByteArray.size_append, ByteArray.size_append]
  have z1 : (s.extract 0 k).size = k := by simp; omega
  have z2 : (s.extract (k + 1) 6).size = 5 - k := by simp; omega
  rw [z1, z2]
  show k + 1 + (5 - k) = 6
  omega
theorem okS_turnH {s : ByteArray} (hs : okS s = true) {k : Nat} (hk : k < 6) (c : UInt8) : okS (s.extract 0 k ++ ⟨#[c]⟩ ++ s.extract (k + 1) 6) = sgn c := by
  have h6 := okS_size hs
  unfold okS
  rw [turn_sizeH h6 hk]
  cases hc : sgn c
  · rw [all6_not.2 ⟨k, hk, by rw [byA_turnH h6 hk c k hk, if_pos rfl]; exact hc⟩]; rfl
  · rw [all6_iff.2 fun i hi => by
      rw [byA_turnH h6 hk c i hi]
      by_cases h : i = k
      · rw [if_pos h]; exact hc
      · rw [if_neg h]
        rcases okS_sgn hs i hi with e | e | e <;> rw [e] <;> rfl]
    rfl

/-! ### An x is 0, or 1 -/

def tn (s : ByteArray) (k : Nat) (c : UInt8) : ByteArray := s.extract 0 k ++ ⟨#[c]⟩ ++ s.extract (k + 1) 6
theorem tn_ok {s : ByteArray} (hs : okS s = true) {k : Nat} (hk : k < 6) {c : UInt8} (hc : sgn c = true) : okS (tn s k c) = true := (okS_turnH hs hk c).trans hc
theorem tn_cf {s : ByteArray} (hs : okS s = true) {k : Nat} (hk : k < 6) {c : UInt8} (hc : c ≠ 120) {i : Nat} (hi : i < 6) : cf (tn s k c) i = if i = k then true else cf s i := by
  unfold cf tn
  rw [byA_turnH (okS_size hs) hk c i hi]
  by_cases h : i = k
  · rw [if_pos h, if_pos h]
    simpa using hc
  · rw [if_neg h, if_neg h]
theorem tn_vf {s : ByteArray} (hs : okS s = true) {k : Nat} (hk : k < 6) (c : UInt8) {i : Nat} (hi : i < 6) : vf (tn s k c) i = if i = k then (c == 49) else vf s i := by
  unfold vf tn
  rw [byA_turnH (okS_size hs) hk c i hi]
  by_cases h : i = k
  · rw [if_pos h, if_pos h]
  · rw [if_neg h, if_neg h]

theorem half_meet {s : ByteArray} (hs : okS s = true) {k : Nat} (hk : k < 6) : meetS (tn s k 48) (tn s k 49) = false := by
  unfold meetS
  rw [show meetB (cf (tn s k 48)) (vf (tn s k 48)) (cf (tn s k 49)) (vf (tn s k 49)) = false from all6_not.2 ⟨k, hk, by
    rw [tn_cf hs hk (by decide) hk, tn_cf hs hk (by decide) hk, tn_vf hs hk _ hk, tn_vf hs hk _ hk, if_pos rfl, if_pos rfl, if_pos rfl]
    rfl⟩]
  simp
theorem half_in {s : ByteArray} (hs : okS s = true) {k : Nat} (hk : k < 6) (hx : byA s k = 120) {c : UInt8} (hc : sgn c = true) (hn : c ≠ 120) : inS (tn s k c) s = true := by
  have c0 : cf s k = false := by simp [cf, hx]
  have hm : inM (cf (tn s k c)) (vf (tn s k c)) (cf s) (vf s) = true := by
    unfold inM meetB
    rw [Bool.and_eq_true]
    constructor
    · refine all6_iff.2 fun i hi => ?_
      rw [tn_cf hs hk hn hi]
      by_cases h : i = k
      · subst h
        rw [c0]
        rfl
      · rw [if_neg h]
        cases cf s i <;> rfl
    · refine all6_iff.2 fun i hi => ?_
      rw [tn_cf hs hk hn hi, tn_vf hs hk c hi]
      by_cases h : i = k
      · subst h
        rw [c0]
        simp
      · rw [if_neg h, if_neg h]
        simp
  unfold inS
  rw [tn_ok hs hk hc, hs, hm]
  rfl
theorem cnt_turn (c : Nat → Bool) : ∀ k, k < 6 → c k = false → cnt6 (if 0 = k then true else c 0) (if 1 = k then true else c 1) (if 2 = k then true else c 2) (if 3 = k then true else c 3) (if 4 = k then true else c 4) (if 5 = k then true else c 5) = cnt6 (c 0) (c 1) (c 2) (c 3) (c 4) (c 5) + 1 ∧ cnt6 (c 0) (c 1) (c 2) (c 3) (c 4) (c 5) ≤ 5
  | 0, _, h | 1, _, h | 2, _, h | 3, _, h | 4, _, h | 5, _, h => by
    have hb : ∀ b : Bool, b.toNat ≤ 1 := fun b => by cases b <;> decide
    have := hb (c 0)
    have := hb (c 1)
    have := hb (c 2)
    have := hb (c 3)
    have := hb (c 4)
    have := hb (c 5)
    simp [cnt6, h]
    omega
theorem half_many {s : ByteArray} (hs : okS s = true) {k : Nat} (hk : k < 6) (hx : byA s k = 120) : manyS (tn s k 48) + manyS (tn s k 49) = manyS s := by
  have c0 : cf s k = false := by simp [cf, hx]
  have e : ∀ c : UInt8, c ≠ 120 → sgn c = true → manyS (tn s k c) = 2 ^ (6 - (cnt6 (cf s 0) (cf s 1) (cf s 2) (cf s 3) (cf s 4) (cf s 5) + 1)) := fun c hn hc => by
    unfold manyS manyB
    rw [tn_ok hs hk hc, tn_cf hs hk hn (by omega), tn_cf hs hk hn (by omega), tn_cf hs hk hn (by omega), tn_cf hs hk hn (by omega), tn_cf hs hk hn (by omega), tn_cf hs hk hn (by omega), (cnt_turn (cf s) k hk c0).1]
    rfl
  rw [e 48 (by decide) (by decide), e 49 (by decide) (by decide)]
  have h5 := (cnt_turn (cf s) k hk c0).2
  unfold manyS manyB
  rw [hs]
  generalize cnt6 (cf s 0) (cf s 1) (cf s 2) (cf s 3) (cf s 4) (cf s 5) = m at *
  rw [show 6 - m = (6 - (m + 1)) + 1 from by omega, Int.pow_succ]
  show _ = _ * 2
  omega
theorem half_same {s : ByteArray} (hs : okS s = true) {k : Nat} (hk : k < 6) (hx : byA s k = 120) : (okSp [tn s k 48, tn s k 49] && okSp [s] && (spL [tn s k 48, tn s k 49] == spL [s])) = true := by
  have c0 : cf s k = false := by simp [cf, hx]
  have v0 : vf s k = false := by simp [vf, hx]
  have e : spL [tn s k 48, tn s k 49] = spL [s] := by
    unfold spL
    refine tabF_congr 6 fun l hl => ?_
    unfold inSp
    simp only [List.any_cons, List.any_nil, Bool.or_false]
    cases hb : bitF l k
    · rw [show hasM (cf (tn s k 49)) (vf (tn s k 49)) (bitF l) = false from all6_not.2 ⟨k, hk, by rw [tn_cf hs hk (by decide) hk, tn_vf hs hk _ hk, if_pos rfl, if_pos rfl, hb]; rfl⟩, Bool.or_false]
      refine all6_congr fun i hi => ?_
      rw [tn_cf hs hk (by decide) hi, tn_vf hs hk _ hi]
      by_cases h : i = k
      · subst h
        rw [if_pos rfl, if_pos rfl, hb, c0, v0]
        rfl
      · rw [if_neg h, if_neg h]
    · rw [show hasM (cf (tn s k 48)) (vf (tn s k 48)) (bitF l) = false from all6_not.2 ⟨k, hk, by rw [tn_cf hs hk (by decide) hk, tn_vf hs hk _ hk, if_pos rfl, if_pos rfl, hb]; rfl⟩, Bool.false_or]
      refine all6_congr fun i hi => ?_
      rw [tn_cf hs hk (by decide) hi, tn_vf hs hk _ hi]
      by_cases h : i = k
      · subst h
        rw [if_pos rfl, if_pos rfl, hb, c0, v0]
        rfl
      · rw [if_neg h, if_neg h]
  rw [e]
  unfold okSp
  simp [tn_ok hs hk (c := 48) (by decide), tn_ok hs hk (c := 49) (by decide), hs]

theorem twoRow (w : World) (a b : ByteArray) {base : Nat} (hb : base ≤ w.heap.size) : StrRow (w.alloc (.cells #[.string a, .string b] 9)) base (.slice (some ⟨w.heap.size, 0, none⟩) 2 2) [a, b] :=
  ⟨rfl, .inr ⟨w.heap.size, 2, #[.string a, .string b], rfl, hb, newBlockM w _, Nat.le_refl _, by unfold maxLen; omega, rfl, rfl⟩⟩

set_option maxRecDepth 100000 in
set_option maxHeartbeats 4000000 in
theorem walk_FnWildHalf (a : Option Addr) (len cap : Nat) (a' : Option Addr) (len' cap' : Nat) (w : World) (hb : BytesIn w w.heap.size a len cap) (hb' : BytesIn w w.heap.size a' len' cap') :
    Calls Try.prog 12 #[.slice a len cap, .slice a' len' cap'] w fun e w' => e = .returned (.bool true) ∧ Below w.heap.size w w' := by
  have HB := Lib.hid hb
  have hm : (len : Int) ≤ maxLen := by have := hb.1; have := hb.2.1; omega
  have hm' : (len' : Int) ≤ maxLen := by have := hb'.1; have := hb'.2.1; omega
  unfold maxLen at hm hm'
  clear hb hb'
  by_cases hlen : (1048576 : Int) < (len : Int)
  · go_enter Try.func12, Try.ntmps12
    go_wp2
    go_ret
    exact ⟨rfl, Below.refl _ _⟩
  have hl1 : decide ((1048576 : Int) < (len : Int)) = false := by simp; omega
  have hl1n : decide ((1048576 : Nat) < len) = false := by simp; omega
  by_cases hlen' : (1048576 : Int) < (len' : Int)
  · go_enter Try.func12, Try.ntmps12
    go_wp2
    go_ret
    exact ⟨rfl, Below.refl _ _⟩
  have hl2 : decide ((1048576 : Int) < (len' : Int)) = false := by simp; omega
  have hl2n : decide ((1048576 : Nat) < len') = false := by simp; omega
  go_enter Try.func12, Try.ntmps12
  go_wp2_with fail
  refine (drawWildMany_any _ _ _ _ HB.out).mono ?_
  rintro e w1 ⟨s, hs, rfl, b1⟩
  go_wp2_with fail
  refine (iWildMany_any s (by omega) _).mono ?_
  rintro e w2 ⟨rfl, b2⟩
  go_wp2_with fail
  refine (sWildMany_any s (by omega) _).mono ?_
  rintro e w3 ⟨rfl, b3⟩
  have B3 : Hid (Below w.heap.size w w3) := belStep b1 (belStep b2 b3)
  clear b1 b2 b3
  go_wp2_with fail
  refine (sWildOk_any s (by omega) _).mono ?_
  rintro e w' ⟨rfl, rfl⟩
  cases hk : okS s
  · go_wp2_with fail
    refine (sWildMany_any s (by omega) _).mono ?_
    rintro e w4 ⟨rfl, b4⟩
    go_wp2
    go_ret
    exact ⟨rfl, belStep B3.out b4⟩
  have h6 := okS_size hk
  obtain ⟨k, hk6, hkl⟩ : ∃ k : Nat, k < 6 ∧ (len' : Int) % 6 = (k : Int) := ⟨((len' : Int) % 6).toNat, by omega, by omega⟩
  have k0 : (0 : Int) ≤ (k : Int) := Int.natCast_nonneg _
  have hkz : k < s.size := by omega
  by_cases hx : byA s k = 120
  · have hb1 : (s[k]'hkz) = 120 := (byA_get _).trans hx
    have f2 : ∀ W : World, (Instr.slice 9 (.string s) none (some (.int .i64 (k : Int))) none).run Try.prog W = .ok (.string (s.extract 0 k)) W := fun W => by
      rw [run_slice_string_to_if (P := Try.prog) W 9 s .i64 (k : Int) Try.underlying9]
      simp [h6]
      omega
    have f3 : ∀ W : World, (Instr.slice 9 (.string s) (some (.int .i64 ((k : Int) + 1))) none none).run Try.prog W = .ok (.string (s.extract (k + 1) 6)) W := fun W => by
      rw [run_slice_string_from_if (P := Try.prog) W 9 s .i64 ((k : Int) + 1) Try.underlying9]
      have e1 : ((k : Int) + 1).toNat = k + 1 := by omega
      have e2 : (0 : Int) ≤ (k : Int) + 1 ∧ (k : Int) + 1 ≤ 6 := by omega
      simp [h6, e1, e2]
    have z2 : (s.extract 0 k).size = k := by simp; omega
    have z3 : (s.extract (k + 1) 6).size = 5 - k := by simp; omega
    have y1 : (⟨#[48]⟩ : ByteArray).size = 1 := rfl
    have y2 : (⟨#[49]⟩ : ByteArray).size = 1 := rfl
    have q3 : IntKind.i64.wrap ((k : Int) + 1) = (k : Int) + 1 := by rw [IntKind.wrap_i64]; omega
    have k6 : (k : Int) < 6 := by omega
    have q1 : ¬ 9223372036854775807 < k + 1 := by omega
    have q2 : ¬ 9223372036854775807 < k + 1 + (5 - k) := by omega
    have sA : (tn s k 48).size = 6 := turn_sizeH h6 hk6 48
    have sB : (tn s k 49).size = 6 := turn_sizeH h6 hk6 49
    have HT0 : Hid (s.extract 0 k ++ ⟨#[48]⟩ ++ s.extract (k + 1) 6 = tn s k 48) := rfl
    have HT1 : Hid (s.extract 0 k ++ ⟨#[49]⟩ ++ s.extract (k + 1) 6 = tn s k 49) := rfl
    have O1 : Hid (∀ W : World, Calls Try.prog 49 #[.string (tn s k 48), .string (tn s k 49)] W fun e w' => e = .returned (.tuple #[.string (andS (tn s k 48) (tn s k 49)), .bool false]) ∧ Below W.heap.size W w') := fun W => by
      have := iWildAnd_any (tn s k 48) (tn s k 49) (by omega) (by omega) W
      rwa [half_meet hk hk6] at this
    have O2 : Hid (∀ W : World, Calls Try.prog 50 #[.string (tn s k 48), .string s] W fun e w' => e = .returned (.bool true) ∧ Below W.heap.size W w') := fun W => by
      have := iWildIn_any (tn s k 48) s (by omega) (by omega) W
      rwa [half_in hk hk6 hx (by decide) (by decide)] at this
    have O3 : Hid (∀ W : World, Calls Try.prog 50 #[.string (tn s k 49), .string s] W fun e w' => e = .returned (.bool true) ∧ Below W.heap.size W w') := fun W => by
      have := iWildIn_any (tn s k 49) s (by omega) (by omega) W
      rwa [half_in hk hk6 hx (by decide) (by decide)] at this
    have O4 := Lib.hid (iWildMany_any (tn s k 48) (by omega))
    have O5 := Lib.hid (iWildMany_any (tn s k 49) (by omega))
    have HM := Lib.hid (half_many hk hk6 hx)
    have hp := manyB_pos (cf (tn s k 48))
    have hp' := manyB_pos (cf (tn s k 49))
    have m1 : 1 ≤ manyS (tn s k 48) ∧ manyS (tn s k 48) ≤ 64 := by unfold manyS; rw [tn_ok hk hk6 (by decide)]; exact hp
    have m2 : 1 ≤ manyS (tn s k 49) ∧ manyS (tn s k 49) ≤ 64 := by unfold manyS; rw [tn_ok hk hk6 (by decide)]; exact hp'
    have HS := Lib.hid (half_same hk hk6 hx)
    have HFA : Hid (Fit6 [tn s k 48, tn s k 49]) := strs_max fun x hx => by
      simp at hx
      rcases hx with rfl | rfl <;> omega
    have HFS : Hid (Fit6 [s]) := strs_max fun x hx => by simp at hx; subst hx; omega
    clear hp hp'
    go_wp2_with fail
    go_region
    go_wp2_with fail
    go_region
    go_wp2_with fail
    rw [HT0.out, HT1.out]
    clear HT0 HT1 z2 z3 f2 f3 sA sB h6
    generalize andS (tn s k 48) (tn s k 49) = tc at *
    generalize tn s k 48 = ta at *
    generalize tn s k 49 = tb at *
    refine (O1.out _).mono ?_
    rintro e w4 ⟨rfl, b4⟩
    have B4 : Hid (Below w.heap.size w w4) := B3.out.trans ((Below.refl _ _).drew.drew.trans (b4.mono B3.out.size))
    clear b4 B3
    rw [← HM.out]
    obtain ⟨m1a, m1b⟩ := m1
    obtain ⟨m2a, m2b⟩ := m2
    clear HM
    generalize manyS ta = x at *
    generalize manyS tb = y at *
    go_wp2_with fail
    refine (O2.out _).mono ?_
    rintro e w5 ⟨rfl, b5⟩
    have B5 := Lib.hid (belStep B4.out b5)
    clear b5 B4
    go_wp2_with fail
    refine (O3.out _).mono ?_
    rintro e w6 ⟨rfl, b6⟩
    have B6 := Lib.hid (belStep B5.out b6)
    clear b6 B5
    go_wp2_with fail
    refine (O4.out _).mono ?_
    rintro e w7 ⟨rfl, b7⟩
    have B7 := Lib.hid (belStep B6.out b7)
    clear b7 B6
    go_wp2_with fail
    refine (O5.out _).mono ?_
    rintro e w8 ⟨rfl, b8⟩
    have B8 := Lib.hid (belStep B7.out b8)
    clear b8 B7 O1 O2 O3 O4 O5
    have A1 : Hid (StrRow (w8.alloc (.cells #[.string ta, .string tb] 9)) 0 (.slice (some ⟨w8.heap.size, 0, none⟩) 2 2) [ta, tb]) := twoRow w8 ta tb (Nat.zero_le _)
    have A1' : Hid (StrRow ((w8.alloc (.cells #[.string ta, .string tb] 9)).alloc (.cells #[.string s] 9)) 0 (.slice (some ⟨w8.heap.size, 0, none⟩) 2 2) [ta, tb]) := A1.out.below (below_alloc1 _ _)
    have A2 : Hid (StrRow ((w8.alloc (.cells #[.string ta, .string tb] 9)).alloc (.cells #[.string s] 9)) 0 (.slice (some ⟨w8.heap.size + 1, 0, none⟩) 1 1) [s]) := by
      show StrRow _ _ _ _
      have := oneRow (w8.alloc (.cells #[.string ta, .string tb] 9)) s (Nat.zero_le _)
      simpa using this
    have B9 : Hid (Below w.heap.size w ((w8.alloc (.cells #[.string ta, .string tb] 9)).alloc (.cells #[.string s] 9))) := belStep B8.out (below_alloc2 _ _ _)
    clear A1 B8
    go_wp2_with fail
    refine (iSpaceSame_any _ _ _ _ _ A1'.out.strs A2.out.strs HFA.out HFS.out).mono ?_
    rintro e w10 ⟨rfl, b10⟩
    rw [HS.out]
    go_wp2
    go_ret
    exact ⟨rfl, belStep B9.out b10⟩
  · have hb1 : (((s[k]'hkz).toNat : Int) != 120) = true := by
      rw [byA_get]
      have : (byA s k).toNat ≠ 120 := fun e => hx (by apply UInt8.toNat_inj.1; simpa using e)
      simp
      omega
    go_wp2
    go_ret
    exact ⟨rfl, B3.out⟩

set_option maxRecDepth 100000 in
theorem lifted_FnWildHalf (os : Os) (started : os.Started) (H : Type) (enc : TypeId × Value → H) :
    ReturnsInHanded {} Try.checked os 12 .any (Rows.fnWildHalfSpec.pre6 enc Try.prog Try.f12 Rows.fnWildHalfRow.domain false) (Rows.fnWildHalfSpec.post enc Try.prog Try.f12 false true false false) := by
  refine returnsInHanded_of_change (C := Try.checked) own started (by kernel_rfl) Try.func12
    (ChangeSpec.witness6 (enc := enc) (C := Try.checked) false ⟨#[], #[.slice none 0 0, .slice none 0 0], []⟩ 8 (by kernel_rfl) (by kernel_rfl) (by kernel_rfl) (by kernel_rfl)) ?_
  intro W base args ds gs before hval0 hW hcnd _
  have hval : ∀ (j : Nat) t v, Try.f12.params[j]? = some t → args[j]? = some v → Value.okWide Try.prog W .any base t v := hval0
  have hW' := hW
  obtain ⟨p, q, hA0, hV, rfl, hfz, hnd⟩ := hW
  have hA : DataW.TrodAll enc Try.prog W 0 (fun _ => true) true Try.f12.params.toList args.toList ds p := hA0
  rw [Try.params12] at hA hval
  obtain ⟨v0, vs0, d0, ds0, p0, q0, hargs, rfl, rfl, h0, r0⟩ := trodAll_cons hA
  obtain ⟨v1, vs1, d1, ds1, p1, q1, rfl, rfl, rfl, h1, r1⟩ := trodAll_cons r0
  obtain ⟨rfl, rfl, rfl⟩ := trodAll_nil r1
  obtain rfl : args = #[v0, v1] := by cases args; simp_all
  obtain ⟨rfl, rfl⟩ := trodVars_none hV
  have k0 := h0
  have lt0 : ∀ x ∈ p0, x.block < W.heap.size := by obtain ⟨m, hm⟩ := k0; exact DataW.trod_lt m _ _ _ hm
  have k1 := h1
  have lt1 : ∀ x ∈ p1, x.block < W.heap.size := by obtain ⟨m, hm⟩ := k1; exact DataW.trod_lt m _ _ _ hm
  obtain ⟨a0, len0, cap0, rfl⟩ := okWide_slice Try.underlying22 (hval 0 22 v0 rfl rfl)
  have w0 : BytesIn W W.heap.size a0 len0 cap0 := isRow_of h0
  obtain ⟨a1, len1, cap1, rfl⟩ := okWide_slice Try.underlying22 (hval 1 22 v1 rfl rfl)
  have w1 : BytesIn W W.heap.size a1 len1 cap1 := isRow_of h1
  clear hA0 hval0
  refine (walk_FnWildHalf a0 len0 cap0 a1 len1 cap1 W w0 w1).mono fun e W' ⟨he, bel⟩ => ?_
  subst he
  exact ⟨_, rfl, _, _, _, [], _, [], hW', trodAll_mk1 (shut_bool Try.underlying4 _), (trodAll_cons_mk (Below.trod laidOut (by kernel_rfl) (of_decide_eq_true (by kernel_rfl)) k0 bel lt0) (trodAll_cons_mk (Below.trod laidOut (by kernel_rfl) (of_decide_eq_true (by kernel_rfl)) k1 bel lt1) (trodAll_mk0))), rfl, bel.frame _, fun h => by cases h⟩

theorem over_FnWildHalf : Rows.fnWildHalfRow.holds Try.pinned (OpenSpec.ofChange Rows.fnWildHalfSpec) :=
  OpenClaim.holds_of_wide 12 Try.f12 rfl rfl rfl rfl rfl rfl rfl ⟨rfl, rfl, rfl, rfl, rfl⟩ rfl rfl rfl rfl rfl (by kernel_rfl) Try.func12 (by kernel_rfl)
    (of_decide_eq_true (by kernel_rfl)) (by unfold Func.isWrapper; first | (rw [if_pos (by decide +kernel)]; kernel_rfl) | (rw [if_neg (by decide +kernel)]; exact ⟨rfl, rfl⟩))
    (fun os started H enc _ => lifted_FnWildHalf os started H enc)

theorem proved_FnWildHalf : Rows.FnWildHalfSaid := over_FnWildHalf

end Go.Proofs.Ytndmedkkecikoaa
