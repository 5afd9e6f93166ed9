/-
  What the model's functions of chapter 2 return, at every text and every head (WildLess apart): the same as the program's.
-/
import Derived.Test.YtndmedkkecikoaaWildImpl
import Derived.Deep.QuietTactic
import Derived.BigQuiet
namespace Go.Proofs.Ytndmedkkecikoaa
open Go.ChangeShapes Go.WideShapes Go.ChangeAt Go.RowKit Go.Joins
set_option linter.unusedVariables false

theorem okS_false_at {s : ByteArray} {k : Nat} (hk : k < s.size) (hb : sgn (byA s k) = false) : okS s = false := by
  unfold okS
  by_cases h6 : s.size = 6
  · rw [all6_not.2 ⟨k, by omega, hb⟩]; simp
  · simp [h6]
theorem okS_end {s : ByteArray} (h : ∀ j, j < s.size → sgn (byA s j) = true) : okS s = ((s.size : Int) == 6) := by
  unfold okS
  by_cases h6 : s.size = 6
  · rw [all6_iff.2 fun i hi => h i (by omega)]; simp [h6]
  · have : ((s.size : Int) == 6) = false := by simp; omega
    rw [this]
    simp [h6]
theorem byte_ne {b : UInt8} (n : Nat) (z : Int) (hz : z = (n : Int)) (hn : n < 256) (h : b ≠ UInt8.ofNat n) : ((b.toNat : Int) == z) = false ∧ ((b.toNat : Int) != z) = true := by
  subst hz
  have : b.toNat ≠ n := fun e => h (by apply UInt8.toNat_inj.1; simp [e]; omega)
  constructor <;> simp <;> omega

set_option maxHeartbeats 1000000 in
theorem sWildOk_any (s : ByteArray) (hm : s.size ≤ 1048576) (w : World) :
    Calls Try.prog 46 #[.string s] w fun e w' => e = .returned (.bool (okS s)) ∧ w = w' := by
  go_enter Try.func46, Try.ntmps46
  go_wp2
  go_loop [3] (fun i => ∃ k : Nat, k ≤ s.size ∧ i = .int .i64 k ∧ ∀ j, j < k → sgn (byA s j) = true) (fun i => s.size - (intOf i).toNat)
  case atStart => exact ⟨0, Nat.zero_le _, rfl, fun j hj => by omega⟩
  case round =>
    obtain ⟨k, hk, rfl, hall⟩ := hrel
    have HA := Lib.hid hall
    clear hall
    by_cases hlt : k < s.size
    · have hb : (s[k]'(by omega)) = byA s k := byA_get _
      have HN : Hid (sgn (byA s k) = true → ∀ j, j < k + 1 → sgn (byA s j) = true) := by
        intro h j hj
        rcases Nat.lt_or_ge j k with h' | h'
        · exact HA.out j h'
        · obtain rfl : j = k := by omega
          exact h
      have HF : Hid (sgn (byA s k) = false → okS s = false) := okS_false_at hlt
      by_cases e48 : byA s k = 48
      · have HN1 := Lib.hid (HN.out (by rw [e48]; rfl))
        go_wp2
        go_round
        case rel => exact ⟨k + 1, by omega, by go_num, HN1.out⟩
        case measure => simp [intOf]; omega
      have n48 := (byte_ne 48 48 rfl (by omega) e48).2
      by_cases e49 : byA s k = 49
      · have HN1 := Lib.hid (HN.out (by rw [e49]; rfl))
        clear n48 e48
        go_wp2
        go_round
        case rel => exact ⟨k + 1, by omega, by go_num, HN1.out⟩
        case measure => simp [intOf]; omega
      have n49 := (byte_ne 49 49 rfl (by omega) e49).2
      by_cases e120 : byA s k = 120
      · have HN1 := Lib.hid (HN.out (by rw [e120]; rfl))
        clear n48 e48 n49 e49
        go_wp2
        go_round
        case rel => exact ⟨k + 1, by omega, by go_num, HN1.out⟩
        case measure => simp [intOf]; omega
      have n120 := (byte_ne 120 120 rfl (by omega) e120).2
      have HF1 := Lib.hid (HF.out (by simp [sgn, e48, e49, e120]))
      clear e48 e49 e120
      go_wp2
      go_ret
      exact ⟨by rw [HF1.out]; try rfl, rfl⟩
    · obtain rfl : k = s.size := by omega
      have HE := Lib.hid (okS_end HA.out)
      go_wp2
      go_ret
      exact ⟨by rw [HE.out]; try rfl, rfl⟩

/-! ### Bits of a number -/

def shr (n : Int) : Nat → Int | 0 => n | j + 1 => shr n j / 2
theorem shr_bound {n : Int} (h0 : 0 ≤ n) (h1 : n ≤ 63) : ∀ j, 0 ≤ shr n j ∧ shr n j ≤ 63
  | 0 => ⟨h0, h1⟩
  | j + 1 => by
    obtain ⟨a, b⟩ := shr_bound h0 h1 j
    simp only [shr]
    omega
def bitV (b : Bool) : UInt8 := bif b then 49 else 48
theorem shr_of6 : ∀ a b c d e f : Bool, shr (of6 a b c d e f) 5 % 2 = (bif a then 1 else 0) ∧ shr (of6 a b c d e f) 4 % 2 = (bif b then 1 else 0) ∧ shr (of6 a b c d e f) 3 % 2 = (bif c then 1 else 0)
    ∧ shr (of6 a b c d e f) 2 % 2 = (bif d then 1 else 0) ∧ shr (of6 a b c d e f) 1 % 2 = (bif e then 1 else 0) ∧ shr (of6 a b c d e f) 0 % 2 = (bif f then 1 else 0) := by decide +kernel
theorem shr_ofB (f : Nat → Bool) {i : Nat} (hi : i < 6) : shr (ofB f) (5 - i) % 2 = (bif f i then 1 else 0) := by
  obtain ⟨h0, h1, h2, h3, h4, h5⟩ := shr_of6 (f 0) (f 1) (f 2) (f 3) (f 4) (f 5)
  match i, hi with
  | 0, _ => exact h0
  | 1, _ => exact h1
  | 2, _ => exact h2
  | 3, _ => exact h3
  | 4, _ => exact h4
  | 5, _ => exact h5

set_option maxHeartbeats 1000000 in
theorem l2Bit_at (f : Nat → Bool) (i : Nat) (hi : i < 6) (w : World) :
    Calls Try.prog 95 #[.int .i64 (ofB f), .int .i64 i] w fun e w' => e = .returned (.int .u8 ((bitV (f i)).toNat : Int)) ∧ w = w' := by
  have HB := Lib.hid (shr_bound (ofB_bound f).1 (ofB_bound f).2)
  have HS := Lib.hid (shr_ofB f hi)
  generalize ofB f = n at *
  go_enter Try.func95, Try.ntmps95
  go_wp2
  go_loop [0, 5] (fun x k => ∃ j : Nat, j + i ≤ 5 ∧ k = .int .i64 ((5 - j : Nat) : Int) ∧ x = .int .i64 (shr n j)) (fun _ k => (intOf k).toNat)
  case atStart => exact ⟨0, by omega, rfl, rfl⟩
  case round =>
    obtain ⟨j, hj, rfl, rfl⟩ := hrel
    obtain ⟨q0, q1⟩ := HB.out j
    by_cases hlt : j + i < 5
    · have hg : (i : Int) < ((5 - j : Nat) : Int) := by omega
      have e1 : (shr n j).tdiv 2 = shr n j / 2 := Int.tdiv_eq_ediv_of_nonneg q0
      go_wp2
      go_round
      case rel => exact ⟨j + 1, by omega, by congr 1; omega, rfl⟩
      case measure => simp [intOf]; omega
    · obtain rfl : j = 5 - i := by omega
      have hg : ¬ (i : Int) < ((5 - (5 - i) : Nat) : Int) := by omega
      have hs := HS.out
      cases hf : f i
      · rw [hf] at hs
        go_wp2
        go_ret
        exact ⟨rfl, rfl⟩
      · rw [hf] at hs
        go_wp2
        go_ret
        exact ⟨rfl, rfl⟩

theorem belDrewN {B : Nat} {a w : World} (h : Below B a w) (n : Nat) : Below B a (w.drewN n) := ⟨h.os, h.tape, h.output, h.size, h.block⟩

/-! ### Heads of a pattern -/

theorem pos_has {s : ByteArray} (hk : okS s = true) {i : Nat} (hi : i < 6) (b : Bool) : ((b && cf s i) == vf s i) = ((byA s i == 120) || (byA s i == bitV b)) := by
  rcases okS_sgn hk i hi with e | e | e <;> cases b <;> simp [cf, vf, e, bitV]
theorem hasM_pos {s : ByteArray} (hk : okS s = true) (f : Nat → Bool) : hasM (cf s) (vf s) f = all6 (fun i => (byA s i == 120) || (byA s i == bitV (f i))) :=
  all6_congr fun i hi => pos_has hk hi (f i)

theorem u8_ne {a b : UInt8} (h : (a == b) = false) : ((a.toNat : Int) != (b.toNat : Int)) = true := by
  have : a ≠ b := by simpa using h
  have : a.toNat ≠ b.toNat := fun e => this (UInt8.toNat_inj.1 e)
  simp; omega

set_option maxHeartbeats 1000000 in
theorem l2Has_any (s : ByteArray) (hk : okS s = true) (f : Nat → Bool) (w : World) :
    Calls Try.prog 83 #[.string s, .int .i64 (ofB f)] w fun e w' => e = .returned (.bool (hasM (cf s) (vf s) f)) ∧ Below w.heap.size w w' := by
  have h6 : s.size = 6 := okS_size hk
  rw [hasM_pos hk]
  clear hk
  go_enter Try.func83, Try.ntmps83
  go_wp2
  go_loopw [5] (fun i wr => ∃ k : Nat, k ≤ 6 ∧ i = .int .i64 k ∧ Below w.heap.size w wr ∧ ∀ j, j < k → ((byA s j == 120) || (byA s j == bitV (f j))) = true) (fun i _ => 6 - (intOf i).toNat)
  case atStart => exact ⟨0, Nat.zero_le _, rfl, Below.refl _ _, fun j hj => by omega⟩
  case round =>
    obtain ⟨k, hk, rfl, hbel, hall⟩ := hrel
    have HA := Lib.hid hall
    clear hall
    by_cases hlt : k < 6
    · have hb : (s[k]'(by omega)) = byA s k := byA_get _
      have hz : (k : Int) < (s.size : Int) := by omega
      have HN : Hid (((byA s k == 120) || (byA s k == bitV (f k))) = true → ∀ j, j < k + 1 → ((byA s j == 120) || (byA s j == bitV (f j))) = true) := by
        intro h j hj
        rcases Nat.lt_or_ge j k with h' | h'
        · exact HA.out j h'
        · obtain rfl : j = k := by omega
          exact h
      by_cases e120 : byA s k = 120
      · have HN1 := Lib.hid (HN.out (by rw [e120]; rfl))
        rw [e120] at hb
        have ht : (((120 : UInt8).toNat : Int) != 120) = false := rfl
        go_wp2_with fail
        go_quiet (fail)
        go_wp2
        go_roundw
        case rel => exact ⟨k + 1, by omega, by go_num, belDrewN hbel nq, HN1.out⟩
        case measure => simp [intOf]; omega
      have n120 := (byte_ne 120 120 rfl (by omega) e120).2
      cases eb : (byA s k == bitV (f k))
      · have ne := u8_ne eb
        have HE : Hid (all6 (fun i => (byA s i == 120) || (byA s i == bitV (f i))) = false) := all6_not.2 ⟨k, hlt, by rw [eb]; simpa using e120⟩
        clear e120 eb
        go_wp2_with fail
        go_region_with (go_at_call 95; refine (l2Bit_at _ _ hlt _).mono ?_; rintro e wq ⟨rfl, rfl⟩)
        all_goals
          go_wp2
          go_ret
          exact ⟨by rw [HE.out]; try rfl, hbel.drew⟩
      · have HN1 := Lib.hid (HN.out (by rw [eb]; simp))
        have eq : byA s k = bitV (f k) := by simpa using eb
        have ne : (((byA s k).toNat : Int) != ((bitV (f k)).toNat : Int)) = false := by rw [eq]; simp
        clear e120 eb eq
        go_wp2_with fail
        go_region_with (go_at_call 95; refine (l2Bit_at _ _ hlt _).mono ?_; rintro e wq ⟨rfl, rfl⟩)
        all_goals
          go_wp2
          go_roundw
          case rel => exact ⟨k + 1, by omega, by go_num, hbel.drew, HN1.out⟩
          case measure => simp [intOf]; omega
    · obtain rfl : k = 6 := by omega
      have HE : Hid (all6 (fun i => (byA s i == 120) || (byA s i == bitV (f i))) = true) := all6_iff.2 HA.out
      go_wp2
      go_ret
      exact ⟨by rw [HE.out]; try rfl, hbel⟩

end Go.Proofs.Ytndmedkkecikoaa
