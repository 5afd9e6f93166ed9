/-
  What the model's functions of chapter 2 return, at every text and every head (WildLess apart): the same as the program's.
-/
import Derived.Test.YtcipidcnkllanaaDoorWildImpl
import Derived.Deep.QuietTactic
import Derived.BigQuiet
namespace Go.Proofs.YtcipidcnkllanaaDoor
open Go.ChangeShapes Go.WideShapes Go.ChangeAt Go.RowKit Go.Joins
set_option linter.unusedVariables false

theorem okS_false_at {s : ByteArray} {k : Nat} (hk : k < s.size) (hb : sgn (byA s k) = false) : okS s = false := by
  unfold okS
  by_cases h6 : s.size = 6
  · rw [all6_not.2 ⟨k, by omega, hb⟩]; simp
  · simp [h6]
theorem okS_end {s : ByteArray} (h : ∀ j, j < s.size → sgn (byA s j) = true) : okS s = ((s.size : Int) == 6) := by
  unfold okS
  by_cases h6 : s.size = 6
  · rw [all6_iff.2 fun i hi => h i (by omega)]; simp [h6]
  · have : ((s.size : Int) == 6) = false := by simp; omega
    rw [this]
    simp [h6]
theorem byte_ne {b : UInt8} (n : Nat) (z : Int) (hz : z = (n : Int)) (hn : n < 256) (h : b ≠ UInt8.ofNat n) : ((b.toNat : Int) == z) = false ∧ ((b.toNat : Int) != z) = true := by
  subst hz
  have : b.toNat ≠ n := fun e => h (by apply UInt8.toNat_inj.1; simp [e]; omega)
  constructor <;> simp <;> omega

/-! ### Bits of a number -/

def shr (n : Int) : Nat → Int | 0 => n | j + 1 => shr n j / 2
theorem shr_bound {n : Int} (h0 : 0 ≤ n) (h1 : n ≤ 63) : ∀ j, 0 ≤ shr n j ∧ shr n j ≤ 63
  | 0 => ⟨h0, h1⟩
  | j + 1 => by
    obtain ⟨a, b⟩ := shr_bound h0 h1 j
    simp only [shr]
    omega
def bitV (b : Bool) : UInt8 := bif b then 49 else 48
theorem shr_of6 : ∀ a b c d e f : Bool, shr (of6 a b c d e f) 5 % 2 = (bif a then 1 else 0) ∧ shr (of6 a b c d e f) 4 % 2 = (bif b then 1 else 0) ∧ shr (of6 a b c d e f) 3 % 2 = (bif c then 1 else 0)
    ∧ shr (of6 a b c d e f) 2 % 2 = (bif d then 1 else 0) ∧ shr (of6 a b c d e f) 1 % 2 = (bif e then 1 else 0) ∧ shr (of6 a b c d e f) 0 % 2 = (bif f then 1 else 0) := by decide +kernel
theorem shr_ofB (f : Nat → Bool) {i : Nat} (hi : i < 6) : shr (ofB f) (5 - i) % 2 = (bif f i then 1 else 0) := by
  obtain ⟨h0, h1, h2, h3, h4, h5⟩ := shr_of6 (f 0) (f 1) (f 2) (f 3) (f 4) (f 5)
  match i, hi with
  | 0, _ => exact h0
  | 1, _ => exact h1
  | 2, _ => exact h2
  | 3, _ => exact h3
  | 4, _ => exact h4
  | 5, _ => exact h5

theorem belDrewN {B : Nat} {a w : World} (h : Below B a w) (n : Nat) : Below B a (w.drewN n) := ⟨h.os, h.tape, h.output, h.size, h.block⟩

/-! ### Heads of a pattern -/

theorem pos_has {s : ByteArray} (hk : okS s = true) {i : Nat} (hi : i < 6) (b : Bool) : ((b && cf s i) == vf s i) = ((byA s i == 120) || (byA s i == bitV b)) := by
  rcases okS_sgn hk i hi with e | e | e <;> cases b <;> simp [cf, vf, e, bitV]
theorem hasM_pos {s : ByteArray} (hk : okS s = true) (f : Nat → Bool) : hasM (cf s) (vf s) f = all6 (fun i => (byA s i == 120) || (byA s i == bitV (f i))) :=
  all6_congr fun i hi => pos_has hk hi (f i)

theorem u8_ne {a b : UInt8} (h : (a == b) = false) : ((a.toNat : Int) != (b.toNat : Int)) = true := by
  have : a ≠ b := by simpa using h
  have : a.toNat ≠ b.toNat := fun e => this (UInt8.toNat_inj.1 e)
  simp; omega

end Go.Proofs.YtcipidcnkllanaaDoor
