/-
  What the texts of rules are that the statements draw: short ones.
-/
import Derived.Test.YtlbbhiigfgegeaaDoorRuleText
import Derived.Test.YtlbbhiigfgegeaaDoorRuleDrawB
import Derived.Deep.RegionHeld3
namespace Go.Proofs.YtlbbhiigfgegeaaDoor
open Go.ChangeShapes Go.WideShapes Go.ChangeAt Go.RowKit Go.Joins
set_option linter.unusedVariables false

/-- One of a list of strings is picked. -/
def OfPostR (k : Nat) (S : Nat → ByteArray) (g B : Nat) (w : World) (e : Ending) (w' : World) : Prop :=
  ∃ i, i < k ∧ e = .returned (.string (S i)) ∧ RdOk w' g (B + 1) ∧ w.grownBy w' (some g)

set_option maxHeartbeats 400000 in
theorem ofR_any (w : World) (g B j k : Nat) (S : Nat → ByteArray) (hr : RdOk w g B) (hB : B ≤ 1000000000) (hk : 1 ≤ k) (hk2 : k ≤ 1000) (hne : j ≠ g) (hj : j < w.heap.size)
    (hc : ∀ i, i < k → w.cell? ⟨j, i, none⟩ = some (.string (S i))) :
    Calls Tryd.prog 46 #[.pointer (some ⟨g, 0, none⟩), .slice (some ⟨j, 0, none⟩) k k] w (OfPostR k S g B w) := by
  have HR := Lib.hid hr
  have HC := Lib.hid hc
  clear hr hc
  go_enter Tryd.func46, Tryd.ntmps46
  go_wp2_with fail
  refine (pick_any _ _ _ _ HR.out hB (by omega)).mono ?_
  rintro e w1 ⟨v, v0, v1, rfl, hr1, g1⟩
  have HR1 := Lib.hid hr1
  clear hr1
  have hcell : w1.cell? ⟨j, v.toNat, none⟩ = some (.string (S v.toNat)) := (gCell g1 _ hj hne).trans (HC.out _ (by omega))
  go_wp2
  go_ret
  exact ⟨v.toNat, by omega, rfl, HR1.out, g1⟩

/-- A text is drawn from a code. -/
def TextR (w : World) (e : Ending) (w' : World) : Prop := ∃ s : ByteArray, s.size ≤ 1000 ∧ e = .returned (.string s) ∧ Below w.heap.size w w'

def fourR : Nat → ByteArray | 0 => ⟨#[48]⟩ | 1 => ⟨#[32]⟩ | 2 => ⟨#[120]⟩ | _ => ⟨#[45]⟩
theorem fourR_size (i : Nat) : (fourR i).size = 1 := by unfold fourR; split <;> rfl
theorem rT_size (p : Int) (s : ByteArray) (o t : Int) : (rT p s o t).size ≤ 12 := by
  cases hk : rOk p s o t
  · rw [rT_no hk]
    decide
  · rw [rT_yes hk, rTxt_size (rOk_true hk).2.1]
    exact Nat.le_refl _

set_option maxHeartbeats 2000000 in
theorem drawRuleRead_any (w : World) (a : Option Addr) (len cap : Nat) (hb : BytesIn w w.heap.size a len cap) :
    Calls Tryd.prog 19 #[.slice a len cap] w (TextR w) := by
  have HB := Lib.hid hb
  clear hb
  go_enter Tryd.func19, Tryd.ntmps19
  go_wp2_with fail
  refine (open_any _ _ _ _ HB.out).mono ?_
  rintro e w1 ⟨rfl, hr, b1⟩
  have HR := Lib.hid hr
  have s1 := hr.lt
  clear hr
  go_wp2_with fail
  refine (l91Rule_any _ _ _ HR.out (by omega)).mono ?_
  rintro e w2 ⟨p, m, o, t, hn, rfl, hr2, g2⟩
  have hm7 : m.size ≤ 1048576 := by have := hn.2.1; omega
  have HR2 := Lib.hid hr2
  have s2 := g2.size
  clear hr2 hn
  have hsz := rT_size p m o t
  have HT := Lib.hid (sRuleText_any p m hm7 o t)
  generalize rT p m o t = s at hsz HT
  go_wp2_with fail
  refine (HT.out _).mono ?_
  rintro e w3 ⟨rfl, b3⟩
  have HR3 := Lib.hid (HR2.out.below b3 (by omega))
  have s3 := b3.size
  go_wp2_with fail
  refine (pick_any _ _ _ _ HR3.out (by omega) (by omega)).mono ?_
  rintro e w4 ⟨at', at0, at1, rfl, hr4, g4⟩
  have HR4 := Lib.hid hr4
  have s4 := g4.size
  clear hr4
  go_wp2_with fail
  refine (pick_any _ _ _ _ HR4.out (by omega) (by omega)).mono ?_
  rintro e w5 ⟨v, v0, v1, rfl, hr5, g5⟩
  have HR5 := Lib.hid hr5
  have s5 := g5.size
  clear hr5
  have B5 : Hid (Below w.heap.size w w5) := (((b1.trans (gBel g2 (Nat.le_refl _) (by omega))).trans (b3.mono (by omega))).trans (gBel g4 (Nat.le_refl _) (by omega))).trans (gBel g5 (Nat.le_refl _) (by omega))
  clear g2 g4 g5 b1 b3 HR HR2 HR3 HR4
  have at2 : at' ≤ (s.size : Int) := by omega
  by_cases hv0 : v = 0
  · subst hv0
    go_wp2
    go_ret
    exact ⟨_, by simp; omega, rfl, B5.out⟩
  have e0 : (v == 0) = false := by simpa using hv0
  by_cases hv1 : v = 1
  · subst hv1
    have HRs := Lib.hid (rdDrew (HR5.out.alloc (.cells #[.string ⟨#[48]⟩, .string ⟨#[32]⟩, .string ⟨#[120]⟩, .string ⟨#[45]⟩] 9)))
    have hc : Hid (∀ i, i < 4 → (w5.alloc (.cells #[.string ⟨#[48]⟩, .string ⟨#[32]⟩, .string ⟨#[120]⟩, .string ⟨#[45]⟩] 9)).drew.cell? ⟨w5.heap.size, i, none⟩ = some (.string (fourR i))) := by
      intro i hi
      show (w5.alloc _).cell? _ = _
      rw [cell_of_block (newBlock _ _)]
      obtain rfl | rfl | rfl | rfl : i = 0 ∨ i = 1 ∨ i = 2 ∨ i = 3 := by omega
      all_goals rfl
    have hts := fourR_size
    have hq1 : ¬ 9223372036854775807 < at'.toNat + 1 := by omega
    have hq2 : ¬ 9223372036854775807 < at'.toNat + 1 + (s.size - at'.toNat) := by omega
    go_wp2
    go_region_held3 (fun w' => True) (trivial)
      (first
        | (go_at_call 46; ((with_reducible refine (ofR_any _ _ _ _ _ fourR HRs.out ?_ ?_ ?_ ?_ ?_ hc.out).mono ?_); omega; omega; omega; omega; simp; rintro e w6 ⟨i, hi, rfl, hr6, g6⟩)))
    clear hr6
    go_wp2
    go_ret
    exact ⟨_, by simp [hts]; omega, rfl, ((B5.out.alloc (by omega) _).drew).trans (gBel g6 (Nat.le_refl _) (by simp; omega))⟩
  have e1 : (v == 1) = false := by simpa using hv1
  go_wp2
  go_ret
  exact ⟨s, by omega, rfl, B5.out⟩

end Go.Proofs.YtlbbhiigfgegeaaDoor
