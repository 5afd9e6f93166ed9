/-
  Plain facts on patterns and heads: what two patterns have in common, counted and head by head. No program is walked here but the statements' own draw of a head by its number.
-/
import Derived.Test.YtddkpimmcmnogabDrawWild
namespace Go.Proofs.Ytddkpimmcmnogab
open Go.ChangeShapes Go.WideShapes Go.ChangeAt Go.RowKit Go.Joins
set_option linter.unusedVariables false

/-- A head's cells, in every world that keeps what was there. -/
theorem cellsHeld {W : World} {i : Nat} {x y z : Value} (h : W.cell? ⟨i, 0, none⟩ = some x ∧ W.cell? ⟨i, 1, none⟩ = some y ∧ W.cell? ⟨i, 2, none⟩ = some z ∧ ∀ o, W.frozen? ⟨i, o, none⟩ = false) (hi : i < W.heap.size) (w' : World) (hb : Below W.heap.size W w') :
    w'.cell? ⟨i, 0, none⟩ = some x ∧ w'.cell? ⟨i, 1, none⟩ = some y ∧ w'.cell? ⟨i, 2, none⟩ = some z := by
  have hc := belCell hb
  exact ⟨(hc _ _ hi).trans h.1, (hc _ _ hi).trans h.2.1, (hc _ _ hi).trans h.2.2.1⟩

/-- The bits of a number of a head. -/
def kb (n : Nat) (i : Nat) : Bool := hB ((n : Int) / 16 % 4) ((n : Int) / 4 % 4) ((n : Int) % 4) i
theorem lx_ok (n : Nat) : okB ((n : Int) / 16 % 4) ((n : Int) / 4 % 4) ((n : Int) % 4) = true := okB_mk (by omega) (by omega) (by omega) (by omega) (by omega) (by omega)
theorem hasS_lx (s : ByteArray) (n : Nat) : hasS s ((n : Int) / 16 % 4) ((n : Int) / 4 % 4) ((n : Int) % 4) = (okS s && hasM (cf s) (vf s) (kb n)) := by
  unfold hasS
  rw [lx_ok]
  rfl

/-! ### In common -/

theorem meetB_comm (c v c' v' : Nat → Bool) : meetB c v c' v' = meetB c' v' c v := all6_congr fun i _ => by cases c i <;> cases v i <;> cases c' i <;> cases v' i <;> rfl
theorem meetS_comm (a b : ByteArray) : meetS b a = meetS a b := by
  unfold meetS
  rw [meetB_comm]
  cases okS a <;> cases okS b <;> rfl
theorem andS_comm (a b : ByteArray) : andS b a = andS a b := by
  unfold andS
  rw [meetS_comm]
  cases meetS a b
  · rfl
  · show txt _ _ = txt _ _
    unfold txt
    refine mk6_congr fun i _ => ?_
    show chr (cf b i || cf a i) (vf b i || vf a i) = chr (cf a i || cf b i) (vf a i || vf b i)
    rw [Bool.or_comm (cf b i), Bool.or_comm (vf b i)]
theorem vf_cf {s : ByteArray} (i : Nat) (h : vf s i = true) : cf s i = true := by
  unfold vf at h
  unfold cf
  rw [beq_iff_eq] at h
  rw [h]
  rfl
theorem okS_andS {a b : ByteArray} (h : meetS a b = true) : okS (andS a b) = true := by
  unfold andS
  rw [h]
  exact okS_txt _ _
theorem cf_andS {a b : ByteArray} (h : meetS a b = true) {i : Nat} (hi : i < 6) : cf (andS a b) i = (cf a i || cf b i) := by
  unfold andS
  rw [h]
  exact cf_txt _ _ hi
theorem vf_andS {a b : ByteArray} (h : meetS a b = true) {i : Nat} (hi : i < 6) : vf (andS a b) i = (vf a i || vf b i) := by
  unfold andS
  rw [h]
  show vf (txt _ _) i = _
  rw [vf_txt _ _ hi]
  have h1 := vf_cf (s := a) i
  have h2 := vf_cf (s := b) i
  cases h3 : vf a i
  · cases h4 : vf b i
    · simp
    · rw [h2 h4]; simp
  · rw [h1 h3]; simp
/-- A number is of both, if there is something in common, and it is of that. -/
theorem hasM_and {a b : ByteArray} (ha : okS a = true) (hb : okS b = true) (f : Nat → Bool) :
    (hasM (cf a) (vf a) f && hasM (cf b) (vf b) f) = (meetS a b && hasM (cf (andS a b)) (vf (andS a b)) f) := by
  cases hm : meetS a b
  · have hm' : meetB (cf a) (vf a) (cf b) (vf b) = false := by unfold meetS at hm; rw [ha, hb] at hm; simpa using hm
    obtain ⟨i, hi, he⟩ := all6_not.1 hm'
    rw [Bool.false_and]
    cases h1 : hasM (cf a) (vf a) f
    · rfl
    · cases h2 : hasM (cf b) (vf b) f
      · rfl
      · have e1 := all6_iff.1 h1 i hi
        have e2 := all6_iff.1 h2 i hi
        revert he e1 e2
        cases cf a i <;> cases vf a i <;> cases cf b i <;> cases vf b i <;> cases f i <;> simp
  · rw [Bool.true_and]
    have hm' : meetB (cf a) (vf a) (cf b) (vf b) = true := by unfold meetS at hm; rw [ha, hb] at hm; simpa using hm
    rw [Bool.eq_iff_iff, Bool.and_eq_true]
    unfold hasM
    rw [all6_iff, all6_iff, all6_iff]
    constructor
    · rintro ⟨h1, h2⟩ i hi
      have e1 := h1 i hi
      have e2 := h2 i hi
      rw [cf_andS hm hi, vf_andS hm hi]
      revert e1 e2
      cases cf a i <;> cases vf a i <;> cases cf b i <;> cases vf b i <;> cases f i <;> simp
    · intro h
      have key : ∀ i, i < 6 → ((f i && cf a i) == vf a i) = true ∧ ((f i && cf b i) == vf b i) = true := fun i hi => by
        have e := h i hi
        have em := all6_iff.1 hm' i hi
        have h1 := vf_cf (s := a) i
        have h2 := vf_cf (s := b) i
        rw [cf_andS hm hi, vf_andS hm hi] at e
        revert e em h1 h2
        cases cf a i <;> cases vf a i <;> cases cf b i <;> cases vf b i <;> cases f i <;> simp
      exact ⟨fun i hi => (key i hi).1, fun i hi => (key i hi).2⟩
theorem hasS_and (a b : ByteArray) (ha : okS a = true) (hb : okS b = true) (n : Nat) :
    (hasS a ((n : Int) / 16 % 4) ((n : Int) / 4 % 4) ((n : Int) % 4) && hasS b ((n : Int) / 16 % 4) ((n : Int) / 4 % 4) ((n : Int) % 4))
      = (meetS a b && hasS (andS a b) ((n : Int) / 16 % 4) ((n : Int) / 4 % 4) ((n : Int) % 4)) := by
  rw [hasS_lx, hasS_lx, hasS_lx, ha, hb, Bool.true_and, Bool.true_and, hasM_and ha hb]
  cases hm : meetS a b
  · rfl
  · rw [okS_andS hm]; rfl
theorem andS_size (a b : ByteArray) : (andS a b).size ≤ 6 := by
  unfold andS
  cases meetS a b
  · exact Nat.zero_le _
  · exact Nat.le_refl _

end Go.Proofs.Ytddkpimmcmnogab
