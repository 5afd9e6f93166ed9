/-
  Plain facts on patterns: of three patterns it does not matter which are taken first; one pattern is in another one, if all its heads are.
-/
import Derived.Test.YtddkpimmcmnogabWildCount
namespace Go.Proofs.Ytddkpimmcmnogab
open Go.ChangeShapes Go.WideShapes Go.ChangeAt Go.RowKit Go.Joins
set_option linter.unusedVariables false

theorem meetS_parts {a b : ByteArray} (h : meetS a b = true) : okS a = true ∧ okS b = true ∧ meetB (cf a) (vf a) (cf b) (vf b) = true := by
  unfold meetS at h
  simp only [Bool.and_eq_true] at h
  exact h
theorem meetS_mk {a b : ByteArray} (ha : okS a = true) (hb : okS b = true) (h : meetB (cf a) (vf a) (cf b) (vf b) = true) : meetS a b = true := by
  unfold meetS
  rw [ha, hb, h]
  rfl
theorem andS_yes {a b : ByteArray} (h : meetS a b = true) : andS a b = txt (fun i => cf a i || cf b i) (fun i => vf a i || vf b i) := by unfold andS; rw [h]; rfl
theorem txt_congr {c v c' v' : Nat → Bool} (h : ∀ i, i < 6 → c i = c' i ∧ v i = v' i) : txt c v = txt c' v' := mk6_congr fun i hi => by rw [(h i hi).1, (h i hi).2]

/-- Of three patterns. -/
theorem and_three {a b c : ByteArray} (h1 : meetS a b = true) (h2 : meetS (andS a b) c = true) : meetS b c = true ∧ meetS a (andS b c) = true ∧ andS a (andS b c) = andS (andS a b) c := by
  obtain ⟨ha, hb, hm⟩ := meetS_parts h1
  obtain ⟨hab, hc, hm2⟩ := meetS_parts h2
  have key : ∀ i, i < 6 → (!((vf b i ^^ vf c i) && cf b i && cf c i)) = true ∧ (!((vf a i ^^ (vf b i || vf c i)) && cf a i && (cf b i || cf c i))) = true := fun i hi => by
    have e1 := all6_iff.1 hm i hi
    have e2 := all6_iff.1 hm2 i hi
    rw [cf_andS h1 hi, vf_andS h1 hi] at e2
    have ua := vf_cf (s := a) i
    have ub := vf_cf (s := b) i
    have uc := vf_cf (s := c) i
    revert e1 e2 ua ub uc
    cases cf a i <;> cases vf a i <;> cases cf b i <;> cases vf b i <;> cases cf c i <;> cases vf c i <;> simp
  have m1 : meetS b c = true := meetS_mk hb hc (all6_iff.2 fun i hi => (key i hi).1)
  have m2 : meetS a (andS b c) = true := meetS_mk ha (okS_andS m1) (all6_iff.2 fun i hi => by
    rw [cf_andS m1 hi, vf_andS m1 hi]
    exact (key i hi).2)
  refine ⟨m1, m2, ?_⟩
  rw [andS_yes m2, andS_yes h2]
  refine txt_congr fun i hi => ?_
  rw [cf_andS m1 hi, vf_andS m1 hi, cf_andS h1 hi, vf_andS h1 hi]
  exact ⟨(Bool.or_assoc _ _ _).symm, (Bool.or_assoc _ _ _).symm⟩
/-- A pattern with itself. -/
theorem and_self {a : ByteArray} (ha : okS a = true) : meetS a a = true ∧ andS a a = a := by
  have m : meetS a a = true := meetS_mk ha ha (all6_iff.2 fun i hi => by cases vf a i <;> rfl)
  refine ⟨m, ?_⟩
  rw [andS_yes m]
  have := txt_back ha
  rw [← this]
  refine txt_congr fun i hi => ?_
  rw [this]
  exact ⟨Bool.or_self _, Bool.or_self _⟩

/-! ### All of the first k -/

def preTo (P : Nat → Bool) : Nat → Bool | 0 => true | k + 1 => preTo P k && P k
theorem preTo_iff (P : Nat → Bool) : ∀ k, preTo P k = true ↔ ∀ i, i < k → P i = true
  | 0 => ⟨fun _ i hi => by omega, fun _ => rfl⟩
  | k + 1 => by
    simp only [preTo, Bool.and_eq_true, preTo_iff P k]
    constructor
    · rintro ⟨h1, h2⟩ i hi
      rcases Nat.lt_or_ge i k with h | h
      · exact h1 i h
      · obtain rfl : i = k := by omega
        exact h2
    · intro h
      exact ⟨fun i hi => h i (by omega), h k (by omega)⟩
/-- Of some number are any six bits. -/
theorem bits_num (f : Nat → Bool) : ∃ k, k < 64 ∧ ∀ i, i < 6 → kb k i = f i := by
  refine ⟨(ofB f).toNat, by have := ofB_bound f; omega, fun i hi => ?_⟩
  have hn : (ofB f).toNat < 64 := by have := ofB_bound f; omega
  have key : ∀ a b c d e g : Bool, kb (of6 a b c d e g).toNat 0 = a ∧ kb (of6 a b c d e g).toNat 1 = b ∧ kb (of6 a b c d e g).toNat 2 = c ∧ kb (of6 a b c d e g).toNat 3 = d ∧ kb (of6 a b c d e g).toNat 4 = e ∧ kb (of6 a b c d e g).toNat 5 = g := by decide +kernel
  obtain ⟨h0, h1, h2, h3, h4, h5⟩ := key (f 0) (f 1) (f 2) (f 3) (f 4) (f 5)
  match i, hi with
  | 0, _ => exact h0
  | 1, _ => exact h1
  | 2, _ => exact h2
  | 3, _ => exact h3
  | 4, _ => exact h4
  | 5, _ => exact h5
theorem hasM_congr (c v : Nat → Bool) {f g : Nat → Bool} (h : ∀ i, i < 6 → f i = g i) : hasM c v f = hasM c v g := all6_congr fun i hi => by rw [h i hi]
/-- One in another, if all its heads are. -/
theorem in_all {a b : ByteArray} (ha : okS a = true) (hb : okS b = true) : inM (cf a) (vf a) (cf b) (vf b) = preTo (fun k => !hasM (cf a) (vf a) (kb k) || hasM (cf b) (vf b) (kb k)) 64 := by
  cases hi : inM (cf a) (vf a) (cf b) (vf b)
  · symm
    cases hp : preTo (fun k => !hasM (cf a) (vf a) (kb k) || hasM (cf b) (vf b) (kb k)) 64
    · rfl
    exfalso
    rw [preTo_iff] at hp
    have hpos : ∃ i, i < 6 ∧ (!(cf b i && !cf a i) && !((vf a i ^^ vf b i) && cf a i && cf b i)) = false := by
      unfold inM meetB at hi
      rw [Bool.and_eq_false_iff] at hi
      rcases hi with h | h
      · obtain ⟨i, hi, he⟩ := all6_not.1 h
        exact ⟨i, hi, by rw [he]; rfl⟩
      · obtain ⟨i, hi, he⟩ := all6_not.1 h
        exact ⟨i, hi, by rw [he]; simp⟩
    obtain ⟨i, hi6, he⟩ := hpos
    -- a head of a that is not of b
    obtain ⟨k, hk, hkf⟩ := bits_num (fun j => bif cf a j then vf a j else !(vf b j))
    have h := hp k hk
    rw [hasM_congr _ _ hkf, hasM_congr _ _ hkf] at h
    have h1 : hasM (cf a) (vf a) (fun j => bif cf a j then vf a j else !(vf b j)) = true := all6_iff.2 fun j hj => by
      have := vf_cf (s := a) j
      show (((bif cf a j then vf a j else !(vf b j)) && cf a j) == vf a j) = true
      revert this
      cases cf a j <;> cases vf a j <;> cases vf b j <;> simp
    have h2 : hasM (cf b) (vf b) (fun j => bif cf a j then vf a j else !(vf b j)) = false := all6_not.2 ⟨i, hi6, by
      have u1 := vf_cf (s := a) i
      have u2 := vf_cf (s := b) i
      show (((bif cf a i then vf a i else !(vf b i)) && cf b i) == vf b i) = false
      revert he u1 u2
      cases cf a i <;> cases vf a i <;> cases cf b i <;> cases vf b i <;> simp⟩
    rw [h1, h2] at h
    cases h
  · symm
    rw [preTo_iff]
    intro k hk
    unfold inM meetB at hi
    rw [Bool.and_eq_true] at hi
    cases h1 : hasM (cf a) (vf a) (kb k)
    · rfl
    · show hasM (cf b) (vf b) (kb k) = true
      refine all6_iff.2 fun i hi6 => ?_
      have e1 := all6_iff.1 hi.1 i hi6
      have e2 := all6_iff.1 hi.2 i hi6
      have e3 := all6_iff.1 h1 i hi6
      have u1 := vf_cf (s := a) i
      have u2 := vf_cf (s := b) i
      revert e1 e2 e3 u1 u2
      cases cf a i <;> cases vf a i <;> cases cf b i <;> cases vf b i <;> cases kb k i <;> simp
theorem in_both {a b : ByteArray} (ha : okS a = true) (hb : okS b = true) : (inS a b && inS b a) = (a.toList == b.toList) := by
  unfold inS
  rw [ha, hb, Bool.true_and, Bool.true_and, Bool.true_and, Bool.true_and, Bool.eq_iff_iff, Bool.and_eq_true, beq_iff_eq]
  constructor
  · rintro ⟨h1, h2⟩
    unfold inM meetB at h1 h2
    rw [Bool.and_eq_true] at h1 h2
    have : a = b := by
      rw [← txt_back ha, ← txt_back hb]
      refine txt_congr fun i hi => ?_
      have e1 := all6_iff.1 h1.1 i hi
      have e2 := all6_iff.1 h1.2 i hi
      have e3 := all6_iff.1 h2.1 i hi
      have u1 := vf_cf (s := a) i
      have u2 := vf_cf (s := b) i
      revert e1 e2 e3 u1 u2
      cases cf a i <;> cases vf a i <;> cases cf b i <;> cases vf b i <;> simp
    rw [this]
  · intro h
    have : a = b := by
      apply ByteArray.ext
      rw [ByteArray.toList_eq, ByteArray.toList_eq] at h
      exact Array.toList_inj.1 h
    subst this
    have : inM (cf a) (vf a) (cf a) (vf a) = true := by
      unfold inM meetB
      rw [all6_iff.2 fun i hi => by cases cf a i <;> rfl, all6_iff.2 fun i hi => by cases vf a i <;> rfl]
      rfl
    exact ⟨this, this⟩
theorem in_allX {a : ByteArray} (ha : okS a = true) : inS a ⟨#[120, 120, 120, 120, 120, 120]⟩ = true := by
  unfold inS
  rw [ha, show okS ⟨#[120, 120, 120, 120, 120, 120]⟩ = true from by decide, Bool.true_and, Bool.true_and]
  have hc : ∀ i, i < 6 → cf ⟨#[120, 120, 120, 120, 120, 120]⟩ i = false := fun i hi => by
    match i, hi with
    | 0, _ | 1, _ | 2, _ | 3, _ | 4, _ | 5, _ => rfl
  unfold inM meetB
  rw [all6_iff.2 fun i hi => by rw [hc i hi]; rfl, all6_iff.2 fun i hi => by rw [hc i hi]; simp]
  rfl

end Go.Proofs.Ytddkpimmcmnogab
