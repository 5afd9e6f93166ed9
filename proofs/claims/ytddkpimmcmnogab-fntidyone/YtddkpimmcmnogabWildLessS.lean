/-
  What the model's WildLess returns: a slice of its own, with the same texts as the program's.
-/
import Derived.Test.YtddkpimmcmnogabWildLessJ
import Derived.Test.YtddkpimmcmnogabWildSpecB
namespace Go.Proofs.Ytddkpimmcmnogab
open Go.ChangeShapes Go.WideShapes Go.ChangeAt Go.RowKit Go.Joins
set_option linter.unusedVariables false

theorem byA_app (s t : ByteArray) (i : Nat) : byA (s ++ t) i = if i < s.size then byA s i else byA t (i - s.size) := by
  unfold byA
  rw [ByteArray.data_append]
  simp only [Array.getD_eq_getD_getElem?]
  by_cases h : i < s.data.size
  · rw [Array.getElem?_append_left h, if_pos (show i < s.size from h)]
  · rw [Array.getElem?_append_right (by omega), if_neg (show ¬ i < s.size from h)]
    rfl
theorem byA_ext (s : ByteArray) (a b i : Nat) (hb : b ≤ s.size) (hi : a + i < b) : byA (s.extract a b) i = byA s (a + i) := by
  unfold byA
  rw [ByteArray.data_extract]
  simp only [Array.getD_eq_getD_getElem?]
  rw [Array.getElem?_extract, if_pos (by have : b ≤ s.data.size := hb; omega)]
theorem preS_byA (k : Nat) (f : Nat → UInt8) {i : Nat} (h : i < k) : byA (preS k f) i = f i := by
  unfold byA preS
  simp [h]

/-- The other sign. -/
def othC (b : UInt8) : UInt8 := bif b == 48 then 49 else 48
/-- A piece, byte by byte. -/
theorem piece_text {a b : ByteArray} (ha : okS a = true) (hb : okS b = true) (hm : meetB (cf a) (vf a) (cf b) (vf b) = true) {k : Nat} (hk : k < 6) (hs : selB (cf a) (cf b) k = true) :
    preS k (fun i => andC (byA a i) (byA b i)) ++ ⟨#[othC (byA b k)]⟩ ++ a.extract (k + 1) 6 = txt (pcB (cf a) (cf b) k) (pvB (cf a) (vf a) (vf b) k) := by
  have ha6 := okS_size ha
  have z1 : (preS k (fun i => andC (byA a i) (byA b i)) ++ ⟨#[othC (byA b k)]⟩).size = k + 1 := by rw [ByteArray.size_append, preS_size]; rfl
  have z2 : (a.extract (k + 1) 6).size = 5 - k := by simp; omega
  have z : (preS k (fun i => andC (byA a i) (byA b i)) ++ ⟨#[othC (byA b k)]⟩ ++ a.extract (k + 1) 6).size = 6 := by rw [ByteArray.size_append, z1, z2]; omega
  rw [← mk6_back z]
  unfold txt
  rw [meet_pos ha hb] at hm
  refine mk6_congr fun i hi => ?_
  rw [byA_app, z1]
  have hmi := all6_iff.1 hm i hi
  by_cases h1 : i < k + 1
  · rw [if_pos h1, byA_app, preS_size]
    by_cases h2 : i < k
    · rw [if_pos h2, preS_byA _ _ h2]
      have e1 : (i == k) = false := by simp; omega
      simp only [pcB, pvB, ckB, vkB, e1, h2, decide_true, Bool.true_and, Bool.or_false, Bool.not_false, Bool.and_true, Bool.and_false]
      rcases okS_sgn ha i hi with e | e | e <;> rcases okS_sgn hb i hi with e' | e' | e' <;> simp [cf, vf, metC, andC, chr, e, e'] at hmi ⊢
    · obtain rfl : i = k := by omega
      rw [if_neg h2, Nat.sub_self]
      show othC (byA b i) = _
      unfold selB at hs
      simp only [pcB, pvB, beq_self_eq_true, Bool.or_true, Bool.not_true, Bool.and_false, Bool.false_or, Bool.and_true]
      rcases okS_sgn ha i hi with e | e | e <;> rcases okS_sgn hb i hi with e' | e' | e' <;> simp [cf, vf, othC, chr, e, e'] at hs ⊢
  · rw [if_neg h1, byA_ext _ _ _ _ (by omega) (by omega), show k + 1 + (i - (k + 1)) = i from by omega]
    have e1 : (i == k) = false := by simp; omega
    have e2 : decide (i < k) = false := by simp; omega
    simp only [pcB, pvB, ckB, vkB, e1, e2, Bool.false_and, Bool.or_false, Bool.not_false, Bool.and_true, Bool.and_false]
    rcases okS_sgn ha i hi with e | e | e <;> simp [cf, vf, chr, e]
theorem pieces_step (ca va cb vb : Nat → Bool) (k : Nat) (h : selB ca cb k = true) : textsOf (piecesTo ca va cb vb (k + 1)) = textsOf (piecesTo ca va cb vb k) ++ [txt (pcB ca cb k) (pvB ca va vb k)] := by
  simp [piecesTo, h, textsOf]
theorem pieces_stay (ca va cb vb : Nat → Bool) (k : Nat) (h : selB ca cb k = false) : textsOf (piecesTo ca va cb vb (k + 1)) = textsOf (piecesTo ca va cb vb k) := by
  simp [piecesTo, h]
theorem texts_len (ca va cb vb : Nat → Bool) (k : Nat) : (textsOf (piecesTo ca va cb vb k)).length ≤ k := by
  unfold textsOf
  rw [List.length_map]
  exact pieces_len _ _ _ _ _

end Go.Proofs.Ytddkpimmcmnogab
