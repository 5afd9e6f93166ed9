/-
  Chapter 3, the program: a space is read.
-/
import Derived.Test.YtddkpimmcmnogaaDoorSpaceN
import Derived.Test.YtddkpimmcmnogaaDoorStrIn
import Derived.Test.YtddkpimmcmnogaaDoorWildLessJ
namespace Go.Proofs.YtddkpimmcmnogaaDoor
open Go.ChangeShapes Go.WideShapes Go.ChangeAt Go.RowKit Go.Joins
set_option linter.unusedVariables false

/-- Masks of texts. -/
def mskL (l : List ByteArray) : List ((Nat → Bool) × (Nat → Bool)) := l.map fun s => (cf s, vf s)
theorem mskL_len (l : List ByteArray) : (mskL l).length = l.length := by simp [mskL]
theorem mskL_take {l : List ByteArray} {k : Nat} (h : k < l.length) : mskL (l.take (k + 1)) = mskL (l.take k) ++ [(cf (strAt l k), vf (strAt l k))] := by
  have : l.take (k + 1) = l.take k ++ [strAt l k] := by
    rw [List.take_add_one, List.getElem?_eq_getElem h, strAt, List.getD_eq_getElem?_getD, List.getElem?_eq_getElem h]
    rfl
  rw [this]
  simp [mskL]
theorem pAt_mskL {l : List ByteArray} {k : Nat} (h : k < l.length) : pAt (mskL l) k = (cf (strAt l k), vf (strAt l k)) := by
  simp [pAt, mskL, strAt, List.getD_eq_getElem?_getD, List.getElem?_eq_getElem h]
theorem okSp_bad {l : List ByteArray} {k : Nat} (hk : k < l.length) (h : okS (strAt l k) = false) : okSp l = false := by
  simp only [okSp, Bool.and_eq_false_iff]
  right
  rw [List.all_eq_false]
  refine ⟨strAt l k, ?_, by simp [h]⟩
  rw [strAt, List.getD_eq_getElem?_getD, List.getElem?_eq_getElem hk]
  exact List.getElem_mem hk
theorem okSp_end {l : List ByteArray} (hl : l.length ≤ 64) (h : ∀ i, i < l.length → okS (strAt l i) = true) : okSp l = true := by
  simp only [okSp, Bool.and_eq_true, decide_eq_true_eq, List.all_eq_true]
  refine ⟨hl, fun s hs => ?_⟩
  obtain ⟨i, hi, rfl⟩ := List.getElem_of_mem hs
  have := h i hi
  rwa [strAt, List.getD_eq_getElem?_getD, List.getElem?_eq_getElem hi] at this
theorem okSp_long {l : List ByteArray} (hl : ¬ l.length ≤ 64) : okSp l = false := by simp [okSp, hl]
theorem okSp_parts {l : List ByteArray} (h : okSp l = true) : l.length ≤ 64 ∧ ∀ i, i < l.length → okS (strAt l i) = true := by
  simp only [okSp, Bool.and_eq_true, decide_eq_true_eq, List.all_eq_true] at h
  refine ⟨h.1, fun i hi => h.2 _ ?_⟩
  rw [strAt, List.getD_eq_getElem?_getD, List.getElem?_eq_getElem hi]
  exact List.getElem_mem hi

end Go.Proofs.YtddkpimmcmnogaaDoor
