/-
  Chapter 3, the program: the set of a space; of two spaces.
-/
import Derived.Test.YtddkpimmcmnogaaDoorSpaceRead
namespace Go.Proofs.YtddkpimmcmnogaaDoor
open Go.ChangeShapes Go.WideShapes Go.ChangeAt Go.RowKit Go.Joins
set_option linter.unusedVariables false

/-- The set of texts; of what is no space, nothing. -/
def setL (l : List ByteArray) : List Bool := bif okSp l then spL l else noL 6
theorem spL_take {l : List ByteArray} {k : Nat} (h : k < l.length) (f t s : Bool) (hf : f = true) (ht : t = true) (hs : s = true) : List.zipWith (keepF f t s) (spL (l.take k)) (sufL (cf (strAt l k)) (vf (strAt l k)) 6) = spL (l.take (k + 1)) := by
  have e1 : l.take (k + 1) = l.take k ++ [strAt l k] := by
    rw [List.take_add_one, List.getElem?_eq_getElem h, strAt, List.getD_eq_getElem?_getD, List.getElem?_eq_getElem h]
    rfl
  subst hf ht hs
  rw [e1, spL_snoc, sufL_all (fun i => vfcf i)]
  congr 1
  funext x y
  cases x <;> cases y <;> rfl
theorem Strs.grown {w w' : World} {g b : Nat} {v : Value} {l : List ByteArray} (h : Strs w g v l) (hg : w.grownBy w' (some b)) (hb : g ≤ b) (hs : g ≤ w.heap.size) : Strs w' g v l := h.below (sBel hg hb hs) (Nat.le_refl _)

end Go.Proofs.YtddkpimmcmnogaaDoor
