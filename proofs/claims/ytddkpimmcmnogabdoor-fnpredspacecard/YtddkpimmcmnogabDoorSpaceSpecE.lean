/-
  Chapter 3, what the model's SpaceOr, SpaceAnd, SpaceLess return.
-/
import Derived.Test.YtddkpimmcmnogabDoorSpaceSpecD
namespace Go.Proofs.YtddkpimmcmnogabDoor
open Go.ChangeShapes Go.WideShapes Go.ChangeAt Go.RowKit Go.Joins
set_option linter.unusedVariables false

/-- One mask is written over, place by place. -/
def mixO (f : Bool → Bool → Bool) (mx my : List Bool) (k : Nat) : List Bool := (List.range 64).map fun j => bif decide (j < k) then f (mx.getD j false) (my.getD j false) else mx.getD j false
theorem mixO_len (f : Bool → Bool → Bool) (mx my : List Bool) (k : Nat) : (mixO f mx my k).length = 64 := by simp [mixO]
theorem mixO_zero (f : Bool → Bool → Bool) {mx : List Bool} (my : List Bool) (h : mx.length = 64) : mixO f mx my 0 = mx := by
  apply List.ext_getElem
  · simp [mixO, h]
  · intro j h1 h2
    simp [mixO, h2]
theorem mixO_get (f : Bool → Bool → Bool) (mx my : List Bool) {k : Nat} (hk : k < 64) : (mixO f mx my k).getD k false = mx.getD k false := by
  simp [mixO, List.getD_eq_getElem?_getD, List.getElem?_range hk]
theorem mixO_step (f : Bool → Bool → Bool) (mx my : List Bool) {k : Nat} (hk : k < 64) : mixO f mx my (k + 1) = (mixO f mx my k).set k (f (mx.getD k false) (my.getD k false)) := by
  apply List.ext_getElem
  · simp [mixO]
  · intro j h1 h2
    rw [List.getElem_set]
    by_cases e : k = j
    · subst e
      simp [mixO]
    · have e1 : (j < k + 1) = (j < k) := by apply propext; omega
      simp [mixO, e, e1]
theorem mixO_all (f : Bool → Bool → Bool) {mx my : List Bool} (hx : mx.length = 64) (hy : my.length = 64) : mixO f mx my 64 = List.zipWith f mx my := by
  apply List.ext_getElem
  · simp [mixO, hx, hy]
  · intro j h1 h2
    have hj : j < 64 := by simpa [mixO] using h1
    simp [mixO, hj, hx, hy]
theorem BoolRow.other {w : World} {g g' : Nat} {m : List Bool} (h : BoolRow w g m) (hne : g' ≠ g) (j : Nat) (u : Value) : BoolRow (w.setCell ⟨g', j, none⟩ u) g m :=
  ⟨World.ownsRow.kept h.1 (row := some g') ⟨rfl, rfl, rfl, by simp [World.setCell], fun k hk hne' => Below.heap_setCell _ _ _ _ (fun e => hne' (by rw [e]))⟩ (.inr (fun e => by injection e with e; exact hne e.symm)), h.2⟩

end Go.Proofs.YtddkpimmcmnogabDoor
