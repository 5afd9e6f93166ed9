/-
  Chapter 3, the program: a new diagram; the set of a pattern.
-/
import Derived.Test.YtddkpimmcmnogaaDoorSpaceComb
import Derived.Test.YtddkpimmcmnogaaDoorWildBase
namespace Go.Proofs.YtddkpimmcmnogaaDoor
open Go.ChangeShapes Go.WideShapes Go.ChangeAt Go.RowKit Go.Joins
set_option linter.unusedVariables false

theorem Uniq.nil : Uniq [] := ⟨(fun _ _ _ _ h => nomatch h), (fun _ _ _ _ _ h => nomatch h)⟩

set_option maxHeartbeats 2000000 in
theorem newDiagram_any (w : World) :
    Calls Tryd.prog 52 #[] w fun ex w' => ∃ b e, ex = .returned (.agg #[.map (some b), .pointer (some ⟨e, 0, none⟩)]) ∧ w.heap.size ≤ b ∧ Dg w' b e [] ∧ Below w.heap.size w w' := by
  have hmm := @run_makeMap Tryd.prog
  go_enter Tryd.func52, Tryd.ntmps52
  go_wp2
  refine bodyPost_ret (v := .agg #[.map (some (w.heap.size + 1)), .pointer (some ⟨w.heap.size + 1 + 1, 0, none⟩)]) (by simp [results, Tryd.results52, go_sem]) rfl ⟨w.heap.size + 1, w.heap.size + 1 + 1, rfl, by omega, ⟨?_, ⟨#[], 0, ?_, rfl⟩, (fun _ _ _ h => nomatch h), Uniq.nil⟩, ?_⟩
  · have := newBlockM ((w.alloc (.cells #[.map (some (w.heap.size + 1)), .pointer (some ⟨w.heap.size + 1 + 1, 0, none⟩)] 67)).alloc (.map #[] 0)) (.cells #[.pointer none, .pointer none] 89)
    simpa using this
  · refine (Below.heap_alloc _ _ _ (by simp)).trans ?_
    have := newBlockM (w.alloc (.cells #[.map (some (w.heap.size + 1)), .pointer (some ⟨w.heap.size + 1 + 1, 0, none⟩)] 67)) (.map #[] 0)
    simpa using this
  · exact (((Below.refl _ _).alloc (Nat.le_refl _) _).alloc (by simp) _).alloc (by simp; omega) _

/-! ### Whether a head is in a set -/

def f6 (f : Nat → Bool) : List Bool := [f 0, f 1, f 2, f 3, f 4, f 5]
theorem f6_take (f : Nat → Bool) {k : Nat} (hk : k < 6) (l : List Bool) : (f6 f).take k ++ f k :: l = (f6 f).take (k + 1) ++ l := by
  match k, hk with
  | 0, _ => rfl
  | 1, _ => rfl
  | 2, _ => rfl
  | 3, _ => rfl
  | 4, _ => rfl
  | 5, _ => rfl

end Go.Proofs.YtddkpimmcmnogaaDoor
