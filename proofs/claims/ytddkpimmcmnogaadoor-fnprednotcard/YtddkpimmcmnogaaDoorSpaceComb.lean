/-
  Chapter 3, the program: what is kept of two sets, node by node.
-/
import Derived.Test.YtddkpimmcmnogaaDoorSpaceNode
namespace Go.Proofs.YtddkpimmcmnogaaDoor
open Go.ChangeShapes Go.WideShapes Go.ChangeAt Go.RowKit Go.Joins
set_option linter.unusedVariables false

theorem Dg.cells {w : World} {b e : Nat} {E : List Nd} (h : Dg w b e E) {z o : Option Addr} {k : Nat} (hk : (z, o, k) ∈ E) :
    w.cell? ⟨k, 0, none⟩ = some (.pointer z) ∧ w.cell? ⟨k, 1, none⟩ = some (.pointer o) ∧ k < w.heap.size ∧ k ≠ b := by
  have hn := (h.node z o k hk).1
  have := duoCells hn
  exact ⟨this.1, this.2.1, (Array.getElem?_eq_some_iff.1 hn).1, h.ne_b hn⟩
theorem trioCells {w : World} {b : Nat} {x y z : Value} {t : TypeId} (h : w.heap[b]? = some (.cells #[x, y, z] t)) : w.cell? ⟨b, 0, none⟩ = some x ∧ w.cell? ⟨b, 1, none⟩ = some y ∧ w.cell? ⟨b, 2, none⟩ = some z := by
  simp [World.cell?, h]

end Go.Proofs.YtddkpimmcmnogaaDoor
