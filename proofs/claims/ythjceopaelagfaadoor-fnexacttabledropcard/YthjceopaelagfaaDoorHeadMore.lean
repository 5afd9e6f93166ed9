/-
  What the other functions of chapter 1 that return heads return, the program's and the model's: the head of a number, a head with another tag; and what the statements' own helpers return: two heads are the same if their fields are.
-/
import Derived.Test.YthjceopaelagfaaDoorHeadBase
namespace Go.Proofs.YthjceopaelagfaaDoor
open Go.ChangeShapes Go.WideShapes Go.ChangeAt Go.RowKit Go.Joins
set_option linter.unusedVariables false

/-! ### A head with another tag -/

/-- Two heads of the call's own, behind a call that leaves what was there. -/
theorem twoHeads {w w1 : World} {t u : TypeId} {a b c d e f : Value} (hb : Below ((w.alloc (.cells #[a, b, c] t)).alloc (.cells #[d, e, f] u)).heap.size ((w.alloc (.cells #[a, b, c] t)).alloc (.cells #[d, e, f] u)) w1) :
    w1.cell? ⟨w.heap.size, 0, none⟩ = some a ∧ w1.cell? ⟨w.heap.size, 1, none⟩ = some b ∧ w1.cell? ⟨w.heap.size, 2, none⟩ = some c ∧
    w1.cell? ⟨w.heap.size + 1, 0, none⟩ = some d ∧ w1.cell? ⟨w.heap.size + 1, 1, none⟩ = some e ∧ w1.cell? ⟨w.heap.size + 1, 2, none⟩ = some f := by
  have hc := belCell hb
  refine ⟨?_, ?_, ?_, ?_, ?_, ?_⟩ <;> (rw [hc _ _ (by simp; try omega)]; simp [go_sem])

theorem tag_math {a b c t : Int} (ha0 : 0 ≤ a) (ha3 : a ≤ 3) (hb0 : 0 ≤ b) (hb3 : b ≤ 3) (hc0 : 0 ≤ c) (hc3 : c ≤ 3) (t0 : 0 ≤ t) (t3 : t ≤ 3) :
    ((16 * a + 4 * b + c) / 4 * 4 + t) / 16 = a ∧ ((16 * a + 4 * b + c) / 4 * 4 + t) / 4 % 4 = b ∧ ((16 * a + 4 * b + c) / 4 * 4 + t) % 4 = t ∧ 0 ≤ (16 * a + 4 * b + c) / 4 * 4 + t ∧ (16 * a + 4 * b + c) / 4 * 4 + t ≤ 63 := by omega

/-! ### The statements' own helpers -/

end Go.Proofs.YthjceopaelagfaaDoor
