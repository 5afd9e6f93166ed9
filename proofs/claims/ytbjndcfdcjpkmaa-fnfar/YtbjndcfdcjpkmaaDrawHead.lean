/-
  What the heads that the statements draw are: three numbers from -1 to 4; the reader's place goes on, and nothing else that was there changes.
-/
import Derived.Test.YtbjndcfdcjpkmaaHeadB
import Derived.Test.YtbjndcfdcjpkmaaPick
namespace Go.Proofs.Ytbjndcfdcjpkmaa
open Go.ChangeShapes Go.WideShapes Go.ChangeAt Go.RowKit Go.Joins
set_option linter.unusedVariables false

/-- Three numbers from -1 to 4. -/
def Near (a b c : Int) : Prop := (-1 ≤ a ∧ a ≤ 4) ∧ (-1 ≤ b ∧ b ≤ 4) ∧ (-1 ≤ c ∧ c ≤ 4)
/-- A head is drawn by the reader at block g. -/
def HeadDrawn (g B : Nat) (w : World) (e : Ending) (w' : World) : Prop :=
  ∃ a b c : Int, Near a b c ∧ e = .returned (.agg #[.int .i64 a, .int .i64 b, .int .i64 c]) ∧ RdOk w' g (B + 3) ∧ w.grownBy w' (some g)

theorem trip_cells {w : World} {b : Nat} {x y z : Value} {t : TypeId} (h : w.heap[b]? = some (.cells #[x, y, z] t)) :
    w.cell? ⟨b, 0, none⟩ = some x ∧ w.cell? ⟨b, 1, none⟩ = some y ∧ w.cell? ⟨b, 2, none⟩ = some z ∧ ∀ o, w.frozen? ⟨b, o, none⟩ = false :=
  ⟨by rw [cell_of_block h]; rfl, by rw [cell_of_block h]; rfl, by rw [cell_of_block h]; rfl, fun o => unfrozen_of_block h o⟩
theorem duo_cells {w : World} {b : Nat} {x y : Value} {t : TypeId} (h : w.heap[b]? = some (.cells #[x, y] t)) : w.cell? ⟨b, 0, none⟩ = some x ∧ w.cell? ⟨b, 1, none⟩ = some y :=
  ⟨by rw [cell_of_block h]; rfl, by rw [cell_of_block h]; rfl⟩
theorem someNe {a b : Nat} (h : a ≠ b) : some a ≠ some b := fun e => h (by injection e)
theorem newBlock (w : World) (o : Obj) : (w.alloc o).heap[w.heap.size]? = some o := (MapKept.heap_alloc w o).1

/-- A head is drawn from a code. -/
def HeadCoded (w : World) (e : Ending) (w' : World) : Prop := ∃ a b c : Int, Near a b c ∧ e = .returned (.agg #[.int .i64 a, .int .i64 b, .int .i64 c]) ∧ Below w.heap.size w w'

end Go.Proofs.Ytbjndcfdcjpkmaa
