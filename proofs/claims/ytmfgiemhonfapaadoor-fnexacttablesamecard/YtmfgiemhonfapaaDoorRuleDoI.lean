/-
  What RuleDo returns, the program's and the model's.
-/
import Derived.Test.YtmfgiemhonfapaaDoorRuleImpl
import Derived.Deep.RegionWith
namespace Go.Proofs.YtmfgiemhonfapaaDoor
open Go.ChangeShapes Go.WideShapes Go.ChangeAt Go.RowKit Go.Joins
set_option linter.unusedVariables false

/-- The tag of a head behind a rule. -/
def tagTo (t c : Int) : Int := if 0 ≤ t then t else c
/-- A rule is of a head. -/
def doB (p : Int) (s : ByteArray) (o t a b c : Int) : Bool := rOk p s o t && hasS s a b c
/-- What RuleDo returns. -/
def doV (p : Int) (s : ByteArray) (o t a b c : Int) : Value :=
  bif doB p s o t a b c then .tuple #[.agg #[.int .i64 a, .int .i64 b, .int .i64 (tagTo t c)], .int .i64 o, .bool true] else .tuple #[.agg #[.int .i64 0, .int .i64 0, .int .i64 0], .int .i64 0, .bool false]

/-- The blocks of a call of a rule and a head, with the result's, behind calls that leave what was there. -/
theorem ruleHead {w w1 : World} {t u v : TypeId} {a b c d x y z r0 r1 r2 : Value} (hb : Below (((w.alloc (.cells #[a, b, c, d] t)).alloc (.cells #[x, y, z] u)).alloc (.cells #[r0, r1, r2] v)).heap.size (((w.alloc (.cells #[a, b, c, d] t)).alloc (.cells #[x, y, z] u)).alloc (.cells #[r0, r1, r2] v)) w1) :
    w1.cell? ⟨w.heap.size, 0, none⟩ = some a ∧ w1.cell? ⟨w.heap.size, 1, none⟩ = some b ∧ w1.cell? ⟨w.heap.size, 2, none⟩ = some c ∧ w1.cell? ⟨w.heap.size, 3, none⟩ = some d ∧
    w1.cell? ⟨w.heap.size + 1, 0, none⟩ = some x ∧ w1.cell? ⟨w.heap.size + 1, 1, none⟩ = some y ∧ w1.cell? ⟨w.heap.size + 1, 2, none⟩ = some z ∧
    w1.cell? ⟨w.heap.size + 1 + 1, 0, none⟩ = some r0 ∧ w1.cell? ⟨w.heap.size + 1 + 1, 1, none⟩ = some r1 ∧ w1.cell? ⟨w.heap.size + 1 + 1, 2, none⟩ = some r2 ∧
    (∀ o, w1.frozen? ⟨w.heap.size + 1, o, none⟩ = false) ∧ ∀ o, w1.frozen? ⟨w.heap.size + 1 + 1, o, none⟩ = false := by
  have hc := belCell hb
  have hf := belFrozen hb
  refine ⟨?_, ?_, ?_, ?_, ?_, ?_, ?_, ?_, ?_, ?_, fun o => ?_, fun o => ?_⟩ <;> first | (rw [hc _ _ (by simp; try omega)]; simp [go_sem]; done) | (rw [hf _ _ (by simp; try omega)]; simp [go_sem])

end Go.Proofs.YtmfgiemhonfapaaDoor
