/-
  What RuleRead returns, the model's: a rule for its text, and none for any other text.
-/
import Derived.Test.YtlbbhiigfgegeaaDoorRuleText
import Derived.Deep.RegionHeld3
import Derived.Laws.Strings3
namespace Go.Proofs.YtlbbhiigfgegeaaDoor
open Go.ChangeShapes Go.WideShapes Go.ChangeAt Go.RowKit Go.Joins
set_option linter.unusedVariables false

def noneS : Value := .tuple #[.agg #[.int .i64 0, .string ⟨#[]⟩, .int .i64 0, .int .i64 0], .bool false]
def someS (p : Int) (m : ByteArray) (o t : Int) : Value := .tuple #[.agg #[.int .i64 p, .string m, .int .i64 o, .int .i64 t], .bool true]

theorem wrapI {n : Int} (h0 : -1000 ≤ n) (h1 : n ≤ 1000) : IntKind.i64.wrap n = n := by
  have a : IntKind.i64.signed = true := rfl
  have b : IntKind.i64.bits = 64 := rfl
  have e1 : (2 : Int) ^ (64 - 1) = 9223372036854775808 := by decide
  have e2 : (2 : Int) ^ 64 = 18446744073709551616 := by decide
  unfold IntKind.wrap
  rw [a, b, e1, e2]
  simp only [Bool.true_and, decide_eq_true_eq, ge_iff_le]
  split
  · rename_i h
    omega
  · rename_i h
    omega

set_option maxHeartbeats 2000000 in
theorem sRuleRead_short (s : ByteArray) (hs : s.size ≤ 1048576) (h12 : s.size ≠ 12) (w : World) :
    Calls Tryd.prog 20 #[.string s] w fun e w' => e = .returned noneS ∧ Below w.heap.size w w' := by
  have hne : (((s.size : Nat) : Int) != 12) = true := by simp; omega
  unfold noneS
  clear h12
  go_enter Tryd.func20, Tryd.ntmps20
  go_wp2
  exact bodyPost_ret (v := .tuple #[.agg #[.int .i64 0, .string ⟨#[]⟩, .int .i64 0, .int .i64 0], .bool false]) (by simp [results, Tryd.results20, go_sem]) rfl
    ⟨rfl, by repeat (first | exact below_alloc1 _ _ | refine Below.setCell ?_ (by dsimp only; omega) _ | refine Below.drew ?_)⟩

/-- The blocks of two rules, and that they may be written. -/
theorem twoR {w w1 : World} {t u : TypeId} {a b c d x y z v : Value} (hb : Below ((w.alloc (.cells #[a, b, c, d] t)).alloc (.cells #[x, y, z, v] u)).heap.size ((w.alloc (.cells #[a, b, c, d] t)).alloc (.cells #[x, y, z, v] u)) w1) :
    w1.cell? ⟨w.heap.size, 0, none⟩ = some a ∧ w1.cell? ⟨w.heap.size, 1, none⟩ = some b ∧ w1.cell? ⟨w.heap.size, 2, none⟩ = some c ∧ w1.cell? ⟨w.heap.size, 3, none⟩ = some d ∧
    w1.cell? ⟨w.heap.size + 1, 0, none⟩ = some x ∧ w1.cell? ⟨w.heap.size + 1, 1, none⟩ = some y ∧ w1.cell? ⟨w.heap.size + 1, 2, none⟩ = some z ∧ w1.cell? ⟨w.heap.size + 1, 3, none⟩ = some v := by
  have hc := belCell hb
  refine ⟨?_, ?_, ?_, ?_, ?_, ?_, ?_, ?_⟩ <;> (rw [hc _ _ (by simp; try omega)]; simp [go_sem])
theorem twoRF {w w1 : World} {t u : TypeId} {a b c d x y z v : Value} (hb : Below ((w.alloc (.cells #[a, b, c, d] t)).alloc (.cells #[x, y, z, v] u)).heap.size ((w.alloc (.cells #[a, b, c, d] t)).alloc (.cells #[x, y, z, v] u)) w1) :
    ∀ o, w1.frozen? ⟨w.heap.size, o, none⟩ = false := fun o => by rw [belFrozen hb _ _ (by simp; omega)]; simp [go_sem]

end Go.Proofs.YtlbbhiigfgegeaaDoor
