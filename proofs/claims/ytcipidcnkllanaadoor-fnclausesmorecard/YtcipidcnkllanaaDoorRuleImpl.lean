/-
  What the program's check of a rule, its error test and RuleOk return, the program's and the model's; and the statements' own helpers on rules.
-/
import Derived.Test.YtcipidcnkllanaaDoorRuleA
import Derived.Test.YtcipidcnkllanaaDoorWildImpl
import Derived.Test.YtcipidcnkllanaaDoorWildSpec
namespace Go.Proofs.YtcipidcnkllanaaDoor
open Go.ChangeShapes Go.WideShapes Go.ChangeAt Go.RowKit Go.Joins
set_option linter.unusedVariables false

/-- Four cells of a block of the call's own, behind calls that leave what was there. -/
theorem fourKept {w w1 : World} {ty : TypeId} {a b c d : Value} (hb : Below (w.alloc (.cells #[a, b, c, d] ty)).heap.size (w.alloc (.cells #[a, b, c, d] ty)) w1) :
    w1.cell? ⟨w.heap.size, 0, none⟩ = some a ∧ w1.cell? ⟨w.heap.size, 1, none⟩ = some b ∧ w1.cell? ⟨w.heap.size, 2, none⟩ = some c ∧ w1.cell? ⟨w.heap.size, 3, none⟩ = some d := by
  have hc := belCell hb
  refine ⟨?_, ?_, ?_, ?_⟩ <;> (rw [hc _ _ (by simp)]; simp [go_sem])

theorem dec_not_lt {a b : Int} (h : b ≤ a) : decide (a < b) = false := by simpa using h

set_option maxHeartbeats 400000 in
theorem outOk_any (n : Int) (w : World) :
    Calls Tryd.prog 27 #[.int .i64 n] w fun e w' => e = .returned (.bool (inB n 0 4)) ∧ w = w' := by
  by_cases h0 : 0 ≤ n
  · by_cases h3 : n ≤ 4
    · rw [inB_mk h0 h3]
      go_enter Tryd.func27, Tryd.ntmps27
      go_wp2
      go_ret
      exact ⟨rfl, rfl⟩
    · have e : inB n 0 4 = false := inB_not (.inr (by omega))
      have h3' : decide (n ≤ 4) = false := by simpa using h3
      rw [e]
      clear e
      go_enter Tryd.func27, Tryd.ntmps27
      go_wp2
      go_ret
      exact ⟨rfl, rfl⟩
  · have e : inB n 0 4 = false := inB_not (.inl (by omega))
    have h0' : decide (0 ≤ n) = false := by simpa using h0
    rw [e]
    clear e
    go_enter Tryd.func27, Tryd.ntmps27
    go_wp2
    go_ret
    exact ⟨rfl, rfl⟩

theorem inB_tag {n : Int} (h : ¬ n = -1) : inB n (-1) 3 = fldB n := by
  by_cases h0 : 0 ≤ n
  · have h1 : (-1 : Int) ≤ n := by omega
    simp [inB, fldB, h0, h1]
  · rw [inB_not (.inl (by omega))]
    simp [fldB, h0]

set_option maxHeartbeats 400000 in
theorem ruleTagOk_any (n : Int) (w : World) :
    Calls Tryd.prog 28 #[.int .i64 n] w fun e w' => e = .returned (.bool (inB n (-1) 3)) ∧ w = w' := by
  by_cases h : n = -1
  · subst h
    rw [show inB (-1) (-1) 3 = true from rfl]
    go_enter Tryd.func28, Tryd.ntmps28
    go_wp2
    go_ret
    exact ⟨rfl, rfl⟩
  · rw [inB_tag h]
    have h' : (n == -1) = false := by simpa using h
    go_enter Tryd.func28, Tryd.ntmps28
    go_wp2_with fail
    refine (fieldOk_any _ _).mono ?_
    rintro e w1 ⟨rfl, rfl⟩
    go_wp2
    go_ret
    exact ⟨rfl, rfl⟩

/-! ### The statements' own helpers -/

end Go.Proofs.YtcipidcnkllanaaDoor
