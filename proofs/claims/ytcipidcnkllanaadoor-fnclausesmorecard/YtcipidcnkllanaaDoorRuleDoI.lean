/-
  What RuleDo returns, the program's and the model's.
-/
import Derived.Test.YtcipidcnkllanaaDoorRuleImpl
import Derived.Deep.RegionWith
namespace Go.Proofs.YtcipidcnkllanaaDoor
open Go.ChangeShapes Go.WideShapes Go.ChangeAt Go.RowKit Go.Joins
set_option linter.unusedVariables false

/-- The tag of a head behind a rule. -/
def tagTo (t c : Int) : Int := if 0 ≤ t then t else c
/-- A rule is of a head. -/
def doB (p : Int) (s : ByteArray) (o t a b c : Int) : Bool := rOk p s o t && hasS s a b c
/-- What RuleDo returns. -/
def doV (p : Int) (s : ByteArray) (o t a b c : Int) : Value :=
  bif doB p s o t a b c then .tuple #[.agg #[.int .i64 a, .int .i64 b, .int .i64 (tagTo t c)], .int .i64 o, .bool true] else .tuple #[.agg #[.int .i64 0, .int .i64 0, .int .i64 0], .int .i64 0, .bool false]

/-- The blocks of a call of a rule and a head, with the result's, behind calls that leave what was there. -/
theorem ruleHead {w w1 : World} {t u v : TypeId} {a b c d x y z r0 r1 r2 : Value} (hb : Below (((w.alloc (.cells #[a, b, c, d] t)).alloc (.cells #[x, y, z] u)).alloc (.cells #[r0, r1, r2] v)).heap.size (((w.alloc (.cells #[a, b, c, d] t)).alloc (.cells #[x, y, z] u)).alloc (.cells #[r0, r1, r2] v)) w1) :
    w1.cell? ⟨w.heap.size, 0, none⟩ = some a ∧ w1.cell? ⟨w.heap.size, 1, none⟩ = some b ∧ w1.cell? ⟨w.heap.size, 2, none⟩ = some c ∧ w1.cell? ⟨w.heap.size, 3, none⟩ = some d ∧
    w1.cell? ⟨w.heap.size + 1, 0, none⟩ = some x ∧ w1.cell? ⟨w.heap.size + 1, 1, none⟩ = some y ∧ w1.cell? ⟨w.heap.size + 1, 2, none⟩ = some z ∧
    w1.cell? ⟨w.heap.size + 1 + 1, 0, none⟩ = some r0 ∧ w1.cell? ⟨w.heap.size + 1 + 1, 1, none⟩ = some r1 ∧ w1.cell? ⟨w.heap.size + 1 + 1, 2, none⟩ = some r2 ∧
    (∀ o, w1.frozen? ⟨w.heap.size + 1, o, none⟩ = false) ∧ ∀ o, w1.frozen? ⟨w.heap.size + 1 + 1, o, none⟩ = false := by
  have hc := belCell hb
  have hf := belFrozen hb
  refine ⟨?_, ?_, ?_, ?_, ?_, ?_, ?_, ?_, ?_, ?_, fun o => ?_, fun o => ?_⟩ <;> first | (rw [hc _ _ (by simp; try omega)]; simp [go_sem]; done) | (rw [hf _ _ (by simp; try omega)]; simp [go_sem])

set_option maxHeartbeats 1000000 in
theorem retag_any (a b c t : Int) (w : World) :
    Calls Tryd.prog 30 #[.agg #[.int .i64 a, .int .i64 b, .int .i64 c], .int .i64 t] w fun e w' => e = .returned (.agg #[.int .i64 a, .int .i64 b, .int .i64 (if t = -1 then c else t)]) ∧ Below w.heap.size w w' := by
  by_cases ht : t = -1
  · subst ht
    rw [if_pos rfl]
    go_enter Tryd.func30, Tryd.ntmps30
    go_wp2
    exact bodyPost_ret (v := .agg #[.int .i64 a, .int .i64 b, .int .i64 c]) (by simp [results, Tryd.results30, go_sem]) rfl
      ⟨rfl, by repeat (first | exact below_alloc2 _ _ _ | refine Below.setCell ?_ (by simp) _)⟩
  · rw [if_neg ht]
    have ht' : (t != -1) = true := by simpa using ht
    go_enter Tryd.func30, Tryd.ntmps30
    go_wp2
    exact bodyPost_ret (v := .agg #[.int .i64 a, .int .i64 b, .int .i64 t]) (by simp [results, Tryd.results30, go_sem]) rfl
      ⟨rfl, by repeat (first | exact below_alloc2 _ _ _ | refine Below.setCell ?_ (by simp) _)⟩

set_option maxHeartbeats 1000000 in
theorem l11Do_any (p : Int) (s : ByteArray) (o t a b c : Int) (w : World) :
    Calls Tryd.prog 26 #[.agg #[.int .i64 p, .string s, .int .i64 o, .int .i64 t], .agg #[.int .i64 a, .int .i64 b, .int .i64 c]] w fun e w' => e = .returned (.tuple #[.agg #[.int .i64 a, .int .i64 b, .int .i64 (tagTo t c)], .int .i64 o]) ∧ Below w.heap.size w w' := by
  by_cases ht : 0 ≤ t
  · have e : tagTo t c = t := if_pos ht
    rw [e]
    clear e
    go_enter Tryd.func26, Tryd.ntmps26
    go_wp2
    (first | go_region_with (fail) | skip)
    all_goals
      go_wp2
      exact bodyPost_ret (v := .tuple #[.agg #[.int .i64 a, .int .i64 b, .int .i64 t], .int .i64 o]) (by simp [results, Tryd.results26, go_sem]) rfl
            ⟨rfl, by repeat (first | exact below_alloc3 _ _ _ _ | refine Below.setCell ?_ (by dsimp only; omega) _ | refine Below.drew ?_ | refine Below.alloc ?_ (by simp; try omega) _)⟩
  · have e : tagTo t c = c := if_neg ht
    rw [e]
    clear e
    go_enter Tryd.func26, Tryd.ntmps26
    go_wp2
    (first | go_region_with (fail) | skip)
    all_goals
      go_wp2
      exact bodyPost_ret (v := .tuple #[.agg #[.int .i64 a, .int .i64 b, .int .i64 c], .int .i64 o]) (by simp [results, Tryd.results26, go_sem]) rfl
            ⟨rfl, by repeat (first | exact below_alloc3 _ _ _ _ | refine Below.setCell ?_ (by dsimp only; omega) _ | refine Below.drew ?_ | refine Below.alloc ?_ (by simp; try omega) _)⟩

end Go.Proofs.YtcipidcnkllanaaDoor
