/-
  What the program's check of a rule, its error test and RuleOk return, the program's and the model's; and the statements' own helpers on rules.
-/
import Derived.Test.YtjjhahhchimmlaaGreatDoorRuleA
import Derived.Test.YtjjhahhchimmlaaGreatDoorWildImpl
import Derived.Test.YtjjhahhchimmlaaGreatDoorWildSpec
namespace Go.Proofs.YtjjhahhchimmlaaGreatDoor
open Go.ChangeShapes Go.WideShapes Go.ChangeAt Go.RowKit Go.Joins
set_option linter.unusedVariables false

/-- Four cells of a block of the call's own, behind calls that leave what was there. -/
theorem fourKept {w w1 : World} {ty : TypeId} {a b c d : Value} (hb : Below (w.alloc (.cells #[a, b, c, d] ty)).heap.size (w.alloc (.cells #[a, b, c, d] ty)) w1) :
    w1.cell? ⟨w.heap.size, 0, none⟩ = some a ∧ w1.cell? ⟨w.heap.size, 1, none⟩ = some b ∧ w1.cell? ⟨w.heap.size, 2, none⟩ = some c ∧ w1.cell? ⟨w.heap.size, 3, none⟩ = some d := by
  have hc := belCell hb
  refine ⟨?_, ?_, ?_, ?_⟩ <;> (rw [hc _ _ (by simp)]; simp [go_sem])

/-- The program's error of a rule. -/
def errRule (m : ByteArray) : Value := .iface 144 (.agg #[.string m])

set_option maxHeartbeats 1000000 in
theorem isErr_no (w : World) :
    Calls Tryz.prog 82 #[.nilIface] w fun e w' => e = .returned (.bool false) ∧ Below w.heap.size w w' := by
  go_enter Tryz.func82, Tryz.ntmps82
  go_wp2_with fail
  refine (as_nil _ _).mono ?_
  rintro e w1 ⟨rfl, rfl⟩
  go_wp2
  go_ret
  exact ⟨rfl, below_alloc1 _ _⟩

set_option maxHeartbeats 1000000 in
theorem isErr_yes (m : ByteArray) (w : World) (hE : EtOk w) :
    Calls Tryz.prog 82 #[errRule m] w fun e w' => e = .returned (.bool true) ∧ Below w.heap.size w w' := by
  have HE := Lib.hid (hE.alloc (.cells #[.string ByteArray.empty] 144))
  clear hE
  unfold errRule
  go_enter Tryz.func82, Tryz.ntmps82
  go_wp2_with fail
  refine (as_hit _ _ (.string ByteArray.empty) _ HE.out (by simp) (by simp)).mono ?_
  rintro e w1 ⟨rfl, rfl⟩
  go_wp2
  go_ret
  exact ⟨rfl, ((((below_alloc1 _ _).alloc (by simp) _).alloc (by simp; omega) _).alloc (by simp; omega) _).alloc (by simp; omega) _⟩

theorem dec_not_lt {a b : Int} (h : b ≤ a) : decide (a < b) = false := by simpa using h

set_option maxHeartbeats 400000 in
theorem outOk_any (n : Int) (w : World) :
    Calls Tryz.prog 94 #[.int .i64 n] w fun e w' => e = .returned (.bool (inB n 0 4)) ∧ w = w' := by
  by_cases h0 : 0 ≤ n
  · by_cases h3 : n ≤ 4
    · rw [inB_mk h0 h3]
      go_enter Tryz.func94, Tryz.ntmps94
      go_wp2
      go_ret
      exact ⟨rfl, rfl⟩
    · have e : inB n 0 4 = false := inB_not (.inr (by omega))
      have h3' : decide (n ≤ 4) = false := by simpa using h3
      rw [e]
      clear e
      go_enter Tryz.func94, Tryz.ntmps94
      go_wp2
      go_ret
      exact ⟨rfl, rfl⟩
  · have e : inB n 0 4 = false := inB_not (.inl (by omega))
    have h0' : decide (0 ≤ n) = false := by simpa using h0
    rw [e]
    clear e
    go_enter Tryz.func94, Tryz.ntmps94
    go_wp2
    go_ret
    exact ⟨rfl, rfl⟩

theorem inB_tag {n : Int} (h : ¬ n = -1) : inB n (-1) 3 = fldB n := by
  by_cases h0 : 0 ≤ n
  · have h1 : (-1 : Int) ≤ n := by omega
    simp [inB, fldB, h0, h1]
  · rw [inB_not (.inl (by omega))]
    simp [fldB, h0]

set_option maxHeartbeats 400000 in
theorem ruleTagOk_any (n : Int) (w : World) :
    Calls Tryz.prog 95 #[.int .i64 n] w fun e w' => e = .returned (.bool (inB n (-1) 3)) ∧ w = w' := by
  by_cases h : n = -1
  · subst h
    rw [show inB (-1) (-1) 3 = true from rfl]
    go_enter Tryz.func95, Tryz.ntmps95
    go_wp2
    go_ret
    exact ⟨rfl, rfl⟩
  · rw [inB_tag h]
    have h' : (n == -1) = false := by simpa using h
    go_enter Tryz.func95, Tryz.ntmps95
    go_wp2_with fail
    refine (fieldOk_any _ _).mono ?_
    rintro e w1 ⟨rfl, rfl⟩
    go_wp2
    go_ret
    exact ⟨rfl, rfl⟩

set_option maxHeartbeats 1000000 in
theorem checkRule_yes (p : Int) (s : ByteArray) (o t : Int) (hk : rOk p s o t = true) (w : World) :
    Calls Tryz.prog 83 #[.agg #[.int .i64 p, .string s, .int .i64 o, .int .i64 t]] w fun e w' => e = .returned .nilIface ∧ Below w.heap.size w w' := by
  obtain ⟨⟨p0, p1⟩, hs, ⟨o0, o1⟩, t0, t1⟩ := rOk_true hk
  clear hk
  have hm : s.size ≤ 1048576 := by rw [okS_size hs]; omega
  have e1 := dec_not_lt p0
  have e2 := dec_not_lt p1
  have ho := inB_mk o0 o1
  have ht := inB_mk t0 t1
  go_enter Tryz.func83, Tryz.ntmps83
  go_wp2_with fail
  refine (iWildOk_any _ hm _).mono ?_
  rintro e w1 ⟨rfl, b1⟩
  rw [hs]
  have c1 := belCell b1
  go_wp2_with fail
  refine (outOk_any _ _).mono ?_
  rintro e w2 ⟨rfl, rfl⟩
  rw [ho]
  go_wp2_with fail
  refine (ruleTagOk_any _ _).mono ?_
  rintro e w3 ⟨rfl, rfl⟩
  rw [ht]
  go_wp2
  go_ret
  exact ⟨rfl, (below_alloc1 _ _).trans (b1.mono (by simp))⟩

/-- An error of a rule (type 144) is returned. -/
def ErrPost (w : World) (e : Ending) (w' : World) : Prop := ∃ m : ByteArray, e = .returned (errRule m) ∧ Below w.heap.size w w'

set_option maxHeartbeats 1000000 in
theorem checkRule_no (p : Int) (s : ByteArray) (hm : s.size ≤ 1048576) (o t : Int) (hk : rOk p s o t = false) (w : World) :
    Calls Tryz.prog 83 #[.agg #[.int .i64 p, .string s, .int .i64 o, .int .i64 t]] w (ErrPost w) := by
  by_cases p0 : p < 0
  · clear hk
    go_enter Tryz.func83, Tryz.ntmps83
    go_wp2
    go_ret
    exact ⟨_, rfl, below_alloc1 _ _⟩
  have e1 : decide (p < 0) = false := by simpa using p0
  by_cases p1 : 9 < p
  · clear hk
    go_enter Tryz.func83, Tryz.ntmps83
    go_wp2
    go_ret
    exact ⟨_, rfl, below_alloc1 _ _⟩
  have e2 : decide (9 < p) = false := by simpa using p1
  cases hs : okS s
  · clear hk
    go_enter Tryz.func83, Tryz.ntmps83
    go_wp2_with fail
    refine (iWildOk_any _ hm _).mono ?_
    rintro e w1 ⟨rfl, b1⟩
    rw [hs]
    go_wp2
    go_ret
    exact ⟨_, rfl, (below_alloc1 _ _).trans (b1.mono (by simp))⟩
  cases ho : inB o 0 4
  · clear hk
    go_enter Tryz.func83, Tryz.ntmps83
    go_wp2_with fail
    refine (iWildOk_any _ hm _).mono ?_
    rintro e w1 ⟨rfl, b1⟩
    rw [hs]
    have c1 := belCell b1
    go_wp2_with fail
    refine (outOk_any _ _).mono ?_
    rintro e w2 ⟨rfl, rfl⟩
    rw [ho]
    go_wp2
    go_ret
    exact ⟨_, rfl, (below_alloc1 _ _).trans (b1.mono (by simp))⟩
  have ht : inB t (-1) 3 = false := by
    have hp : inB p 0 9 = true := inB_mk (by omega) (by omega)
    simpa [rOk, hp, hs, ho] using hk
  clear hk
  go_enter Tryz.func83, Tryz.ntmps83
  go_wp2_with fail
  refine (iWildOk_any _ hm _).mono ?_
  rintro e w1 ⟨rfl, b1⟩
  rw [hs]
  have c1 := belCell b1
  go_wp2_with fail
  refine (outOk_any _ _).mono ?_
  rintro e w2 ⟨rfl, rfl⟩
  rw [ho]
  go_wp2_with fail
  refine (ruleTagOk_any _ _).mono ?_
  rintro e w3 ⟨rfl, rfl⟩
  rw [ht]
  go_wp2
  go_ret
  exact ⟨_, rfl, (below_alloc1 _ _).trans (b1.mono (by simp))⟩

set_option maxHeartbeats 1000000 in
theorem iRuleOk_any (p : Int) (s : ByteArray) (hm : s.size ≤ 1048576) (o t : Int) (w : World) (hE : EtOk w) :
    Calls Tryz.prog 79 #[.agg #[.int .i64 p, .string s, .int .i64 o, .int .i64 t]] w fun e w' => e = .returned (.bool (rOk p s o t)) ∧ Below w.heap.size w w' := by
  have HE := Lib.hid (hE.alloc (.cells #[.int .i64 p, .string s, .int .i64 o, .int .i64 t] 99))
  clear hE
  cases hk : rOk p s o t
  · go_enter Tryz.func79, Tryz.ntmps79
    go_wp2_with fail
    refine (checkRule_no _ _ hm _ _ hk _).mono ?_
    rintro e w1 ⟨m, rfl, b1⟩
    go_wp2_with fail
    refine (isErr_yes _ _ (HE.out.below b1)).mono ?_
    rintro e w2 ⟨rfl, b2⟩
    go_wp2
    go_ret
    exact ⟨rfl, (below_alloc1 _ _).trans ((belStep b1 b2).mono (by simp))⟩
  · go_enter Tryz.func79, Tryz.ntmps79
    go_wp2_with fail
    refine (checkRule_yes _ _ _ _ hk _).mono ?_
    rintro e w1 ⟨rfl, b1⟩
    go_wp2_with fail
    refine (isErr_no _).mono ?_
    rintro e w2 ⟨rfl, b2⟩
    go_wp2
    go_ret
    exact ⟨rfl, (below_alloc1 _ _).trans ((belStep b1 b2).mono (by simp))⟩

set_option maxHeartbeats 1000000 in
theorem sRuleOk_any (p : Int) (s : ByteArray) (hm : s.size ≤ 1048576) (o t : Int) (w : World) :
    Calls Tryz.prog 61 #[.agg #[.int .i64 p, .string s, .int .i64 o, .int .i64 t]] w fun e w' => e = .returned (.bool (rOk p s o t)) ∧ Below w.heap.size w w' := by
  cases hp : inB p 0 9
  · rw [show rOk p s o t = false from by simp [rOk, hp]]
    go_enter Tryz.func61, Tryz.ntmps61
    go_wp2_with fail
    refine (l6In_any _ _ _ _).mono ?_
    rintro e w1 ⟨rfl, rfl⟩
    rw [hp]
    go_wp2
    go_ret
    exact ⟨rfl, below_alloc1 _ _⟩
  cases hs : okS s
  · rw [show rOk p s o t = false from by simp [rOk, hs]]
    go_enter Tryz.func61, Tryz.ntmps61
    go_wp2_with fail
    refine (l6In_any _ _ _ _).mono ?_
    rintro e w1 ⟨rfl, rfl⟩
    rw [hp]
    go_wp2_with fail
    refine (sWildOk_any _ hm _).mono ?_
    rintro e w2 ⟨rfl, rfl⟩
    rw [hs]
    go_wp2
    go_ret
    exact ⟨rfl, below_alloc1 _ _⟩
  cases ho : inB o 0 4
  · rw [show rOk p s o t = false from by simp [rOk, ho]]
    go_enter Tryz.func61, Tryz.ntmps61
    go_wp2_with fail
    refine (l6In_any _ _ _ _).mono ?_
    rintro e w1 ⟨rfl, rfl⟩
    rw [hp]
    go_wp2_with fail
    refine (sWildOk_any _ hm _).mono ?_
    rintro e w2 ⟨rfl, rfl⟩
    rw [hs]
    go_wp2_with fail
    refine (l6In_any _ _ _ _).mono ?_
    rintro e w3 ⟨rfl, rfl⟩
    rw [ho]
    go_wp2
    go_ret
    exact ⟨rfl, below_alloc1 _ _⟩
  rw [show rOk p s o t = inB t (-1) 3 from by simp [rOk, hp, hs, ho]]
  go_enter Tryz.func61, Tryz.ntmps61
  go_wp2_with fail
  refine (l6In_any _ _ _ _).mono ?_
  rintro e w1 ⟨rfl, rfl⟩
  rw [hp]
  go_wp2_with fail
  refine (sWildOk_any _ hm _).mono ?_
  rintro e w2 ⟨rfl, rfl⟩
  rw [hs]
  go_wp2_with fail
  refine (l6In_any _ _ _ _).mono ?_
  rintro e w3 ⟨rfl, rfl⟩
  rw [ho]
  go_wp2_with fail
  refine (l6In_any _ _ _ _).mono ?_
  rintro e w4 ⟨rfl, rfl⟩
  go_wp2
  go_ret
  exact ⟨rfl, below_alloc1 _ _⟩

/-! ### The statements' own helpers -/

set_option maxHeartbeats 1000000 in
theorem szRule_any (p : Int) (s : ByteArray) (hs : s.size ≤ maxLen) (o t left : Int) (h0 : 0 ≤ left) (h1 : left ≤ 1048576) (w : World) :
    Calls Tryz.prog 44 #[.agg #[.int .i64 p, .string s, .int .i64 o, .int .i64 t], .int .i64 left] w fun e w' => e = .returned (.int .i64 (if left < s.size then -1 else left - s.size)) ∧ Below w.heap.size w w' := by
  unfold maxLen at hs
  by_cases h : left < s.size
  · have hn : left - (s.size : Int) < 0 := by omega
    rw [if_pos h]
    go_enter Tryz.func44, Tryz.ntmps44
    go_wp2
    go_ret
    exact ⟨rfl, below_alloc1 _ _⟩
  · have hn : ¬ left - (s.size : Int) < 0 := by omega
    rw [if_neg h]
    go_enter Tryz.func44, Tryz.ntmps44
    go_wp2
    go_ret
    exact ⟨rfl, below_alloc1 _ _⟩

set_option maxHeartbeats 1000000 in
theorem toRule_any (p : Int) (s : ByteArray) (o t : Int) (w : World) :
    Calls Tryz.prog 51 #[.agg #[.int .i64 p, .string s, .int .i64 o, .int .i64 t]] w fun e w' => e = .returned (.agg #[.int .i64 p, .string s, .int .i64 o, .int .i64 t]) ∧ Below w.heap.size w w' := by
  go_enter Tryz.func51, Tryz.ntmps51
  go_wp2
  exact bodyPost_ret (v := .agg #[.int .i64 p, .string s, .int .i64 o, .int .i64 t]) (by simp [results, Tryz.results51, go_sem]) rfl
    ⟨rfl, by repeat (first | exact below_alloc3 _ _ _ _ | refine Below.setCell ?_ (by simp) _)⟩

set_option maxHeartbeats 1000000 in
theorem eqRule_same (p : Int) (s : ByteArray) (o t : Int) (w : World) :
    Calls Tryz.prog 58 #[.agg #[.int .i64 p, .string s, .int .i64 o, .int .i64 t], .agg #[.int .i64 p, .string s, .int .i64 o, .int .i64 t]] w fun e w' => e = .returned (.bool true) ∧ Below w.heap.size w w' := by
  go_enter Tryz.func58, Tryz.ntmps58
  go_wp2
  go_ret
  exact ⟨rfl, below_alloc2 _ _ _⟩

end Go.Proofs.YtjjhahhchimmlaaGreatDoor
