/-
  What the program's check of a rule, its error test and RuleOk return, the program's and the model's; and the statements' own helpers on rules.
-/
import Derived.Test.YtcpbenajdomgeaaGreatDoorRuleAsB
import Derived.Test.YtcpbenajdomgeaaGreatDoorWildImpl
import Derived.Test.YtcpbenajdomgeaaGreatDoorWildSpec
namespace Go.Proofs.YtcpbenajdomgeaaGreatDoor
open Go.ChangeShapes Go.WideShapes Go.ChangeAt Go.RowKit Go.Joins
set_option linter.unusedVariables false

/-- Four cells of a block of the call's own, behind calls that leave what was there. -/
theorem fourKept {w w1 : World} {ty : TypeId} {a b c d : Value} (hb : Below (w.alloc (.cells #[a, b, c, d] ty)).heap.size (w.alloc (.cells #[a, b, c, d] ty)) w1) :
    w1.cell? ⟨w.heap.size, 0, none⟩ = some a ∧ w1.cell? ⟨w.heap.size, 1, none⟩ = some b ∧ w1.cell? ⟨w.heap.size, 2, none⟩ = some c ∧ w1.cell? ⟨w.heap.size, 3, none⟩ = some d := by
  have hc := belCell hb
  refine ⟨?_, ?_, ?_, ?_⟩ <;> (rw [hc _ _ (by simp)]; simp [go_sem])

/-- The program's error of a rule. -/
def errRule (m : ByteArray) : Value := .iface 112 (.agg #[.string m])

set_option maxHeartbeats 1000000 in
theorem isErr_no (w : World) :
    Calls Tryz.prog 54 #[.nilIface] w fun e w' => e = .returned (.bool false) ∧ Below w.heap.size w w' := by
  go_enter Tryz.func54, Tryz.ntmps54
  go_wp2_with fail
  refine (as_nil _ _).mono ?_
  rintro e w1 ⟨rfl, rfl⟩
  go_wp2
  go_ret
  exact ⟨rfl, below_alloc1 _ _⟩

set_option maxHeartbeats 1000000 in
theorem isErr_yes (m : ByteArray) (w : World) (hE : EtOk w) :
    Calls Tryz.prog 54 #[errRule m] w fun e w' => e = .returned (.bool true) ∧ Below w.heap.size w w' := by
  have HE := Lib.hid (hE.alloc (.cells #[.string ByteArray.empty] 112))
  clear hE
  unfold errRule
  go_enter Tryz.func54, Tryz.ntmps54
  go_wp2_with fail
  refine (as_hit _ _ (.string ByteArray.empty) _ HE.out (by simp) (by simp)).mono ?_
  rintro e w1 ⟨rfl, rfl⟩
  go_wp2
  go_ret
  exact ⟨rfl, ((((below_alloc1 _ _).alloc (by simp) _).alloc (by simp; omega) _).alloc (by simp; omega) _).alloc (by simp; omega) _⟩

theorem dec_not_lt {a b : Int} (h : b ≤ a) : decide (a < b) = false := by simpa using h

set_option maxHeartbeats 1000000 in
theorem checkRule_yes (p : Int) (s : ByteArray) (o t : Int) (hk : rOk p s o t = true) (w : World) :
    Calls Tryz.prog 55 #[.agg #[.int .i64 p, .string s, .int .i64 o, .int .i64 t]] w fun e w' => e = .returned .nilIface ∧ Below w.heap.size w w' := by
  obtain ⟨⟨p0, p1⟩, hs, ⟨o0, o1⟩, t0, t1⟩ := rOk_true hk
  clear hk
  have hm : s.size ≤ 1048576 := by rw [okS_size hs]; omega
  have e1 := dec_not_lt p0
  have e2 := dec_not_lt p1
  have e3 := dec_not_lt o0
  have e4 := dec_not_lt o1
  by_cases ht : t = -1
  · subst ht
    go_enter Tryz.func55, Tryz.ntmps55
    go_wp2_with fail
    refine (iWildOk_any _ hm _).mono ?_
    rintro e w1 ⟨rfl, b1⟩
    rw [hs]
    have c1 := belCell b1
    go_wp2
    go_ret
    exact ⟨rfl, (below_alloc1 _ _).trans (b1.mono (by simp))⟩
  · have ht' : (t != -1) = true := by simpa using ht
    have hf := fldB_mk (show 0 ≤ t by omega) t1
    go_enter Tryz.func55, Tryz.ntmps55
    go_wp2_with fail
    refine (iWildOk_any _ hm _).mono ?_
    rintro e w1 ⟨rfl, b1⟩
    rw [hs]
    have c1 := belCell b1
    go_wp2_with fail
    refine (fieldOk_any _ _).mono ?_
    rintro e w2 ⟨rfl, rfl⟩
    rw [hf]
    go_wp2
    go_ret
    exact ⟨rfl, (below_alloc1 _ _).trans (b1.mono (by simp))⟩

/-- An error of a rule is returned. -/
def ErrPost (w : World) (e : Ending) (w' : World) : Prop := ∃ m : ByteArray, e = .returned (errRule m) ∧ Below w.heap.size w w'

set_option maxHeartbeats 1000000 in
theorem checkRule_no (p : Int) (s : ByteArray) (hm : s.size ≤ 1048576) (o t : Int) (hk : rOk p s o t = false) (w : World) :
    Calls Tryz.prog 55 #[.agg #[.int .i64 p, .string s, .int .i64 o, .int .i64 t]] w (ErrPost w) := by
  by_cases p0 : p < 0
  · clear hk
    go_enter Tryz.func55, Tryz.ntmps55
    go_wp2
    go_ret
    exact ⟨_, rfl, below_alloc1 _ _⟩
  have e1 : decide (p < 0) = false := by simpa using p0
  by_cases p1 : 9 < p
  · clear hk
    go_enter Tryz.func55, Tryz.ntmps55
    go_wp2
    go_ret
    exact ⟨_, rfl, below_alloc1 _ _⟩
  have e2 : decide (9 < p) = false := by simpa using p1
  cases hs : okS s
  · clear hk
    go_enter Tryz.func55, Tryz.ntmps55
    go_wp2_with fail
    refine (iWildOk_any _ hm _).mono ?_
    rintro e w1 ⟨rfl, b1⟩
    rw [hs]
    go_wp2
    go_ret
    exact ⟨_, rfl, (below_alloc1 _ _).trans (b1.mono (by simp))⟩
  by_cases o0 : o < 0
  · clear hk
    go_enter Tryz.func55, Tryz.ntmps55
    go_wp2_with fail
    refine (iWildOk_any _ hm _).mono ?_
    rintro e w1 ⟨rfl, b1⟩
    rw [hs]
    have c1 := belCell b1
    go_wp2
    go_ret
    exact ⟨_, rfl, (below_alloc1 _ _).trans (b1.mono (by simp))⟩
  have e3 : decide (o < 0) = false := by simpa using o0
  by_cases o1 : 4 < o
  · clear hk
    go_enter Tryz.func55, Tryz.ntmps55
    go_wp2_with fail
    refine (iWildOk_any _ hm _).mono ?_
    rintro e w1 ⟨rfl, b1⟩
    rw [hs]
    have c1 := belCell b1
    go_wp2
    go_ret
    exact ⟨_, rfl, (below_alloc1 _ _).trans (b1.mono (by simp))⟩
  have e4 : decide (4 < o) = false := by simpa using o1
  have ht : ¬ (-1 ≤ t ∧ t ≤ 3) := fun h => by
    rw [rOk_mk (by omega) (by omega) hs (by omega) (by omega) h.1 h.2] at hk
    cases hk
  have ht' : (t != -1) = true := by
    have : t ≠ -1 := by omega
    simpa using this
  have hf : fldB t = false := by
    have : ¬ (0 ≤ t ∧ t ≤ 3) := by omega
    simpa [fldB] using this
  clear hk ht
  go_enter Tryz.func55, Tryz.ntmps55
  go_wp2_with fail
  refine (iWildOk_any _ hm _).mono ?_
  rintro e w1 ⟨rfl, b1⟩
  rw [hs]
  have c1 := belCell b1
  go_wp2_with fail
  refine (fieldOk_any _ _).mono ?_
  rintro e w2 ⟨rfl, rfl⟩
  rw [hf]
  go_wp2
  go_ret
  exact ⟨_, rfl, (below_alloc1 _ _).trans (b1.mono (by simp))⟩

set_option maxHeartbeats 1000000 in
theorem iRuleOk_any (p : Int) (s : ByteArray) (hm : s.size ≤ 1048576) (o t : Int) (w : World) (hE : EtOk w) :
    Calls Tryz.prog 59 #[.agg #[.int .i64 p, .string s, .int .i64 o, .int .i64 t]] w fun e w' => e = .returned (.bool (rOk p s o t)) ∧ Below w.heap.size w w' := by
  have HE := Lib.hid (hE.alloc (.cells #[.int .i64 p, .string s, .int .i64 o, .int .i64 t] 44))
  clear hE
  cases hk : rOk p s o t
  · go_enter Tryz.func59, Tryz.ntmps59
    go_wp2_with fail
    refine (checkRule_no _ _ hm _ _ hk _).mono ?_
    rintro e w1 ⟨m, rfl, b1⟩
    go_wp2_with fail
    refine (isErr_yes _ _ (HE.out.below b1)).mono ?_
    rintro e w2 ⟨rfl, b2⟩
    go_wp2
    go_ret
    exact ⟨rfl, (below_alloc1 _ _).trans ((belStep b1 b2).mono (by simp))⟩
  · go_enter Tryz.func59, Tryz.ntmps59
    go_wp2_with fail
    refine (checkRule_yes _ _ _ _ hk _).mono ?_
    rintro e w1 ⟨rfl, b1⟩
    go_wp2_with fail
    refine (isErr_no _).mono ?_
    rintro e w2 ⟨rfl, b2⟩
    go_wp2
    go_ret
    exact ⟨rfl, (below_alloc1 _ _).trans ((belStep b1 b2).mono (by simp))⟩

set_option maxHeartbeats 1000000 in
theorem sRuleOk_any (p : Int) (s : ByteArray) (hm : s.size ≤ 1048576) (o t : Int) (w : World) :
    Calls Tryz.prog 30 #[.agg #[.int .i64 p, .string s, .int .i64 o, .int .i64 t]] w fun e w' => e = .returned (.bool (rOk p s o t)) ∧ Below w.heap.size w w' := by
  cases hp : inB p 0 9
  · rw [show rOk p s o t = false from by simp [rOk, hp]]
    go_enter Tryz.func30, Tryz.ntmps30
    go_wp2_with fail
    refine (l6In_any _ _ _ _).mono ?_
    rintro e w1 ⟨rfl, rfl⟩
    rw [hp]
    go_wp2
    go_ret
    exact ⟨rfl, below_alloc1 _ _⟩
  cases hs : okS s
  · rw [show rOk p s o t = false from by simp [rOk, hs]]
    go_enter Tryz.func30, Tryz.ntmps30
    go_wp2_with fail
    refine (l6In_any _ _ _ _).mono ?_
    rintro e w1 ⟨rfl, rfl⟩
    rw [hp]
    go_wp2_with fail
    refine (sWildOk_any _ hm _).mono ?_
    rintro e w2 ⟨rfl, rfl⟩
    rw [hs]
    go_wp2
    go_ret
    exact ⟨rfl, below_alloc1 _ _⟩
  cases ho : inB o 0 4
  · rw [show rOk p s o t = false from by simp [rOk, ho]]
    go_enter Tryz.func30, Tryz.ntmps30
    go_wp2_with fail
    refine (l6In_any _ _ _ _).mono ?_
    rintro e w1 ⟨rfl, rfl⟩
    rw [hp]
    go_wp2_with fail
    refine (sWildOk_any _ hm _).mono ?_
    rintro e w2 ⟨rfl, rfl⟩
    rw [hs]
    go_wp2_with fail
    refine (l6In_any _ _ _ _).mono ?_
    rintro e w3 ⟨rfl, rfl⟩
    rw [ho]
    go_wp2
    go_ret
    exact ⟨rfl, below_alloc1 _ _⟩
  rw [show rOk p s o t = inB t (-1) 3 from by simp [rOk, hp, hs, ho]]
  go_enter Tryz.func30, Tryz.ntmps30
  go_wp2_with fail
  refine (l6In_any _ _ _ _).mono ?_
  rintro e w1 ⟨rfl, rfl⟩
  rw [hp]
  go_wp2_with fail
  refine (sWildOk_any _ hm _).mono ?_
  rintro e w2 ⟨rfl, rfl⟩
  rw [hs]
  go_wp2_with fail
  refine (l6In_any _ _ _ _).mono ?_
  rintro e w3 ⟨rfl, rfl⟩
  rw [ho]
  go_wp2_with fail
  refine (l6In_any _ _ _ _).mono ?_
  rintro e w4 ⟨rfl, rfl⟩
  go_wp2
  go_ret
  exact ⟨rfl, below_alloc1 _ _⟩

/-! ### The statements' own helpers -/

set_option maxHeartbeats 1000000 in
theorem szRule_any (p : Int) (s : ByteArray) (hs : s.size ≤ maxLen) (o t left : Int) (h0 : 0 ≤ left) (h1 : left ≤ 1048576) (w : World) :
    Calls Tryz.prog 36 #[.agg #[.int .i64 p, .string s, .int .i64 o, .int .i64 t], .int .i64 left] w fun e w' => e = .returned (.int .i64 (if left < s.size then -1 else left - s.size)) ∧ Below w.heap.size w w' := by
  unfold maxLen at hs
  by_cases h : left < s.size
  · have hn : left - (s.size : Int) < 0 := by omega
    rw [if_pos h]
    go_enter Tryz.func36, Tryz.ntmps36
    go_wp2
    go_ret
    exact ⟨rfl, below_alloc1 _ _⟩
  · have hn : ¬ left - (s.size : Int) < 0 := by omega
    rw [if_neg h]
    go_enter Tryz.func36, Tryz.ntmps36
    go_wp2
    go_ret
    exact ⟨rfl, below_alloc1 _ _⟩

set_option maxHeartbeats 1000000 in
theorem toRule_any (p : Int) (s : ByteArray) (o t : Int) (w : World) :
    Calls Tryz.prog 38 #[.agg #[.int .i64 p, .string s, .int .i64 o, .int .i64 t]] w fun e w' => e = .returned (.agg #[.int .i64 p, .string s, .int .i64 o, .int .i64 t]) ∧ Below w.heap.size w w' := by
  go_enter Tryz.func38, Tryz.ntmps38
  go_wp2
  exact bodyPost_ret (v := .agg #[.int .i64 p, .string s, .int .i64 o, .int .i64 t]) (by simp [results, Tryz.results38, go_sem]) rfl
    ⟨rfl, by repeat (first | exact below_alloc3 _ _ _ _ | refine Below.setCell ?_ (by simp) _)⟩

set_option maxHeartbeats 1000000 in
theorem eqRule_same (p : Int) (s : ByteArray) (o t : Int) (w : World) :
    Calls Tryz.prog 42 #[.agg #[.int .i64 p, .string s, .int .i64 o, .int .i64 t], .agg #[.int .i64 p, .string s, .int .i64 o, .int .i64 t]] w fun e w' => e = .returned (.bool true) ∧ Below w.heap.size w w' := by
  go_enter Tryz.func42, Tryz.ntmps42
  go_wp2
  go_ret
  exact ⟨rfl, below_alloc2 _ _ _⟩

end Go.Proofs.YtcpbenajdomgeaaGreatDoor
