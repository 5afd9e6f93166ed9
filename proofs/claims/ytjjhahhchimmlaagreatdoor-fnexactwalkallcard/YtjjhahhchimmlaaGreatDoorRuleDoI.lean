/-
  What RuleDo returns, the program's and the model's.
-/
import Derived.Test.YtjjhahhchimmlaaGreatDoorRuleImpl
import Derived.Deep.RegionWith
namespace Go.Proofs.YtjjhahhchimmlaaGreatDoor
open Go.ChangeShapes Go.WideShapes Go.ChangeAt Go.RowKit Go.Joins
set_option linter.unusedVariables false

/-- The tag of a head behind a rule. -/
def tagTo (t c : Int) : Int := if 0 ≤ t then t else c
/-- A rule is of a head. -/
def doB (p : Int) (s : ByteArray) (o t a b c : Int) : Bool := rOk p s o t && hasS s a b c
/-- What RuleDo returns. -/
def doV (p : Int) (s : ByteArray) (o t a b c : Int) : Value :=
  bif doB p s o t a b c then .tuple #[.agg #[.int .i64 a, .int .i64 b, .int .i64 (tagTo t c)], .int .i64 o, .bool true] else .tuple #[.agg #[.int .i64 0, .int .i64 0, .int .i64 0], .int .i64 0, .bool false]

/-- The blocks of a call of a rule and a head, with the result's, behind calls that leave what was there. -/
theorem ruleHead {w w1 : World} {t u v : TypeId} {a b c d x y z r0 r1 r2 : Value} (hb : Below (((w.alloc (.cells #[a, b, c, d] t)).alloc (.cells #[x, y, z] u)).alloc (.cells #[r0, r1, r2] v)).heap.size (((w.alloc (.cells #[a, b, c, d] t)).alloc (.cells #[x, y, z] u)).alloc (.cells #[r0, r1, r2] v)) w1) :
    w1.cell? ⟨w.heap.size, 0, none⟩ = some a ∧ w1.cell? ⟨w.heap.size, 1, none⟩ = some b ∧ w1.cell? ⟨w.heap.size, 2, none⟩ = some c ∧ w1.cell? ⟨w.heap.size, 3, none⟩ = some d ∧
    w1.cell? ⟨w.heap.size + 1, 0, none⟩ = some x ∧ w1.cell? ⟨w.heap.size + 1, 1, none⟩ = some y ∧ w1.cell? ⟨w.heap.size + 1, 2, none⟩ = some z ∧
    w1.cell? ⟨w.heap.size + 1 + 1, 0, none⟩ = some r0 ∧ w1.cell? ⟨w.heap.size + 1 + 1, 1, none⟩ = some r1 ∧ w1.cell? ⟨w.heap.size + 1 + 1, 2, none⟩ = some r2 ∧
    (∀ o, w1.frozen? ⟨w.heap.size + 1, o, none⟩ = false) ∧ ∀ o, w1.frozen? ⟨w.heap.size + 1 + 1, o, none⟩ = false := by
  have hc := belCell hb
  have hf := belFrozen hb
  refine ⟨?_, ?_, ?_, ?_, ?_, ?_, ?_, ?_, ?_, ?_, fun o => ?_, fun o => ?_⟩ <;> first | (rw [hc _ _ (by simp; try omega)]; simp [go_sem]; done) | (rw [hf _ _ (by simp; try omega)]; simp [go_sem])

set_option maxHeartbeats 1000000 in
theorem retag_any (a b c t : Int) (w : World) :
    Calls Tryz.prog 85 #[.agg #[.int .i64 a, .int .i64 b, .int .i64 c], .int .i64 t] w fun e w' => e = .returned (.agg #[.int .i64 a, .int .i64 b, .int .i64 (if t = -1 then c else t)]) ∧ Below w.heap.size w w' := by
  by_cases ht : t = -1
  · subst ht
    rw [if_pos rfl]
    go_enter Tryz.func85, Tryz.ntmps85
    go_wp2
    exact bodyPost_ret (v := .agg #[.int .i64 a, .int .i64 b, .int .i64 c]) (by simp [results, Tryz.results85, go_sem]) rfl
      ⟨rfl, by repeat (first | exact below_alloc2 _ _ _ | refine Below.setCell ?_ (by simp) _)⟩
  · rw [if_neg ht]
    have ht' : (t != -1) = true := by simpa using ht
    go_enter Tryz.func85, Tryz.ntmps85
    go_wp2
    exact bodyPost_ret (v := .agg #[.int .i64 a, .int .i64 b, .int .i64 t]) (by simp [results, Tryz.results85, go_sem]) rfl
      ⟨rfl, by repeat (first | exact below_alloc2 _ _ _ | refine Below.setCell ?_ (by simp) _)⟩

set_option maxHeartbeats 1000000 in
theorem iRuleDo_yes (p : Int) (s : ByteArray) (o t a b c : Int) (hk : rOk p s o t = true) (hh : hasS s a b c = true) (w : World) :
    Calls Tryz.prog 71 #[.agg #[.int .i64 p, .string s, .int .i64 o, .int .i64 t], .agg #[.int .i64 a, .int .i64 b, .int .i64 c]] w fun e w' => e = .returned (.tuple #[.agg #[.int .i64 a, .int .i64 b, .int .i64 (tagTo t c)], .int .i64 o, .bool true]) ∧ Below w.heap.size w w' := by
  obtain ⟨⟨p0, p1⟩, hs, ⟨o0, o1⟩, t0, t1⟩ := rOk_true hk
  have hm : s.size ≤ 1048576 := by rw [okS_size hs]; omega
  have HTG : Hid (∀ W, Calls Tryz.prog 85 #[.agg #[.int .i64 a, .int .i64 b, .int .i64 c], .int .i64 t] W fun e w' => e = .returned (.agg #[.int .i64 a, .int .i64 b, .int .i64 (tagTo t c)]) ∧ Below W.heap.size W w') := fun W => by
    have := retag_any a b c t W
    rw [show (if t = -1 then c else t) = tagTo t c from by
      unfold tagTo
      by_cases ht : t = -1
      · rw [if_pos ht, if_neg (by omega)]
      · rw [if_neg ht, if_pos (by omega)]] at this
    exact this
  generalize tagTo t c = tt at *
  go_enter Tryz.func71, Tryz.ntmps71
  go_wp2_with fail
  refine (checkRule_yes _ _ _ _ hk _).mono ?_
  rintro e w1 ⟨rfl, b1⟩
  go_wp2_with fail
  refine (isErr_no _).mono ?_
  rintro e w2 ⟨rfl, b2⟩
  have b12 := belStep b1 b2
  obtain ⟨r0, r1, r2, r3, h0, h1, h2, k0, k1, k2, f1, f2⟩ := ruleHead b12
  go_wp2_with fail
  refine (iWildHas_any _ hm _ _ _ _).mono ?_
  rintro e w3 ⟨rfl, b3⟩
  rw [hh]
  have b13 := belStep b12 b3
  clear r0 r1 r2 r3 h0 h1 h2 k0 k1 k2 f1 f2
  obtain ⟨r0, r1, r2, r3, h0, h1, h2, k0, k1, k2, f1, f2⟩ := ruleHead b13
  have s3 := b13.size
  simp at s3
  have B3 : Hid (Below w.heap.size w w3) := (below_alloc3 _ _ _ _).trans (b13.mono (by simp; omega))
  have l0 : w.heap.size < w3.heap.size := by omega
  have l2 : w.heap.size + 1 + 1 < w3.heap.size := by omega
  clear b1 b2 b3 b12 b13
  go_wp2
  go_region_with (go_at_call 85; ((with_reducible refine (HTG.out _).mono ?_); rintro e w4 ⟨rfl, b4⟩; have j2 : w4.cell? ⟨w.heap.size, 2, none⟩ = some (.int .i64 o) := (belCell b4 _ _ l0).trans r2; have m0 : w4.cell? ⟨w.heap.size + 1 + 1, 0, none⟩ = some (.int .i64 0) := (belCell b4 _ _ l2).trans k0; have m1 : w4.cell? ⟨w.heap.size + 1 + 1, 1, none⟩ = some (.int .i64 0) := (belCell b4 _ _ l2).trans k1; have m2 : w4.cell? ⟨w.heap.size + 1 + 1, 2, none⟩ = some (.int .i64 0) := (belCell b4 _ _ l2).trans k2; have mf : ∀ j, w4.frozen? ⟨w.heap.size + 1 + 1, j, none⟩ = false := (fun j => (World.frozen?_of_block (b4.block _ l2)).trans (f2 j)); have B4 := Lib.hid (belStep B3.out.drew b4); clear b4))
  all_goals
    go_wp2
    exact bodyPost_ret (v := .tuple #[.agg #[.int .i64 a, .int .i64 b, .int .i64 tt], .int .i64 o, .bool true]) (by simp [results, Tryz.results71, go_sem, m0, m1, m2]) rfl
            ⟨rfl, by repeat (first | exact B4.out | refine Below.setCell ?_ (by dsimp only; omega) _ | refine Below.drew ?_ | refine Below.alloc ?_ (by simp; try omega) _)⟩

set_option maxHeartbeats 1000000 in
theorem iRuleDo_no (p : Int) (s : ByteArray) (hm : s.size ≤ 1048576) (o t a b c : Int) (hd : doB p s o t a b c = false) (w : World) (hE : EtOk w) :
    Calls Tryz.prog 71 #[.agg #[.int .i64 p, .string s, .int .i64 o, .int .i64 t], .agg #[.int .i64 a, .int .i64 b, .int .i64 c]] w fun e w' => e = .returned (.tuple #[.agg #[.int .i64 0, .int .i64 0, .int .i64 0], .int .i64 0, .bool false]) ∧ Below w.heap.size w w' := by
  have HE := Lib.hid ((hE.alloc (.cells #[.int .i64 p, .string s, .int .i64 o, .int .i64 t] 99)).alloc (.cells #[.int .i64 a, .int .i64 b, .int .i64 c] 30) |>.alloc (.cells #[.int .i64 0, .int .i64 0, .int .i64 0] 30))
  clear hE
  cases hk : rOk p s o t
  · clear hd
    go_enter Tryz.func71, Tryz.ntmps71
    go_wp2_with fail
    refine (checkRule_no _ _ hm _ _ hk _).mono ?_
    rintro e w1 ⟨m, rfl, b1⟩
    go_wp2_with fail
    refine (isErr_yes _ _ (HE.out.below b1)).mono ?_
    rintro e w2 ⟨rfl, b2⟩
    have b12 := belStep b1 b2
    obtain ⟨r0, r1, r2, r3, h0, h1, h2, k0, k1, k2, f1, f2⟩ := ruleHead b12
    have B3 : Hid (Below w.heap.size w w2) := (below_alloc3 _ _ _ _).trans (b12.mono (by simp; omega))
    clear b1 b2 b12
    go_wp2
    (first | go_region_with (fail) | skip)
    all_goals
      go_wp2
      exact bodyPost_ret (v := .tuple #[.agg #[.int .i64 0, .int .i64 0, .int .i64 0], .int .i64 0, .bool false]) (by simp [results, Tryz.results71, go_sem, k0, k1, k2]) rfl
            ⟨rfl, by repeat (first | exact B3.out | refine Below.setCell ?_ (by dsimp only; omega) _ | refine Below.drew ?_ | refine Below.alloc ?_ (by simp; try omega) _)⟩
  · have hh : hasS s a b c = false := by simpa [doB, hk] using hd
    clear hd
    go_enter Tryz.func71, Tryz.ntmps71
    go_wp2_with fail
    refine (checkRule_yes _ _ _ _ hk _).mono ?_
    rintro e w1 ⟨rfl, b1⟩
    go_wp2_with fail
    refine (isErr_no _).mono ?_
    rintro e w2 ⟨rfl, b2⟩
    have b12 := belStep b1 b2
    obtain ⟨r0, r1, r2, r3, h0, h1, h2, k0, k1, k2, f1, f2⟩ := ruleHead b12
    go_wp2_with fail
    refine (iWildHas_any _ hm _ _ _ _).mono ?_
    rintro e w3 ⟨rfl, b3⟩
    rw [hh]
    have b13 := belStep b12 b3
    clear r0 r1 r2 r3 h0 h1 h2 k0 k1 k2 f1 f2
    obtain ⟨r0, r1, r2, r3, h0, h1, h2, k0, k1, k2, f1, f2⟩ := ruleHead b13
    have B3 : Hid (Below w.heap.size w w3) := (below_alloc3 _ _ _ _).trans (b13.mono (by simp; omega))
    clear b1 b2 b3 b12 b13
    go_wp2
    (first | go_region_with (fail) | skip)
    all_goals
      go_wp2
      exact bodyPost_ret (v := .tuple #[.agg #[.int .i64 0, .int .i64 0, .int .i64 0], .int .i64 0, .bool false]) (by simp [results, Tryz.results71, go_sem, k0, k1, k2]) rfl
            ⟨rfl, by repeat (first | exact B3.out | refine Below.setCell ?_ (by dsimp only; omega) _ | refine Below.drew ?_ | refine Below.alloc ?_ (by simp; try omega) _)⟩

theorem iRuleDo_any (p : Int) (s : ByteArray) (hm : s.size ≤ 1048576) (o t a b c : Int) (w : World) (hE : EtOk w) :
    Calls Tryz.prog 71 #[.agg #[.int .i64 p, .string s, .int .i64 o, .int .i64 t], .agg #[.int .i64 a, .int .i64 b, .int .i64 c]] w fun e w' => e = .returned (doV p s o t a b c) ∧ Below w.heap.size w w' := by
  cases hd : doB p s o t a b c
  · rw [doV, hd, cond_false]
    exact iRuleDo_no p s hm o t a b c hd w hE
  · rw [doV, hd, cond_true]
    simp only [doB, Bool.and_eq_true] at hd
    exact iRuleDo_yes p s o t a b c hd.1 hd.2 w

set_option maxHeartbeats 1000000 in
theorem l11Do_any (p : Int) (s : ByteArray) (o t a b c : Int) (w : World) :
    Calls Tryz.prog 66 #[.agg #[.int .i64 p, .string s, .int .i64 o, .int .i64 t], .agg #[.int .i64 a, .int .i64 b, .int .i64 c]] w fun e w' => e = .returned (.tuple #[.agg #[.int .i64 a, .int .i64 b, .int .i64 (tagTo t c)], .int .i64 o]) ∧ Below w.heap.size w w' := by
  by_cases ht : 0 ≤ t
  · have e : tagTo t c = t := if_pos ht
    rw [e]
    clear e
    go_enter Tryz.func66, Tryz.ntmps66
    go_wp2
    (first | go_region_with (fail) | skip)
    all_goals
      go_wp2
      exact bodyPost_ret (v := .tuple #[.agg #[.int .i64 a, .int .i64 b, .int .i64 t], .int .i64 o]) (by simp [results, Tryz.results66, go_sem]) rfl
            ⟨rfl, by repeat (first | exact below_alloc3 _ _ _ _ | refine Below.setCell ?_ (by dsimp only; omega) _ | refine Below.drew ?_ | refine Below.alloc ?_ (by simp; try omega) _)⟩
  · have e : tagTo t c = c := if_neg ht
    rw [e]
    clear e
    go_enter Tryz.func66, Tryz.ntmps66
    go_wp2
    (first | go_region_with (fail) | skip)
    all_goals
      go_wp2
      exact bodyPost_ret (v := .tuple #[.agg #[.int .i64 a, .int .i64 b, .int .i64 c], .int .i64 o]) (by simp [results, Tryz.results66, go_sem]) rfl
            ⟨rfl, by repeat (first | exact below_alloc3 _ _ _ _ | refine Below.setCell ?_ (by dsimp only; omega) _ | refine Below.drew ?_ | refine Below.alloc ?_ (by simp; try omega) _)⟩

end Go.Proofs.YtjjhahhchimmlaaGreatDoor
