/-
  What RuleText returns, the program's and the model's.
-/
import Derived.Test.YtjjhahhchimmlaaGreatDoorRuleImpl
import Derived.Test.YtjjhahhchimmlaaGreatDoorItoa
import Derived.Deep.RegionHeld3
namespace Go.Proofs.YtjjhahhchimmlaaGreatDoor
open Go.ChangeShapes Go.WideShapes Go.ChangeAt Go.RowKit Go.Joins
set_option linter.unusedVariables false

/-- The text of a rule, empty if it is none. -/
def rT (p : Int) (s : ByteArray) (o t : Int) : ByteArray := bif rOk p s o t then rTxt p s o t else ⟨#[]⟩
theorem rT_yes {p : Int} {s : ByteArray} {o t : Int} (h : rOk p s o t = true) : rT p s o t = rTxt p s o t := by rw [rT, h, cond_true]
theorem rT_no {p : Int} {s : ByteArray} {o t : Int} (h : rOk p s o t = false) : rT p s o t = ⟨#[]⟩ := by rw [rT, h, cond_false]

theorem itoa_bel (n : Int) (h0 : 0 ≤ n) (h9 : n ≤ 9) (w : World) :
    Calls Tryz.prog 100 #[.int .i64 n] w fun e w' => e = .returned (.string (digB n)) ∧ Below w.heap.size w w' :=
  (itoa_digit n h0 h9 w).mono fun e w' ⟨he, hw⟩ => ⟨he, hw ▸ Below.refl _ _⟩

set_option maxHeartbeats 1000000 in
theorem ruleTag_any (t : Int) (h0 : -1 ≤ t) (h1 : t ≤ 3) (w : World) :
    Calls Tryz.prog 101 #[.int .i64 t] w fun e w' => e = .returned (.string (tagS t)) ∧ Below w.heap.size w w' := by
  by_cases ht : t = -1
  · subst ht
    go_enter Tryz.func101, Tryz.ntmps101
    go_wp2
    go_ret
    exact ⟨rfl, Below.refl _ _⟩
  · have ht' : (t == -1) = false := by simpa using ht
    have e : tagS t = digB t := by unfold tagS; rw [decide_eq_true (show 0 ≤ t by omega), cond_true]
    rw [e]
    clear e
    go_enter Tryz.func101, Tryz.ntmps101
    go_wp2_with fail
    refine (itoa_bel _ (by omega) (by omega) _).mono ?_
    rintro e w1 ⟨rfl, b1⟩
    go_wp2
    go_ret
    exact ⟨rfl, b1⟩

set_option maxHeartbeats 4000000 in
theorem iRuleText_yes (p : Int) (s : ByteArray) (o t : Int) (hk : rOk p s o t = true) (w : World) :
    Calls Tryz.prog 90 #[.agg #[.int .i64 p, .string s, .int .i64 o, .int .i64 t]] w fun e w' => e = .returned (.string (rTxt p s o t)) ∧ Below w.heap.size w w' := by
  obtain ⟨⟨p0, p1⟩, hs, ⟨o0, o1⟩, t0, t1⟩ := rOk_true hk
  have hz := okS_size hs
  go_enter Tryz.func90, Tryz.ntmps90
  go_wp2_with fail
  refine (checkRule_yes _ _ _ _ hk _).mono ?_
  rintro e w1 ⟨rfl, b1⟩
  go_wp2_with fail
  refine (isErr_no _).mono ?_
  rintro e w2 ⟨rfl, b2⟩
  have b12 := belStep b1 b2
  have P0 := Lib.hid (fourKept b12)
  have s2 := b12.size
  simp at s2
  have BW : Hid (Below w.heap.size w w2) := (below_alloc1 _ _).trans (b12.mono (by simp))
  have HS : Hid (∀ w' : World, Below w2.heap.size w2 w' → (w'.cell? ⟨w.heap.size, 0, none⟩ = some (.int .i64 p) ∧ w'.cell? ⟨w.heap.size, 1, none⟩ = some (.string s) ∧ w'.cell? ⟨w.heap.size, 2, none⟩ = some (.int .i64 o) ∧ w'.cell? ⟨w.heap.size, 3, none⟩ = some (.int .i64 t) ∧ Below w2.heap.size w2 w')) := by
    intro w' hq
    have hc := belCell hq
    obtain ⟨q0, q1, q2, q3⟩ := P0.out
    exact ⟨by rw [hc _ _ (by omega)]; exact q0, by rw [hc _ _ (by omega)]; exact q1, by rw [hc _ _ (by omega)]; exact q2, by rw [hc _ _ (by omega)]; exact q3, hq⟩
  clear P0 b1 b2 b12
  have d1 := digB_size p
  have d2 := digB_size o
  have d3 := tagS_size t
  go_wp2
  go_region_held3 (fun w' => w'.cell? ⟨w.heap.size, 0, none⟩ = some (.int .i64 p) ∧ w'.cell? ⟨w.heap.size, 1, none⟩ = some (.string s) ∧ w'.cell? ⟨w.heap.size, 2, none⟩ = some (.int .i64 o) ∧ w'.cell? ⟨w.heap.size, 3, none⟩ = some (.int .i64 t) ∧ Below w2.heap.size w2 w')
    (first | exact HS.out _ ((Below.refl _ _).drew) | (go_split_ands; exact HS.out _ (belStep (by assumption) hq)))
    (first
      | (go_at_call 100; ((with_reducible refine (itoa_bel _ ?_ ?_ _).mono ?_); omega; omega; rintro e wq ⟨rfl, hq⟩))
      | (go_at_call 101; ((with_reducible refine (ruleTag_any _ ?_ ?_ _).mono ?_); omega; omega; rintro e wq ⟨rfl, hq⟩)))
  go_wp2
  go_ret
  go_split_ands
  exact ⟨rfl, BW.out.trans (Below.mono (show Below w2.heap.size w2 wq by assumption) BW.out.size)⟩

set_option maxHeartbeats 1000000 in
theorem iRuleText_no (p : Int) (s : ByteArray) (hm : s.size ≤ 1048576) (o t : Int) (hk : rOk p s o t = false) (w : World) (hE : EtOk w) :
    Calls Tryz.prog 90 #[.agg #[.int .i64 p, .string s, .int .i64 o, .int .i64 t]] w fun e w' => e = .returned (.string ⟨#[]⟩) ∧ Below w.heap.size w w' := by
  have HE := Lib.hid (hE.alloc (.cells #[.int .i64 p, .string s, .int .i64 o, .int .i64 t] 99))
  clear hE
  go_enter Tryz.func90, Tryz.ntmps90
  go_wp2_with fail
  refine (checkRule_no _ _ hm _ _ hk _).mono ?_
  rintro e w1 ⟨m, rfl, b1⟩
  go_wp2_with fail
  refine (isErr_yes _ _ (HE.out.below b1)).mono ?_
  rintro e w2 ⟨rfl, b2⟩
  go_wp2
  go_ret
  exact ⟨rfl, (below_alloc1 _ _).trans ((belStep b1 b2).mono (by simp))⟩

theorem iRuleText_any (p : Int) (s : ByteArray) (hm : s.size ≤ 1048576) (o t : Int) (w : World) (hE : EtOk w) :
    Calls Tryz.prog 90 #[.agg #[.int .i64 p, .string s, .int .i64 o, .int .i64 t]] w fun e w' => e = .returned (.string (rT p s o t)) ∧ Below w.heap.size w w' := by
  cases hk : rOk p s o t
  · rw [rT_no hk]
    exact iRuleText_no p s hm o t hk w hE
  · rw [rT_yes hk]
    exact iRuleText_yes p s o t hk w

set_option maxHeartbeats 4000000 in
theorem l11Text_any (p : Int) (s : ByteArray) (o t : Int) (hk : rOk p s o t = true) (w : World) :
    Calls Tryz.prog 73 #[.agg #[.int .i64 p, .string s, .int .i64 o, .int .i64 t]] w fun e w' => e = .returned (.string (rTxt p s o t)) ∧ Below w.heap.size w w' := by
  obtain ⟨⟨p0, p1⟩, hs, ⟨o0, o1⟩, t0, t1⟩ := rOk_true hk
  have hz := okS_size hs
  clear hk
  have d1 := digB_size p
  have d2 := digB_size o
  by_cases ht : 0 ≤ t
  · have d3 := digB_size t
    have e : rTxt p s o t = digB p ++ (⟨#[32]⟩ : ByteArray) ++ s ++ (⟨#[32]⟩ : ByteArray) ++ digB o ++ (⟨#[32]⟩ : ByteArray) ++ digB t := by
      unfold rTxt tagS
      rw [decide_eq_true ht, cond_true]
    rw [e]
    clear e
    go_enter Tryz.func73, Tryz.ntmps73
    go_wp2_with fail
    refine (l6Dec_digit _ ht (by omega) _).mono ?_
    rintro e w2 ⟨rfl, b12⟩
    have P0 := Lib.hid (fourKept b12)
    have s2 := b12.size
    simp at s2
    have BW : Hid (Below w.heap.size w w2) := (below_alloc1 _ _).trans (b12.mono (by simp))
    have HS : Hid (∀ w' : World, Below w2.heap.size w2 w' → (w'.cell? ⟨w.heap.size, 0, none⟩ = some (.int .i64 p) ∧ w'.cell? ⟨w.heap.size, 1, none⟩ = some (.string s) ∧ w'.cell? ⟨w.heap.size, 2, none⟩ = some (.int .i64 o) ∧ Below w2.heap.size w2 w')) := by
      intro w' hq
      have hc := belCell hq
      obtain ⟨q0, q1, q2, q3⟩ := P0.out
      exact ⟨by rw [hc _ _ (by omega)]; exact q0, by rw [hc _ _ (by omega)]; exact q1, by rw [hc _ _ (by omega)]; exact q2, hq⟩
    clear P0 b12
    go_wp2
    go_region_held3 (fun w' => w'.cell? ⟨w.heap.size, 0, none⟩ = some (.int .i64 p) ∧ w'.cell? ⟨w.heap.size, 1, none⟩ = some (.string s) ∧ w'.cell? ⟨w.heap.size, 2, none⟩ = some (.int .i64 o) ∧ Below w2.heap.size w2 w')
      (first | exact HS.out _ ((Below.refl _ _).drew) | (go_split_ands; exact HS.out _ (belStep (by assumption) hq)))
      (first
        | (go_at_call 86; ((with_reducible refine (l6Dec_digit _ ?_ ?_ _).mono ?_); omega; omega; rintro e wq ⟨rfl, hq⟩)))
    go_wp2
    go_ret
    go_split_ands
    exact ⟨rfl, BW.out.trans (Below.mono (show Below w2.heap.size w2 wq by assumption) BW.out.size)⟩
  · have e : rTxt p s o t = digB p ++ (⟨#[32]⟩ : ByteArray) ++ s ++ (⟨#[32]⟩ : ByteArray) ++ digB o ++ (⟨#[32]⟩ : ByteArray) ++ (⟨#[45]⟩ : ByteArray) := by
      unfold rTxt tagS
      rw [decide_eq_false ht, cond_false]
    rw [e]
    clear e
    have BW : Hid (Below w.heap.size w (w.alloc (.cells #[.int .i64 p, .string s, .int .i64 o, .int .i64 t] 99))) := below_alloc1 _ _
    have HS : Hid (∀ w' : World, Below (w.heap.size + 1) (w.alloc (.cells #[.int .i64 p, .string s, .int .i64 o, .int .i64 t] 99)) w' → (w'.cell? ⟨w.heap.size, 0, none⟩ = some (.int .i64 p) ∧ w'.cell? ⟨w.heap.size, 1, none⟩ = some (.string s) ∧ w'.cell? ⟨w.heap.size, 2, none⟩ = some (.int .i64 o) ∧ Below (w.heap.size + 1) (w.alloc (.cells #[.int .i64 p, .string s, .int .i64 o, .int .i64 t] 99)) w')) := by
      intro w' hq
      obtain ⟨q0, q1, q2, q3⟩ := fourKept (w := w) (by simpa using hq)
      exact ⟨q0, q1, q2, hq⟩
    have ST : Hid (∀ a b : World, Below (w.heap.size + 1) (w.alloc (.cells #[.int .i64 p, .string s, .int .i64 o, .int .i64 t] 99)) a → Below a.heap.size a b → Below (w.heap.size + 1) (w.alloc (.cells #[.int .i64 p, .string s, .int .i64 o, .int .i64 t] 99)) b) := fun a b h k => h.trans (k.mono (by have := h.size; simpa using this))
    go_enter Tryz.func73, Tryz.ntmps73
    go_wp2
    go_region_held3 (fun w' => w'.cell? ⟨w.heap.size, 0, none⟩ = some (.int .i64 p) ∧ w'.cell? ⟨w.heap.size, 1, none⟩ = some (.string s) ∧ w'.cell? ⟨w.heap.size, 2, none⟩ = some (.int .i64 o) ∧ Below (w.heap.size + 1) (w.alloc (.cells #[.int .i64 p, .string s, .int .i64 o, .int .i64 t] 99)) w')
      (first | exact HS.out _ ((Below.refl _ _).drew) | (go_split_ands; exact HS.out _ (ST.out _ _ (by assumption) hq)))
      (first
        | (go_at_call 86; ((with_reducible refine (l6Dec_digit _ ?_ ?_ _).mono ?_); omega; omega; rintro e wq ⟨rfl, hq⟩)))
    go_wp2
    go_ret
    go_split_ands
    exact ⟨rfl, BW.out.trans (Below.mono (show Below (w.heap.size + 1) (w.alloc (.cells #[.int .i64 p, .string s, .int .i64 o, .int .i64 t] 99)) wq by assumption) (by omega))⟩

end Go.Proofs.YtjjhahhchimmlaaGreatDoor
