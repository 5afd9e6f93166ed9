/-
  What RuleCmp returns, the program's and the model's; cmp.Compare of two numbers and strings.Compare of two texts, by walks of the library's text.
-/
import Derived.Test.YtjjhahhchimmlaaGreatDoorRuleText
import Derived.Deep.RegionHeld3
import Derived.Lib.Strings
import Derived.Laws.Cover1
namespace Go.Proofs.YtjjhahhchimmlaaGreatDoor
open Go.ChangeShapes Go.WideShapes Go.ChangeAt Go.RowKit Go.Joins
set_option linter.unusedVariables false

/-- Two numbers compared. -/
def cmpI (x y : Int) : Int := if x < y then -1 else if y < x then 1 else 0

set_option maxHeartbeats 1000000 in
theorem cmpInt_any (x y : Int) (w : World) :
    Calls Tryz.prog 88 #[.int .i64 x, .int .i64 y] w fun e w' => e = .returned (.int .i64 (cmpI x y)) ∧ w = w' := by
  unfold cmpI
  by_cases h : x < y
  · rw [if_pos h]
    go_enter Tryz.func88, Tryz.ntmps88
    go_wp2
    go_ret
    exact ⟨rfl, rfl⟩
  · rw [if_neg h]
    have h' : decide (x < y) = false := by simpa using h
    by_cases k : y < x
    · rw [if_pos k]
      go_enter Tryz.func88, Tryz.ntmps88
      go_wp2
      go_ret
      exact ⟨rfl, rfl⟩
    · rw [if_neg k]
      have k' : decide (y < x) = false := by simpa using k
      go_enter Tryz.func88, Tryz.ntmps88
      go_wp2
      go_ret
      exact ⟨rfl, rfl⟩

set_option maxHeartbeats 1000000 in
theorem compare_any (a b : ByteArray) (w : World) :
    Calls Tryz.prog 89 #[.string a, .string b] w fun e w' => e = .returned (.int .i64 (cmpB a b)) ∧ w = w' := by
  have hx := @run_callFunc_extern Tryz.prog 108 _ Extern.BytealgCompare.compare Tryz.func108 (by kernel_rfl) (by kernel_rfl) (by kernel_rfl) (by kernel_rfl)
  have hy : ∀ w : World, (Extern.BytealgCompare.compare #[.string a, .string b]).run Tryz.prog w = .ok (.int .i64 (cmpB a b)) w := fun w => Lib.run_compareString a b w
  go_enter Tryz.func89, Tryz.ntmps89
  go_wp2
  go_ret
  exact ⟨rfl, rfl⟩

theorem compare_bel (a b : ByteArray) (w : World) :
    Calls Tryz.prog 89 #[.string a, .string b] w fun e w' => e = .returned (.int .i64 (cmpB a b)) ∧ Below w.heap.size w w' :=
  (compare_any a b w).mono fun e w' ⟨he, hw⟩ => ⟨he, hw ▸ Below.refl _ _⟩

/-- What RuleCmp returns. -/
def cmpR (p : Int) (s : ByteArray) (o t p' : Int) (s' : ByteArray) (o' t' : Int) : Int := bif rOk p s o t && rOk p' s' o' t' then rCmp p s o t p' s' o' t' else 0

/-- The blocks of two rules. -/
theorem twoRules {w w1 : World} {t u : TypeId} {a b c d x y z v : Value} (hb : Below ((w.alloc (.cells #[a, b, c, d] t)).alloc (.cells #[x, y, z, v] u)).heap.size ((w.alloc (.cells #[a, b, c, d] t)).alloc (.cells #[x, y, z, v] u)) w1) :
    w1.cell? ⟨w.heap.size, 0, none⟩ = some a ∧ w1.cell? ⟨w.heap.size, 1, none⟩ = some b ∧ w1.cell? ⟨w.heap.size, 2, none⟩ = some c ∧ w1.cell? ⟨w.heap.size, 3, none⟩ = some d ∧
    w1.cell? ⟨w.heap.size + 1, 0, none⟩ = some x ∧ w1.cell? ⟨w.heap.size + 1, 1, none⟩ = some y ∧ w1.cell? ⟨w.heap.size + 1, 2, none⟩ = some z ∧ w1.cell? ⟨w.heap.size + 1, 3, none⟩ = some v := by
  have hc := belCell hb
  refine ⟨?_, ?_, ?_, ?_, ?_, ?_, ?_, ?_⟩ <;> (rw [hc _ _ (by simp; try omega)]; simp [go_sem])

/-- Eight cells of two blocks stay behind calls that leave what was there. -/
theorem eightKept {W : World} {i j : Nat} {a b c d x y z v : Value} (hi : i < W.heap.size) (hj : j < W.heap.size)
    (h : W.cell? ⟨i, 0, none⟩ = some a ∧ W.cell? ⟨i, 1, none⟩ = some b ∧ W.cell? ⟨i, 2, none⟩ = some c ∧ W.cell? ⟨i, 3, none⟩ = some d ∧ W.cell? ⟨j, 0, none⟩ = some x ∧ W.cell? ⟨j, 1, none⟩ = some y ∧ W.cell? ⟨j, 2, none⟩ = some z ∧ W.cell? ⟨j, 3, none⟩ = some v) :
    ∀ w' : World, Below W.heap.size W w' → (w'.cell? ⟨i, 0, none⟩ = some a ∧ w'.cell? ⟨i, 1, none⟩ = some b ∧ w'.cell? ⟨i, 2, none⟩ = some c ∧ w'.cell? ⟨i, 3, none⟩ = some d ∧ w'.cell? ⟨j, 0, none⟩ = some x ∧ w'.cell? ⟨j, 1, none⟩ = some y ∧ w'.cell? ⟨j, 2, none⟩ = some z ∧ w'.cell? ⟨j, 3, none⟩ = some v ∧ Below W.heap.size W w') := by
  intro w' hb
  have hc := belCell hb
  obtain ⟨a1, a2, a3, a4, a5, a6, a7, a8⟩ := h
  exact ⟨(hc _ _ hi).trans a1, (hc _ _ hi).trans a2, (hc _ _ hi).trans a3, (hc _ _ hi).trans a4, (hc _ _ hj).trans a5, (hc _ _ hj).trans a6, (hc _ _ hj).trans a7, (hc _ _ hj).trans a8, hb⟩

set_option maxHeartbeats 2000000 in
theorem iRuleCmp_any (p : Int) (s : ByteArray) (hm : s.size ≤ 1048576) (o t p' : Int) (s' : ByteArray) (hm' : s'.size ≤ 1048576) (o' t' : Int) (w : World) (hE : EtOk w) :
    Calls Tryz.prog 77 #[.agg #[.int .i64 p, .string s, .int .i64 o, .int .i64 t], .agg #[.int .i64 p', .string s', .int .i64 o', .int .i64 t']] w fun e w' => e = .returned (.int .i64 (cmpR p s o t p' s' o' t')) ∧ Below w.heap.size w w' := by
  have HE := Lib.hid ((hE.alloc (.cells #[.int .i64 p, .string s, .int .i64 o, .int .i64 t] 99)).alloc (.cells #[.int .i64 p', .string s', .int .i64 o', .int .i64 t'] 99))
  have B0 := Lib.hid (below_alloc2 w (.cells #[.int .i64 p, .string s, .int .i64 o, .int .i64 t] 99) (.cells #[.int .i64 p', .string s', .int .i64 o', .int .i64 t'] 99))
  clear hE
  cases hk : rOk p s o t
  · rw [show cmpR p s o t p' s' o' t' = 0 from by rw [cmpR, hk]; rfl]
    go_enter Tryz.func77, Tryz.ntmps77
    go_wp2_with fail
    refine (checkRule_no _ _ hm _ _ hk _).mono ?_
    rintro e w1 ⟨m, rfl, b1⟩
    go_wp2_with fail
    refine (isErr_yes _ _ (HE.out.below b1)).mono ?_
    rintro e w2 ⟨rfl, b2⟩
    go_wp2
    go_ret
    exact ⟨rfl, belStep B0.out (belStep b1 b2)⟩
  cases hk' : rOk p' s' o' t'
  · rw [show cmpR p s o t p' s' o' t' = 0 from by rw [cmpR, hk, hk']; rfl]
    go_enter Tryz.func77, Tryz.ntmps77
    go_wp2_with fail
    refine (checkRule_yes _ _ _ _ hk _).mono ?_
    rintro e w1 ⟨rfl, b1⟩
    go_wp2_with fail
    refine (isErr_no _).mono ?_
    rintro e w2 ⟨rfl, b2⟩
    have b12 := belStep b1 b2
    obtain ⟨r0, r1, r2, r3, k0, k1, k2, k3⟩ := twoRules b12
    go_wp2_with fail
    refine (checkRule_no _ _ hm' _ _ hk' _).mono ?_
    rintro e w3 ⟨m, rfl, b3⟩
    go_wp2_with fail
    refine (isErr_yes _ _ ((HE.out.below b12).below b3)).mono ?_
    rintro e w4 ⟨rfl, b4⟩
    go_wp2
    go_ret
    exact ⟨rfl, belStep B0.out (belStep b12 (belStep b3 b4))⟩
  rw [show cmpR p s o t p' s' o' t' = rCmp p s o t p' s' o' t' from by rw [cmpR, hk, hk']; rfl]
  by_cases hp : p = p'
  · subst hp
    rw [show rCmp p s o t p s' o' t' = cmpB (rTxt p s o t) (rTxt p s' o' t') from by unfold rCmp; simp only [Int.lt_irrefl, if_false]]
    go_enter Tryz.func77, Tryz.ntmps77
    go_wp2_with fail
    refine (checkRule_yes _ _ _ _ hk _).mono ?_
    rintro e w1 ⟨rfl, b1⟩
    go_wp2_with fail
    refine (isErr_no _).mono ?_
    rintro e w2 ⟨rfl, b2⟩
    have b12 := belStep b1 b2
    obtain ⟨r0, r1, r2, r3, k0, k1, k2, k3⟩ := twoRules b12
    go_wp2_with fail
    refine (checkRule_yes _ _ _ _ hk' _).mono ?_
    rintro e w3 ⟨rfl, b3⟩
    go_wp2_with fail
    refine (isErr_no _).mono ?_
    rintro e w4 ⟨rfl, b4⟩
    have b14 := belStep b12 (belStep b3 b4)
    clear r0 r1 r2 r3 k0 k1 k2 k3
    obtain ⟨r0, r1, r2, r3, k0, k1, k2, k3⟩ := twoRules b14
    have s4 := b14.size
    simp at s4
    have HS := Lib.hid (eightKept (W := w4) (by omega) (by omega) ⟨r0, r1, r2, r3, k0, k1, k2, k3⟩)
    have B4 := Lib.hid (belStep B0.out b14)
    clear b1 b2 b3 b4 b12 b14
    go_wp2
    go_region_held3 (fun w' => w'.cell? ⟨w.heap.size, 0, none⟩ = some (.int .i64 p) ∧ w'.cell? ⟨w.heap.size, 1, none⟩ = some (.string s) ∧ w'.cell? ⟨w.heap.size, 2, none⟩ = some (.int .i64 o) ∧ w'.cell? ⟨w.heap.size, 3, none⟩ = some (.int .i64 t) ∧ w'.cell? ⟨w.heap.size + 1, 0, none⟩ = some (.int .i64 p) ∧ w'.cell? ⟨w.heap.size + 1, 1, none⟩ = some (.string s') ∧ w'.cell? ⟨w.heap.size + 1, 2, none⟩ = some (.int .i64 o') ∧ w'.cell? ⟨w.heap.size + 1, 3, none⟩ = some (.int .i64 t') ∧ Below w4.heap.size w4 w')
      (first | exact HS.out _ ((Below.refl _ _).drew) | (go_split_ands; exact HS.out _ (belStep (by assumption) hq)))
      (first
        | (go_at_call 89; ((with_reducible refine (compare_bel _ _ _).mono ?_); rintro e wq ⟨rfl, hq⟩))
        | (go_at_call 90; ((with_reducible refine (iRuleText_yes _ _ _ _ hk _).mono ?_); rintro e wq ⟨rfl, hq⟩))
        | (go_at_call 90; ((with_reducible refine (iRuleText_yes _ _ _ _ hk' _).mono ?_); rintro e wq ⟨rfl, hq⟩)))
    go_wp2
    go_ret
    go_split_ands
    exact ⟨rfl, belStep B4.out (show Below w4.heap.size w4 wq by assumption)⟩
  · have hp' : (p != p') = true := by simpa using hp
    rw [show rCmp p s o t p' s' o' t' = cmpI p' p from by
      unfold rCmp cmpI
      by_cases h : p' < p
      · simp [h]
      · have h2 : p < p' := by omega
        simp [h, h2]]
    go_enter Tryz.func77, Tryz.ntmps77
    go_wp2_with fail
    refine (checkRule_yes _ _ _ _ hk _).mono ?_
    rintro e w1 ⟨rfl, b1⟩
    go_wp2_with fail
    refine (isErr_no _).mono ?_
    rintro e w2 ⟨rfl, b2⟩
    have b12 := belStep b1 b2
    obtain ⟨r0, r1, r2, r3, k0, k1, k2, k3⟩ := twoRules b12
    go_wp2_with fail
    refine (checkRule_yes _ _ _ _ hk' _).mono ?_
    rintro e w3 ⟨rfl, b3⟩
    go_wp2_with fail
    refine (isErr_no _).mono ?_
    rintro e w4 ⟨rfl, b4⟩
    have b14 := belStep b12 (belStep b3 b4)
    clear r0 r1 r2 r3 k0 k1 k2 k3
    obtain ⟨r0, r1, r2, r3, k0, k1, k2, k3⟩ := twoRules b14
    go_wp2_with fail
    refine (cmpInt_any _ _ _).mono ?_
    rintro e w5 ⟨rfl, rfl⟩
    go_wp2
    go_ret
    exact ⟨rfl, belStep B0.out b14⟩

set_option maxHeartbeats 2000000 in
theorem l11Cmp_any (p : Int) (s : ByteArray) (o t p' : Int) (s' : ByteArray) (o' t' : Int) (hk : rOk p s o t = true) (hk' : rOk p' s' o' t' = true) (w : World) :
    Calls Tryz.prog 62 #[.agg #[.int .i64 p, .string s, .int .i64 o, .int .i64 t], .agg #[.int .i64 p', .string s', .int .i64 o', .int .i64 t']] w fun e w' => e = .returned (.int .i64 (rCmp p s o t p' s' o' t')) ∧ Below w.heap.size w w' := by
  have B0 := Lib.hid (below_alloc2 w (.cells #[.int .i64 p, .string s, .int .i64 o, .int .i64 t] 99) (.cells #[.int .i64 p', .string s', .int .i64 o', .int .i64 t'] 99))
  by_cases h : p' < p
  · rw [show rCmp p s o t p' s' o' t' = -1 from by unfold rCmp; simp [h]]
    go_enter Tryz.func62, Tryz.ntmps62
    go_wp2
    go_ret
    exact ⟨rfl, B0.out⟩
  have h1 : decide (p' < p) = false := by simpa using h
  by_cases k : p < p'
  · rw [show rCmp p s o t p' s' o' t' = 1 from by unfold rCmp; simp [h, k]]
    go_enter Tryz.func62, Tryz.ntmps62
    go_wp2
    go_ret
    exact ⟨rfl, B0.out⟩
  have k1 : decide (p < p') = false := by simpa using k
  have e0 : rCmp p s o t p' s' o' t' = cmpB (rTxt p s o t) (rTxt p' s' o' t') := by unfold rCmp; simp only [h, k, if_false]
  rw [e0]
  clear e0
  have eL : Op.bytesLess (rTxt p s o t).toList (rTxt p' s' o' t').toList = decide (cmpB (rTxt p s o t) (rTxt p' s' o' t') = -1) := by rw [Lib.toList_data, Lib.toList_data]; exact cb_less _ _
  have eE : ((rTxt p s o t).toList == (rTxt p' s' o' t').toList) = decide (cmpB (rTxt p s o t) (rTxt p' s' o' t') = 0) := by
    rw [Lib.toList_data, Lib.toList_data]
    by_cases hz : cmpB (rTxt p s o t) (rTxt p' s' o' t') = 0
    · rw [decide_eq_true hz, cb_zero _ _ hz]
      exact beq_self_eq_true _
    · rw [decide_eq_false hz]
      apply beq_eq_false_iff_ne.2
      intro e
      apply hz
      unfold cmpB
      rw [e]
      exact cb_self _
  have HS : Hid (∀ w' : World, Below (w.heap.size + 1 + 1) ((w.alloc (.cells #[.int .i64 p, .string s, .int .i64 o, .int .i64 t] 99)).alloc (.cells #[.int .i64 p', .string s', .int .i64 o', .int .i64 t'] 99)) w' → (w'.cell? ⟨w.heap.size, 0, none⟩ = some (.int .i64 p) ∧ w'.cell? ⟨w.heap.size, 1, none⟩ = some (.string s) ∧ w'.cell? ⟨w.heap.size, 2, none⟩ = some (.int .i64 o) ∧ w'.cell? ⟨w.heap.size, 3, none⟩ = some (.int .i64 t) ∧ w'.cell? ⟨w.heap.size + 1, 0, none⟩ = some (.int .i64 p') ∧ w'.cell? ⟨w.heap.size + 1, 1, none⟩ = some (.string s') ∧ w'.cell? ⟨w.heap.size + 1, 2, none⟩ = some (.int .i64 o') ∧ w'.cell? ⟨w.heap.size + 1, 3, none⟩ = some (.int .i64 t') ∧ Below (w.heap.size + 1 + 1) ((w.alloc (.cells #[.int .i64 p, .string s, .int .i64 o, .int .i64 t] 99)).alloc (.cells #[.int .i64 p', .string s', .int .i64 o', .int .i64 t'] 99)) w')) := by
    intro w' hq
    obtain ⟨a1, a2, a3, a4, a5, a6, a7, a8⟩ := twoRules (w := w) (by simpa using hq)
    exact ⟨a1, a2, a3, a4, a5, a6, a7, a8, hq⟩
  have ST : Hid (∀ a b : World, Below (w.heap.size + 1 + 1) ((w.alloc (.cells #[.int .i64 p, .string s, .int .i64 o, .int .i64 t] 99)).alloc (.cells #[.int .i64 p', .string s', .int .i64 o', .int .i64 t'] 99)) a → Below a.heap.size a b → Below (w.heap.size + 1 + 1) ((w.alloc (.cells #[.int .i64 p, .string s, .int .i64 o, .int .i64 t] 99)).alloc (.cells #[.int .i64 p', .string s', .int .i64 o', .int .i64 t'] 99)) b) := fun a b h k => h.trans (k.mono (by have := h.size; simpa using this))
  rcases cb_three (rTxt p s o t).data.toList (rTxt p' s' o' t').data.toList with hc | hc | hc
  · have hc' : cmpB (rTxt p s o t) (rTxt p' s' o' t') = -1 := hc
    rw [hc'] at eL eE ⊢
    rw [decide_eq_true (by decide)] at eL
    rw [decide_eq_false (by decide)] at eE
    clear hc hc'
    go_enter Tryz.func62, Tryz.ntmps62
    go_wp2
    go_region_held3 (fun w' => w'.cell? ⟨w.heap.size, 0, none⟩ = some (.int .i64 p) ∧ w'.cell? ⟨w.heap.size, 1, none⟩ = some (.string s) ∧ w'.cell? ⟨w.heap.size, 2, none⟩ = some (.int .i64 o) ∧ w'.cell? ⟨w.heap.size, 3, none⟩ = some (.int .i64 t) ∧ w'.cell? ⟨w.heap.size + 1, 0, none⟩ = some (.int .i64 p') ∧ w'.cell? ⟨w.heap.size + 1, 1, none⟩ = some (.string s') ∧ w'.cell? ⟨w.heap.size + 1, 2, none⟩ = some (.int .i64 o') ∧ w'.cell? ⟨w.heap.size + 1, 3, none⟩ = some (.int .i64 t') ∧ Below (w.heap.size + 1 + 1) ((w.alloc (.cells #[.int .i64 p, .string s, .int .i64 o, .int .i64 t] 99)).alloc (.cells #[.int .i64 p', .string s', .int .i64 o', .int .i64 t'] 99)) w')
      (first | exact HS.out _ ((Below.refl _ _).drew) | exact HS.out _ (Below.drew (by assumption)) | (go_split_ands; exact HS.out _ (ST.out _ _ (by assumption) hq)))
      (first
        | (go_at_call 73; ((with_reducible refine (l11Text_any _ _ _ _ hk _).mono ?_); rintro e wq ⟨rfl, hq⟩))
        | (go_at_call 73; ((with_reducible refine (l11Text_any _ _ _ _ hk' _).mono ?_); rintro e wq ⟨rfl, hq⟩)))
    go_wp2
    go_ret
    go_split_ands
    exact ⟨rfl, B0.out.trans (Below.mono (show Below (w.heap.size + 1 + 1) ((w.alloc (.cells #[.int .i64 p, .string s, .int .i64 o, .int .i64 t] 99)).alloc (.cells #[.int .i64 p', .string s', .int .i64 o', .int .i64 t'] 99)) wq by assumption) (by omega))⟩
  · have hc' : cmpB (rTxt p s o t) (rTxt p' s' o' t') = 0 := hc
    rw [hc'] at eL eE ⊢
    rw [decide_eq_false (by decide)] at eL
    rw [decide_eq_true (by decide)] at eE
    clear hc hc'
    go_enter Tryz.func62, Tryz.ntmps62
    go_wp2
    go_region_held3 (fun w' => w'.cell? ⟨w.heap.size, 0, none⟩ = some (.int .i64 p) ∧ w'.cell? ⟨w.heap.size, 1, none⟩ = some (.string s) ∧ w'.cell? ⟨w.heap.size, 2, none⟩ = some (.int .i64 o) ∧ w'.cell? ⟨w.heap.size, 3, none⟩ = some (.int .i64 t) ∧ w'.cell? ⟨w.heap.size + 1, 0, none⟩ = some (.int .i64 p') ∧ w'.cell? ⟨w.heap.size + 1, 1, none⟩ = some (.string s') ∧ w'.cell? ⟨w.heap.size + 1, 2, none⟩ = some (.int .i64 o') ∧ w'.cell? ⟨w.heap.size + 1, 3, none⟩ = some (.int .i64 t') ∧ Below (w.heap.size + 1 + 1) ((w.alloc (.cells #[.int .i64 p, .string s, .int .i64 o, .int .i64 t] 99)).alloc (.cells #[.int .i64 p', .string s', .int .i64 o', .int .i64 t'] 99)) w')
      (first | exact HS.out _ ((Below.refl _ _).drew) | exact HS.out _ (Below.drew (by assumption)) | (go_split_ands; exact HS.out _ (ST.out _ _ (by assumption) hq)))
      (first
        | (go_at_call 73; ((with_reducible refine (l11Text_any _ _ _ _ hk _).mono ?_); rintro e wq ⟨rfl, hq⟩))
        | (go_at_call 73; ((with_reducible refine (l11Text_any _ _ _ _ hk' _).mono ?_); rintro e wq ⟨rfl, hq⟩)))
    go_split_ands
    have HQ := Lib.hid (show Below (w.heap.size + 1 + 1) ((w.alloc (.cells #[.int .i64 p, .string s, .int .i64 o, .int .i64 t] 99)).alloc (.cells #[.int .i64 p', .string s', .int .i64 o', .int .i64 t'] 99)) wq by assumption)
    go_wp2
    go_region_held3 (fun w' => w'.cell? ⟨w.heap.size, 0, none⟩ = some (.int .i64 p) ∧ w'.cell? ⟨w.heap.size, 1, none⟩ = some (.string s) ∧ w'.cell? ⟨w.heap.size, 2, none⟩ = some (.int .i64 o) ∧ w'.cell? ⟨w.heap.size, 3, none⟩ = some (.int .i64 t) ∧ w'.cell? ⟨w.heap.size + 1, 0, none⟩ = some (.int .i64 p') ∧ w'.cell? ⟨w.heap.size + 1, 1, none⟩ = some (.string s') ∧ w'.cell? ⟨w.heap.size + 1, 2, none⟩ = some (.int .i64 o') ∧ w'.cell? ⟨w.heap.size + 1, 3, none⟩ = some (.int .i64 t') ∧ Below (w.heap.size + 1 + 1) ((w.alloc (.cells #[.int .i64 p, .string s, .int .i64 o, .int .i64 t] 99)).alloc (.cells #[.int .i64 p', .string s', .int .i64 o', .int .i64 t'] 99)) w')
      (first | exact HS.out _ ((Below.refl _ _).drew) | exact HS.out _ HQ.out.drew | (go_split_ands; exact HS.out _ (ST.out _ _ (by assumption) hq)))
      (first
        | (go_at_call 73; ((with_reducible refine (l11Text_any _ _ _ _ hk _).mono ?_); rintro e wq ⟨rfl, hq⟩))
        | (go_at_call 73; ((with_reducible refine (l11Text_any _ _ _ _ hk' _).mono ?_); rintro e wq ⟨rfl, hq⟩)))
    go_wp2
    go_ret
    go_split_ands
    exact ⟨rfl, B0.out.trans (Below.mono (show Below (w.heap.size + 1 + 1) ((w.alloc (.cells #[.int .i64 p, .string s, .int .i64 o, .int .i64 t] 99)).alloc (.cells #[.int .i64 p', .string s', .int .i64 o', .int .i64 t'] 99)) wq by assumption) (by omega))⟩
  · have hc' : cmpB (rTxt p s o t) (rTxt p' s' o' t') = 1 := hc
    rw [hc'] at eL eE ⊢
    rw [decide_eq_false (by decide)] at eL
    rw [decide_eq_false (by decide)] at eE
    clear hc hc'
    go_enter Tryz.func62, Tryz.ntmps62
    go_wp2
    go_region_held3 (fun w' => w'.cell? ⟨w.heap.size, 0, none⟩ = some (.int .i64 p) ∧ w'.cell? ⟨w.heap.size, 1, none⟩ = some (.string s) ∧ w'.cell? ⟨w.heap.size, 2, none⟩ = some (.int .i64 o) ∧ w'.cell? ⟨w.heap.size, 3, none⟩ = some (.int .i64 t) ∧ w'.cell? ⟨w.heap.size + 1, 0, none⟩ = some (.int .i64 p') ∧ w'.cell? ⟨w.heap.size + 1, 1, none⟩ = some (.string s') ∧ w'.cell? ⟨w.heap.size + 1, 2, none⟩ = some (.int .i64 o') ∧ w'.cell? ⟨w.heap.size + 1, 3, none⟩ = some (.int .i64 t') ∧ Below (w.heap.size + 1 + 1) ((w.alloc (.cells #[.int .i64 p, .string s, .int .i64 o, .int .i64 t] 99)).alloc (.cells #[.int .i64 p', .string s', .int .i64 o', .int .i64 t'] 99)) w')
      (first | exact HS.out _ ((Below.refl _ _).drew) | exact HS.out _ (Below.drew (by assumption)) | (go_split_ands; exact HS.out _ (ST.out _ _ (by assumption) hq)))
      (first
        | (go_at_call 73; ((with_reducible refine (l11Text_any _ _ _ _ hk _).mono ?_); rintro e wq ⟨rfl, hq⟩))
        | (go_at_call 73; ((with_reducible refine (l11Text_any _ _ _ _ hk' _).mono ?_); rintro e wq ⟨rfl, hq⟩)))
    go_split_ands
    have HQ := Lib.hid (show Below (w.heap.size + 1 + 1) ((w.alloc (.cells #[.int .i64 p, .string s, .int .i64 o, .int .i64 t] 99)).alloc (.cells #[.int .i64 p', .string s', .int .i64 o', .int .i64 t'] 99)) wq by assumption)
    go_wp2
    go_region_held3 (fun w' => w'.cell? ⟨w.heap.size, 0, none⟩ = some (.int .i64 p) ∧ w'.cell? ⟨w.heap.size, 1, none⟩ = some (.string s) ∧ w'.cell? ⟨w.heap.size, 2, none⟩ = some (.int .i64 o) ∧ w'.cell? ⟨w.heap.size, 3, none⟩ = some (.int .i64 t) ∧ w'.cell? ⟨w.heap.size + 1, 0, none⟩ = some (.int .i64 p') ∧ w'.cell? ⟨w.heap.size + 1, 1, none⟩ = some (.string s') ∧ w'.cell? ⟨w.heap.size + 1, 2, none⟩ = some (.int .i64 o') ∧ w'.cell? ⟨w.heap.size + 1, 3, none⟩ = some (.int .i64 t') ∧ Below (w.heap.size + 1 + 1) ((w.alloc (.cells #[.int .i64 p, .string s, .int .i64 o, .int .i64 t] 99)).alloc (.cells #[.int .i64 p', .string s', .int .i64 o', .int .i64 t'] 99)) w')
      (first | exact HS.out _ ((Below.refl _ _).drew) | exact HS.out _ HQ.out.drew | (go_split_ands; exact HS.out _ (ST.out _ _ (by assumption) hq)))
      (first
        | (go_at_call 73; ((with_reducible refine (l11Text_any _ _ _ _ hk _).mono ?_); rintro e wq ⟨rfl, hq⟩))
        | (go_at_call 73; ((with_reducible refine (l11Text_any _ _ _ _ hk' _).mono ?_); rintro e wq ⟨rfl, hq⟩)))
    go_wp2
    go_ret
    go_split_ands
    exact ⟨rfl, B0.out.trans (Below.mono (show Below (w.heap.size + 1 + 1) ((w.alloc (.cells #[.int .i64 p, .string s, .int .i64 o, .int .i64 t] 99)).alloc (.cells #[.int .i64 p', .string s', .int .i64 o', .int .i64 t'] 99)) wq by assumption) (by omega))⟩

end Go.Proofs.YtjjhahhchimmlaaGreatDoor
