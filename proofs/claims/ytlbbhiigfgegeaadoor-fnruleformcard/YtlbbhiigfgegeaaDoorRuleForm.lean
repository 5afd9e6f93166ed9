/-
  Proved: promise 43 (a rule is within bounds), at every code from which the rule is drawn; the code reads on as it did. No condition but the card's own: the listed variable of the library stands as its text lays it.
-/
import Derived.Test.YtlbbhiigfgegeaaDoorRuleCard
import Derived.Test.YtlbbhiigfgegeaaDoorRuleImpl
import Derived.Test.YtlbbhiigfgegeaaDoorRuleDrawB
namespace Go.Proofs.YtlbbhiigfgegeaaDoor
open Go.ChangeShapes Go.WideShapes Go.ChangeAt Go.RowKit Go.Joins
set_option linter.unusedVariables false

theorem rOk_noPrio (s : ByteArray) (o t : Int) : rOk 10 s o t = false := by unfold rOk; rfl
theorem rOk_noOut (p : Int) (s : ByteArray) (t : Int) : rOk p s 5 t = false := by simp [rOk, inB]
theorem rOk_noTag (p : Int) (s : ByteArray) (o : Int) : rOk p s o (-2) = false := by simp [rOk, inB]
theorem rOk_noMatch (p : Int) (o t : Int) : rOk p ⟨#[120, 120]⟩ o t = false := by
  have : okS ⟨#[120, 120]⟩ = false := by decide
  simp [rOk, this]

/-- Four rules in blocks of their own stay behind calls that leave what was there. -/
theorem fourRules {w w1 : World} {t : TypeId} {a b c d a' b' c' d' a2 b2 c2 d2 a3 b3 c3 d3 : Value} (hb : Below ((((w.alloc (.cells #[a, b, c, d] t)).alloc (.cells #[a', b', c', d'] t)).alloc (.cells #[a2, b2, c2, d2] t)).alloc (.cells #[a3, b3, c3, d3] t)).heap.size ((((w.alloc (.cells #[a, b, c, d] t)).alloc (.cells #[a', b', c', d'] t)).alloc (.cells #[a2, b2, c2, d2] t)).alloc (.cells #[a3, b3, c3, d3] t)) w1) :
    (w1.cell? ⟨w.heap.size + 1, 0, none⟩ = some a' ∧ w1.cell? ⟨w.heap.size + 1, 1, none⟩ = some b' ∧ w1.cell? ⟨w.heap.size + 1, 2, none⟩ = some c' ∧ w1.cell? ⟨w.heap.size + 1, 3, none⟩ = some d') ∧
    (w1.cell? ⟨w.heap.size + 1 + 1, 0, none⟩ = some a2 ∧ w1.cell? ⟨w.heap.size + 1 + 1, 1, none⟩ = some b2 ∧ w1.cell? ⟨w.heap.size + 1 + 1, 2, none⟩ = some c2 ∧ w1.cell? ⟨w.heap.size + 1 + 1, 3, none⟩ = some d2) ∧
    (w1.cell? ⟨w.heap.size + 1 + 1 + 1, 0, none⟩ = some a3 ∧ w1.cell? ⟨w.heap.size + 1 + 1 + 1, 1, none⟩ = some b3 ∧ w1.cell? ⟨w.heap.size + 1 + 1 + 1, 2, none⟩ = some c3 ∧ w1.cell? ⟨w.heap.size + 1 + 1 + 1, 3, none⟩ = some d3) := by
  have hc := belCell hb
  refine ⟨⟨?_, ?_, ?_, ?_⟩, ⟨?_, ?_, ?_, ?_⟩, ⟨?_, ?_, ?_, ?_⟩⟩ <;> (rw [hc _ _ (by simp; try omega)]; simp [go_sem])

set_option maxHeartbeats 4000000 in
theorem walk_FnRuleForm (a : Option Addr) (len cap : Nat) (w : World) (hb : BytesIn w w.heap.size a len cap) (hE : EtOk w) :
    Calls Tryd.prog 8 #[.slice a len cap] w fun e w' => e = .returned (.bool true) ∧ Below w.heap.size w w' := by
  have HB := Lib.hid hb
  have HE := Lib.hid hE
  have hm : (len : Int) ≤ maxLen := by have := hb.1; have := hb.2.1; omega
  unfold maxLen at hm
  clear hb hE
  by_cases hlen : (1048576 : Int) < (len : Int)
  · go_enter Tryd.func8, Tryd.ntmps8
    go_wp2
    go_ret
    exact ⟨rfl, Below.refl _ _⟩
  go_enter Tryd.func8, Tryd.ntmps8
  go_wp2_with fail
  refine (drawRuleOk_any _ _ _ _ HB.out).mono ?_
  rintro e w1 ⟨p, s, o, t, hs, rfl, b1⟩
  have hm7 : s.size ≤ 1048576 := by have := hs.2.1; omega
  clear hs
  have HE1 := Lib.hid ((HE.out.below b1).alloc (.cells #[.int .i64 p, .string s, .int .i64 o, .int .i64 t] 24))
  have B1 : Hid (Below w.heap.size w (w1.alloc (.cells #[.int .i64 p, .string s, .int .i64 o, .int .i64 t] 24))) := b1.alloc b1.size _
  clear b1
  cases hk : rOk p s o t
  · go_wp2_with fail
    refine (iRuleOk_any _ _ hm7 _ _ _ HE1.out).mono ?_
    rintro e w2 ⟨rfl, b2⟩
    obtain ⟨q0, q1, q2, q3⟩ := fourKept b2
    rw [hk]
    go_wp2_with fail
    refine (sRuleOk_any _ _ hm7 _ _ _).mono ?_
    rintro e w3 ⟨rfl, b3⟩
    clear q0 q1 q2 q3
    obtain ⟨q0, q1, q2, q3⟩ := fourKept (belStep b2 b3)
    rw [hk]
    go_wp2_with fail
    refine (sRuleOk_any _ _ hm7 _ _ _).mono ?_
    rintro e w4 ⟨rfl, b4⟩
    rw [hk]
    go_wp2
    go_ret
    exact ⟨rfl, belStep B1.out (belStep b2 (belStep b3 b4))⟩
  · go_wp2_with fail
    refine (iRuleOk_any _ _ hm7 _ _ _ HE1.out).mono ?_
    rintro e w2 ⟨rfl, b2⟩
    obtain ⟨q0, q1, q2, q3⟩ := fourKept b2
    rw [hk]
    go_wp2_with fail
    refine (sRuleOk_any _ _ hm7 _ _ _).mono ?_
    rintro e w3 ⟨rfl, b3⟩
    clear q0 q1 q2 q3
    have b23 := belStep b2 b3
    obtain ⟨q0, q1, q2, q3⟩ := fourKept b23
    rw [hk]
    have HE3 := Lib.hid (HE1.out.below b23)
    have B3 := Lib.hid (belStep B1.out b23)
    have s3 := b23.size
    simp at s3
    have z3 : w1.heap.size < w3.heap.size := by omega
    have y1 : w1.heap.size < w3.heap.size + 1 := by omega
    have y2 : w1.heap.size < w3.heap.size + 1 + 1 := by omega
    clear b2 b3 b23
    have HX := Lib.hid ((((HE3.out.alloc (.cells #[.int .i64 10, .string s, .int .i64 o, .int .i64 t] 24)).alloc (.cells #[.int .i64 p, .string s, .int .i64 5, .int .i64 t] 24)).alloc (.cells #[.int .i64 p, .string s, .int .i64 o, .int .i64 (-2)] 24)).alloc (.cells #[.int .i64 p, .string ⟨#[120, 120]⟩, .int .i64 o, .int .i64 t] 24))
    have BX := Lib.hid ((((B3.out.alloc B3.out.size (.cells #[.int .i64 10, .string s, .int .i64 o, .int .i64 t] 24)).alloc (by have := B3.out.size; simp; omega) (.cells #[.int .i64 p, .string s, .int .i64 5, .int .i64 t] 24)).alloc (by have := B3.out.size; simp; omega) (.cells #[.int .i64 p, .string s, .int .i64 o, .int .i64 (-2)] 24)).alloc (by have := B3.out.size; simp; omega) (.cells #[.int .i64 p, .string ⟨#[120, 120]⟩, .int .i64 o, .int .i64 t] 24))
    go_wp2_with fail
    refine (iRuleOk_any _ _ hm7 _ _ _ HX.out).mono ?_
    rintro e w4 ⟨rfl, b4⟩
    rw [rOk_noPrio]
    clear q0 q1 q2 q3 z3 y1 y2 s3
    obtain ⟨⟨k0, k1, k2, k3⟩, -, -⟩ := fourRules b4
    go_wp2_with fail
    refine (iRuleOk_any _ _ hm7 _ _ _ (HX.out.below b4)).mono ?_
    rintro e w5 ⟨rfl, b5⟩
    rw [rOk_noOut]
    have b45 := belStep b4 b5
    clear k0 k1 k2 k3
    obtain ⟨-, ⟨k0, k1, k2, k3⟩, -⟩ := fourRules b45
    go_wp2_with fail
    refine (iRuleOk_any _ _ hm7 _ _ _ (HX.out.below b45)).mono ?_
    rintro e w6 ⟨rfl, b6⟩
    rw [rOk_noTag]
    have b46 := belStep b45 b6
    clear k0 k1 k2 k3
    obtain ⟨-, -, ⟨k0, k1, k2, k3⟩⟩ := fourRules b46
    go_wp2_with fail
    refine (iRuleOk_any _ _ (by decide) _ _ _ (HX.out.below b46)).mono ?_
    rintro e w7 ⟨rfl, b7⟩
    rw [rOk_noMatch]
    go_wp2
    go_ret
    exact ⟨rfl, belStep BX.out (belStep b46 b7)⟩

set_option maxRecDepth 100000 in
theorem contract_FnRuleForm (H : Type) (enc : TypeId × Value → H) (W : World) (base : Nat) (args : Array Value) (ds gs : List (DataW H)) (before : List MemPlace)
    (hval : ∀ (j : Nat) t v, Tryd.f8.params[j]? = some t → args[j]? = some v → Value.okWide Tryd.prog W .any base t v)
    (hW : DataW.Whole enc Tryd.prog Tryd.f8.params.toList Rows.fnRuleFormSpec.vars false W args.toList ds gs before) (hE : EtOk W) :
    Calls Tryd.prog 8 args W fun e W' => ∃ v, e = .returned v ∧ Rows.fnRuleFormSpec.post enc Tryd.prog Tryd.f8 false true false false W args v W' := by
  have hW' := hW
  obtain ⟨p, q, hA0, hV, rfl, hfz, hnd⟩ := hW
  have hA : DataW.TrodAll enc Tryd.prog W 0 (fun _ => true) true Tryd.f8.params.toList args.toList ds p := hA0
  rw [Tryd.params8] at hA hval
  obtain ⟨v0, vs0, d0, ds0, p0, q0, hargs, rfl, rfl, h0, r0⟩ := trodAll_cons hA
  obtain ⟨rfl, rfl, rfl⟩ := trodAll_nil r0
  obtain rfl : args = #[v0] := by cases args; simp_all
  obtain ⟨rfl, rfl⟩ := trodVars_none hV
  have k0 := h0
  have lt0 : ∀ x ∈ p0, x.block < W.heap.size := by obtain ⟨m, hm⟩ := k0; exact DataW.trod_lt m _ _ _ hm
  obtain ⟨a0, len0, cap0, rfl⟩ := okWide_slice Tryd.underlying22 (hval 0 22 v0 rfl rfl)
  have w0 : BytesIn W W.heap.size a0 len0 cap0 := isRow_of h0
  clear hA0
  refine (walk_FnRuleForm a0 len0 cap0 W w0 hE).mono fun e W' ⟨he, bel⟩ => ?_
  subst he
  exact ⟨_, rfl, _, _, _, [], _, [], hW', trodAll_mk1 (shut_bool Tryd.underlying4 _), (trodAll_cons_mk (Below.trod laidOut (by kernel_rfl) (of_decide_eq_true (by kernel_rfl)) k0 bel lt0) (trodAll_mk0)), rfl, bel.frame _, fun h => by cases h⟩

/-- A world for the witness: the settled one, with the listed variables as the text lays them. -/
noncomputable def laidWorld_FnRuleForm (os : Os) : World :=
  { World.holding Tryd.prog os ⟨#[], #[], []⟩ with heap := ((World.holding Tryd.prog os ⟨#[], #[], []⟩).heap).modify 0 (fun | .cells _ t frozen => .cells #[.iface 122 (.agg #[.pointer (some ⟨7, 60, none⟩)])] t frozen | o => o) }

theorem laidMet_FnRuleForm (os : Os) : laidMetH Tryd.prog Rows.fnRuleFormRow.laid ((laidWorld_FnRuleForm os).forCall (fun _ _ => 0) ⟨#[], #[.slice none 0 0], []⟩).memory :=
  laidMetH_of_parts (laidMet_nil _ _) (by kernel_rfl)

theorem reads_FnRuleForm (os : Os) {H : Type} (enc : TypeId × Value → H) : ∃ places, DataW.whole enc Tryd.prog ((laidWorld_FnRuleForm os).forCall (fun _ _ => 0) ⟨#[], #[.slice none 0 0], []⟩).memory Tryd.f8.params.toList Rows.fnRuleFormSpec.vars false (#[.slice none 0 0] : Array Value).toList 8 = some ([.nil], [], places) :=
  ⟨[], by kernel_rfl⟩

set_option maxRecDepth 100000 in
theorem lifted_FnRuleForm (os : Os) (started : os.Started) (H : Type) (enc : TypeId × Value → H) (F : Stop.Interp) :
    ReturnsInHanded {} Tryd.checked os 8 .any ((OpenSpec.ofChange Rows.fnRuleFormSpec).preRow enc Tryd.prog Tryd.f8 Rows.fnRuleFormRow.domain false Rows.fnRuleFormRow.laid) (((OpenSpec.ofChange Rows.fnRuleFormSpec).at F).post enc Tryd.prog Tryd.f8 false true false false) := by
  obtain ⟨places, hx⟩ := reads_FnRuleForm os enc
  refine returnsInHanded_of_row (C := Tryd.checked) (s := OpenSpec.ofChange Rows.fnRuleFormSpec) own started (by kernel_rfl) Tryd.func8
    (witness_row_at (enc := enc) (C := Tryd.checked) false (laidWorld_FnRuleForm os) #[.slice none 0 0] rfl (by kernel_rfl) (by kernel_rfl) (by kernel_rfl)
      (OpenSpec.preRow_of_cond 8 hx (by kernel_rfl) (fun k hk => by cases hk) (by kernel_rfl) (laidMet_FnRuleForm os))) ?_
  intro W base args ds gs before hval hW _ _ _ hL _ _
  exact contract_FnRuleForm H enc W base args ds gs before hval hW (etOk_of hL (by simp [Rows.fnRuleFormRow]))

theorem said_FnRuleForm : Rows.FnRuleFormSaid :=
  OpenClaim.holds_of_cond 8 Tryd.f8 rfl rfl rfl rfl rfl rfl rfl ⟨rfl, rfl, rfl, rfl, rfl⟩ rfl rfl rfl rfl rfl (by kernel_rfl) Tryd.func8 (by kernel_rfl)
    (of_decide_eq_true (by kernel_rfl)) (by unfold Func.isWrapper; first | (rw [if_pos (by decide +kernel)]; kernel_rfl) | (rw [if_neg (by decide +kernel)]; exact ⟨rfl, rfl⟩))
    (fun os started H enc _ F => by rw [OpenClaim.pre_eq_preRow]; exact lifted_FnRuleForm os started H enc F)

theorem plain_FnRuleForm (f : FuncId) (fn : Func) (hf : Tryd.pinned.checked.prog.funcNamed "loop.example/crossbuck/laws.FnRuleForm" = some f) (hfn : Tryd.pinned.checked.prog.funcs[f]? = some fn) :
    true = Tryd.pinned.checked.prog.looks [] ∧ ∀ (j : Nat) t, fn.params[j]? = some t → Tryd.pinned.checked.prog.wantsStandIn t = false := by
  obtain rfl : f = 8 := Option.some.inj ((show Tryd.prog.funcNamed "loop.example/crossbuck/laws.FnRuleForm" = some 8 by kernel_rfl).symm.trans hf) |>.symm
  obtain rfl : fn = Tryd.f8 := (Option.some.inj (Tryd.func8.symm.trans hfn)).symm
  refine ⟨by kernel_rfl, fun j t ht => ?_⟩
  rw [Tryd.params8] at ht
  obtain rfl : t = 22 := by simpa using Array.mem_of_getElem? ht
  exact (show Tryd.prog.wantsStandIn 22 = false by kernel_rfl)

theorem proved_FnRuleForm : Rows.FnRuleFormCardSaid :=
  Claim7.holds_tied_plain_at .later [] _ _ _ _ said_FnRuleForm (fun _ h => by cases h) (by kernel_rfl) (fun _ h => by cases h) fnRuleForm_row_tie rfl ⟨rfl, rfl⟩ (by kernel_rfl) rfl plain_FnRuleForm (by kernel_rfl)

end Go.Proofs.YtlbbhiigfgegeaaDoor
