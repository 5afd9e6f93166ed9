/-
  Proved: RuleCmp answers as its model at every two rules; both read on as they did. No condition but the card's own: the listed variables of the library stand as its text lays them.
-/
import Derived.Test.YtlbbhiigfgegeaaDoorRuleCard
import Derived.Test.YtlbbhiigfgegeaaDoorRuleCmpI
import Derived.Deep.RegionHeld3
namespace Go.Proofs.YtlbbhiigfgegeaaDoor
open Go.ChangeShapes Go.WideShapes Go.ChangeAt Go.RowKit Go.Joins
set_option linter.unusedVariables false

set_option maxHeartbeats 4000000 in
theorem walk_FnExactRuleCmp (p : Int) (s : ByteArray) (o t p' : Int) (s' : ByteArray) (o' t' : Int) (w : World) (wp : (Lit.int .i64 p).wf = true) (hs : s.size ≤ maxLen) (wo : (Lit.int .i64 o).wf = true) (wt : (Lit.int .i64 t).wf = true)
    (wp' : (Lit.int .i64 p').wf = true) (hs' : s'.size ≤ maxLen) (wo' : (Lit.int .i64 o').wf = true) (wt' : (Lit.int .i64 t').wf = true) (hE : EtOk w) :
    Calls Tryd.prog 13 #[.agg #[.int .i64 p, .string s, .int .i64 o, .int .i64 t], .agg #[.int .i64 p', .string s', .int .i64 o', .int .i64 t']] w fun e w' => e = .returned (.bool true) ∧ Below w.heap.size w w' := by
  have HE := Lib.hid ((hE.alloc (.cells #[.int .i64 p, .string s, .int .i64 o, .int .i64 t] 44)).alloc (.cells #[.int .i64 p', .string s', .int .i64 o', .int .i64 t'] 44))
  have B0 := Lib.hid (below_alloc2 w (.cells #[.int .i64 p, .string s, .int .i64 o, .int .i64 t] 44) (.cells #[.int .i64 p', .string s', .int .i64 o', .int .i64 t'] 44))
  clear hE wp wo wt wp' wo' wt'
  by_cases hb : (1048576 : Int) < s.size
  · go_enter Tryd.func13, Tryd.ntmps13
    go_wp2_with fail
    refine (szRule_any _ _ hs _ _ _ (by omega) (by omega) _).mono ?_
    rintro e w1 ⟨rfl, b1⟩
    rw [if_pos (by omega)]
    go_wp2
    go_ret
    exact ⟨rfl, belStep B0.out b1⟩
  have hm : s.size ≤ 1048576 := by omega
  have hl : ¬ (1048576 - (s.size : Int) < 0) := by omega
  by_cases hb2 : (1048576 : Int) - s.size < s'.size
  · go_enter Tryd.func13, Tryd.ntmps13
    go_wp2_with fail
    refine (szRule_any _ _ hs _ _ _ (by omega) (by omega) _).mono ?_
    rintro e w1 ⟨rfl, b1⟩
    rw [if_neg (by omega)]
    obtain ⟨r0, r1, r2, r3, k0, k1, k2, k3⟩ := twoRules b1
    go_wp2_with fail
    refine (szRule_any _ _ hs' _ _ _ (by omega) (by omega) _).mono ?_
    rintro e w2 ⟨rfl, b2⟩
    rw [if_pos (by omega)]
    go_wp2
    go_ret
    exact ⟨rfl, belStep B0.out (belStep b1 b2)⟩
  have hm' : s'.size ≤ 1048576 := by omega
  have hl' : ¬ (1048576 - (s.size : Int) - (s'.size : Int) < 0) := by omega
  go_enter Tryd.func13, Tryd.ntmps13
  go_wp2_with fail
  refine (szRule_any _ _ hs _ _ _ (by omega) (by omega) _).mono ?_
  rintro e w1 ⟨rfl, b1⟩
  rw [if_neg (by omega)]
  obtain ⟨r0, r1, r2, r3, k0, k1, k2, k3⟩ := twoRules b1
  go_wp2_with fail
  refine (szRule_any _ _ hs' _ _ _ (by omega) (by omega) _).mono ?_
  rintro e w2 ⟨rfl, b2⟩
  rw [if_neg (by omega)]
  have b12 := belStep b1 b2
  have s2 := b12.size
  simp at s2
  have HS := Lib.hid (eightKept (W := w2) (by omega) (by omega) (twoRules b12))
  have HE2 := Lib.hid (HE.out.below b12)
  have B2 := Lib.hid (belStep B0.out b12)
  clear r0 r1 r2 r3 k0 k1 k2 k3 b1 b2 b12
  go_wp2
  go_region_held3 (fun w' => w'.cell? ⟨w.heap.size, 0, none⟩ = some (.int .i64 p) ∧ w'.cell? ⟨w.heap.size, 1, none⟩ = some (.string s) ∧ w'.cell? ⟨w.heap.size, 2, none⟩ = some (.int .i64 o) ∧ w'.cell? ⟨w.heap.size, 3, none⟩ = some (.int .i64 t) ∧ w'.cell? ⟨w.heap.size + 1, 0, none⟩ = some (.int .i64 p') ∧ w'.cell? ⟨w.heap.size + 1, 1, none⟩ = some (.string s') ∧ w'.cell? ⟨w.heap.size + 1, 2, none⟩ = some (.int .i64 o') ∧ w'.cell? ⟨w.heap.size + 1, 3, none⟩ = some (.int .i64 t') ∧ Below w2.heap.size w2 w')
    (first | exact HS.out _ ((Below.refl _ _).drew) | (go_split_ands; exact HS.out _ (belStep (by assumption) hq)))
    (first
      | (go_at_call 33; ((with_reducible refine (toRule_any _ _ _ _ _).mono ?_); rintro e wq ⟨rfl, hq⟩))
      | (go_at_call 30; ((with_reducible refine (sRuleCmp_any _ _ hm _ _ _ _ hm' _ _ _).mono ?_); rintro e wq ⟨rfl, hq⟩)))
  go_split_ands
  have HQ := Lib.hid (show Below w2.heap.size w2 wq by assumption)
  go_wp2
  go_region_held3 (fun w' => w'.cell? ⟨w.heap.size, 0, none⟩ = some (.int .i64 p) ∧ w'.cell? ⟨w.heap.size, 1, none⟩ = some (.string s) ∧ w'.cell? ⟨w.heap.size, 2, none⟩ = some (.int .i64 o) ∧ w'.cell? ⟨w.heap.size, 3, none⟩ = some (.int .i64 t) ∧ w'.cell? ⟨w.heap.size + 1, 0, none⟩ = some (.int .i64 p') ∧ w'.cell? ⟨w.heap.size + 1, 1, none⟩ = some (.string s') ∧ w'.cell? ⟨w.heap.size + 1, 2, none⟩ = some (.int .i64 o') ∧ w'.cell? ⟨w.heap.size + 1, 3, none⟩ = some (.int .i64 t') ∧ Below w2.heap.size w2 w')
    (first | exact HS.out _ HQ.out.drew | (go_split_ands; exact HS.out _ (belStep (by assumption) hq)))
    (first
      | (go_at_call 33; ((with_reducible refine (toRule_any _ _ _ _ _).mono ?_); rintro e wr ⟨rfl, hq⟩))
      | (go_at_call 29; ((with_reducible refine (iRuleCmp_any _ _ hm _ _ _ _ hm' _ _ _ ?_).mono ?_); (go_split_ands; exact HE2.out.below (by assumption)); rintro e wr ⟨rfl, hq⟩)))
  go_split_ands
  have HR := Lib.hid (show Below w2.heap.size w2 wr by assumption)
  generalize cmpR p s o t p' s' o' t' = x
  go_wp2
  go_ret
  exact ⟨rfl, belStep B2.out HR.out⟩

set_option maxRecDepth 100000 in
theorem contract_FnExactRuleCmp (H : Type) (enc : TypeId × Value → H) (W : World) (base : Nat) (args : Array Value) (ds gs : List (DataW H)) (before : List MemPlace)
    (hval : ∀ (j : Nat) t v, Tryd.f13.params[j]? = some t → args[j]? = some v → Value.okWide Tryd.prog W .any base t v)
    (hW : DataW.Whole enc Tryd.prog Tryd.f13.params.toList Rows.fnExactRuleCmpSpec.vars false W args.toList ds gs before) (hE : EtOk W) :
    Calls Tryd.prog 13 args W fun e W' => ∃ v, e = .returned v ∧ Rows.fnExactRuleCmpSpec.post enc Tryd.prog Tryd.f13 false true false false W args v W' := by
  have hW' := hW
  obtain ⟨p, q, hA0, hV, rfl, hfz, hnd⟩ := hW
  have hA : DataW.TrodAll enc Tryd.prog W 0 (fun _ => true) true Tryd.f13.params.toList args.toList ds p := hA0
  rw [Tryd.params13] at hA hval
  obtain ⟨v0, vs0, d0, ds0, p0, q0, hargs, rfl, rfl, h0, r0⟩ := trodAll_cons hA
  obtain ⟨v1, vs1, d1, ds1, p1, q1, rfl, rfl, rfl, h1, r1⟩ := trodAll_cons r0
  obtain ⟨rfl, rfl, rfl⟩ := trodAll_nil r1
  obtain rfl : args = #[v0, v1] := by cases args; simp_all
  obtain ⟨rfl, rfl⟩ := trodVars_none hV
  have k0 := h0
  have lt0 : ∀ x ∈ p0, x.block < W.heap.size := by obtain ⟨m, hm⟩ := k0; exact DataW.trod_lt m _ _ _ hm
  have k1 := h1
  have lt1 : ∀ x ∈ p1, x.block < W.heap.size := by obtain ⟨m, hm⟩ := k1; exact DataW.trod_lt m _ _ _ hm
  obtain ⟨x0, y0, z0, u0, ya0, yb0, yc0, yd0, m0, rfl, -, -, ha0, hb0, hc0, hd0⟩ := open_agg4 Tryd.underlying44 (by kernel_rfl) (show Tryd.prog.cellsOf 44 = 4 by kernel_rfl) (hval 0 44 v0 rfl rfl) h0
  obtain ⟨a0, ea0, -, wa0⟩ := DataW.trod_int Tryd.underlying3 ha0
  obtain ⟨b0, eb0, -, wb0⟩ := DataW.trod_string Tryd.underlying9 hb0
  obtain ⟨c0, ec0, -, wc0⟩ := DataW.trod_int Tryd.underlying3 hc0
  obtain ⟨d0', ed0, -, wd0⟩ := DataW.trod_int Tryd.underlying3 hd0
  simp at ea0 eb0 ec0 ed0
  subst ea0 eb0 ec0 ed0
  obtain ⟨x1, y1, z1, u1, ya1, yb1, yc1, yd1, m1, rfl, -, -, ha1, hb1, hc1, hd1⟩ := open_agg4 Tryd.underlying44 (by kernel_rfl) (show Tryd.prog.cellsOf 44 = 4 by kernel_rfl) (hval 1 44 v1 rfl rfl) h1
  obtain ⟨a1, ea1, -, wa1⟩ := DataW.trod_int Tryd.underlying3 ha1
  obtain ⟨b1, eb1, -, wb1⟩ := DataW.trod_string Tryd.underlying9 hb1
  obtain ⟨c1, ec1, -, wc1⟩ := DataW.trod_int Tryd.underlying3 hc1
  obtain ⟨d1', ed1, -, wd1⟩ := DataW.trod_int Tryd.underlying3 hd1
  simp at ea1 eb1 ec1 ed1
  subst ea1 eb1 ec1 ed1
  clear hA0
  refine (walk_FnExactRuleCmp a0 b0 c0 d0' a1 b1 c1 d1' W wa0 wb0 wc0 wd0 wa1 wb1 wc1 wd1 hE).mono fun e W' ⟨he, bel⟩ => ?_
  subst he
  exact ⟨_, rfl, _, _, _, [], _, [], hW', trodAll_mk1 (shut_bool Tryd.underlying4 _), (trodAll_cons_mk (Below.trod laidOut (by kernel_rfl) (of_decide_eq_true (by kernel_rfl)) k0 bel lt0) (trodAll_cons_mk (Below.trod laidOut (by kernel_rfl) (of_decide_eq_true (by kernel_rfl)) k1 bel lt1) (trodAll_mk0))), rfl, bel.frame _, fun h => by cases h⟩

/-- A world for the witness: the settled one, with the listed variables as the text lays them. -/
noncomputable def laidWorld_FnExactRuleCmp (os : Os) : World :=
  { World.holding Tryd.prog os ⟨#[], #[], []⟩ with heap := (((((World.holding Tryd.prog os ⟨#[], #[], []⟩).heap).modify 3 (fun | .cells _ t frozen => .cells #[.int .u8 0, .int .u8 1, .int .u8 28, .int .u8 2, .int .u8 29, .int .u8 14, .int .u8 24, .int .u8 3, .int .u8 30, .int .u8 22, .int .u8 20, .int .u8 15, .int .u8 25, .int .u8 17, .int .u8 4, .int .u8 8, .int .u8 31, .int .u8 27, .int .u8 13, .int .u8 23, .int .u8 21, .int .u8 19, .int .u8 16, .int .u8 7, .int .u8 26, .int .u8 12, .int .u8 18, .int .u8 6, .int .u8 11, .int .u8 5, .int .u8 10, .int .u8 9] t frozen | o => o)).modify 4 (fun | .cells _ t frozen => .cells #[.int .u8 0, .int .u8 1, .int .u8 56, .int .u8 2, .int .u8 57, .int .u8 49, .int .u8 28, .int .u8 3, .int .u8 61, .int .u8 58, .int .u8 42, .int .u8 50, .int .u8 38, .int .u8 29, .int .u8 17, .int .u8 4, .int .u8 62, .int .u8 47, .int .u8 59, .int .u8 36, .int .u8 45, .int .u8 43, .int .u8 51, .int .u8 22, .int .u8 53, .int .u8 39, .int .u8 33, .int .u8 30, .int .u8 24, .int .u8 18, .int .u8 12, .int .u8 5, .int .u8 63, .int .u8 55, .int .u8 48, .int .u8 27, .int .u8 60, .int .u8 41, .int .u8 37, .int .u8 16, .int .u8 46, .int .u8 35, .int .u8 44, .int .u8 21, .int .u8 52, .int .u8 32, .int .u8 23, .int .u8 11, .int .u8 54, .int .u8 26, .int .u8 40, .int .u8 15, .int .u8 34, .int .u8 20, .int .u8 31, .int .u8 10, .int .u8 25, .int .u8 14, .int .u8 19, .int .u8 9, .int .u8 13, .int .u8 8, .int .u8 7, .int .u8 6] t frozen | o => o)).modify 2 (fun | .cells _ t frozen => .cells #[.int .u64 1, .int .u64 10, .int .u64 100, .int .u64 1000, .int .u64 10000, .int .u64 100000, .int .u64 1000000, .int .u64 10000000, .int .u64 100000000, .int .u64 1000000000, .int .u64 10000000000, .int .u64 100000000000, .int .u64 1000000000000, .int .u64 10000000000000, .int .u64 100000000000000, .int .u64 1000000000000000, .int .u64 10000000000000000, .int .u64 100000000000000000, .int .u64 1000000000000000000, .int .u64 10000000000000000000] t frozen | o => o)).modify 0 (fun | .cells _ t frozen => .cells #[.iface 122 (.agg #[.pointer (some ⟨7, 60, none⟩)])] t frozen | o => o) }

theorem laidMet_FnExactRuleCmp (os : Os) : laidMetH Tryd.prog Rows.fnExactRuleCmpRow.laid ((laidWorld_FnExactRuleCmp os).forCall (fun _ _ => 0) ⟨#[], #[.agg #[.int .i64 0, .string ByteArray.empty, .int .i64 0, .int .i64 0], .agg #[.int .i64 0, .string ByteArray.empty, .int .i64 0, .int .i64 0]], []⟩).memory :=
  laidMetH_of_parts (laidMet_of_run' 8 (by kernel_rfl) (by kernel_rfl)) (by kernel_rfl)

theorem reads_FnExactRuleCmp (os : Os) {H : Type} (enc : TypeId × Value → H) : ∃ places, DataW.whole enc Tryd.prog ((laidWorld_FnExactRuleCmp os).forCall (fun _ _ => 0) ⟨#[], #[.agg #[.int .i64 0, .string ByteArray.empty, .int .i64 0, .int .i64 0], .agg #[.int .i64 0, .string ByteArray.empty, .int .i64 0, .int .i64 0]], []⟩).memory Tryd.f13.params.toList Rows.fnExactRuleCmpSpec.vars false (#[.agg #[.int .i64 0, .string ByteArray.empty, .int .i64 0, .int .i64 0], .agg #[.int .i64 0, .string ByteArray.empty, .int .i64 0, .int .i64 0]] : Array Value).toList 8 = some ([.agg [.lit (.int .i64 0), .lit (.string []), .lit (.int .i64 0), .lit (.int .i64 0)], .agg [.lit (.int .i64 0), .lit (.string []), .lit (.int .i64 0), .lit (.int .i64 0)]], [], places) :=
  ⟨[], by kernel_rfl⟩

set_option maxRecDepth 100000 in
theorem lifted_FnExactRuleCmp (os : Os) (started : os.Started) (H : Type) (enc : TypeId × Value → H) (F : Stop.Interp) :
    ReturnsInHanded {} Tryd.checked os 13 .any ((OpenSpec.ofChange Rows.fnExactRuleCmpSpec).preRow enc Tryd.prog Tryd.f13 Rows.fnExactRuleCmpRow.domain false Rows.fnExactRuleCmpRow.laid) (((OpenSpec.ofChange Rows.fnExactRuleCmpSpec).at F).post enc Tryd.prog Tryd.f13 false true false false) := by
  obtain ⟨places, hx⟩ := reads_FnExactRuleCmp os enc
  refine returnsInHanded_of_row (C := Tryd.checked) (s := OpenSpec.ofChange Rows.fnExactRuleCmpSpec) own started (by kernel_rfl) Tryd.func13
    (witness_row_at (enc := enc) (C := Tryd.checked) false (laidWorld_FnExactRuleCmp os) #[.agg #[.int .i64 0, .string ByteArray.empty, .int .i64 0, .int .i64 0], .agg #[.int .i64 0, .string ByteArray.empty, .int .i64 0, .int .i64 0]] rfl (by kernel_rfl) (by kernel_rfl) (by kernel_rfl)
      (OpenSpec.preRow_of_cond 8 hx (by kernel_rfl) (fun k hk => by cases hk) (by kernel_rfl) (laidMet_FnExactRuleCmp os))) ?_
  intro W base args ds gs before hval hW _ _ _ hL _ _
  exact contract_FnExactRuleCmp H enc W base args ds gs before hval hW (etOk_of hL (by simp [Rows.fnExactRuleCmpRow]))

theorem said_FnExactRuleCmp : Rows.FnExactRuleCmpSaid :=
  OpenClaim.holds_of_cond 13 Tryd.f13 rfl rfl rfl rfl rfl rfl rfl ⟨rfl, rfl, rfl, rfl, rfl⟩ rfl rfl rfl rfl rfl (by kernel_rfl) Tryd.func13 (by kernel_rfl)
    (of_decide_eq_true (by kernel_rfl)) (by unfold Func.isWrapper; first | (rw [if_pos (by decide +kernel)]; kernel_rfl) | (rw [if_neg (by decide +kernel)]; exact ⟨rfl, rfl⟩))
    (fun os started H enc _ F => by rw [OpenClaim.pre_eq_preRow]; exact lifted_FnExactRuleCmp os started H enc F)

theorem plain_FnExactRuleCmp (f : FuncId) (fn : Func) (hf : Tryd.pinned.checked.prog.funcNamed "loop.example/crossbuck/laws.FnExactRuleCmp" = some f) (hfn : Tryd.pinned.checked.prog.funcs[f]? = some fn) :
    true = Tryd.pinned.checked.prog.looks [] ∧ ∀ (j : Nat) t, fn.params[j]? = some t → Tryd.pinned.checked.prog.wantsStandIn t = false := by
  obtain rfl : f = 13 := Option.some.inj ((show Tryd.prog.funcNamed "loop.example/crossbuck/laws.FnExactRuleCmp" = some 13 by kernel_rfl).symm.trans hf) |>.symm
  obtain rfl : fn = Tryd.f13 := (Option.some.inj (Tryd.func13.symm.trans hfn)).symm
  refine ⟨by kernel_rfl, fun j t ht => ?_⟩
  rw [Tryd.params13] at ht
  obtain rfl : t = 44 := by simpa using Array.mem_of_getElem? ht
  exact (show Tryd.prog.wantsStandIn 44 = false by kernel_rfl)

theorem proved_FnExactRuleCmp : Rows.FnExactRuleCmpCardSaid :=
  Claim7.holds_tied_plain_at .later [] _ _ _ _ said_FnExactRuleCmp (fun _ h => by cases h) (by kernel_rfl) (fun _ h => by cases h) fnExactRuleCmp_row_tie rfl ⟨rfl, rfl⟩ (by kernel_rfl) rfl plain_FnExactRuleCmp (by kernel_rfl)

end Go.Proofs.YtlbbhiigfgegeaaDoor
