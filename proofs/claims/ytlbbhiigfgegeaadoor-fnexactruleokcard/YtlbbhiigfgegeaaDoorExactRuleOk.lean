/-
  Proved: RuleOk answers as its model at every rule; the rule reads on as it did. No condition but the card's own: the listed variable of the library stands as its text lays it.
-/
import Derived.Test.YtlbbhiigfgegeaaDoorRuleCard
import Derived.Test.YtlbbhiigfgegeaaDoorRuleImpl
namespace Go.Proofs.YtlbbhiigfgegeaaDoor
open Go.ChangeShapes Go.WideShapes Go.ChangeAt Go.RowKit Go.Joins
set_option linter.unusedVariables false

set_option maxHeartbeats 1000000 in
theorem walk_FnExactRuleOk (p : Int) (s : ByteArray) (o t : Int) (w : World) (wp : (Lit.int .i64 p).wf = true) (hs : s.size ≤ maxLen) (wo : (Lit.int .i64 o).wf = true) (wt : (Lit.int .i64 t).wf = true) (hE : EtOk w) :
    Calls Tryd.prog 9 #[.agg #[.int .i64 p, .string s, .int .i64 o, .int .i64 t]] w fun e w' => e = .returned (.bool true) ∧ Below w.heap.size w w' := by
  have HE := Lib.hid (hE.alloc (.cells #[.int .i64 p, .string s, .int .i64 o, .int .i64 t] 44))
  have B0 := Lib.hid (below_alloc1 w (.cells #[.int .i64 p, .string s, .int .i64 o, .int .i64 t] 44))
  clear hE
  by_cases hb : (1048576 : Int) < s.size
  · go_enter Tryd.func9, Tryd.ntmps9
    go_wp2_with fail
    refine (szRule_any _ _ hs _ _ _ (by omega) (by omega) _).mono ?_
    rintro e w1 ⟨rfl, b1⟩
    rw [if_pos (by omega)]
    go_wp2
    go_ret
    exact ⟨rfl, belStep B0.out b1⟩
  have hm : s.size ≤ 1048576 := by omega
  have hl : ¬ (1048576 - (s.size : Int) < 0) := by omega
  go_enter Tryd.func9, Tryd.ntmps9
  go_wp2_with fail
  refine (szRule_any _ _ hs _ _ _ (by omega) (by omega) _).mono ?_
  rintro e w1 ⟨rfl, b1⟩
  rw [if_neg (by omega)]
  obtain ⟨q0, q1, q2, q3⟩ := fourKept b1
  go_wp2_with fail
  refine (toRule_any _ _ _ _ _).mono ?_
  rintro e w2 ⟨rfl, b2⟩
  clear q0 q1 q2 q3
  go_wp2_with fail
  refine (sRuleOk_any _ _ hm _ _ _).mono ?_
  rintro e w3 ⟨rfl, b3⟩
  obtain ⟨q0, q1, q2, q3⟩ := fourKept (belStep b1 (belStep b2 b3))
  go_wp2_with fail
  refine (toRule_any _ _ _ _ _).mono ?_
  rintro e w4 ⟨rfl, b4⟩
  have HE4 := Lib.hid ((((HE.out.below b1).below b2).below b3).below b4)
  go_wp2_with fail
  refine (iRuleOk_any _ _ hm _ _ _ HE4.out).mono ?_
  rintro e w5 ⟨rfl, b5⟩
  generalize rOk p s o t = k
  cases k <;> (go_wp2; go_ret; exact ⟨rfl, belStep B0.out (belStep b1 (belStep b2 (belStep b3 (belStep b4 b5))))⟩)

set_option maxRecDepth 100000 in
theorem contract_FnExactRuleOk (H : Type) (enc : TypeId × Value → H) (W : World) (base : Nat) (args : Array Value) (ds gs : List (DataW H)) (before : List MemPlace)
    (hval : ∀ (j : Nat) t v, Tryd.f9.params[j]? = some t → args[j]? = some v → Value.okWide Tryd.prog W .any base t v)
    (hW : DataW.Whole enc Tryd.prog Tryd.f9.params.toList Rows.fnExactRuleOkSpec.vars false W args.toList ds gs before) (hE : EtOk W) :
    Calls Tryd.prog 9 args W fun e W' => ∃ v, e = .returned v ∧ Rows.fnExactRuleOkSpec.post enc Tryd.prog Tryd.f9 false true false false W args v W' := by
  have hW' := hW
  obtain ⟨p, q, hA0, hV, rfl, hfz, hnd⟩ := hW
  have hA : DataW.TrodAll enc Tryd.prog W 0 (fun _ => true) true Tryd.f9.params.toList args.toList ds p := hA0
  rw [Tryd.params9] at hA hval
  obtain ⟨v0, vs0, d0, ds0, p0, q0, hargs, rfl, rfl, h0, r0⟩ := trodAll_cons hA
  obtain ⟨rfl, rfl, rfl⟩ := trodAll_nil r0
  obtain rfl : args = #[v0] := by cases args; simp_all
  obtain ⟨rfl, rfl⟩ := trodVars_none hV
  have k0 := h0
  have lt0 : ∀ x ∈ p0, x.block < W.heap.size := by obtain ⟨m, hm⟩ := k0; exact DataW.trod_lt m _ _ _ hm
  obtain ⟨x0, y0, z0, u0, ya0, yb0, yc0, yd0, m0, rfl, -, -, ha0, hb0, hc0, hd0⟩ := open_agg4 Tryd.underlying44 (by kernel_rfl) (show Tryd.prog.cellsOf 44 = 4 by kernel_rfl) (hval 0 44 v0 rfl rfl) h0
  obtain ⟨a0, ea0, -, wa0⟩ := DataW.trod_int Tryd.underlying3 ha0
  obtain ⟨b0, eb0, -, wb0⟩ := DataW.trod_string Tryd.underlying9 hb0
  obtain ⟨c0, ec0, -, wc0⟩ := DataW.trod_int Tryd.underlying3 hc0
  obtain ⟨d0', ed0, -, wd0⟩ := DataW.trod_int Tryd.underlying3 hd0
  simp at ea0 eb0 ec0 ed0
  subst ea0 eb0 ec0 ed0
  clear hA0
  refine (walk_FnExactRuleOk a0 b0 c0 d0' W wa0 wb0 wc0 wd0 hE).mono fun e W' ⟨he, bel⟩ => ?_
  subst he
  exact ⟨_, rfl, _, _, _, [], _, [], hW', trodAll_mk1 (shut_bool Tryd.underlying4 _), (trodAll_cons_mk (Below.trod laidOut (by kernel_rfl) (of_decide_eq_true (by kernel_rfl)) k0 bel lt0) (trodAll_mk0)), rfl, bel.frame _, fun h => by cases h⟩

/-- A world for the witness: the settled one, with the listed variables as the text lays them. -/
noncomputable def laidWorld_FnExactRuleOk (os : Os) : World :=
  { World.holding Tryd.prog os ⟨#[], #[], []⟩ with heap := ((World.holding Tryd.prog os ⟨#[], #[], []⟩).heap).modify 0 (fun | .cells _ t frozen => .cells #[.iface 122 (.agg #[.pointer (some ⟨7, 60, none⟩)])] t frozen | o => o) }

theorem laidMet_FnExactRuleOk (os : Os) : laidMetH Tryd.prog Rows.fnExactRuleOkRow.laid ((laidWorld_FnExactRuleOk os).forCall (fun _ _ => 0) ⟨#[], #[.agg #[.int .i64 0, .string ByteArray.empty, .int .i64 0, .int .i64 0]], []⟩).memory :=
  laidMetH_of_parts (laidMet_nil _ _) (by kernel_rfl)

theorem reads_FnExactRuleOk (os : Os) {H : Type} (enc : TypeId × Value → H) : ∃ places, DataW.whole enc Tryd.prog ((laidWorld_FnExactRuleOk os).forCall (fun _ _ => 0) ⟨#[], #[.agg #[.int .i64 0, .string ByteArray.empty, .int .i64 0, .int .i64 0]], []⟩).memory Tryd.f9.params.toList Rows.fnExactRuleOkSpec.vars false (#[.agg #[.int .i64 0, .string ByteArray.empty, .int .i64 0, .int .i64 0]] : Array Value).toList 8 = some ([.agg [.lit (.int .i64 0), .lit (.string []), .lit (.int .i64 0), .lit (.int .i64 0)]], [], places) :=
  ⟨[], by kernel_rfl⟩

set_option maxRecDepth 100000 in
theorem lifted_FnExactRuleOk (os : Os) (started : os.Started) (H : Type) (enc : TypeId × Value → H) (F : Stop.Interp) :
    ReturnsInHanded {} Tryd.checked os 9 .any ((OpenSpec.ofChange Rows.fnExactRuleOkSpec).preRow enc Tryd.prog Tryd.f9 Rows.fnExactRuleOkRow.domain false Rows.fnExactRuleOkRow.laid) (((OpenSpec.ofChange Rows.fnExactRuleOkSpec).at F).post enc Tryd.prog Tryd.f9 false true false false) := by
  obtain ⟨places, hx⟩ := reads_FnExactRuleOk os enc
  refine returnsInHanded_of_row (C := Tryd.checked) (s := OpenSpec.ofChange Rows.fnExactRuleOkSpec) own started (by kernel_rfl) Tryd.func9
    (witness_row_at (enc := enc) (C := Tryd.checked) false (laidWorld_FnExactRuleOk os) #[.agg #[.int .i64 0, .string ByteArray.empty, .int .i64 0, .int .i64 0]] rfl (by kernel_rfl) (by kernel_rfl) (by kernel_rfl)
      (OpenSpec.preRow_of_cond 8 hx (by kernel_rfl) (fun k hk => by cases hk) (by kernel_rfl) (laidMet_FnExactRuleOk os))) ?_
  intro W base args ds gs before hval hW _ _ _ hL _ _
  exact contract_FnExactRuleOk H enc W base args ds gs before hval hW (etOk_of hL (by simp [Rows.fnExactRuleOkRow]))

theorem said_FnExactRuleOk : Rows.FnExactRuleOkSaid :=
  OpenClaim.holds_of_cond 9 Tryd.f9 rfl rfl rfl rfl rfl rfl rfl ⟨rfl, rfl, rfl, rfl, rfl⟩ rfl rfl rfl rfl rfl (by kernel_rfl) Tryd.func9 (by kernel_rfl)
    (of_decide_eq_true (by kernel_rfl)) (by unfold Func.isWrapper; first | (rw [if_pos (by decide +kernel)]; kernel_rfl) | (rw [if_neg (by decide +kernel)]; exact ⟨rfl, rfl⟩))
    (fun os started H enc _ F => by rw [OpenClaim.pre_eq_preRow]; exact lifted_FnExactRuleOk os started H enc F)

theorem plain_FnExactRuleOk (f : FuncId) (fn : Func) (hf : Tryd.pinned.checked.prog.funcNamed "loop.example/crossbuck/laws.FnExactRuleOk" = some f) (hfn : Tryd.pinned.checked.prog.funcs[f]? = some fn) :
    true = Tryd.pinned.checked.prog.looks [] ∧ ∀ (j : Nat) t, fn.params[j]? = some t → Tryd.pinned.checked.prog.wantsStandIn t = false := by
  obtain rfl : f = 9 := Option.some.inj ((show Tryd.prog.funcNamed "loop.example/crossbuck/laws.FnExactRuleOk" = some 9 by kernel_rfl).symm.trans hf) |>.symm
  obtain rfl : fn = Tryd.f9 := (Option.some.inj (Tryd.func9.symm.trans hfn)).symm
  refine ⟨by kernel_rfl, fun j t ht => ?_⟩
  rw [Tryd.params9] at ht
  obtain rfl : t = 44 := by simpa using Array.mem_of_getElem? ht
  exact (show Tryd.prog.wantsStandIn 44 = false by kernel_rfl)

theorem proved_FnExactRuleOk : Rows.FnExactRuleOkCardSaid :=
  Claim7.holds_tied_plain_at .later [] _ _ _ _ said_FnExactRuleOk (fun _ h => by cases h) (by kernel_rfl) (fun _ h => by cases h) fnExactRuleOk_row_tie rfl ⟨rfl, rfl⟩ (by kernel_rfl) rfl plain_FnExactRuleOk (by kernel_rfl)

end Go.Proofs.YtlbbhiigfgegeaaDoor
