/-
  Proved: TableAt answers as its model at every slice of rules and every head, and writes into no argument; they read on as they did. No condition but the card's own: the listed variables of the library stand as its text lays them.
-/
import Derived.Test.YtmfgiemhonfapaaGreatDoorRuleCard
import Derived.Test.YtmfgiemhonfapaaGreatDoorTabS
import Derived.Test.YtmfgiemhonfapaaGreatDoorTabAtS
import Derived.Test.YtmfgiemhonfapaaGreatDoorHeadB
import Derived.Deep.RegionHeld3
namespace Go.Proofs.YtmfgiemhonfapaaGreatDoor
open Go.ChangeShapes Go.WideShapes Go.ChangeAt Go.RowKit Go.Joins
set_option linter.unusedVariables false

set_option maxRecDepth 100000 in
set_option maxHeartbeats 4000000 in
theorem walk_FnExactTableAt (v : Value) (n : Nat) (f : Nat → Int × ByteArray × Int × Int) (a b c : Int) (w : World) (hr : Raws w w.heap.size v n f) (hz : ∀ i, i < n → (f i).2.1.size ≤ maxLen) (wa : (Lit.int .i64 a).wf = true) (wb : (Lit.int .i64 b).wf = true) (wc : (Lit.int .i64 c).wf = true) (hE : EtOk w) :
    Calls Tryz.prog 5 #[v, .agg #[.int .i64 a, .int .i64 b, .int .i64 c]] w fun e w' => e = .returned (.bool true) ∧ Below w.heap.size w w' := by
  have HE := Lib.hid hE
  have HB0 : Hid (∀ W, Below (w.alloc (.cells #[.int .i64 a, .int .i64 b, .int .i64 c] 40)).heap.size (w.alloc (.cells #[.int .i64 a, .int .i64 b, .int .i64 c] 40)) W → Below w.heap.size w W ∧ w.heap.size < W.heap.size ∧ W.cell? ⟨w.heap.size, 0, none⟩ = some (.int .i64 a) ∧ W.cell? ⟨w.heap.size, 1, none⟩ = some (.int .i64 b) ∧ W.cell? ⟨w.heap.size, 2, none⟩ = some (.int .i64 c)) := fun W hb => by
    have hs := hb.size
    simp at hs
    exact ⟨(below_alloc1 _ _).trans (hb.mono (by simp)), by omega, trio3 ((hb.block _ (by simp)).trans (newBlockM w _))⟩
  have HSZ := Lib.hid (szRuleS_any (w.alloc (.cells #[.int .i64 a, .int .i64 b, .int .i64 c] 40)) v n 1048576 f ((hr.below (below_alloc1 w _) (Nat.le_refl _)).mono (below_alloc1 w (.cells #[.int .i64 a, .int .i64 b, .int .i64 c] 40)).size) hz (Nat.le_refl _))
  have HW : Hid ((∀ i, i < n → (f i).2.1.size ≤ 1048576) → ∀ W, Below w.heap.size w W → Rls W W.heap.size v ((List.range n).map (small f))) := fun hs W hb => ((hr.below hb (Nat.le_refl _)).mono hb.size).rls hs
  have hl : ((List.range n).map (small f)).length = n := by simp
  clear hr hz hE wa wb wc
  generalize (List.range n).map (small f) = l at *
  go_enter Tryz.func5, Tryz.ntmps5
  go_wp2_with fail
  refine HSZ.out.mono ?_
  rintro e w1 ⟨rfl | ⟨r, rfl, hr, hn, hsm⟩, b1⟩
  · go_wp2
    go_ret
    exact ⟨rfl, (HB0.out _ b1).1⟩
  have hr0 : ¬ ((r : Int) < 0) := by omega
  have HL := Lib.hid (HW.out hsm)
  have B1 := Lib.hid b1
  have HN : Hid (l.length ≤ 1048576) := by show _ ≤ _; omega
  clear hsm b1 HSZ HW hl hn
  go_wp2_with fail
  go_region_held3 (fun W' => W'.cell? ⟨w.heap.size, 0, none⟩ = some (.int .i64 a) ∧ W'.cell? ⟨w.heap.size, 1, none⟩ = some (.int .i64 b) ∧ W'.cell? ⟨w.heap.size, 2, none⟩ = some (.int .i64 c))
    (first | exact (HB0.out _ B1.out.drew).2.2 | exact (HB0.out _ B4.out).2.2 | exact (HB0.out _ B3.out).2.2 | exact (HB0.out _ B2.out).2.2)
    (first
      | (go_at_call 19; ((with_reducible refine (toRuleS_any _ _ l (HL.out _ (HB0.out _ B1.out.drew).1) HN.out).mono ?_); rintro e w2 ⟨u, rfl, hrow, b2⟩; have HR2 := Lib.hid hrow; have B2 := Lib.hid (belStep B1.out.drew b2); clear hrow b2))
      | (go_at_call 20; ((with_reducible refine (toHead_any _ _ _ _).mono ?_); rintro e w3 ⟨rfl, b3⟩; have HR3 := Lib.hid (HR2.out.below b3); have B3 := Lib.hid (belStep B2.out b3); clear b3))
      | (go_at_call 10; ((with_reducible refine (sTableAt_any _ _ l HR3.out.rls HN.out a b c).mono ?_); rintro e w4 ⟨rfl, b4⟩; have B4 := Lib.hid (belStep B3.out b4); clear b4)))
  clear HR2 HR3 B2 B3 B1
  go_wp2_with fail
  refine (toRuleS_any _ _ l (HL.out _ (HB0.out _ B4.out).1) HN.out).mono ?_
  rintro e w5 ⟨x, rfl, hrow, b5⟩
  have HX := Lib.hid hrow
  have B5 := Lib.hid (belStep B4.out b5)
  obtain ⟨-, q2, k0, k1, k2⟩ := HB0.out _ B5.out
  clear hrow b5 B4
  go_wp2_with fail
  refine (toHead_any _ _ _ _).mono ?_
  rintro e w6 ⟨rfl, b6⟩
  have HX6 := Lib.hid (HX.out.below b6)
  have B6 := Lib.hid (belStep B5.out b6)
  clear b6 B5 HX k0 k1 k2 q2
  go_wp2_with fail
  refine (iTableAt_any _ _ l HX6.out.rls HN.out a b c (HE.out.below (HB0.out _ B6.out).1)).mono ?_
  rintro e w7 ⟨rfl, b7⟩
  have HX7 := Lib.hid (HX6.out.below b7)
  have B7 := Lib.hid (belStep B6.out b7)
  clear b7 B6 HX6
  generalize atT a b c l = res
  go_wp2_with fail
  refine (toRuleS_any _ _ l (HL.out _ (HB0.out _ B7.out).1) HN.out).mono ?_
  rintro e w8 ⟨y, rfl, hrow, b8⟩
  have HX8 := Lib.hid (HX7.out.below b8)
  have HY := Lib.hid hrow
  have B8 := Lib.hid (belStep B7.out b8)
  clear hrow b8 B7 HX7
  go_wp2_with fail
  refine (eqRuleS_same _ _ _ l HX8.out.rls HY.out.rls HN.out).mono ?_
  rintro e w9 ⟨rfl, b9⟩
  go_wp2
  go_ret
  exact ⟨rfl, (HB0.out _ (belStep B8.out b9)).1⟩

set_option maxRecDepth 100000 in
theorem contract_FnExactTableAt (H : Type) (enc : TypeId × Value → H) (W : World) (base : Nat) (args : Array Value) (ds gs : List (DataW H)) (before : List MemPlace)
    (hval : ∀ (j : Nat) t v, Tryz.f5.params[j]? = some t → args[j]? = some v → Value.okWide Tryz.prog W .any base t v)
    (hW : DataW.Whole enc Tryz.prog Tryz.f5.params.toList Rows.fnExactTableAtSpec.vars false W args.toList ds gs before) (hE : EtOk W) :
    Calls Tryz.prog 5 args W fun e W' => ∃ v, e = .returned v ∧ Rows.fnExactTableAtSpec.post enc Tryz.prog Tryz.f5 false true false false W args v W' := by
  have hW' := hW
  obtain ⟨p, q, hA0, hV, rfl, hfz, hnd⟩ := hW
  have hA : DataW.TrodAll enc Tryz.prog W 0 (fun _ => true) true Tryz.f5.params.toList args.toList ds p := hA0
  rw [Tryz.params5] at hA hval
  obtain ⟨v0, vs0, d0, ds0, p0, q0, hargs, rfl, rfl, h0, r0⟩ := trodAll_cons hA
  obtain ⟨v1, vs1, d1, ds1, p1, q1, rfl, rfl, rfl, h1, r1⟩ := trodAll_cons r0
  obtain ⟨rfl, rfl, rfl⟩ := trodAll_nil r1
  obtain rfl : args = #[v0, v1] := by cases args; simp_all
  obtain ⟨rfl, rfl⟩ := trodVars_none hV
  have k0 := h0
  have lt0 : ∀ x ∈ p0, x.block < W.heap.size := by obtain ⟨m, hm⟩ := k0; exact DataW.trod_lt m _ _ _ hm
  have k1 := h1
  have lt1 : ∀ x ∈ p1, x.block < W.heap.size := by obtain ⟨m, hm⟩ := k1; exact DataW.trod_lt m _ _ _ hm
  obtain ⟨n0, f0, w0, z0⟩ := rules_of h0 (okWide_slice Tryz.underlying39 (hval 0 39 v0 rfl rfl))
  obtain ⟨x1, y1, z1, ya1, yb1, yc1, m1, rfl, -, -, ha1, hb1, hc1⟩ := open_agg3 Tryz.underlying40 (by kernel_rfl) (show Tryz.prog.cellsOf 40 = 3 by kernel_rfl) (hval 1 40 v1 rfl rfl) h1
  obtain ⟨a1, ea1, -, wa1⟩ := DataW.trod_int Tryz.underlying3 ha1
  obtain ⟨b1, eb1, -, wb1⟩ := DataW.trod_int Tryz.underlying3 hb1
  obtain ⟨c1, ec1, -, wc1⟩ := DataW.trod_int Tryz.underlying3 hc1
  simp at ea1 eb1 ec1
  subst ea1 eb1 ec1
  clear hA0
  refine (walk_FnExactTableAt v0 n0 f0 a1 b1 c1 W w0 z0 wa1 wb1 wc1 hE).mono fun e W' ⟨he, bel⟩ => ?_
  subst he
  exact ⟨_, rfl, _, _, _, [], _, [], hW', trodAll_mk1 (shut_bool Tryz.underlying4 _), (trodAll_cons_mk (Below.trod laidOut (by kernel_rfl) (of_decide_eq_true (by kernel_rfl)) k0 bel lt0) (trodAll_cons_mk (Below.trod laidOut (by kernel_rfl) (of_decide_eq_true (by kernel_rfl)) k1 bel lt1) (trodAll_mk0))), rfl, bel.frame _, fun h => by cases h⟩

/-- A world for the witness: the settled one, with the listed variables as the text lays them. -/
noncomputable def laidWorld_FnExactTableAt (os : Os) : World :=
  { World.holding Tryz.prog os ⟨#[], #[], []⟩ with heap := (((((World.holding Tryz.prog os ⟨#[], #[], []⟩).heap).modify 3 (fun | .cells _ t frozen => .cells #[.int .u8 0, .int .u8 1, .int .u8 28, .int .u8 2, .int .u8 29, .int .u8 14, .int .u8 24, .int .u8 3, .int .u8 30, .int .u8 22, .int .u8 20, .int .u8 15, .int .u8 25, .int .u8 17, .int .u8 4, .int .u8 8, .int .u8 31, .int .u8 27, .int .u8 13, .int .u8 23, .int .u8 21, .int .u8 19, .int .u8 16, .int .u8 7, .int .u8 26, .int .u8 12, .int .u8 18, .int .u8 6, .int .u8 11, .int .u8 5, .int .u8 10, .int .u8 9] t frozen | o => o)).modify 4 (fun | .cells _ t frozen => .cells #[.int .u8 0, .int .u8 1, .int .u8 56, .int .u8 2, .int .u8 57, .int .u8 49, .int .u8 28, .int .u8 3, .int .u8 61, .int .u8 58, .int .u8 42, .int .u8 50, .int .u8 38, .int .u8 29, .int .u8 17, .int .u8 4, .int .u8 62, .int .u8 47, .int .u8 59, .int .u8 36, .int .u8 45, .int .u8 43, .int .u8 51, .int .u8 22, .int .u8 53, .int .u8 39, .int .u8 33, .int .u8 30, .int .u8 24, .int .u8 18, .int .u8 12, .int .u8 5, .int .u8 63, .int .u8 55, .int .u8 48, .int .u8 27, .int .u8 60, .int .u8 41, .int .u8 37, .int .u8 16, .int .u8 46, .int .u8 35, .int .u8 44, .int .u8 21, .int .u8 52, .int .u8 32, .int .u8 23, .int .u8 11, .int .u8 54, .int .u8 26, .int .u8 40, .int .u8 15, .int .u8 34, .int .u8 20, .int .u8 31, .int .u8 10, .int .u8 25, .int .u8 14, .int .u8 19, .int .u8 9, .int .u8 13, .int .u8 8, .int .u8 7, .int .u8 6] t frozen | o => o)).modify 2 (fun | .cells _ t frozen => .cells #[.int .u64 1, .int .u64 10, .int .u64 100, .int .u64 1000, .int .u64 10000, .int .u64 100000, .int .u64 1000000, .int .u64 10000000, .int .u64 100000000, .int .u64 1000000000, .int .u64 10000000000, .int .u64 100000000000, .int .u64 1000000000000, .int .u64 10000000000000, .int .u64 100000000000000, .int .u64 1000000000000000, .int .u64 10000000000000000, .int .u64 100000000000000000, .int .u64 1000000000000000000, .int .u64 10000000000000000000] t frozen | o => o)).modify 0 (fun | .cells _ t frozen => .cells #[.iface 136 (.agg #[.pointer (some ⟨5, 73, none⟩)])] t frozen | o => o) }

theorem laidMet_FnExactTableAt (os : Os) : laidMetH Tryz.prog Rows.fnExactTableAtRow.laid ((laidWorld_FnExactTableAt os).forCall (fun _ _ => 0) ⟨#[], #[.slice none 0 0, .agg #[.int .i64 0, .int .i64 0, .int .i64 0]], []⟩).memory :=
  laidMetH_of_parts (laidMet_of_run' 8 (by kernel_rfl) (by kernel_rfl)) (by kernel_rfl)

theorem reads_FnExactTableAt (os : Os) {H : Type} (enc : TypeId × Value → H) : ∃ places, DataW.whole enc Tryz.prog ((laidWorld_FnExactTableAt os).forCall (fun _ _ => 0) ⟨#[], #[.slice none 0 0, .agg #[.int .i64 0, .int .i64 0, .int .i64 0]], []⟩).memory Tryz.f5.params.toList Rows.fnExactTableAtSpec.vars false (#[.slice none 0 0, .agg #[.int .i64 0, .int .i64 0, .int .i64 0]] : Array Value).toList 8 = some ([.nil, .agg [.lit (.int .i64 0), .lit (.int .i64 0), .lit (.int .i64 0)]], [], places) :=
  ⟨[], by kernel_rfl⟩

set_option maxRecDepth 100000 in
theorem lifted_FnExactTableAt (os : Os) (started : os.Started) (H : Type) (enc : TypeId × Value → H) (F : Stop.Interp) :
    ReturnsInHanded {} Tryz.checked os 5 .any ((OpenSpec.ofChange Rows.fnExactTableAtSpec).preRow enc Tryz.prog Tryz.f5 Rows.fnExactTableAtRow.domain false Rows.fnExactTableAtRow.laid) (((OpenSpec.ofChange Rows.fnExactTableAtSpec).at F).post enc Tryz.prog Tryz.f5 false true false false) := by
  obtain ⟨places, hx⟩ := reads_FnExactTableAt os enc
  refine returnsInHanded_of_row (C := Tryz.checked) (s := OpenSpec.ofChange Rows.fnExactTableAtSpec) own started (by kernel_rfl) Tryz.func5
    (witness_row_at (enc := enc) (C := Tryz.checked) false (laidWorld_FnExactTableAt os) #[.slice none 0 0, .agg #[.int .i64 0, .int .i64 0, .int .i64 0]] rfl (by kernel_rfl) (by kernel_rfl) (by kernel_rfl)
      (OpenSpec.preRow_of_cond 8 hx (by kernel_rfl) (fun k hk => by cases hk) (by kernel_rfl) (laidMet_FnExactTableAt os))) ?_
  intro W base args ds gs before hval hW _ _ _ hL _ _
  exact contract_FnExactTableAt H enc W base args ds gs before hval hW (etOk_of hL (by simp [Rows.fnExactTableAtRow]))

theorem said_FnExactTableAt : Rows.FnExactTableAtSaid :=
  OpenClaim.holds_of_cond 5 Tryz.f5 rfl rfl rfl rfl rfl rfl rfl ⟨rfl, rfl, rfl, rfl, rfl⟩ rfl rfl rfl rfl rfl (by kernel_rfl) Tryz.func5 (by kernel_rfl)
    (of_decide_eq_true (by kernel_rfl)) (by unfold Func.isWrapper; first | (rw [if_pos (by decide +kernel)]; kernel_rfl) | (rw [if_neg (by decide +kernel)]; exact ⟨rfl, rfl⟩))
    (fun os started H enc _ F => by rw [OpenClaim.pre_eq_preRow]; exact lifted_FnExactTableAt os started H enc F)

theorem plain_FnExactTableAt (f : FuncId) (fn : Func) (hf : Tryz.pinned.checked.prog.funcNamed "loop.example/crossbuck/laws.FnExactTableAt" = some f) (hfn : Tryz.pinned.checked.prog.funcs[f]? = some fn) :
    true = Tryz.pinned.checked.prog.looks [] ∧ ∀ (j : Nat) t, fn.params[j]? = some t → Tryz.pinned.checked.prog.wantsStandIn t = false := by
  obtain rfl : f = 5 := Option.some.inj ((show Tryz.prog.funcNamed "loop.example/crossbuck/laws.FnExactTableAt" = some 5 by kernel_rfl).symm.trans hf) |>.symm
  obtain rfl : fn = Tryz.f5 := (Option.some.inj (Tryz.func5.symm.trans hfn)).symm
  refine ⟨by kernel_rfl, fun j t ht => ?_⟩
  rw [Tryz.params5] at ht
  have hm : t = 39 ∨ t = 40 := by simpa using Array.mem_of_getElem? ht
  rcases hm with rfl | rfl
  · exact (show Tryz.prog.wantsStandIn 39 = false by kernel_rfl)
  · exact (show Tryz.prog.wantsStandIn 40 = false by kernel_rfl)

theorem proved_FnExactTableAt : Rows.FnExactTableAtCardSaid :=
  Claim7.holds_tied_plain_at .later [] _ _ _ _ said_FnExactTableAt (fun _ h => by cases h) (by kernel_rfl) (fun _ h => by cases h) fnExactTableAt_row_tie rfl ⟨rfl, rfl⟩ (by kernel_rfl) rfl plain_FnExactTableAt (by kernel_rfl)

end Go.Proofs.YtmfgiemhonfapaaGreatDoor
