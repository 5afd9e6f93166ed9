/-
  Proved: TableSame answers as its model at every two slices of rules, and writes into no argument; they read on as they did. No condition but the card's own: the listed variables of the library stand as its text lays them.
-/
import Derived.Test.YtmfgiemhonfapaaGreatDoorRuleCard
import Derived.Test.YtmfgiemhonfapaaGreatDoorTabS
import Derived.Test.YtmfgiemhonfapaaGreatDoorTabSame
namespace Go.Proofs.YtmfgiemhonfapaaGreatDoor
open Go.ChangeShapes Go.WideShapes Go.ChangeAt Go.RowKit Go.Joins
set_option linter.unusedVariables false

set_option maxRecDepth 100000 in
set_option maxHeartbeats 4000000 in
theorem walk_FnExactTableSame (v : Value) (n : Nat) (f : Nat → Int × ByteArray × Int × Int) (v' : Value) (n' : Nat) (f' : Nat → Int × ByteArray × Int × Int) (w : World) (hr : Raws w w.heap.size v n f) (hz : ∀ i, i < n → (f i).2.1.size ≤ maxLen) (hr' : Raws w w.heap.size v' n' f') (hz' : ∀ i, i < n' → (f' i).2.1.size ≤ maxLen) (hE : EtOk w) :
    Calls Tryz.prog 7 #[v, v'] w fun e w' => e = .returned (.bool true) ∧ Below w.heap.size w w' := by
  have HE := Lib.hid hE
  have HSZ := Lib.hid (szRuleS_any w v n 1048576 f hr hz (Nat.le_refl _))
  have HZ' := Lib.hid hz'
  have HRW : Hid (∀ W, Below w.heap.size w W → Raws W W.heap.size v' n' f') := fun W hb => (hr'.below hb (Nat.le_refl _)).mono hb.size
  have HWA : Hid ((∀ i, i < n → (f i).2.1.size ≤ 1048576) → ∀ W, Below w.heap.size w W → Rls W W.heap.size v ((List.range n).map (small f))) := fun hs W hb => ((hr.below hb (Nat.le_refl _)).mono hb.size).rls hs
  have HWB : Hid ((∀ i, i < n' → (f' i).2.1.size ≤ 1048576) → ∀ W, Below w.heap.size w W → Rls W W.heap.size v' ((List.range n').map (small f'))) := fun hs W hb => ((hr'.below hb (Nat.le_refl _)).mono hb.size).rls hs
  have hl : ((List.range n).map (small f)).length = n := by simp
  have hl' : ((List.range n').map (small f')).length = n' := by simp
  clear hr hz hr' hz' hE
  generalize (List.range n).map (small f) = l at *
  generalize (List.range n').map (small f') = l' at *
  go_enter Tryz.func7, Tryz.ntmps7
  go_wp2_with fail
  refine HSZ.out.mono ?_
  rintro e w1 ⟨rfl | ⟨r, rfl, hr, hnn, hsm⟩, b1⟩
  · go_wp2
    go_ret
    exact ⟨rfl, b1⟩
  have hr0 : ¬ ((r : Int) < 0) := by omega
  have HW := Lib.hid (HWA.out hsm)
  have hlen : l.length ≤ 1048576 := by omega
  have B1 := Lib.hid b1
  clear hsm b1 HSZ
  go_wp2_with fail
  refine (szRuleS_any _ _ n' r f' (HRW.out _ B1.out) HZ'.out hr).mono ?_
  rintro e w1' ⟨rfl | ⟨r', rfl, hr', hnn', hsm⟩, b1⟩
  · go_wp2
    go_ret
    exact ⟨rfl, belStep B1.out b1⟩
  have hr0' : ¬ ((r' : Int) < 0) := by omega
  have HW' := Lib.hid (HWB.out (fun i hi => Nat.le_trans (hsm i hi) hr))
  have hlen' : l'.length ≤ 1048576 := by omega
  have B1' := Lib.hid (belStep B1.out b1)
  clear hsm b1 B1
  go_wp2_with fail
  refine (toRuleS_any _ _ l (HW.out _ B1'.out) hlen).mono ?_
  rintro e w2 ⟨u, rfl, hrow, b2⟩
  have HU := Lib.hid hrow
  have B2 := Lib.hid (belStep B1'.out b2)
  clear hrow b2 B1'
  go_wp2_with fail
  refine (toRuleS_any _ _ l' (HW'.out _ B2.out) hlen').mono ?_
  rintro e w3 ⟨u', rfl, hrow, b3⟩
  have HU3 := Lib.hid (HU.out.below b3)
  have HU3' := Lib.hid hrow
  have B3 := Lib.hid (belStep B2.out b3)
  clear hrow b3 B2 HU
  go_wp2_with fail
  refine (sTableSame_any _ _ _ l l' HU3.out.rls HU3'.out.rls hlen hlen').mono ?_
  rintro e w4 ⟨rfl, b4⟩
  have B4 := Lib.hid (belStep B3.out b4)
  clear b4 B3 HU3 HU3'
  go_wp2_with fail
  refine (toRuleS_any _ _ l (HW.out _ B4.out) hlen).mono ?_
  rintro e w5 ⟨x, rfl, hrow, b5⟩
  have HX := Lib.hid hrow
  have B5 := Lib.hid (belStep B4.out b5)
  clear hrow b5 B4
  go_wp2_with fail
  refine (toRuleS_any _ _ l' (HW'.out _ B5.out) hlen').mono ?_
  rintro e w6 ⟨x', rfl, hrow, b6⟩
  have HX6 := Lib.hid (HX.out.below b6)
  have HX6' := Lib.hid hrow
  have B6 := Lib.hid (belStep B5.out b6)
  clear hrow b6 B5 HX
  go_wp2_with fail
  refine (iTableSame_any _ _ _ l l' HX6.out.rls HX6'.out.rls hlen hlen' (HE.out.below B6.out)).mono ?_
  rintro e w7 ⟨rfl, b7⟩
  have HX7 := Lib.hid (HX6.out.below b7)
  have HX7' := Lib.hid (HX6'.out.below b7)
  have B7 := Lib.hid (belStep B6.out b7)
  clear b7 B6 HX6 HX6'
  generalize sameT l l' = res
  go_wp2_with fail
  refine (toRuleS_any _ _ l (HW.out _ B7.out) hlen).mono ?_
  rintro e w8 ⟨y, rfl, hrow, b8⟩
  have HX8 := Lib.hid (HX7.out.below b8)
  have HX8' := Lib.hid (HX7'.out.below b8)
  have HY := Lib.hid hrow
  have B8 := Lib.hid (belStep B7.out b8)
  clear hrow b8 B7 HX7 HX7'
  go_wp2_with fail
  refine (eqRuleS_same _ _ _ l HX8.out.rls HY.out.rls hlen).mono ?_
  rintro e w9 ⟨rfl, b9⟩
  have HX9' := Lib.hid (HX8'.out.below b9)
  have B9 := Lib.hid (belStep B8.out b9)
  clear b9 B8 HX8 HX8' HY
  go_wp2_with fail
  refine (toRuleS_any _ _ l' (HW'.out _ B9.out) hlen').mono ?_
  rintro e w10 ⟨y', rfl, hrow, b10⟩
  have HX10' := Lib.hid (HX9'.out.below b10)
  have HY' := Lib.hid hrow
  have B10 := Lib.hid (belStep B9.out b10)
  clear hrow b10 B9 HX9'
  go_wp2_with fail
  refine (eqRuleS_same _ _ _ l' HX10'.out.rls HY'.out.rls hlen').mono ?_
  rintro e w11 ⟨rfl, b11⟩
  go_wp2
  go_ret
  exact ⟨rfl, belStep B10.out b11⟩

set_option maxRecDepth 100000 in
theorem contract_FnExactTableSame (H : Type) (enc : TypeId × Value → H) (W : World) (base : Nat) (args : Array Value) (ds gs : List (DataW H)) (before : List MemPlace)
    (hval : ∀ (j : Nat) t v, Tryz.f7.params[j]? = some t → args[j]? = some v → Value.okWide Tryz.prog W .any base t v)
    (hW : DataW.Whole enc Tryz.prog Tryz.f7.params.toList Rows.fnExactTableSameSpec.vars false W args.toList ds gs before) (hE : EtOk W) :
    Calls Tryz.prog 7 args W fun e W' => ∃ v, e = .returned v ∧ Rows.fnExactTableSameSpec.post enc Tryz.prog Tryz.f7 false true false false W args v W' := by
  have hW' := hW
  obtain ⟨p, q, hA0, hV, rfl, hfz, hnd⟩ := hW
  have hA : DataW.TrodAll enc Tryz.prog W 0 (fun _ => true) true Tryz.f7.params.toList args.toList ds p := hA0
  rw [Tryz.params7] at hA hval
  obtain ⟨v0, vs0, d0, ds0, p0, q0, hargs, rfl, rfl, h0, r0⟩ := trodAll_cons hA
  obtain ⟨v1, vs1, d1, ds1, p1, q1, rfl, rfl, rfl, h1, r1⟩ := trodAll_cons r0
  obtain ⟨rfl, rfl, rfl⟩ := trodAll_nil r1
  obtain rfl : args = #[v0, v1] := by cases args; simp_all
  obtain ⟨rfl, rfl⟩ := trodVars_none hV
  have k0 := h0
  have lt0 : ∀ x ∈ p0, x.block < W.heap.size := by obtain ⟨m, hm⟩ := k0; exact DataW.trod_lt m _ _ _ hm
  have k1 := h1
  have lt1 : ∀ x ∈ p1, x.block < W.heap.size := by obtain ⟨m, hm⟩ := k1; exact DataW.trod_lt m _ _ _ hm
  obtain ⟨n0, f0, w0, z0⟩ := rules_of h0 (okWide_slice Tryz.underlying39 (hval 0 39 v0 rfl rfl))
  obtain ⟨n1, f1, w1, z1⟩ := rules_of h1 (okWide_slice Tryz.underlying39 (hval 1 39 v1 rfl rfl))
  clear hA0
  refine (walk_FnExactTableSame v0 n0 f0 v1 n1 f1 W w0 z0 w1 z1 hE).mono fun e W' ⟨he, bel⟩ => ?_
  subst he
  exact ⟨_, rfl, _, _, _, [], _, [], hW', trodAll_mk1 (shut_bool Tryz.underlying4 _), (trodAll_cons_mk (Below.trod laidOut (by kernel_rfl) (of_decide_eq_true (by kernel_rfl)) k0 bel lt0) (trodAll_cons_mk (Below.trod laidOut (by kernel_rfl) (of_decide_eq_true (by kernel_rfl)) k1 bel lt1) (trodAll_mk0))), rfl, bel.frame _, fun h => by cases h⟩

/-- A world for the witness: the settled one, with the listed variables as the text lays them. -/
noncomputable def laidWorld_FnExactTableSame (os : Os) : World :=
  { World.holding Tryz.prog os ⟨#[], #[], []⟩ with heap := (((((World.holding Tryz.prog os ⟨#[], #[], []⟩).heap).modify 3 (fun | .cells _ t frozen => .cells #[.int .u8 0, .int .u8 1, .int .u8 28, .int .u8 2, .int .u8 29, .int .u8 14, .int .u8 24, .int .u8 3, .int .u8 30, .int .u8 22, .int .u8 20, .int .u8 15, .int .u8 25, .int .u8 17, .int .u8 4, .int .u8 8, .int .u8 31, .int .u8 27, .int .u8 13, .int .u8 23, .int .u8 21, .int .u8 19, .int .u8 16, .int .u8 7, .int .u8 26, .int .u8 12, .int .u8 18, .int .u8 6, .int .u8 11, .int .u8 5, .int .u8 10, .int .u8 9] t frozen | o => o)).modify 4 (fun | .cells _ t frozen => .cells #[.int .u8 0, .int .u8 1, .int .u8 56, .int .u8 2, .int .u8 57, .int .u8 49, .int .u8 28, .int .u8 3, .int .u8 61, .int .u8 58, .int .u8 42, .int .u8 50, .int .u8 38, .int .u8 29, .int .u8 17, .int .u8 4, .int .u8 62, .int .u8 47, .int .u8 59, .int .u8 36, .int .u8 45, .int .u8 43, .int .u8 51, .int .u8 22, .int .u8 53, .int .u8 39, .int .u8 33, .int .u8 30, .int .u8 24, .int .u8 18, .int .u8 12, .int .u8 5, .int .u8 63, .int .u8 55, .int .u8 48, .int .u8 27, .int .u8 60, .int .u8 41, .int .u8 37, .int .u8 16, .int .u8 46, .int .u8 35, .int .u8 44, .int .u8 21, .int .u8 52, .int .u8 32, .int .u8 23, .int .u8 11, .int .u8 54, .int .u8 26, .int .u8 40, .int .u8 15, .int .u8 34, .int .u8 20, .int .u8 31, .int .u8 10, .int .u8 25, .int .u8 14, .int .u8 19, .int .u8 9, .int .u8 13, .int .u8 8, .int .u8 7, .int .u8 6] t frozen | o => o)).modify 2 (fun | .cells _ t frozen => .cells #[.int .u64 1, .int .u64 10, .int .u64 100, .int .u64 1000, .int .u64 10000, .int .u64 100000, .int .u64 1000000, .int .u64 10000000, .int .u64 100000000, .int .u64 1000000000, .int .u64 10000000000, .int .u64 100000000000, .int .u64 1000000000000, .int .u64 10000000000000, .int .u64 100000000000000, .int .u64 1000000000000000, .int .u64 10000000000000000, .int .u64 100000000000000000, .int .u64 1000000000000000000, .int .u64 10000000000000000000] t frozen | o => o)).modify 0 (fun | .cells _ t frozen => .cells #[.iface 136 (.agg #[.pointer (some ⟨5, 73, none⟩)])] t frozen | o => o) }

theorem laidMet_FnExactTableSame (os : Os) : laidMetH Tryz.prog Rows.fnExactTableSameRow.laid ((laidWorld_FnExactTableSame os).forCall (fun _ _ => 0) ⟨#[], #[.slice none 0 0, .slice none 0 0], []⟩).memory :=
  laidMetH_of_parts (laidMet_of_run' 8 (by kernel_rfl) (by kernel_rfl)) (by kernel_rfl)

theorem reads_FnExactTableSame (os : Os) {H : Type} (enc : TypeId × Value → H) : ∃ places, DataW.whole enc Tryz.prog ((laidWorld_FnExactTableSame os).forCall (fun _ _ => 0) ⟨#[], #[.slice none 0 0, .slice none 0 0], []⟩).memory Tryz.f7.params.toList Rows.fnExactTableSameSpec.vars false (#[.slice none 0 0, .slice none 0 0] : Array Value).toList 8 = some ([.nil, .nil], [], places) :=
  ⟨[], by kernel_rfl⟩

set_option maxRecDepth 100000 in
theorem lifted_FnExactTableSame (os : Os) (started : os.Started) (H : Type) (enc : TypeId × Value → H) (F : Stop.Interp) :
    ReturnsInHanded {} Tryz.checked os 7 .any ((OpenSpec.ofChange Rows.fnExactTableSameSpec).preRow enc Tryz.prog Tryz.f7 Rows.fnExactTableSameRow.domain false Rows.fnExactTableSameRow.laid) (((OpenSpec.ofChange Rows.fnExactTableSameSpec).at F).post enc Tryz.prog Tryz.f7 false true false false) := by
  obtain ⟨places, hx⟩ := reads_FnExactTableSame os enc
  refine returnsInHanded_of_row (C := Tryz.checked) (s := OpenSpec.ofChange Rows.fnExactTableSameSpec) own started (by kernel_rfl) Tryz.func7
    (witness_row_at (enc := enc) (C := Tryz.checked) false (laidWorld_FnExactTableSame os) #[.slice none 0 0, .slice none 0 0] rfl (by kernel_rfl) (by kernel_rfl) (by kernel_rfl)
      (OpenSpec.preRow_of_cond 8 hx (by kernel_rfl) (fun k hk => by cases hk) (by kernel_rfl) (laidMet_FnExactTableSame os))) ?_
  intro W base args ds gs before hval hW _ _ _ hL _ _
  exact contract_FnExactTableSame H enc W base args ds gs before hval hW (etOk_of hL (by simp [Rows.fnExactTableSameRow]))

theorem said_FnExactTableSame : Rows.FnExactTableSameSaid :=
  OpenClaim.holds_of_cond 7 Tryz.f7 rfl rfl rfl rfl rfl rfl rfl ⟨rfl, rfl, rfl, rfl, rfl⟩ rfl rfl rfl rfl rfl (by kernel_rfl) Tryz.func7 (by kernel_rfl)
    (of_decide_eq_true (by kernel_rfl)) (by unfold Func.isWrapper; first | (rw [if_pos (by decide +kernel)]; kernel_rfl) | (rw [if_neg (by decide +kernel)]; exact ⟨rfl, rfl⟩))
    (fun os started H enc _ F => by rw [OpenClaim.pre_eq_preRow]; exact lifted_FnExactTableSame os started H enc F)

theorem plain_FnExactTableSame (f : FuncId) (fn : Func) (hf : Tryz.pinned.checked.prog.funcNamed "loop.example/crossbuck/laws.FnExactTableSame" = some f) (hfn : Tryz.pinned.checked.prog.funcs[f]? = some fn) :
    true = Tryz.pinned.checked.prog.looks [] ∧ ∀ (j : Nat) t, fn.params[j]? = some t → Tryz.pinned.checked.prog.wantsStandIn t = false := by
  obtain rfl : f = 7 := Option.some.inj ((show Tryz.prog.funcNamed "loop.example/crossbuck/laws.FnExactTableSame" = some 7 by kernel_rfl).symm.trans hf) |>.symm
  obtain rfl : fn = Tryz.f7 := (Option.some.inj (Tryz.func7.symm.trans hfn)).symm
  refine ⟨by kernel_rfl, fun j t ht => ?_⟩
  rw [Tryz.params7] at ht
  obtain rfl : t = 39 := by simpa using Array.mem_of_getElem? ht
  exact (show Tryz.prog.wantsStandIn 39 = false by kernel_rfl)

theorem proved_FnExactTableSame : Rows.FnExactTableSameCardSaid :=
  Claim7.holds_tied_plain_at .later [] _ _ _ _ said_FnExactTableSame (fun _ h => by cases h) (by kernel_rfl) (fun _ h => by cases h) fnExactTableSame_row_tie rfl ⟨rfl, rfl⟩ (by kernel_rfl) rfl plain_FnExactTableSame (by kernel_rfl)

end Go.Proofs.YtmfgiemhonfapaaGreatDoor
