/-
  Proved: TableTo answers as its model at every argument; what it returns is its own, no argument is written, and the same call answers the same again. No condition but the card's own: the listed variables of the library stand as its text lays them.
-/
import Derived.Test.YtahobeigbjhbbaaGreatDoorRuleCard
import Derived.Test.YtahobeigbjhbbaaGreatDoorOwnB
import Derived.Test.YtahobeigbjhbbaaGreatDoorRulMark
import Derived.Test.YtahobeigbjhbbaaGreatDoorTabTrimS
import Derived.Test.YtahobeigbjhbbaaGreatDoorTabToT
import Derived.Deep.RegionHeld3
namespace Go.Proofs.YtahobeigbjhbbaaGreatDoor
open Go.ChangeShapes Go.WideShapes Go.ChangeAt Go.RowKit Go.Joins
set_option linter.unusedVariables false

set_option maxRecDepth 100000 in
set_option maxHeartbeats 8000000 in
theorem walk_FnExactTableTo (v : Value) (n : Nat) (f : Nat → Int × ByteArray × Int × Int) (a : Int) (w : World) (hr : Raws w w.heap.size v n f) (hz : ∀ i, i < n → (f i).2.1.size ≤ maxLen) (wa : (Lit.int .i64 a).wf = true) (hE : EtOk w) :
    Calls Tryz.prog 10 #[v, .int .i64 a] w fun e w' => e = .returned (.bool true) ∧ Below w.heap.size w w' := by
  have HE := Lib.hid hE
  have HB0 : Hid (∀ W, Below w.heap.size w W → Below w.heap.size w W ∧ True) := fun W hb => ⟨hb, trivial⟩
  have HSZ := Lib.hid (szRuleS_any w v n 1048576 f hr hz (Nat.le_refl _))
  have HW : Hid ((∀ i, i < n → (f i).2.1.size ≤ 1048576) → ∀ W, Below w.heap.size w W → Rls W W.heap.size v ((List.range n).map (small f))) := fun hs W hb => ((hr.below hb (Nat.le_refl _)).mono hb.size).rls hs
  have hl : ((List.range n).map (small f)).length = n := by simp
  clear hr hz hE
  generalize (List.range n).map (small f) = l at *
  go_enter Tryz.func10, Tryz.ntmps10
  go_wp2_with fail
  refine HSZ.out.mono ?_
  rintro e w1 ⟨rfl | ⟨r, rfl, hr, hn, hsm⟩, b1⟩
  · go_wp2
    go_ret
    exact ⟨rfl, (HB0.out _ b1).1⟩
  have hr0 : ¬ ((r : Int) < 0) := by omega
  have HL := Lib.hid (HW.out hsm)
  have hlen : l.length ≤ 1048576 := by omega
  have B := Lib.hid b1
  have sz := b1.size
  clear hsm b1 HSZ HW hl hn
  have HSP := Lib.hid (fun W u (h : Rls W W.heap.size u l) => sTableTo_any W u l h hlen a)
  have HIP := Lib.hid (fun W u (h : Rls W W.heap.size u l) (hE : EtOk W) => iTableTo_any W u l h hlen a hE)
  have hP : (toT l a).length ≤ 1000 := by have := toT_len l a; omega
  generalize toT l a = P at *
  go_wp2_with fail
  refine (toRuleS_any _ _ l (HL.out _ (HB0.out _ B.out).1) hlen).mono ?_
  rintro e w2 ⟨uRA, rfl, hrow, b2⟩
  have t2 := b2.size
  replace B := Lib.hid (belStep B.out b2)
  clear b2
  have RA := Lib.hid hrow
  clear hrow
  go_wp2_with fail
  refine (HSP.out _ _ RA.out.rls).mono ?_
  rintro e w3 ⟨uRW, rfl, hrow, b3⟩
  have t3 := b3.size
  replace RA := Lib.hid (RA.out.below b3)
  replace B := Lib.hid (belStep B.out b3)
  clear b3
  have RW := Lib.hid hrow
  clear hrow
  clear RA
  have FW : Hid (∀ k, uRW.ownBlock = some k → k < w3.heap.size) := fun k hk => (World.ownsRow.lt RW.out k hk).2
  go_wp2_with fail
  refine (toRuleS_any _ _ l (HL.out _ (HB0.out _ B.out).1) hlen).mono ?_
  rintro e w4 ⟨uRX, rfl, hrow, b4⟩
  have t4 := b4.size
  replace RW := Lib.hid (RW.out.below b4)
  replace B := Lib.hid (belStep B.out b4)
  clear b4
  have RX := Lib.hid hrow
  clear hrow
  have FX : Hid (∀ k, uRX.ownBlock = some k → w3.heap.size ≤ k ∧ k < w4.heap.size) := fun k hk => World.ownsRow.lt RX.out k hk
  go_wp2_with fail
  refine (HIP.out _ _ RX.out.rls (HE.out.below (HB0.out _ B.out).1)).mono ?_
  rintro e w5 ⟨uRG, rfl, hrow, b5⟩
  have t5 := b5.size
  replace RW := Lib.hid (RW.out.below b5)
  replace RX := Lib.hid (RX.out.below b5)
  replace B := Lib.hid (belStep B.out b5)
  clear b5
  have RG := Lib.hid hrow
  clear hrow
  have FG : Hid (∀ k, uRG.ownBlock = some k → w4.heap.size ≤ k) := fun k hk => (World.ownsRow.lt RG.out k hk).1
  go_wp2_with fail
  refine (eqStringS_same _ _ _ _ _ P RG.out RW.out (by omega)).mono ?_
  rintro e w6 ⟨rfl, b6⟩
  have t6 := b6.size
  replace RW := Lib.hid (RW.out.below b6)
  replace RX := Lib.hid (RX.out.below b6)
  replace RG := Lib.hid (RG.out.below b6)
  replace B := Lib.hid (belStep B.out b6)
  clear b6
  go_wp2_with fail
  refine (toRuleS_any _ _ l (HL.out _ (HB0.out _ B.out).1) hlen).mono ?_
  rintro e w7 ⟨uRC, rfl, hrow, b7⟩
  have t7 := b7.size
  replace RW := Lib.hid (RW.out.below b7)
  replace RX := Lib.hid (RX.out.below b7)
  replace RG := Lib.hid (RG.out.below b7)
  replace B := Lib.hid (belStep B.out b7)
  clear b7
  have RC := Lib.hid hrow
  clear hrow
  go_wp2_with fail
  refine (eqRuleS_same _ _ _ l RX.out.rls RC.out.rls (by omega)).mono ?_
  rintro e w8 ⟨rfl, b8⟩
  have t8 := b8.size
  replace RW := Lib.hid (RW.out.below b8)
  replace RX := Lib.hid (RX.out.below b8)
  replace RG := Lib.hid (RG.out.below b8)
  replace RC := Lib.hid (RC.out.below b8)
  replace B := Lib.hid (belStep B.out b8)
  clear b8
  clear RC
  go_wp2_with fail
  refine (markRuleS_own _ _ 1 _ l RX.out (by omega) (by omega) (by have := (HB0.out _ B.out).1.size; omega)).mono ?_
  rintro e w9 ⟨rfl, hrow, b9, g9⟩
  have t9 := b9.size
  replace RW : Hid (StrRow w9 _ uRW _) := RW.out.apart g9 (fun k hk e => by have h1 := (FX.out k e).1; have h2 := FW.out k hk; omega)
  replace RG : Hid (StrRow w9 _ uRG _) := RG.out.apart g9 (fun k hk e => by have h1 := (FX.out k e).2; have h2 := FG.out k hk; omega)
  replace B : Hid (Below w.heap.size w w9) := B.out.trans (b9.mono (by omega))
  clear hrow b9 g9 RX
  have hk0 : ¬ ((1 + 4 * l.length : Nat) : Int) < 0 := by omega
  have hk1 : ¬ (1 + 4 * (l.length : Int)) < 0 := by omega
  go_wp2_with fail
  refine (eqStringS_same _ _ _ _ _ P RG.out RW.out (by omega)).mono ?_
  rintro e w10 ⟨rfl, b10⟩
  have t10 := b10.size
  replace RW := Lib.hid (RW.out.below b10)
  replace RG := Lib.hid (RG.out.below b10)
  replace B := Lib.hid (belStep B.out b10)
  clear b10
  go_wp2_with fail
  refine (markStringS_own _ _ 1 _ P RG.out (by omega) (by omega) (by omega)).mono ?_
  rintro e w11 ⟨rfl, hrow, b11, g11⟩
  have t11 := b11.size
  replace RW : Hid (StrRow w11 _ uRW _) := RW.out.apart g11 (fun k hk e => by have h1 := FG.out k e; have h2 := FW.out k hk; omega)
  have RM := Lib.hid hrow
  replace B : Hid (Below w.heap.size w w11) := B.out.trans (b11.mono (by omega))
  clear hrow b11 g11 RG
  have hp : ¬ ((1 + P.length : Nat) : Int) < 0 := by omega
  have hp' : ¬ (1 + (P.length : Int)) < 0 := by omega
  go_wp2_with fail
  refine (heldStringS_at _ _ 1 P.length _ RM.out (by omega) (by omega)).mono ?_
  rintro e w12 ⟨rfl, b12⟩
  have t12 := b12.size
  replace RW := Lib.hid (RW.out.below b12)
  replace RM := Lib.hid (RM.out.below b12)
  replace B := Lib.hid (belStep B.out b12)
  clear b12
  go_wp2_with fail
  refine (toRuleS_any _ _ l (HL.out _ (HB0.out _ B.out).1) hlen).mono ?_
  rintro e w13 ⟨uRD, rfl, hrow, b13⟩
  have t13 := b13.size
  replace RW := Lib.hid (RW.out.below b13)
  replace RM := Lib.hid (RM.out.below b13)
  replace B := Lib.hid (belStep B.out b13)
  clear b13
  have RD := Lib.hid hrow
  clear hrow
  go_wp2_with fail
  refine (HIP.out _ _ RD.out.rls (HE.out.below (HB0.out _ B.out).1)).mono ?_
  rintro e w14 ⟨uRH, rfl, hrow, b14⟩
  have t14 := b14.size
  replace RW := Lib.hid (RW.out.below b14)
  replace RM := Lib.hid (RM.out.below b14)
  replace RD := Lib.hid (RD.out.below b14)
  replace B := Lib.hid (belStep B.out b14)
  clear b14
  have RH := Lib.hid hrow
  clear hrow
  clear RD
  go_wp2_with fail
  refine (eqStringS_same _ _ _ _ _ P RH.out RW.out (by omega)).mono ?_
  rintro e w15 ⟨rfl, b15⟩
  have t15 := b15.size
  replace RW := Lib.hid (RW.out.below b15)
  replace RM := Lib.hid (RM.out.below b15)
  replace RH := Lib.hid (RH.out.below b15)
  replace B := Lib.hid (belStep B.out b15)
  clear b15
  go_wp2_with fail
  refine (heldStringS_at _ _ 1 P.length _ RM.out (by omega) (by omega)).mono ?_
  rintro e w16 ⟨rfl, b16⟩
  have t16 := b16.size
  replace RW := Lib.hid (RW.out.below b16)
  replace RM := Lib.hid (RM.out.below b16)
  replace RH := Lib.hid (RH.out.below b16)
  replace B := Lib.hid (belStep B.out b16)
  clear b16
  go_wp2
  go_ret
  exact ⟨rfl, (HB0.out _ B.out).1⟩

set_option maxRecDepth 100000 in
theorem contract_FnExactTableTo (H : Type) (enc : TypeId × Value → H) (W : World) (base : Nat) (args : Array Value) (ds gs : List (DataW H)) (before : List MemPlace)
    (hval : ∀ (j : Nat) t v, Tryz.f10.params[j]? = some t → args[j]? = some v → Value.okWide Tryz.prog W .any base t v)
    (hW : DataW.Whole enc Tryz.prog Tryz.f10.params.toList Rows.fnExactTableToSpec.vars false W args.toList ds gs before) (hE : EtOk W) :
    Calls Tryz.prog 10 args W fun e W' => ∃ v, e = .returned v ∧ Rows.fnExactTableToSpec.post enc Tryz.prog Tryz.f10 false true false false W args v W' := by
  have hW' := hW
  obtain ⟨p, q, hA0, hV, rfl, hfz, hnd⟩ := hW
  have hA : DataW.TrodAll enc Tryz.prog W 0 (fun _ => true) true Tryz.f10.params.toList args.toList ds p := hA0
  rw [Tryz.params10] at hA hval
  obtain ⟨v0, vs0, d0, ds0, p0, q0, hargs, rfl, rfl, h0, r0⟩ := trodAll_cons hA
  obtain ⟨v1, vs1, d1, ds1, p1, q1, rfl, rfl, rfl, h1, r1⟩ := trodAll_cons r0
  obtain ⟨rfl, rfl, rfl⟩ := trodAll_nil r1
  obtain rfl : args = #[v0, v1] := by cases args; simp_all
  obtain ⟨rfl, rfl⟩ := trodVars_none hV
  have k0 := h0
  have lt0 : ∀ x ∈ p0, x.block < W.heap.size := by obtain ⟨m, hm⟩ := k0; exact DataW.trod_lt m _ _ _ hm
  have k1 := h1
  have lt1 : ∀ x ∈ p1, x.block < W.heap.size := by obtain ⟨m, hm⟩ := k1; exact DataW.trod_lt m _ _ _ hm
  obtain ⟨n0, f0, w0, z0⟩ := rules_of h0 (okWide_slice Tryz.underlying50 (hval 0 50 v0 rfl rfl))
  obtain ⟨a1, rfl, -, -, w1⟩ := open_int Tryz.underlying3 (hval 1 3 v1 rfl rfl) h1
  clear hA0
  refine (walk_FnExactTableTo v0 n0 f0 a1 W w0 z0 w1 hE).mono fun e W' ⟨he, bel⟩ => ?_
  subst he
  exact ⟨_, rfl, _, _, _, [], _, [], hW', trodAll_mk1 (shut_bool Tryz.underlying4 _), (trodAll_cons_mk (Below.trod laidOut (by kernel_rfl) (of_decide_eq_true (by kernel_rfl)) k0 bel lt0) (trodAll_cons_mk (Below.trod laidOut (by kernel_rfl) (of_decide_eq_true (by kernel_rfl)) k1 bel lt1) (trodAll_mk0))), rfl, bel.frame _, fun h => by cases h⟩

/-- A world for the witness: the settled one, with the listed variables as the text lays them. -/
noncomputable def laidWorld_FnExactTableTo (os : Os) : World :=
  { World.holding Tryz.prog os ⟨#[], #[], []⟩ with heap := (((((World.holding Tryz.prog os ⟨#[], #[], []⟩).heap).modify 3 (fun | .cells _ t frozen => .cells #[.int .u8 0, .int .u8 1, .int .u8 28, .int .u8 2, .int .u8 29, .int .u8 14, .int .u8 24, .int .u8 3, .int .u8 30, .int .u8 22, .int .u8 20, .int .u8 15, .int .u8 25, .int .u8 17, .int .u8 4, .int .u8 8, .int .u8 31, .int .u8 27, .int .u8 13, .int .u8 23, .int .u8 21, .int .u8 19, .int .u8 16, .int .u8 7, .int .u8 26, .int .u8 12, .int .u8 18, .int .u8 6, .int .u8 11, .int .u8 5, .int .u8 10, .int .u8 9] t frozen | o => o)).modify 4 (fun | .cells _ t frozen => .cells #[.int .u8 0, .int .u8 1, .int .u8 56, .int .u8 2, .int .u8 57, .int .u8 49, .int .u8 28, .int .u8 3, .int .u8 61, .int .u8 58, .int .u8 42, .int .u8 50, .int .u8 38, .int .u8 29, .int .u8 17, .int .u8 4, .int .u8 62, .int .u8 47, .int .u8 59, .int .u8 36, .int .u8 45, .int .u8 43, .int .u8 51, .int .u8 22, .int .u8 53, .int .u8 39, .int .u8 33, .int .u8 30, .int .u8 24, .int .u8 18, .int .u8 12, .int .u8 5, .int .u8 63, .int .u8 55, .int .u8 48, .int .u8 27, .int .u8 60, .int .u8 41, .int .u8 37, .int .u8 16, .int .u8 46, .int .u8 35, .int .u8 44, .int .u8 21, .int .u8 52, .int .u8 32, .int .u8 23, .int .u8 11, .int .u8 54, .int .u8 26, .int .u8 40, .int .u8 15, .int .u8 34, .int .u8 20, .int .u8 31, .int .u8 10, .int .u8 25, .int .u8 14, .int .u8 19, .int .u8 9, .int .u8 13, .int .u8 8, .int .u8 7, .int .u8 6] t frozen | o => o)).modify 2 (fun | .cells _ t frozen => .cells #[.int .u64 1, .int .u64 10, .int .u64 100, .int .u64 1000, .int .u64 10000, .int .u64 100000, .int .u64 1000000, .int .u64 10000000, .int .u64 100000000, .int .u64 1000000000, .int .u64 10000000000, .int .u64 100000000000, .int .u64 1000000000000, .int .u64 10000000000000, .int .u64 100000000000000, .int .u64 1000000000000000, .int .u64 10000000000000000, .int .u64 100000000000000000, .int .u64 1000000000000000000, .int .u64 10000000000000000000] t frozen | o => o)).modify 0 (fun | .cells _ t frozen => .cells #[.iface 193 (.agg #[.pointer (some ⟨5, 130, none⟩)])] t frozen | o => o) }

theorem laidMet_FnExactTableTo (os : Os) : laidMetH Tryz.prog Rows.fnExactTableToRow.laid ((laidWorld_FnExactTableTo os).forCall (fun _ _ => 0) ⟨#[], #[.slice none 0 0, .int .i64 0], []⟩).memory :=
  laidMetH_of_parts (laidMet_of_run' 8 (by kernel_rfl) (by kernel_rfl)) (by kernel_rfl)

theorem reads_FnExactTableTo (os : Os) {H : Type} (enc : TypeId × Value → H) : ∃ places, DataW.whole enc Tryz.prog ((laidWorld_FnExactTableTo os).forCall (fun _ _ => 0) ⟨#[], #[.slice none 0 0, .int .i64 0], []⟩).memory Tryz.f10.params.toList Rows.fnExactTableToSpec.vars false (#[.slice none 0 0, .int .i64 0] : Array Value).toList 8 = some ([.nil, .lit (.int .i64 0)], [], places) :=
  ⟨[], by kernel_rfl⟩

set_option maxRecDepth 100000 in
theorem lifted_FnExactTableTo (os : Os) (started : os.Started) (H : Type) (enc : TypeId × Value → H) (F : Stop.Interp) :
    ReturnsInHanded {} Tryz.checked os 10 .any ((OpenSpec.ofChange Rows.fnExactTableToSpec).preRow enc Tryz.prog Tryz.f10 Rows.fnExactTableToRow.domain false Rows.fnExactTableToRow.laid) (((OpenSpec.ofChange Rows.fnExactTableToSpec).at F).post enc Tryz.prog Tryz.f10 false true false false) := by
  obtain ⟨places, hx⟩ := reads_FnExactTableTo os enc
  refine returnsInHanded_of_row (C := Tryz.checked) (s := OpenSpec.ofChange Rows.fnExactTableToSpec) own started (by kernel_rfl) Tryz.func10
    (witness_row_at (enc := enc) (C := Tryz.checked) false (laidWorld_FnExactTableTo os) #[.slice none 0 0, .int .i64 0] rfl (by kernel_rfl) (by kernel_rfl) (by kernel_rfl)
      (OpenSpec.preRow_of_cond 8 hx (by kernel_rfl) (fun k hk => by cases hk) (by kernel_rfl) (laidMet_FnExactTableTo os))) ?_
  intro W base args ds gs before hval hW _ _ _ hL _ _
  exact contract_FnExactTableTo H enc W base args ds gs before hval hW (etOk_of hL (by simp [Rows.fnExactTableToRow]))

theorem said_FnExactTableTo : Rows.FnExactTableToSaid :=
  OpenClaim.holds_of_cond 10 Tryz.f10 rfl rfl rfl rfl rfl rfl rfl ⟨rfl, rfl, rfl, rfl, rfl⟩ rfl rfl rfl rfl rfl (by kernel_rfl) Tryz.func10 (by kernel_rfl)
    (of_decide_eq_true (by kernel_rfl)) (by unfold Func.isWrapper; first | (rw [if_pos (by decide +kernel)]; kernel_rfl) | (rw [if_neg (by decide +kernel)]; exact ⟨rfl, rfl⟩))
    (fun os started H enc _ F => by rw [OpenClaim.pre_eq_preRow]; exact lifted_FnExactTableTo os started H enc F)

theorem plain_FnExactTableTo (f : FuncId) (fn : Func) (hf : Tryz.pinned.checked.prog.funcNamed "loop.example/crossbuck/laws.FnExactTableTo" = some f) (hfn : Tryz.pinned.checked.prog.funcs[f]? = some fn) :
    true = Tryz.pinned.checked.prog.looks [] ∧ ∀ (j : Nat) t, fn.params[j]? = some t → Tryz.pinned.checked.prog.wantsStandIn t = false := by
  obtain rfl : f = 10 := Option.some.inj ((show Tryz.prog.funcNamed "loop.example/crossbuck/laws.FnExactTableTo" = some 10 by kernel_rfl).symm.trans hf) |>.symm
  obtain rfl : fn = Tryz.f10 := (Option.some.inj (Tryz.func10.symm.trans hfn)).symm
  refine ⟨by kernel_rfl, fun j t ht => ?_⟩
  rw [Tryz.params10] at ht
  have hm : t = 50 ∨ t = 3 := by simpa using Array.mem_of_getElem? ht
  rcases hm with rfl | rfl
  · exact (show Tryz.prog.wantsStandIn 50 = false by kernel_rfl)
  · exact (show Tryz.prog.wantsStandIn 3 = false by kernel_rfl)

theorem proved_FnExactTableTo : Rows.FnExactTableToCardSaid :=
  Claim7.holds_tied_plain_at .later [] _ _ _ _ said_FnExactTableTo (fun _ h => by cases h) (by kernel_rfl) (fun _ h => by cases h) fnExactTableTo_row_tie rfl ⟨rfl, rfl⟩ (by kernel_rfl) rfl plain_FnExactTableTo (by kernel_rfl)

end Go.Proofs.YtahobeigbjhbbaaGreatDoor
