/-
  Proved: promise 47 (the first rule that is of a head counts), at every code from which the table and the head are drawn; the code reads on as it did. No condition but the card's own: the listed variables of the library stand as its text lays them.
-/
import Derived.Test.YtmfgiemhonfapaaGreatDoorRuleCard
import Derived.Test.YtmfgiemhonfapaaGreatDoorTabAtS
import Derived.Test.YtmfgiemhonfapaaGreatDoorTabDr
namespace Go.Proofs.YtmfgiemhonfapaaGreatDoor
open Go.ChangeShapes Go.WideShapes Go.ChangeAt Go.RowKit Go.Joins
set_option linter.unusedVariables false

set_option maxRecDepth 100000 in
set_option maxHeartbeats 4000000 in
theorem walk_FnTableAt (a : Option Addr) (len cap : Nat) (w : World) (hb : BytesIn w w.heap.size a len cap) (hE : EtOk w) :
    Calls Tryz.prog 3 #[.slice a len cap] w fun e w' => e = .returned (.bool true) ∧ Below w.heap.size w w' := by
  have HB := Lib.hid hb
  have HE := Lib.hid hE
  have hm : (len : Int) ≤ maxLen := by have := hb.1; have := hb.2.1; omega
  unfold maxLen at hm
  clear hb hE
  by_cases hlen : (1048576 : Int) < (len : Int)
  · go_enter Tryz.func3, Tryz.ntmps3
    go_wp2
    go_ret
    exact ⟨rfl, Below.refl _ _⟩
  go_enter Tryz.func3, Tryz.ntmps3
  go_wp2_with fail
  refine (drawTableAt_any _ _ _ _ HB.out).mono ?_
  rintro e w1 ⟨v, l, x, y, z, rfl, hl, hx, b1⟩
  have s1 := b1.size
  have B1 : Hid (Below w.heap.size w (w1.alloc (.cells #[.int .i64 x, .int .i64 y, .int .i64 z] 25))) := b1.alloc s1 _
  have HX0 : Hid (Rls (w1.alloc (.cells #[.int .i64 x, .int .i64 y, .int .i64 z] 25)) (w1.alloc (.cells #[.int .i64 x, .int .i64 y, .int .i64 z] 25)).heap.size v l) := (hx.below (below_alloc1 _ _) (Nat.le_refl _)).mono (by simp)
  have C0 := Lib.hid (newBlockM w1 (.cells #[.int .i64 x, .int .i64 y, .int .i64 z] 25))
  clear hx b1
  have hl' : l.length ≤ 1048576 := by omega
  go_wp2_with fail
  generalize hW : w1.alloc (.cells #[.int .i64 x, .int .i64 y, .int .i64 z] 25) = W at *
  have zW : w1.heap.size < W.heap.size := by rw [← hW]; simp
  clear hW
  have HC : Hid (∀ W', Below W.heap.size W W' → W'.cell? ⟨w1.heap.size, 0, none⟩ = some (.int .i64 x) ∧ W'.cell? ⟨w1.heap.size, 1, none⟩ = some (.int .i64 y) ∧ W'.cell? ⟨w1.heap.size, 2, none⟩ = some (.int .i64 z)) := fun W' hb => trio3 ((hb.block _ zW).trans C0.out)
  have HX : Hid (∀ W', Below W.heap.size W W' → Rls W' W'.heap.size v l) := fun W' hb => (HX0.out.below hb (Nat.le_refl _)).mono hb.size
  have BW : Hid (∀ W', Below W.heap.size W W' → Below w.heap.size w W') := fun W' hb => B1.out.trans (hb.mono B1.out.size)
  generalize w1.heap.size = h at *
  clear C0 HX0 B1
  refine (iTableAt_any _ v l (HX.out _ (Below.refl _ _)) hl' x y z (HE.out.below (BW.out _ (Below.refl _ _)))).mono ?_
  rintro e w2 ⟨rfl, b2⟩
  obtain ⟨q0, q1, q2⟩ := HC.out _ b2
  go_wp2_with fail
  refine (sTableAt_any _ v l (HX.out _ b2) hl' x y z).mono ?_
  rintro e w3 ⟨rfl, b3⟩
  have b3' := belStep b2 b3
  clear q0 q1 q2 b2 b3
  obtain ⟨q0, q1, q2⟩ := HC.out _ b3'
  go_wp2_with fail
  refine (sTableOk_any _ v l (HX.out _ b3') hl').mono ?_
  rintro e w4 ⟨rfl, b4⟩
  have b4' := belStep b3' b4
  clear q0 q1 q2 b3' b4
  obtain ⟨q0, q1, q2⟩ := HC.out _ b4'
  cases ht : tOk l
  · go_wp2_with fail
    refine (sTableAt_any _ v l (HX.out _ b4') hl' x y z).mono ?_
    rintro e w5 ⟨rfl, b5⟩
    go_wp2
    go_ret
    exact ⟨by simp, BW.out _ (belStep b4' b5)⟩
  go_wp2_with fail
  refine (sHeadOk_any x y z _).mono ?_
  rintro e w5 ⟨rfl, b5⟩
  have b5' := belStep b4' b5
  clear q0 q1 q2 b4' b5
  obtain ⟨q0, q1, q2⟩ := HC.out _ b5'
  cases ho : okB x y z
  · go_wp2_with fail
    refine (sTableAt_any _ v l (HX.out _ b5') hl' x y z).mono ?_
    rintro e w6 ⟨rfl, b6⟩
    go_wp2
    go_ret
    exact ⟨by simp, BW.out _ (belStep b5' b6)⟩
  clear q0 q1 q2
  have hat : atT x y z l = atI x y z l := by simp [atT, ht, ho]
  rw [hat]
  clear hat
  have HH5 := Lib.hid b5'
  have HOK := Lib.hid (tOk_at ht)
  have HNO : Hid ((∀ j, j < l.length → mR x y z (ruAt l j) = false) → atI x y z l = -1) := atI_none
  have HYES : Hid (∀ k, k < l.length → (∀ j, j < k → mR x y z (ruAt l j) = false) → mR x y z (ruAt l k) = true → atI x y z l = k) := fun k => atI_some
  have HW : Hid (∀ i, i < l.length → ∀ w, Calls Tryz.prog 13 #[.string (ruAt l i).s, .agg #[.int .i64 x, .int .i64 y, .int .i64 z]] w fun e w' => e = .returned (.bool (mR x y z (ruAt l i))) ∧ Below w.heap.size w w') := fun i hi w => by
    have hok := HOK.out i hi
    rw [show mR x y z (ruAt l i) = hasS (ruAt l i).s x y z from by unfold mR doB; rw [show rOk (ruAt l i).p (ruAt l i).s (ruAt l i).o (ruAt l i).t = true from hok]; rfl]
    exact iWildHas_any _ (ruAt l i).hs _ _ _ w
  clear b5' ht ho
  obtain ⟨d, cp, rfl, hcp, hmx, hh⟩ := HX.out _ HH5.out
  have hnz : l.length = 0 ∨ ∃ b off, d = some ⟨b, off, none⟩ ∧ b < w5.heap.size ∧ Hid (∀ i, i < l.length → Four w5 b (off + i * 4) (ruAt l i)) := by
    rcases hh with h | ⟨b, off, h1, h2, h3⟩
    · exact .inl (by rw [h]; rfl)
    · exact .inr ⟨b, off, h1, h2, h3⟩
  clear hh
  unfold maxLen at hmx
  generalize hN : l.length = n at *
  go_wp2
  go_loopw [6] (fun i wr => ∃ k : Nat, k ≤ n ∧ i = .int .i64 k ∧ (∀ j, j < k → mR x y z (ruAt l j) = false) ∧ Below w5.heap.size w5 wr) (fun i _ => n - (intOf i).toNat)
  case atStart => exact ⟨0, Nat.zero_le _, rfl, fun j hj => absurd hj (Nat.not_lt_zero _), Below.refl _ _⟩
  case round =>
    obtain ⟨k, hk, rfl, hfa, hbel⟩ := hrel
    have HFA := Lib.hid hfa
    have HBL := Lib.hid hbel
    clear hfa
    by_cases hlt : k < n
    · have hkz : (k : Int) < (n : Int) := by omega
      rcases hnz with h0 | ⟨b, off, rfl, hb, HC4⟩
      · omega
      have hbr : b < wr.heap.size := Nat.lt_of_lt_of_le hb hbel.size
      have e1 := fun m : Ext wr => (((HC4.out k hlt).below hbel hb).below m.h hbr).2.1
      have f0 := fun m : Ext wr => (HC.out _ (belStep HH5.out (belStep hbel m.h))).1
      have f1 := fun m : Ext wr => (HC.out _ (belStep HH5.out (belStep hbel m.h))).2.1
      have f2 := fun m : Ext wr => (HC.out _ (belStep HH5.out (belStep hbel m.h))).2.2
      have HX1 := Lib.hid (HW.out k hlt)
      have HT := Lib.hid (HYES.out k hlt HFA.out)
      have HNX : Hid (mR x y z (ruAt l k) = false → ∀ j, j < k + 1 → mR x y z (ruAt l j) = false) := fun hf j hj => by
        by_cases e : j = k
        · subst e; exact hf
        · exact HFA.out j (by omega)
      clear hbel HC4
      generalize mR x y z (ruAt l k) = m at *
      generalize ruAt l k = q at *
      cases m
      · go_wp2
        refine wp_region_ext (w0 := wr) (by kernel_rfl) (by kernel_rfl) (Below.refl _ _) ?_
        repeat (go_big_quiet_step (first | (go_at_call 13; exact ext_of (HX1.out _))))
        refine wpQuiet_nil ?_
        intro w6 hx6
        have b6 := ext_out hx6
        clear hx6
        go_wp2
        go_roundw
        case rel => exact ⟨k + 1, by omega, by go_num, HNX.out (by trivial), belStep HBL.out b6⟩
        case measure => simp [intOf]; omega
      · have hati : atI x y z l = (k : Int) := HT.out (by trivial)
        rw [hati]
        go_wp2
        refine wp_region_ext (w0 := wr) (by kernel_rfl) (by kernel_rfl) (Below.refl _ _) ?_
        repeat (go_big_quiet_step (first | (go_at_call 13; exact ext_of (HX1.out _))))
        refine wpQuiet_nil ?_
        intro w6 hx6
        have b6 := ext_out hx6
        clear hx6
        go_wp2
        go_ret
        exact ⟨by simp, BW.out _ (belStep HH5.out (belStep HBL.out b6))⟩
    · obtain rfl : k = n := by omega
      have hati : atI x y z l = -1 := HNO.out HFA.out
      rw [hati]
      go_wp2
      go_ret
      exact ⟨by simp, BW.out _ (belStep HH5.out HBL.out)⟩

set_option maxRecDepth 100000 in
theorem contract_FnTableAt (H : Type) (enc : TypeId × Value → H) (W : World) (base : Nat) (args : Array Value) (ds gs : List (DataW H)) (before : List MemPlace)
    (hval : ∀ (j : Nat) t v, Tryz.f3.params[j]? = some t → args[j]? = some v → Value.okWide Tryz.prog W .any base t v)
    (hW : DataW.Whole enc Tryz.prog Tryz.f3.params.toList Rows.fnTableAtSpec.vars false W args.toList ds gs before) (hE : EtOk W) :
    Calls Tryz.prog 3 args W fun e W' => ∃ v, e = .returned v ∧ Rows.fnTableAtSpec.post enc Tryz.prog Tryz.f3 false true false false W args v W' := by
  have hW' := hW
  obtain ⟨p, q, hA0, hV, rfl, hfz, hnd⟩ := hW
  have hA : DataW.TrodAll enc Tryz.prog W 0 (fun _ => true) true Tryz.f3.params.toList args.toList ds p := hA0
  rw [Tryz.params3] at hA hval
  obtain ⟨v0, vs0, d0, ds0, p0, q0, hargs, rfl, rfl, h0, r0⟩ := trodAll_cons hA
  obtain ⟨rfl, rfl, rfl⟩ := trodAll_nil r0
  obtain rfl : args = #[v0] := by cases args; simp_all
  obtain ⟨rfl, rfl⟩ := trodVars_none hV
  have k0 := h0
  have lt0 : ∀ x ∈ p0, x.block < W.heap.size := by obtain ⟨m, hm⟩ := k0; exact DataW.trod_lt m _ _ _ hm
  obtain ⟨a0, len0, cap0, rfl⟩ := okWide_slice Tryz.underlying22 (hval 0 22 v0 rfl rfl)
  have w0 : BytesIn W W.heap.size a0 len0 cap0 := isRow_of h0
  clear hA0
  refine (walk_FnTableAt a0 len0 cap0 W w0 hE).mono fun e W' ⟨he, bel⟩ => ?_
  subst he
  exact ⟨_, rfl, _, _, _, [], _, [], hW', trodAll_mk1 (shut_bool Tryz.underlying4 _), (trodAll_cons_mk (Below.trod laidOut (by kernel_rfl) (of_decide_eq_true (by kernel_rfl)) k0 bel lt0) (trodAll_mk0)), rfl, bel.frame _, fun h => by cases h⟩

/-- A world for the witness: the settled one, with the listed variables as the text lays them. -/
noncomputable def laidWorld_FnTableAt (os : Os) : World :=
  { World.holding Tryz.prog os ⟨#[], #[], []⟩ with heap := (((((World.holding Tryz.prog os ⟨#[], #[], []⟩).heap).modify 3 (fun | .cells _ t frozen => .cells #[.int .u8 0, .int .u8 1, .int .u8 28, .int .u8 2, .int .u8 29, .int .u8 14, .int .u8 24, .int .u8 3, .int .u8 30, .int .u8 22, .int .u8 20, .int .u8 15, .int .u8 25, .int .u8 17, .int .u8 4, .int .u8 8, .int .u8 31, .int .u8 27, .int .u8 13, .int .u8 23, .int .u8 21, .int .u8 19, .int .u8 16, .int .u8 7, .int .u8 26, .int .u8 12, .int .u8 18, .int .u8 6, .int .u8 11, .int .u8 5, .int .u8 10, .int .u8 9] t frozen | o => o)).modify 4 (fun | .cells _ t frozen => .cells #[.int .u8 0, .int .u8 1, .int .u8 56, .int .u8 2, .int .u8 57, .int .u8 49, .int .u8 28, .int .u8 3, .int .u8 61, .int .u8 58, .int .u8 42, .int .u8 50, .int .u8 38, .int .u8 29, .int .u8 17, .int .u8 4, .int .u8 62, .int .u8 47, .int .u8 59, .int .u8 36, .int .u8 45, .int .u8 43, .int .u8 51, .int .u8 22, .int .u8 53, .int .u8 39, .int .u8 33, .int .u8 30, .int .u8 24, .int .u8 18, .int .u8 12, .int .u8 5, .int .u8 63, .int .u8 55, .int .u8 48, .int .u8 27, .int .u8 60, .int .u8 41, .int .u8 37, .int .u8 16, .int .u8 46, .int .u8 35, .int .u8 44, .int .u8 21, .int .u8 52, .int .u8 32, .int .u8 23, .int .u8 11, .int .u8 54, .int .u8 26, .int .u8 40, .int .u8 15, .int .u8 34, .int .u8 20, .int .u8 31, .int .u8 10, .int .u8 25, .int .u8 14, .int .u8 19, .int .u8 9, .int .u8 13, .int .u8 8, .int .u8 7, .int .u8 6] t frozen | o => o)).modify 2 (fun | .cells _ t frozen => .cells #[.int .u64 1, .int .u64 10, .int .u64 100, .int .u64 1000, .int .u64 10000, .int .u64 100000, .int .u64 1000000, .int .u64 10000000, .int .u64 100000000, .int .u64 1000000000, .int .u64 10000000000, .int .u64 100000000000, .int .u64 1000000000000, .int .u64 10000000000000, .int .u64 100000000000000, .int .u64 1000000000000000, .int .u64 10000000000000000, .int .u64 100000000000000000, .int .u64 1000000000000000000, .int .u64 10000000000000000000] t frozen | o => o)).modify 0 (fun | .cells _ t frozen => .cells #[.iface 136 (.agg #[.pointer (some ⟨5, 73, none⟩)])] t frozen | o => o) }

theorem laidMet_FnTableAt (os : Os) : laidMetH Tryz.prog Rows.fnTableAtRow.laid ((laidWorld_FnTableAt os).forCall (fun _ _ => 0) ⟨#[], #[.slice none 0 0], []⟩).memory :=
  laidMetH_of_parts (laidMet_of_run' 8 (by kernel_rfl) (by kernel_rfl)) (by kernel_rfl)

theorem reads_FnTableAt (os : Os) {H : Type} (enc : TypeId × Value → H) : ∃ places, DataW.whole enc Tryz.prog ((laidWorld_FnTableAt os).forCall (fun _ _ => 0) ⟨#[], #[.slice none 0 0], []⟩).memory Tryz.f3.params.toList Rows.fnTableAtSpec.vars false (#[.slice none 0 0] : Array Value).toList 8 = some ([.nil], [], places) :=
  ⟨[], by kernel_rfl⟩

set_option maxRecDepth 100000 in
theorem lifted_FnTableAt (os : Os) (started : os.Started) (H : Type) (enc : TypeId × Value → H) (F : Stop.Interp) :
    ReturnsInHanded {} Tryz.checked os 3 .any ((OpenSpec.ofChange Rows.fnTableAtSpec).preRow enc Tryz.prog Tryz.f3 Rows.fnTableAtRow.domain false Rows.fnTableAtRow.laid) (((OpenSpec.ofChange Rows.fnTableAtSpec).at F).post enc Tryz.prog Tryz.f3 false true false false) := by
  obtain ⟨places, hx⟩ := reads_FnTableAt os enc
  refine returnsInHanded_of_row (C := Tryz.checked) (s := OpenSpec.ofChange Rows.fnTableAtSpec) own started (by kernel_rfl) Tryz.func3
    (witness_row_at (enc := enc) (C := Tryz.checked) false (laidWorld_FnTableAt os) #[.slice none 0 0] rfl (by kernel_rfl) (by kernel_rfl) (by kernel_rfl)
      (OpenSpec.preRow_of_cond 8 hx (by kernel_rfl) (fun k hk => by cases hk) (by kernel_rfl) (laidMet_FnTableAt os))) ?_
  intro W base args ds gs before hval hW _ _ _ hL _ _
  exact contract_FnTableAt H enc W base args ds gs before hval hW (etOk_of hL (by simp [Rows.fnTableAtRow]))

theorem said_FnTableAt : Rows.FnTableAtSaid :=
  OpenClaim.holds_of_cond 3 Tryz.f3 rfl rfl rfl rfl rfl rfl rfl ⟨rfl, rfl, rfl, rfl, rfl⟩ rfl rfl rfl rfl rfl (by kernel_rfl) Tryz.func3 (by kernel_rfl)
    (of_decide_eq_true (by kernel_rfl)) (by unfold Func.isWrapper; first | (rw [if_pos (by decide +kernel)]; kernel_rfl) | (rw [if_neg (by decide +kernel)]; exact ⟨rfl, rfl⟩))
    (fun os started H enc _ F => by rw [OpenClaim.pre_eq_preRow]; exact lifted_FnTableAt os started H enc F)

theorem plain_FnTableAt (f : FuncId) (fn : Func) (hf : Tryz.pinned.checked.prog.funcNamed "loop.example/crossbuck/laws.FnTableAt" = some f) (hfn : Tryz.pinned.checked.prog.funcs[f]? = some fn) :
    true = Tryz.pinned.checked.prog.looks [] ∧ ∀ (j : Nat) t, fn.params[j]? = some t → Tryz.pinned.checked.prog.wantsStandIn t = false := by
  obtain rfl : f = 3 := Option.some.inj ((show Tryz.prog.funcNamed "loop.example/crossbuck/laws.FnTableAt" = some 3 by kernel_rfl).symm.trans hf) |>.symm
  obtain rfl : fn = Tryz.f3 := (Option.some.inj (Tryz.func3.symm.trans hfn)).symm
  refine ⟨by kernel_rfl, fun j t ht => ?_⟩
  rw [Tryz.params3] at ht
  obtain rfl : t = 22 := by simpa using Array.mem_of_getElem? ht
  exact (show Tryz.prog.wantsStandIn 22 = false by kernel_rfl)

theorem proved_FnTableAt : Rows.FnTableAtCardSaid :=
  Claim7.holds_tied_plain_at .later [] _ _ _ _ said_FnTableAt (fun _ h => by cases h) (by kernel_rfl) (fun _ h => by cases h) fnTableAt_row_tie rfl ⟨rfl, rfl⟩ (by kernel_rfl) rfl plain_FnTableAt (by kernel_rfl)

end Go.Proofs.YtmfgiemhonfapaaGreatDoor
