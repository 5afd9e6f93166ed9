/-
  Proved: promise 52 (rules that are never the first do nothing), at every code from which the table is drawn; the code reads on as it did. No condition but the card's own: the listed variables of the library stand as its text lays them.
-/
import Derived.Test.YtahobeigbjhbbaaGreatDoorRuleCard
import Derived.Test.YtahobeigbjhbbaaGreatDoorOwnB
import Derived.Test.YtahobeigbjhbbaaGreatDoorTabTrim
import Derived.Test.YtahobeigbjhbbaaGreatDoorTabDrawC
import Derived.Test.YtahobeigbjhbbaaGreatDoorTabOkI
import Derived.Test.YtahobeigbjhbbaaGreatDoorSpaceF
namespace Go.Proofs.YtahobeigbjhbbaaGreatDoor
open Go.ChangeShapes Go.WideShapes Go.ChangeAt Go.RowKit Go.Joins
set_option linter.unusedVariables false

theorem tidy_some {m : List Bool} (hm : m.length = 64) (h : allNo m = false) : (tidyT m).length ≠ 0 := fun e => by
  have e0 : tidyT m = [] := List.eq_nil_of_length_eq_zero e
  have := spL_tidy hm
  rw [e0, spL_nil] at this
  rw [← this, allNo_noL] at h
  cases h

set_option maxRecDepth 100000 in
set_option maxHeartbeats 8000000 in
theorem walk_FnTrim (a : Option Addr) (len cap : Nat) (w : World) (hb : BytesIn w w.heap.size a len cap) (hE : EtOk w) :
    Calls Tryz.prog 12 #[.slice a len cap] w fun e w' => e = .returned (.bool true) ∧ Below w.heap.size w w' := by
  have HB := Lib.hid hb
  have HE := Lib.hid hE
  have hm : (len : Int) ≤ maxLen := by have := hb.1; have := hb.2.1; omega
  unfold maxLen at hm
  clear hb hE
  by_cases hlen : (1048576 : Int) < (len : Int)
  · go_enter Tryz.func12, Tryz.ntmps12
    go_wp2
    go_ret
    exact ⟨rfl, Below.refl _ _⟩
  go_enter Tryz.func12, Tryz.ntmps12
  go_wp2_with fail
  refine (drawTableTrim_any _ _ _ _ HB.out).mono ?_
  rintro e w1 ⟨v, l, rfl, hl, hx, b1⟩
  have hn : l.length ≤ 1048576 := by omega
  have HL : Hid (∀ W, Below w1.heap.size w1 W → Rls W W.heap.size v l) := fun W hb => (hx.rls.below hb (Nat.le_refl _)).mono hb.size
  have HEW : Hid (∀ W, Below w1.heap.size w1 W → EtOk W) := fun W hb => (HE.out.below b1).below hb
  have BW : Hid (∀ W, Below w1.heap.size w1 W → Below w.heap.size w W) := fun W hb => belStep b1 hb
  have HI := Lib.hid (fun W h => iTableTrim_any W v l h hn)
  have HS := Lib.hid (fun W h => sTableTrim_any W v l h hn)
  have HT := Lib.hid (fun W h => sTableOk_any W v l h hn)
  have hXl : (trimT l).length ≤ 48 := trimT_len l
  have HTR : Hid (tOk l = true → trimT l = trimF l) := fun h => by show trimT l = _; simp [trimT, h]
  clear hx b1
  go_wp2_with fail
  refine (HI.out _ (HL.out _ (Below.refl _ _)) (HEW.out _ (Below.refl _ _))).mono ?_
  rintro e w2 ⟨x, rfl, hrow, b2⟩
  have HX := Lib.hid hrow
  have B2 := Lib.hid b2
  clear hrow b2
  go_wp2_with fail
  refine (HS.out _ (HL.out _ B2.out)).mono ?_
  rintro e w3 ⟨u, rfl, hrow, b3⟩
  have HU := Lib.hid hrow
  replace HX := Lib.hid (HX.out.below b3)
  have B3 := Lib.hid (belStep B2.out b3)
  clear hrow b3 B2
  go_wp2_with fail
  refine (lxRules_same _ _ _ _ HX.out.rls HU.out.rls (by omega)).mono ?_
  rintro e w4 ⟨rfl, b4⟩
  replace HX := Lib.hid (HX.out.below b4)
  have B4 := Lib.hid (belStep B3.out b4)
  clear b4 B3 HU
  cases ht : tOk l
  · rw [ht] at HT
    go_wp2_with fail
    refine (HT.out _ (HL.out _ B4.out)).mono ?_
    rintro e w5 ⟨rfl, b5⟩
    replace HX := Lib.hid (HX.out.below b5)
    have B5 := Lib.hid (belStep B4.out b5)
    clear b5
    go_wp2_with fail
    refine (HS.out _ (HL.out _ B5.out)).mono ?_
    rintro e w6 ⟨u, rfl, hrow, b6⟩
    have HU := Lib.hid hrow
    replace HX := Lib.hid (HX.out.below b6)
    have B6 := Lib.hid (belStep B5.out b6)
    clear hrow b6
    go_wp2_with fail
    refine (lxRules_same _ _ _ _ HX.out.rls HU.out.rls (by omega)).mono ?_
    rintro e w7 ⟨rfl, b7⟩
    have B7 := Lib.hid (belStep B6.out b7)
    clear b7
    go_wp2
    go_ret
    exact ⟨rfl, BW.out _ B7.out⟩
  rw [ht] at HT
  have HMEM : Hid (∀ i, i < (trimF l).length → ruAt (trimF l) i ∈ l) := fun i hi => trimF_mem ht hi
  have HARE : Hid (∀ i : Nat, i < (trimF l).length → (areaT (trimF l) (i : Int)).length ≠ 0) := fun i hi => by
    have e : areaT (trimF l) (i : Int) = tidyT (areaM (trimF l) (i : Int)) := by
      unfold areaT inB
      rw [trimF_ok ht, decide_eq_true (show (-1 : Int) ≤ (i : Int) by omega), decide_eq_true (show (i : Int) ≤ ((trimF l).length : Int) - 1 by omega)]
      rfl
    rw [e]
    exact tidy_some (areaM_len _ _) (trimF_all ht hi)
  have HTT : Hid (trimT (trimF l) = trimF l) := by show _ = _; simp [trimT, trimF_ok ht, trimF_two ht]
  have HOK2 : Hid (tOk (trimF l) = true) := trimF_ok ht
  have HSM : Hid (sameT (trimF l) l = true) := trimF_same ht
  rw [HTR.out ht] at HX hXl
  have HAL : Hid (∀ i : Int, (areaT (trimF l) i).length ≤ 64) := fun i => areaT_len _ i
  clear ht HTR HI HS
  generalize trimF l = X at *
  obtain ⟨xa, xc, rfl⟩ : ∃ xa xc, x = .slice xa X.length xc := by
    obtain ⟨xa, xc, rfl, -⟩ := HX.out.rls
    exact ⟨xa, xc, rfl⟩
  have hxm : X.length ≤ 48 := hXl
  go_wp2_with fail
  refine (HT.out _ (HL.out _ B4.out)).mono ?_
  rintro e w5 ⟨rfl, b5⟩
  replace HX := Lib.hid (HX.out.below b5)
  have B5 := Lib.hid (belStep B4.out b5)
  clear b5 HT B4 hXl
  have HXW : Hid (∀ W, Below w5.heap.size w5 W → Rls W W.heap.size (.slice xa X.length xc) X) := fun W hb => (HX.out.rls.below hb (Nat.le_refl _)).mono hb.size
  have HIA := Lib.hid (fun W q h => iTableArea_any W (.slice xa X.length xc) X h (by omega) q)
  obtain ⟨xa', xc', hxe, hxc, hxmm, hxx⟩ := HX.out.rls
  obtain ⟨rfl, rfl⟩ : xa = xa' ∧ xc = xc' := by simpa using hxe
  have hnz : X.length = 0 ∨ ∃ b off, xa = some ⟨b, off, none⟩ ∧ b < w5.heap.size ∧ Hid (∀ i, i < X.length → Four w5 b (off + i * 4) (ruAt X i)) := by
    rcases hxx with h | ⟨b, off, h1, h2, h3⟩
    · exact .inl (by rw [h]; rfl)
    · exact .inr ⟨b, off, h1, h2, h3⟩
  unfold maxLen at hxmm
  clear hxx hxe HX
  go_wp2
  go_loopw [5] (fun i wr => ∃ k : Nat, k ≤ X.length ∧ i = .int .i64 k ∧ Below w5.heap.size w5 wr) (fun i _ => X.length - (intOf i).toNat)
  case atStart => exact ⟨0, Nat.zero_le _, rfl, Below.refl _ _⟩
  case round =>
    obtain ⟨k, hk, rfl, hbel⟩ := hrel
    have HBL := Lib.hid hbel
    by_cases hlt : k < X.length
    · have hkz : (k : Int) < (X.length : Int) := by omega
      rcases hnz with h0 | ⟨b, off, rfl, hb, HC⟩
      · omega
      obtain ⟨c0, c1, c2, c3⟩ := (HC.out k hlt).below hbel hb
      have HM := Lib.hid (fun W h => lxHas_any W v l (ruAt X k) h hn true (iff_of_true rfl (HMEM.out k hlt)))
      have HAK := Lib.hid (HARE.out k hlt)
      have HA6 := Lib.hid (HAL.out k)
      have HIK := Lib.hid (fun W h => HIA.out W (k : Int) h)
      clear hbel HC HMEM HARE HAL HIA
      generalize ruAt X k = y at *
      generalize areaT X (k : Int) = A at *
      go_wp2_with fail
      refine (HM.out _ (HL.out _ (B5.out.trans (HBL.out.mono B5.out.size)))).mono ?_
      rintro e w6 ⟨rfl, b6⟩
      have B6 := Lib.hid (belStep HBL.out b6)
      clear b6 c0 c1 c2 c3
      go_wp2_with fail
      refine (HIK.out _ (HXW.out _ B6.out) (HEW.out _ (B5.out.trans (B6.out.mono B5.out.size)))).mono ?_
      rintro e w7 ⟨s, rfl, hrow, b7⟩
      have B7 := Lib.hid (belStep B6.out b7)
      obtain ⟨sa, sn, sc, rfl, hsn⟩ : ∃ sa sn sc, s = .slice sa sn sc ∧ Hid (sn = A.length) := by
        rcases hrow.form with ⟨h1, h2⟩ | ⟨g', c', h1, -⟩
        · exact ⟨_, _, _, h1, by show 0 = A.length; rw [h2]; rfl⟩
        · exact ⟨_, _, _, h1, rfl⟩
      have hsz : ((sn : Int) == 0) = false := by
        have h1 := hsn.out
        have h2 := HAK.out
        simp
        omega
      clear hrow b7 HAK HA6 hsn
      go_wp2
      go_roundw
      case rel => exact ⟨k + 1, by omega, by go_num, B7.out⟩
      case measure => simp [intOf]; omega
    · obtain rfl : k = X.length := by omega
      clear hbel HMEM HARE HAL HIA hnz
      have HSS := Lib.hid (fun W h h' => iTableSame_any W (.slice xa X.length xc) v X l h h' (by omega) hn)
      rw [HSM.out] at HSS
      have HTM := Lib.hid (fun W h => iTableTrim_any W (.slice xa X.length xc) X h (by omega))
      rw [HTT.out] at HTM
      have HTK := Lib.hid (fun W h => iTableOk_any W (.slice xa X.length xc) X h (by omega))
      rw [HOK2.out] at HTK
      clear HSM HTT HOK2
      go_wp2_with fail
      refine (HSS.out _ (HXW.out _ HBL.out) (HL.out _ (B5.out.trans (HBL.out.mono B5.out.size))) (HEW.out _ (B5.out.trans (HBL.out.mono B5.out.size)))).mono ?_
      rintro e w6 ⟨rfl, b6⟩
      have B6 := Lib.hid (belStep HBL.out b6)
      clear b6
      go_wp2_with fail
      refine (HTM.out _ (HXW.out _ B6.out) (HEW.out _ (B5.out.trans (B6.out.mono B5.out.size)))).mono ?_
      rintro e w7 ⟨s, rfl, hrow, b7⟩
      have HS7 := Lib.hid hrow
      have B7 := Lib.hid (belStep B6.out b7)
      clear hrow b7
      go_wp2_with fail
      refine (lxRules_same _ _ _ _ HS7.out.rls (HXW.out _ B7.out) (by omega)).mono ?_
      rintro e w8 ⟨rfl, b8⟩
      have B8 := Lib.hid (belStep B7.out b8)
      clear b8
      go_wp2_with fail
      refine (HTK.out _ (HXW.out _ B8.out) (HEW.out _ (B5.out.trans (B8.out.mono B5.out.size)))).mono ?_
      rintro e w9 ⟨rfl, b9⟩
      have B9 := Lib.hid (belStep B8.out b9)
      clear b9
      go_wp2
      go_ret
      exact ⟨rfl, BW.out _ (B5.out.trans (B9.out.mono B5.out.size))⟩

set_option maxRecDepth 100000 in
theorem contract_FnTrim (H : Type) (enc : TypeId × Value → H) (W : World) (base : Nat) (args : Array Value) (ds gs : List (DataW H)) (before : List MemPlace)
    (hval : ∀ (j : Nat) t v, Tryz.f12.params[j]? = some t → args[j]? = some v → Value.okWide Tryz.prog W .any base t v)
    (hW : DataW.Whole enc Tryz.prog Tryz.f12.params.toList Rows.fnTrimSpec.vars false W args.toList ds gs before) (hE : EtOk W) :
    Calls Tryz.prog 12 args W fun e W' => ∃ v, e = .returned v ∧ Rows.fnTrimSpec.post enc Tryz.prog Tryz.f12 false true false false W args v W' := by
  have hW' := hW
  obtain ⟨p, q, hA0, hV, rfl, hfz, hnd⟩ := hW
  have hA : DataW.TrodAll enc Tryz.prog W 0 (fun _ => true) true Tryz.f12.params.toList args.toList ds p := hA0
  rw [Tryz.params12] at hA hval
  obtain ⟨v0, vs0, d0, ds0, p0, q0, hargs, rfl, rfl, h0, r0⟩ := trodAll_cons hA
  obtain ⟨rfl, rfl, rfl⟩ := trodAll_nil r0
  obtain rfl : args = #[v0] := by cases args; simp_all
  obtain ⟨rfl, rfl⟩ := trodVars_none hV
  have k0 := h0
  have lt0 : ∀ x ∈ p0, x.block < W.heap.size := by obtain ⟨m, hm⟩ := k0; exact DataW.trod_lt m _ _ _ hm
  obtain ⟨a0, len0, cap0, rfl⟩ := okWide_slice Tryz.underlying22 (hval 0 22 v0 rfl rfl)
  have w0 : BytesIn W W.heap.size a0 len0 cap0 := isRow_of h0
  clear hA0
  refine (walk_FnTrim a0 len0 cap0 W w0 hE).mono fun e W' ⟨he, bel⟩ => ?_
  subst he
  exact ⟨_, rfl, _, _, _, [], _, [], hW', trodAll_mk1 (shut_bool Tryz.underlying4 _), (trodAll_cons_mk (Below.trod laidOut (by kernel_rfl) (of_decide_eq_true (by kernel_rfl)) k0 bel lt0) (trodAll_mk0)), rfl, bel.frame _, fun h => by cases h⟩

/-- A world for the witness: the settled one, with the listed variables as the text lays them. -/
noncomputable def laidWorld_FnTrim (os : Os) : World :=
  { World.holding Tryz.prog os ⟨#[], #[], []⟩ with heap := (((((World.holding Tryz.prog os ⟨#[], #[], []⟩).heap).modify 3 (fun | .cells _ t frozen => .cells #[.int .u8 0, .int .u8 1, .int .u8 28, .int .u8 2, .int .u8 29, .int .u8 14, .int .u8 24, .int .u8 3, .int .u8 30, .int .u8 22, .int .u8 20, .int .u8 15, .int .u8 25, .int .u8 17, .int .u8 4, .int .u8 8, .int .u8 31, .int .u8 27, .int .u8 13, .int .u8 23, .int .u8 21, .int .u8 19, .int .u8 16, .int .u8 7, .int .u8 26, .int .u8 12, .int .u8 18, .int .u8 6, .int .u8 11, .int .u8 5, .int .u8 10, .int .u8 9] t frozen | o => o)).modify 4 (fun | .cells _ t frozen => .cells #[.int .u8 0, .int .u8 1, .int .u8 56, .int .u8 2, .int .u8 57, .int .u8 49, .int .u8 28, .int .u8 3, .int .u8 61, .int .u8 58, .int .u8 42, .int .u8 50, .int .u8 38, .int .u8 29, .int .u8 17, .int .u8 4, .int .u8 62, .int .u8 47, .int .u8 59, .int .u8 36, .int .u8 45, .int .u8 43, .int .u8 51, .int .u8 22, .int .u8 53, .int .u8 39, .int .u8 33, .int .u8 30, .int .u8 24, .int .u8 18, .int .u8 12, .int .u8 5, .int .u8 63, .int .u8 55, .int .u8 48, .int .u8 27, .int .u8 60, .int .u8 41, .int .u8 37, .int .u8 16, .int .u8 46, .int .u8 35, .int .u8 44, .int .u8 21, .int .u8 52, .int .u8 32, .int .u8 23, .int .u8 11, .int .u8 54, .int .u8 26, .int .u8 40, .int .u8 15, .int .u8 34, .int .u8 20, .int .u8 31, .int .u8 10, .int .u8 25, .int .u8 14, .int .u8 19, .int .u8 9, .int .u8 13, .int .u8 8, .int .u8 7, .int .u8 6] t frozen | o => o)).modify 2 (fun | .cells _ t frozen => .cells #[.int .u64 1, .int .u64 10, .int .u64 100, .int .u64 1000, .int .u64 10000, .int .u64 100000, .int .u64 1000000, .int .u64 10000000, .int .u64 100000000, .int .u64 1000000000, .int .u64 10000000000, .int .u64 100000000000, .int .u64 1000000000000, .int .u64 10000000000000, .int .u64 100000000000000, .int .u64 1000000000000000, .int .u64 10000000000000000, .int .u64 100000000000000000, .int .u64 1000000000000000000, .int .u64 10000000000000000000] t frozen | o => o)).modify 0 (fun | .cells _ t frozen => .cells #[.iface 193 (.agg #[.pointer (some ⟨5, 130, none⟩)])] t frozen | o => o) }

theorem laidMet_FnTrim (os : Os) : laidMetH Tryz.prog Rows.fnTrimRow.laid ((laidWorld_FnTrim os).forCall (fun _ _ => 0) ⟨#[], #[.slice none 0 0], []⟩).memory :=
  laidMetH_of_parts (laidMet_of_run' 8 (by kernel_rfl) (by kernel_rfl)) (by kernel_rfl)

theorem reads_FnTrim (os : Os) {H : Type} (enc : TypeId × Value → H) : ∃ places, DataW.whole enc Tryz.prog ((laidWorld_FnTrim os).forCall (fun _ _ => 0) ⟨#[], #[.slice none 0 0], []⟩).memory Tryz.f12.params.toList Rows.fnTrimSpec.vars false (#[.slice none 0 0] : Array Value).toList 8 = some ([.nil], [], places) :=
  ⟨[], by kernel_rfl⟩

set_option maxRecDepth 100000 in
theorem lifted_FnTrim (os : Os) (started : os.Started) (H : Type) (enc : TypeId × Value → H) (F : Stop.Interp) :
    ReturnsInHanded {} Tryz.checked os 12 .any ((OpenSpec.ofChange Rows.fnTrimSpec).preRow enc Tryz.prog Tryz.f12 Rows.fnTrimRow.domain false Rows.fnTrimRow.laid) (((OpenSpec.ofChange Rows.fnTrimSpec).at F).post enc Tryz.prog Tryz.f12 false true false false) := by
  obtain ⟨places, hx⟩ := reads_FnTrim os enc
  refine returnsInHanded_of_row (C := Tryz.checked) (s := OpenSpec.ofChange Rows.fnTrimSpec) own started (by kernel_rfl) Tryz.func12
    (witness_row_at (enc := enc) (C := Tryz.checked) false (laidWorld_FnTrim os) #[.slice none 0 0] rfl (by kernel_rfl) (by kernel_rfl) (by kernel_rfl)
      (OpenSpec.preRow_of_cond 8 hx (by kernel_rfl) (fun k hk => by cases hk) (by kernel_rfl) (laidMet_FnTrim os))) ?_
  intro W base args ds gs before hval hW _ _ _ hL _ _
  exact contract_FnTrim H enc W base args ds gs before hval hW (etOk_of hL (by simp [Rows.fnTrimRow]))

theorem said_FnTrim : Rows.FnTrimSaid :=
  OpenClaim.holds_of_cond 12 Tryz.f12 rfl rfl rfl rfl rfl rfl rfl ⟨rfl, rfl, rfl, rfl, rfl⟩ rfl rfl rfl rfl rfl (by kernel_rfl) Tryz.func12 (by kernel_rfl)
    (of_decide_eq_true (by kernel_rfl)) (by unfold Func.isWrapper; first | (rw [if_pos (by decide +kernel)]; kernel_rfl) | (rw [if_neg (by decide +kernel)]; exact ⟨rfl, rfl⟩))
    (fun os started H enc _ F => by rw [OpenClaim.pre_eq_preRow]; exact lifted_FnTrim os started H enc F)

theorem plain_FnTrim (f : FuncId) (fn : Func) (hf : Tryz.pinned.checked.prog.funcNamed "loop.example/crossbuck/laws.FnTrim" = some f) (hfn : Tryz.pinned.checked.prog.funcs[f]? = some fn) :
    true = Tryz.pinned.checked.prog.looks [] ∧ ∀ (j : Nat) t, fn.params[j]? = some t → Tryz.pinned.checked.prog.wantsStandIn t = false := by
  obtain rfl : f = 12 := Option.some.inj ((show Tryz.prog.funcNamed "loop.example/crossbuck/laws.FnTrim" = some 12 by kernel_rfl).symm.trans hf) |>.symm
  obtain rfl : fn = Tryz.f12 := (Option.some.inj (Tryz.func12.symm.trans hfn)).symm
  refine ⟨by kernel_rfl, fun j t ht => ?_⟩
  rw [Tryz.params12] at ht
  obtain rfl : t = 22 := by simpa using Array.mem_of_getElem? ht
  exact (show Tryz.prog.wantsStandIn 22 = false by kernel_rfl)

theorem proved_FnTrim : Rows.FnTrimCardSaid :=
  Claim7.holds_tied_plain_at .later [] _ _ _ _ said_FnTrim (fun _ h => by cases h) (by kernel_rfl) (fun _ h => by cases h) fnTrim_row_tie rfl ⟨rfl, rfl⟩ (by kernel_rfl) rfl plain_FnTrim (by kernel_rfl)

end Go.Proofs.YtahobeigbjhbbaaGreatDoor
