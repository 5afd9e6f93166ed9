/-
  Proved: promise 32 (heads that fit a condition are a space), at every code from which the condition is drawn; the code reads on as it did. No condition but the card's own: the program's error value stands as its text lays it.
-/
import Derived.Test.YtddkpimmcmnogabDoorPredCard
import Derived.Test.YtddkpimmcmnogabDoorPredDrawB
import Derived.Test.YtddkpimmcmnogabDoorPredLxP
namespace Go.Proofs.YtddkpimmcmnogabDoor
open Go.ChangeShapes Go.WideShapes Go.ChangeAt Go.RowKit Go.Joins
set_option linter.unusedVariables false

set_option maxRecDepth 100000 in
set_option maxHeartbeats 8000000 in
theorem walk_FnPredSpace (a : Option Addr) (len cap : Nat) (w : World) (hb : BytesIn w w.heap.size a len cap) (ep : Addr) (hE : w.cell? ⟨0, 0, none⟩ = some (errV ep)) :
    Calls Tryd.prog 3 #[.slice a len cap] w fun e w' => e = .returned (.bool true) ∧ Below w.heap.size w w' := by
  have HB := Lib.hid hb
  have HE := Lib.hid hE
  have hm : (len : Int) ≤ maxLen := by have := hb.1; have := hb.2.1; omega
  unfold maxLen at hm
  clear hb hE
  by_cases hlen : (1048576 : Int) < (len : Int)
  · go_enter Tryd.func3, Tryd.ntmps3
    go_wp2
    go_ret
    exact ⟨rfl, Below.refl _ _⟩
  go_enter Tryd.func3, Tryd.ntmps3
  go_wp2_with fail
  refine (drawPredSpace_any _ _ _ _ HB.out).mono ?_
  rintro e w1 ⟨s, hs, rfl, b1⟩
  have B1 := Lib.hid b1
  have IP : Hid (∀ W : World, Below w.heap.size w W → Calls Tryd.prog 6 #[.string s] W fun e w' => ∃ v, e = .returned v ∧ StrRow w' W.heap.size v (spaceT (lB s)) ∧ Below W.heap.size W w') := fun W hb => iSpace_at s (by omega) ep W (cellLater HE.out hb)
  have SP : Hid (∀ W : World, Calls Tryd.prog 8 #[.string s] W fun e w' => ∃ v, e = .returned v ∧ StrRow w' W.heap.size v (spaceT (lB s)) ∧ Below W.heap.size W w') := fun W => sSpace_at s (by omega) W
  have SO : Hid (∀ W : World, Calls Tryd.prog 9 #[.string s] W fun e w' => e = .returned (.bool (whole (lB s)).isSome) ∧ Below W.heap.size W w') := fun W => sOkP_at s (by omega) W
  have IH : Hid (∀ (k : Nat) (W : World), Below w.heap.size w W → Calls Tryd.prog 12 #[.string s, lxV k] W fun e w' => e = .returned (.bool (hasL (lB s) ((k : Int) / 16 % 4) ((k : Int) / 4 % 4) ((k : Int) % 4))) ∧ Below W.heap.size W w') := fun k W hb => iHasP_at s (by omega) _ _ _ ep W (cellLater HE.out hb)
  have hln := spaceT_len (lB s)
  clear b1 HB HE
  go_wp2_with fail
  refine (IP.out _ B1.out).mono ?_
  rintro e w2 ⟨u, rfl, r2, b2⟩
  have B2 := Lib.hid (belStep B1.out b2)
  have RU := Lib.hid r2
  clear b2 r2 B1 IP
  go_wp2_with fail
  refine (SP.out _).mono ?_
  rintro e w3 ⟨u3, rfl, r3, b3⟩
  have B3 := Lib.hid (belStep B2.out b3)
  have R3 := Lib.hid r3
  replace RU := Lib.hid (RU.out.below b3)
  clear b3 r3 B2
  go_wp2_with fail
  refine (lxTexts_same _ _ _ _ _ _ RU.out R3.out (by omega)).mono ?_
  rintro e w4 ⟨rfl, b4⟩
  have B4 := Lib.hid (belStep B3.out b4)
  replace RU := Lib.hid (RU.out.below b4)
  clear b4 R3 B3
  go_wp2_with fail
  refine (SO.out _).mono ?_
  rintro e w5 ⟨rfl, b5⟩
  have B5 := Lib.hid (belStep B4.out b5)
  replace RU := Lib.hid (RU.out.below b5)
  clear b5 B4 SO
  cases hw : whole (lB s) with
  | none =>
    simp only [Option.isSome_none]
    clear hw
    go_wp2_with fail
    refine (SP.out _).mono ?_
    rintro e w6 ⟨u6, rfl, r6, b6⟩
    have B6 := Lib.hid (belStep B5.out b6)
    have R6 := Lib.hid r6
    replace RU := Lib.hid (RU.out.below b6)
    clear b6 r6 B5
    go_wp2_with fail
    refine (lxTexts_same _ _ _ _ _ _ RU.out R6.out (by omega)).mono ?_
    rintro e w7 ⟨rfl, b7⟩
    go_wp2
    go_ret
    exact ⟨rfl, belStep B6.out b7⟩
  | some c =>
    simp only [Option.isSome_some]
    obtain ⟨hl, hk, h16⟩ := whole_some hw
    have HT : Hid (spaceT (lB s) = tidyT (evM c)) := by show _ = _; unfold spaceT; rw [hw]
    have HI : Hid (∀ (k : Nat) (W : World), k < 64 → Below w5.heap.size w5 W → Calls Tryd.prog 12 #[.string s, lxV k] W fun e w' => e = .returned (.bool (evn c (k : Int))) ∧ Below W.heap.size W w') := fun k W hk64 hb => by
      have := IH.out k W (belStep B5.out hb)
      rwa [hl, has_ev hk (by rw [← hl]; exact h16) hk64] at this
    rw [HT.out] at RU hln
    have HS : Hid (∀ (k : Nat) (W : World), k < 64 → Below w5.heap.size w5 W → Calls Tryd.prog 10 #[u, lxV k] W fun e w' => e = .returned (.bool (evn c (k : Int))) ∧ Below W.heap.size W w') := fun k W hk64 hb => by
      have := has_lx k W _ _ ((RU.out.strs.below hb (Nat.le_refl _)).mono hb.size) (fit_tidy (evM c)) (okSp_tidy (evM c))
      rwa [in_ev c hk64] at this
    have HTW : Hid (tidyR (tidyT (evM c)) = tidyT (evM c)) := tidyR_tidy (evM_len c)
    have HFT : Hid (Fit6 (tidyT (evM c))) := fit_tidy _
    unfold lxV at HI HS
    clear hw hl hk h16 HT IH SP
    generalize tidyT (evM c) = T at *
    have H05 := Lib.hid (Below.refl w5.heap.size w5)
    go_wp2
    go_loopw [5] (fun i wr => ∃ k : Nat, k ≤ 64 ∧ i = .int .i64 k ∧ Below w5.heap.size w5 wr) (fun i _ => 64 - (intOf i).toNat)
    case atStart => exact ⟨0, Nat.zero_le _, rfl, H05.out⟩
    case round =>
      obtain ⟨k, hk64, rfl, hbel⟩ := hrel
      have HBL := Lib.hid hbel
      clear hbel
      by_cases hlt : k < 64
      · have hkz : (k : Int) < 64 := by omega
        have C0 := Lib.hid (fun W hW => HS.out k W hlt hW)
        have C1 := Lib.hid (fun W hW => HI.out k W hlt hW)
        have L0 := Lib.hid (lxHead_at k (by omega))
        generalize ((k : Int) / 16 % 4) = x0 at *
        generalize ((k : Int) / 4 % 4) = x1 at *
        generalize ((k : Int) % 4) = x2 at *
        generalize evn c (k : Int) = y at *
        go_wp2_with fail
        refine (L0.out _).mono ?_
        rintro e w7 ⟨rfl, b7⟩
        have B7 := Lib.hid (belStep HBL.out b7)
        clear b7
        go_wp2_with fail
        refine (C0.out _ B7.out).mono ?_
        rintro e w8 ⟨rfl, b8⟩
        have B8 := Lib.hid (belStep B7.out b8)
        clear b8 B7
        go_wp2_with fail
        refine (L0.out _).mono ?_
        rintro e w9 ⟨rfl, b9⟩
        have B9 := Lib.hid (belStep B8.out b9)
        clear b9 B8
        go_wp2_with fail
        refine (C1.out _ B9.out).mono ?_
        rintro e w10 ⟨rfl, b10⟩
        have B10 := Lib.hid (belStep B9.out b10)
        clear b10 B9
        cases y
        all_goals
          go_wp2
          go_roundw
          case rel => exact ⟨k + 1, by omega, by go_num, B10.out⟩
          case measure => simp [intOf]; omega
      · obtain rfl : k = 64 := by omega
        have RT := Lib.hid (RU.out.below HBL.out)
        go_wp2_with fail
        refine (iSpaceTidy_any _ _ T RT.out.strs HFT.out).mono ?_
        rintro e w8 ⟨u8, rfl, r8, b8⟩
        rw [HTW.out] at r8
        replace RT := Lib.hid (RT.out.below b8)
        have R8 := Lib.hid r8
        have B8 := Lib.hid (belStep (belStep B5.out HBL.out) b8)
        clear r8 b8
        go_wp2_with fail
        refine (lxTexts_same _ _ _ _ _ _ R8.out RT.out (by omega)).mono ?_
        rintro e w9 ⟨rfl, b9⟩
        go_wp2
        go_ret
        exact ⟨rfl, belStep B8.out b9⟩

set_option maxRecDepth 100000 in
theorem contract_FnPredSpace (H : Type) (enc : TypeId × Value → H) (W : World) (base : Nat) (args : Array Value) (ds gs : List (DataW H)) (before : List MemPlace)
    (hval : ∀ (j : Nat) t v, Tryd.f3.params[j]? = some t → args[j]? = some v → Value.okWide Tryd.prog W .any base t v)
    (hW : DataW.Whole enc Tryd.prog Tryd.f3.params.toList Rows.fnPredSpaceSpec.vars false W args.toList ds gs before) (hL : laidMet Tryd.prog [("loop.example/crossbuck/impl.errPred", Rows.laid_loop_example_crossbuck_impl_errPred)] W) :
    Calls Tryd.prog 3 args W fun e W' => ∃ v, e = .returned v ∧ Rows.fnPredSpaceSpec.post enc Tryd.prog Tryd.f3 false true false false W args v W' := by
  have hW' := hW
  obtain ⟨p, q, hA0, hV0, rfl, hfz, hnd⟩ := hW
  have hA : DataW.TrodAll enc Tryd.prog W 0 (fun _ => true) true Tryd.f3.params.toList args.toList ds p := hA0
  have hV : DataW.TrodVars enc Tryd.prog W (fun _ => true) ["loop.example/crossbuck/impl.errPred"] gs q := hV0
  rw [Tryd.params3] at hA hval
  obtain ⟨v0, vs0, d0, ds0, p0, q0, hargs, rfl, rfl, h0, r0⟩ := trodAll_cons hA
  obtain ⟨rfl, rfl, rfl⟩ := trodAll_nil r0
  obtain rfl : args = #[v0] := by cases args; simp_all
  obtain ⟨ep, hv⟩ := laidErr hL
  obtain ⟨rfl, rfl⟩ := hV.unique (vars_read1 enc gE gEt Tryd.underlying45 hv trivial _)
  have k0 := h0
  have lt0 : ∀ x ∈ p0, x.block < W.heap.size := by obtain ⟨m, hm⟩ := k0; exact DataW.trod_lt m _ _ _ hm
  obtain ⟨a0, len0, cap0, rfl⟩ := okWide_slice Tryd.underlying22 (hval 0 22 v0 rfl rfl)
  have w0 : BytesIn W W.heap.size a0 len0 cap0 := isRow_of h0
  clear hA0 hV0
  refine (walk_FnPredSpace a0 len0 cap0 W w0 ep (varCell hv)).mono fun e W' ⟨he, bel⟩ => ?_
  subst he
  exact ⟨_, rfl, _, _, _, [], _, _, hW', trodAll_mk1 (shut_bool Tryd.underlying4 _), (trodAll_cons_mk (Below.trod laidOut (by kernel_rfl) (of_decide_eq_true (by kernel_rfl)) k0 bel lt0) (trodAll_mk0)), vars_read1 enc gE gEt Tryd.underlying45 (varLater hv bel) trivial _, bel.frame _, fun h => by cases h⟩

noncomputable def low_FnPredSpace : Nat := (World.holding Tryd.prog default ⟨#[], #[], []⟩).heap.size
/-- A world for the witness: the settled one, with the error value as the text lays it. -/
noncomputable def laidWorld_FnPredSpace (os : Os) : World :=
  { World.holding Tryd.prog os ⟨#[.cells #[.string ⟨#[110, 111, 32, 99, 111, 110, 100, 105, 116, 105, 111, 110]⟩] 157], #[], []⟩ with heap := (World.holding Tryd.prog os ⟨#[.cells #[.string ⟨#[110, 111, 32, 99, 111, 110, 100, 105, 116, 105, 111, 110]⟩] 157], #[], []⟩).heap.modify 0 (fun | .cells _ t frozen => .cells #[.iface 132 (.pointer (some ⟨low_FnPredSpace, 0, none⟩))] t frozen | o => o) }

theorem laidMet_FnPredSpace (os : Os) : laidMet Tryd.prog Rows.fnPredSpaceRow.laid ((laidWorld_FnPredSpace os).forCall (fun _ _ => 0) ⟨#[], #[.slice none 0 0], []⟩).memory :=
  laidMet_of_run' 8 (by kernel_rfl) (by kernel_rfl)

set_option maxRecDepth 100000 in
theorem lifted_FnPredSpace (os : Os) (started : os.Started) (H : Type) (enc : TypeId × Value → H) (F : Stop.Interp) :
    ReturnsInHanded {} Tryd.checked os 3 .any ((OpenSpec.ofChange Rows.fnPredSpaceSpec).preRow enc Tryd.prog Tryd.f3 Rows.fnPredSpaceRow.domain false Rows.fnPredSpaceRow.laid) (((OpenSpec.ofChange Rows.fnPredSpaceSpec).at F).post enc Tryd.prog Tryd.f3 false true false false) := by
  refine returnsInHanded_of_row (C := Tryd.checked) (s := OpenSpec.ofChange Rows.fnPredSpaceSpec) own started (by kernel_rfl) Tryd.func3
    (witness_row_at (enc := enc) (C := Tryd.checked) false (laidWorld_FnPredSpace os) #[.slice none 0 0] rfl (by kernel_rfl) (by kernel_rfl) (by kernel_rfl)
      (OpenSpec.preRow_of_B rfl 8 (by kernel_rfl) (by kernel_rfl) (laidMet_FnPredSpace os))) ?_
  intro W base args ds gs before hval hW _ _ _ hL _ _
  exact contract_FnPredSpace H enc W base args ds gs before hval hW hL

theorem said_FnPredSpace : Rows.FnPredSpaceSaid :=
  OpenClaim.holds_of_cond 3 Tryd.f3 rfl rfl rfl rfl rfl rfl rfl ⟨rfl, rfl, rfl, rfl, rfl⟩ rfl rfl rfl rfl rfl (by kernel_rfl) Tryd.func3 (by kernel_rfl)
    (of_decide_eq_true (by kernel_rfl)) (by unfold Func.isWrapper; first | (rw [if_pos (by decide +kernel)]; kernel_rfl) | (rw [if_neg (by decide +kernel)]; exact ⟨rfl, rfl⟩))
    (fun os started H enc _ F => by rw [OpenClaim.pre_eq_preRow]; exact lifted_FnPredSpace os started H enc F)

theorem plain_FnPredSpace (f : FuncId) (fn : Func) (hf : Tryd.pinned.checked.prog.funcNamed "loop.example/crossbuck/laws.FnPredSpace" = some f) (hfn : Tryd.pinned.checked.prog.funcs[f]? = some fn) :
    true = Tryd.pinned.checked.prog.looks [] ∧ ∀ (j : Nat) t, fn.params[j]? = some t → Tryd.pinned.checked.prog.wantsStandIn t = false := by
  obtain rfl : f = 3 := Option.some.inj ((show Tryd.prog.funcNamed "loop.example/crossbuck/laws.FnPredSpace" = some 3 by kernel_rfl).symm.trans hf) |>.symm
  obtain rfl : fn = Tryd.f3 := (Option.some.inj (Tryd.func3.symm.trans hfn)).symm
  refine ⟨by kernel_rfl, fun j t ht => ?_⟩
  rw [Tryd.params3] at ht
  obtain rfl : t = 22 := by simpa using Array.mem_of_getElem? ht
  exact (show Tryd.prog.wantsStandIn 22 = false by kernel_rfl)

theorem proved_FnPredSpace : Rows.FnPredSpaceCardSaid :=
  Claim7.holds_tied_plain_at .later [] _ _ _ _ said_FnPredSpace (fun _ h => by cases h) (by kernel_rfl) (fun _ h => by cases h) fnPredSpace_row_tie rfl ⟨rfl, rfl⟩ (by kernel_rfl) rfl plain_FnPredSpace (by kernel_rfl)

end Go.Proofs.YtddkpimmcmnogabDoor
