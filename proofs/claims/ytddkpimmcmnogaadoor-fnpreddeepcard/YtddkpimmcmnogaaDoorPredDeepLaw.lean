/-
  Proved: promise 35 (a condition is one deeper than its deepest part), at every code from which the condition is drawn; the code reads on as it did. No condition but the card's own: the program's error value stands as its text lays it.
-/
import Derived.Test.YtddkpimmcmnogaaDoorPredCard
import Derived.Test.YtddkpimmcmnogaaDoorPredPartsAll
import Derived.Test.YtddkpimmcmnogaaDoorPredDrawB
import Derived.Test.YtddkpimmcmnogaaDoorPredLx
namespace Go.Proofs.YtddkpimmcmnogaaDoor
open Go.ChangeShapes Go.WideShapes Go.ChangeAt Go.RowKit Go.Joins
set_option linter.unusedVariables false

set_option maxRecDepth 100000 in
set_option maxHeartbeats 8000000 in
theorem walk_FnPredDeep (a : Option Addr) (len cap : Nat) (w : World) (hb : BytesIn w w.heap.size a len cap) (ep : Addr) (hE : w.cell? ⟨0, 0, none⟩ = some (errV ep)) :
    Calls Tryd.prog 11 #[.slice a len cap] w fun e w' => e = .returned (.bool true) ∧ Below w.heap.size w w' := by
  have HB := Lib.hid hb
  have HE := Lib.hid hE
  have hm : (len : Int) ≤ maxLen := by have := hb.1; have := hb.2.1; omega
  unfold maxLen at hm
  clear hb hE
  by_cases hlen : (1048576 : Int) < (len : Int)
  · go_enter Tryd.func11, Tryd.ntmps11
    go_wp2
    go_ret
    exact ⟨rfl, Below.refl _ _⟩
  go_enter Tryd.func11, Tryd.ntmps11
  go_wp2_with fail
  refine (drawPredDeep_any _ _ _ _ HB.out).mono ?_
  rintro e w1 ⟨s, hs, rfl, b1⟩
  have s1 := b1.size
  go_wp2_with fail
  refine (iDeep_at s (by omega) ep _ (cellLater HE.out b1)).mono ?_
  rintro e w2 ⟨rfl, b2⟩
  have B2 := Lib.hid (belStep b1 b2)
  clear b1 b2
  go_wp2_with fail
  refine (sDeep_at s (by omega) _).mono ?_
  rintro e w3 ⟨rfl, b3⟩
  have B3 := Lib.hid (belStep B2.out b3)
  clear b3 B2
  go_wp2_with fail
  refine (sOk_at s (by omega) _).mono ?_
  rintro e w4 ⟨rfl, b4⟩
  have B4 := Lib.hid (belStep B3.out b4)
  clear b4 B3
  cases hw : whole (lB s) with
  | none =>
    simp only [Option.isSome_none]
    go_wp2_with fail
    refine (sDeep_at s (by omega) _).mono ?_
    rintro e w5 ⟨rfl, b5⟩
    go_wp2
    go_ret
    exact ⟨rfl, belStep B4.out b5⟩
  | some c =>
    simp only [Option.isSome_some]
    obtain ⟨hl, hk, h16⟩ := whole_some hw
    rw [hl] at h16
    have hsz : Hid (s.size = c.txt.length) := by show _ = _; rw [← lB_len, hl]
    have HD : Hid (deepL (lB s) = (c.deep : Int)) := by show _ = _; unfold deepL; rw [hw]
    have HT : Hid (partsT (lB s) = c.parts.map bs) := by show _ = _; unfold partsT; rw [hw]
    have HI : Hid (∀ W : World, Below w.heap.size w W → ∀ a : Cnd, a.ok = true → a.txt.length ≤ 16 → Calls Tryd.prog 28 #[.string (bs a.txt)] W fun e w' => e = .returned (.int .i64 (a.deep : Int)) ∧ Below W.heap.size W w') := fun W hb a ha ha16 => by
      have := iDeep_at (bs a.txt) (by rw [bs_size]; omega) ep W (cellLater HE.out hb)
      rwa [deepL_txt ha ha16] at this
    have hdl := c.deep_le
    have hsz2 := hsz.out
    rw [HD.out]
    go_wp2_with fail
    refine (iParts_at s (by omega) ep _ (cellLater HE.out B4.out)).mono ?_
    rintro e w5 ⟨v, rfl, r5, b5⟩
    have B5 := Lib.hid (belStep B4.out b5)
    rw [HT.out] at r5
    clear b5 B4 HB HE HT HD hw hl
    cases c with
    | one b =>
      obtain ⟨g, q, rfl, hgb, hgl, hq, hqm, hc⟩ := rowForm r5 (by simp [Cnd.parts])
      clear hc r5
      simp only [Cnd.parts, List.map_cons, List.map_nil, List.length_cons, List.length_nil] at *
      have hd1 : (1 : Int) ≤ (s.size : Int) := by rw [hsz2]; simp [Cnd.txt]
      have e1 : ((Cnd.one b).deep : Int) = 1 := rfl
      rw [e1]
      clear hsz hsz2 hdl
      go_wp2_with fail
      refine wp_loop_rounds 1 ?_
      rw [rounds_succ]
      go_wp2
      go_ret
      exact ⟨by first | rfl | simp, B5.out⟩
    | fld k d =>
      obtain ⟨g, q, rfl, hgb, hgl, hq, hqm, hc⟩ := rowForm r5 (by simp [Cnd.parts])
      clear hc r5
      simp only [Cnd.parts, List.map_cons, List.map_nil, List.length_cons, List.length_nil] at *
      have hd1 : (1 : Int) ≤ (s.size : Int) := by rw [hsz2]; simp [Cnd.txt]
      have e1 : ((Cnd.fld k d).deep : Int) = 1 := rfl
      rw [e1]
      clear hsz hsz2 hdl
      go_wp2_with fail
      refine wp_loop_rounds 1 ?_
      rw [rounds_succ]
      go_wp2
      go_ret
      exact ⟨by first | rfl | simp, B5.out⟩
    | neg a =>
      obtain ⟨g, q, rfl, hgb, hgl, hq, hqm, hc⟩ := rowForm r5 (by simp [Cnd.parts])
      have c1 := hc 1 (bs a.txt) rfl
      clear hc r5
      simp only [Cnd.parts, List.map_cons, List.map_nil, List.length_cons, List.length_nil] at *
      have h16' : a.txt.length ≤ 16 := by simp [Cnd.txt] at h16; omega
      have HA := Lib.hid (HI.out w5 B5.out a hk h16')
      have e1 : ((Cnd.neg a).deep : Int) = (a.deep : Int) + 1 := rfl
      rw [e1]
      have hda := a.deep_pos
      have hdz : (a.deep : Int) + 1 ≤ (s.size : Int) := by rw [hsz2]; omega
      have hd0 : 1 ≤ (a.deep : Int) := by omega
      clear hsz hsz2 hdl hda HI h16 h16' hk e1
      generalize (a.deep : Int) = D at *
      generalize bs a.txt = t at *
      go_wp2_with fail
      refine wp_loop_rounds 2 ?_
      rw [rounds_succ]
      go_wp2_with fail
      refine HA.out.mono ?_
      rintro e w6 ⟨rfl, b6⟩
      have B6 := Lib.hid (belStep B5.out b6)
      clear b6 B5 HA c1
      go_wp2_with fail
      all_goals
        first
        | (exfalso; omega)
        | (rw [rounds_succ]
           go_wp2
           go_ret
           exact ⟨by first | rfl | simp, B6.out⟩)
    | two k a b =>
      obtain ⟨g, q, rfl, hgb, hgl, hq, hqm, hc⟩ := rowForm r5 (by simp [Cnd.parts])
      have c1 := hc 1 (bs a.txt) rfl
      have C2 := Lib.hid (hc 2 (bs b.txt) rfl)
      clear hc r5
      simp only [Cnd.parts, List.map_cons, List.map_nil, List.length_cons, List.length_nil] at *
      simp [Cnd.ok] at hk
      have h16' : a.txt.length ≤ 16 ∧ b.txt.length ≤ 16 := by simp [Cnd.txt] at h16; omega
      have HA := Lib.hid (HI.out w5 B5.out a hk.2.1 h16'.1)
      have HA' : Hid (∀ W : World, Below w.heap.size w W → Calls Tryd.prog 28 #[.string (bs b.txt)] W fun e w' => e = .returned (.int .i64 (b.deep : Int)) ∧ Below W.heap.size W w') := fun W hb => HI.out W hb b hk.2.2 h16'.2
      have e1 : ((Cnd.two k a b).deep : Int) = max (a.deep : Int) (b.deep : Int) + 1 := by simp only [Cnd.deep]; omega
      have hda := a.deep_pos
      have hdb := b.deep_pos
      have hdz : max (a.deep : Int) (b.deep : Int) + 1 ≤ (s.size : Int) := by rw [← e1, hsz2]; omega
      rw [e1]
      have hd0 : 1 ≤ (a.deep : Int) := by omega
      have hd1 : 1 ≤ (b.deep : Int) := by omega
      have hu0 : (a.deep : Int) ≤ 100 := by omega
      have hu1 : (b.deep : Int) ≤ 100 := by omega
      clear hsz hsz2 hdl hda hdb HI h16 h16' hk e1
      generalize (a.deep : Int) = D at *
      generalize (b.deep : Int) = E at *
      generalize bs a.txt = t at *
      generalize bs b.txt = t' at *
      obtain ⟨M, hM⟩ : ∃ M, max D E = M := ⟨_, rfl⟩
      have HM := Lib.hid hM
      rw [hM] at hdz ⊢
      clear hM
      go_wp2_with fail
      refine wp_loop_rounds 3 ?_
      rw [rounds_succ]
      go_wp2_with fail
      refine HA.out.mono ?_
      rintro e w6 ⟨rfl, b6⟩
      have c2 := cellLater C2.out b6
      have B6 := Lib.hid (belStep B5.out b6)
      clear b6 B5 HA c1 C2
      go_wp2_with fail
      all_goals
        first
        | (exfalso; omega)
        | (rw [rounds_succ]
           go_wp2_with fail
           refine (HA'.out _ B6.out).mono ?_
           rintro e w7 ⟨rfl, b7⟩
           have B7 := Lib.hid (belStep B6.out b7)
           clear b7 B6 HA' c2
           go_wp2_with fail
           all_goals
             rw [rounds_succ]
             have hM := HM.out
             obtain rfl : M = _ := hM.symm
             go_wp2
             go_ret
             exact ⟨by first | rfl | (simp; omega), B7.out⟩)

set_option maxRecDepth 100000 in
theorem contract_FnPredDeep (H : Type) (enc : TypeId × Value → H) (W : World) (base : Nat) (args : Array Value) (ds gs : List (DataW H)) (before : List MemPlace)
    (hval : ∀ (j : Nat) t v, Tryd.f11.params[j]? = some t → args[j]? = some v → Value.okWide Tryd.prog W .any base t v)
    (hW : DataW.Whole enc Tryd.prog Tryd.f11.params.toList Rows.fnPredDeepSpec.vars false W args.toList ds gs before) (hL : laidMet Tryd.prog [("loop.example/crossbuck/impl.errPred", Rows.laid_loop_example_crossbuck_impl_errPred)] W) :
    Calls Tryd.prog 11 args W fun e W' => ∃ v, e = .returned v ∧ Rows.fnPredDeepSpec.post enc Tryd.prog Tryd.f11 false true false false W args v W' := by
  have hW' := hW
  obtain ⟨p, q, hA0, hV0, rfl, hfz, hnd⟩ := hW
  have hA : DataW.TrodAll enc Tryd.prog W 0 (fun _ => true) true Tryd.f11.params.toList args.toList ds p := hA0
  have hV : DataW.TrodVars enc Tryd.prog W (fun _ => true) ["loop.example/crossbuck/impl.errPred"] gs q := hV0
  rw [Tryd.params11] at hA hval
  obtain ⟨v0, vs0, d0, ds0, p0, q0, hargs, rfl, rfl, h0, r0⟩ := trodAll_cons hA
  obtain ⟨rfl, rfl, rfl⟩ := trodAll_nil r0
  obtain rfl : args = #[v0] := by cases args; simp_all
  obtain ⟨ep, hv⟩ := laidErr hL
  obtain ⟨rfl, rfl⟩ := hV.unique (vars_read1 enc gE gEt Tryd.underlying49 hv trivial _)
  have k0 := h0
  have lt0 : ∀ x ∈ p0, x.block < W.heap.size := by obtain ⟨m, hm⟩ := k0; exact DataW.trod_lt m _ _ _ hm
  obtain ⟨a0, len0, cap0, rfl⟩ := okWide_slice Tryd.underlying35 (hval 0 35 v0 rfl rfl)
  have w0 : BytesIn W W.heap.size a0 len0 cap0 := isRow_of h0
  clear hA0 hV0
  refine (walk_FnPredDeep a0 len0 cap0 W w0 ep (varCell hv)).mono fun e W' ⟨he, bel⟩ => ?_
  subst he
  exact ⟨_, rfl, _, _, _, [], _, _, hW', trodAll_mk1 (shut_bool Tryd.underlying4 _), (trodAll_cons_mk (Below.trod laidOut (by kernel_rfl) (of_decide_eq_true (by kernel_rfl)) k0 bel lt0) (trodAll_mk0)), vars_read1 enc gE gEt Tryd.underlying49 (varLater hv bel) trivial _, bel.frame _, fun h => by cases h⟩

noncomputable def low_FnPredDeep : Nat := (World.holding Tryd.prog default ⟨#[], #[], []⟩).heap.size
/-- A world for the witness: the settled one, with the error value as the text lays it. -/
noncomputable def laidWorld_FnPredDeep (os : Os) : World :=
  { World.holding Tryd.prog os ⟨#[.cells #[.string ⟨#[110, 111, 32, 99, 111, 110, 100, 105, 116, 105, 111, 110]⟩] 150], #[], []⟩ with heap := (World.holding Tryd.prog os ⟨#[.cells #[.string ⟨#[110, 111, 32, 99, 111, 110, 100, 105, 116, 105, 111, 110]⟩] 150], #[], []⟩).heap.modify 0 (fun | .cells _ t frozen => .cells #[.iface 126 (.pointer (some ⟨low_FnPredDeep, 0, none⟩))] t frozen | o => o) }

theorem laidMet_FnPredDeep (os : Os) : laidMet Tryd.prog Rows.fnPredDeepRow.laid ((laidWorld_FnPredDeep os).forCall (fun _ _ => 0) ⟨#[], #[.slice none 0 0], []⟩).memory :=
  laidMet_of_run' 8 (by kernel_rfl) (by kernel_rfl)

set_option maxRecDepth 100000 in
theorem lifted_FnPredDeep (os : Os) (started : os.Started) (H : Type) (enc : TypeId × Value → H) (F : Stop.Interp) :
    ReturnsInHanded {} Tryd.checked os 11 .any ((OpenSpec.ofChange Rows.fnPredDeepSpec).preRow enc Tryd.prog Tryd.f11 Rows.fnPredDeepRow.domain false Rows.fnPredDeepRow.laid) (((OpenSpec.ofChange Rows.fnPredDeepSpec).at F).post enc Tryd.prog Tryd.f11 false true false false) := by
  refine returnsInHanded_of_row (C := Tryd.checked) (s := OpenSpec.ofChange Rows.fnPredDeepSpec) own started (by kernel_rfl) Tryd.func11
    (witness_row_at (enc := enc) (C := Tryd.checked) false (laidWorld_FnPredDeep os) #[.slice none 0 0] rfl (by kernel_rfl) (by kernel_rfl) (by kernel_rfl)
      (OpenSpec.preRow_of_B rfl 8 (by kernel_rfl) (by kernel_rfl) (laidMet_FnPredDeep os))) ?_
  intro W base args ds gs before hval hW _ _ _ hL _ _
  exact contract_FnPredDeep H enc W base args ds gs before hval hW hL

theorem said_FnPredDeep : Rows.FnPredDeepSaid :=
  OpenClaim.holds_of_cond 11 Tryd.f11 rfl rfl rfl rfl rfl rfl rfl ⟨rfl, rfl, rfl, rfl, rfl⟩ rfl rfl rfl rfl rfl (by kernel_rfl) Tryd.func11 (by kernel_rfl)
    (of_decide_eq_true (by kernel_rfl)) (by unfold Func.isWrapper; first | (rw [if_pos (by decide +kernel)]; kernel_rfl) | (rw [if_neg (by decide +kernel)]; exact ⟨rfl, rfl⟩))
    (fun os started H enc _ F => by rw [OpenClaim.pre_eq_preRow]; exact lifted_FnPredDeep os started H enc F)

theorem plain_FnPredDeep (f : FuncId) (fn : Func) (hf : Tryd.pinned.checked.prog.funcNamed "loop.example/crossbuck/laws.FnPredDeep" = some f) (hfn : Tryd.pinned.checked.prog.funcs[f]? = some fn) :
    true = Tryd.pinned.checked.prog.looks [] ∧ ∀ (j : Nat) t, fn.params[j]? = some t → Tryd.pinned.checked.prog.wantsStandIn t = false := by
  obtain rfl : f = 11 := Option.some.inj ((show Tryd.prog.funcNamed "loop.example/crossbuck/laws.FnPredDeep" = some 11 by kernel_rfl).symm.trans hf) |>.symm
  obtain rfl : fn = Tryd.f11 := (Option.some.inj (Tryd.func11.symm.trans hfn)).symm
  refine ⟨by kernel_rfl, fun j t ht => ?_⟩
  rw [Tryd.params11] at ht
  obtain rfl : t = 35 := by simpa using Array.mem_of_getElem? ht
  exact (show Tryd.prog.wantsStandIn 35 = false by kernel_rfl)

theorem proved_FnPredDeep : Rows.FnPredDeepCardSaid :=
  Claim7.holds_tied_plain_at .later [] _ _ _ _ said_FnPredDeep (fun _ h => by cases h) (by kernel_rfl) (fun _ h => by cases h) fnPredDeep_row_tie rfl ⟨rfl, rfl⟩ (by kernel_rfl) rfl plain_FnPredDeep (by kernel_rfl)

end Go.Proofs.YtddkpimmcmnogaaDoor
