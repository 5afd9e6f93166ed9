/-
  Proved: promise 31 (a condition is its sign, and its parts), at every code from which the condition is drawn; the code reads on as it did. No condition but the card's own: the program's error value stands as its text lays it.
-/
import Derived.Test.YtddkpimmcmnogaaDoorPredCard
import Derived.Test.YtddkpimmcmnogaaDoorPredPartsAll
import Derived.Test.YtddkpimmcmnogaaDoorPredDrawB
import Derived.Test.YtddkpimmcmnogaaDoorPredLxT
namespace Go.Proofs.YtddkpimmcmnogaaDoor
open Go.ChangeShapes Go.WideShapes Go.ChangeAt Go.RowKit Go.Joins
set_option linter.unusedVariables false

set_option maxRecDepth 100000 in
set_option maxHeartbeats 8000000 in
theorem walk_FnPredParts (a : Option Addr) (len cap : Nat) (w : World) (hb : BytesIn w w.heap.size a len cap) (ep : Addr) (hE : w.cell? ⟨0, 0, none⟩ = some (errV ep)) :
    Calls Tryd.prog 9 #[.slice a len cap] w fun e w' => e = .returned (.bool true) ∧ Below w.heap.size w w' := by
  have HB := Lib.hid hb
  have HE := Lib.hid hE
  have hm : (len : Int) ≤ maxLen := by have := hb.1; have := hb.2.1; omega
  unfold maxLen at hm
  clear hb hE
  by_cases hlen : (1048576 : Int) < (len : Int)
  · go_enter Tryd.func9, Tryd.ntmps9
    go_wp2
    go_ret
    exact ⟨rfl, Below.refl _ _⟩
  go_enter Tryd.func9, Tryd.ntmps9
  go_wp2_with fail
  refine (drawPredParts_any _ _ _ _ HB.out).mono ?_
  rintro e w1 ⟨s, hs, rfl, b1⟩
  have s1 := b1.size
  have hln := partsT_len (lB s)
  go_wp2_with fail
  refine (iParts_at s (by omega) ep _ (cellLater HE.out b1)).mono ?_
  rintro e w2 ⟨v, rfl, r2, b2⟩
  have B2 := Lib.hid (belStep b1 b2)
  have R2 := Lib.hid r2
  clear b1 b2 r2
  go_wp2_with fail
  refine (sParts_at s (by omega) _).mono ?_
  rintro e w3 ⟨v', rfl, r3, b3⟩
  have B3 := Lib.hid (belStep B2.out b3)
  have R3 := Lib.hid (R2.out.below b3)
  have R3' := Lib.hid r3
  clear b3 B2 r3 R2
  go_wp2_with fail
  refine (lxTexts_sameP _ _ _ _ _ _ R3.out R3'.out (by omega)).mono ?_
  rintro e w4 ⟨rfl, b4⟩
  have B4 := Lib.hid (belStep B3.out b4)
  have R4 := Lib.hid (R3.out.below b4)
  clear b4 B3 R3 R3'
  go_wp2_with fail
  refine (sOk_at s (by omega) _).mono ?_
  rintro e w5 ⟨rfl, b5⟩
  have B5 := Lib.hid (belStep B4.out b5)
  have R5 := Lib.hid (R4.out.below b5)
  clear b5 B4 R4
  cases hw : whole (lB s) with
  | none =>
    simp only [Option.isSome_none]
    go_wp2_with fail
    refine (sParts_at s (by omega) _).mono ?_
    rintro e w6 ⟨v'', rfl, r6, b6⟩
    have B6 := Lib.hid (belStep B5.out b6)
    have R6 := Lib.hid (R5.out.below b6)
    have R6' := Lib.hid r6
    clear b6 B5 r6 R5
    go_wp2_with fail
    refine (lxTexts_sameP _ _ _ _ _ _ R6.out R6'.out (by omega)).mono ?_
    rintro e w7 ⟨rfl, b7⟩
    go_wp2
    go_ret
    exact ⟨rfl, belStep B6.out b7⟩
  | some c =>
    simp only [Option.isSome_some]
    obtain ⟨hl, hk, h16⟩ := whole_some hw
    rw [hl] at h16
    have hs' : s = bs c.txt := by rw [← hl, bs_lB]
    have HT : Hid (partsT (lB s) = c.parts.map bs) := by show _ = _; unfold partsT; rw [hw]
    have HI : Hid (∀ W : World, Below w.heap.size w W → ∀ a : Cnd, a.ok = true → a.txt.length ≤ 16 → Calls Tryd.prog 16 #[.string (bs a.txt)] W fun e w' => e = .returned (.bool true) ∧ Below W.heap.size W w') := fun W hb a ha ha16 => by
      have := iOk_at (bs a.txt) (by rw [bs_size]; omega) ep W (cellLater HE.out hb)
      rwa [lB_bs, whole_of ha ha16] at this
    have r5 := R5.out
    rw [HT.out] at r5
    clear R5 HT HB HE hw hl hln
    subst hs'
    cases c with
    | one b =>
      obtain ⟨g, q, rfl, hgb, hgl, hq, hqm, hc⟩ := rowForm r5 (by simp [Cnd.parts])
      have c0 := hc 0 (bs (Cnd.one b).txt) rfl
      clear hc r5
      simp only [Cnd.parts, List.map_cons, List.map_nil, List.length_cons, List.length_nil] at *
      have hz : (bs (Cnd.one b).txt).size ≤ 16 := by rw [bs_size]; exact h16
      have hap : (⟨#[]⟩ : ByteArray) ++ bs (Cnd.one b).txt = bs (Cnd.one b).txt := bs_append [] _
      generalize bs (Cnd.one b).txt = t at *
      go_wp2_with fail
      refine wp_loop_rounds 2 ?_
      rw [rounds_succ]
      go_wp2_with fail
      rw [rounds_succ]
      go_wp2
      go_ret
      exact ⟨rfl, B5.out⟩
    | fld k d =>
      obtain ⟨g, q, rfl, hgb, hgl, hq, hqm, hc⟩ := rowForm r5 (by simp [Cnd.parts])
      have c0 := hc 0 (bs (Cnd.fld k d).txt) rfl
      clear hc r5
      simp only [Cnd.parts, List.map_cons, List.map_nil, List.length_cons, List.length_nil] at *
      have hz : (bs (Cnd.fld k d).txt).size ≤ 16 := by rw [bs_size]; exact h16
      have hap : (⟨#[]⟩ : ByteArray) ++ bs (Cnd.fld k d).txt = bs (Cnd.fld k d).txt := bs_append [] _
      generalize bs (Cnd.fld k d).txt = t at *
      go_wp2_with fail
      refine wp_loop_rounds 2 ?_
      rw [rounds_succ]
      go_wp2_with fail
      rw [rounds_succ]
      go_wp2
      go_ret
      exact ⟨rfl, B5.out⟩
    | neg a =>
      obtain ⟨g, q, rfl, hgb, hgl, hq, hqm, hc⟩ := rowForm r5 (by simp [Cnd.parts])
      have c0 := hc 0 (bs [33]) rfl
      have c1 := hc 1 (bs a.txt) rfl
      clear hc r5
      simp only [Cnd.parts, List.map_cons, List.map_nil, List.length_cons, List.length_nil] at *
      have h16' : a.txt.length ≤ 16 := by simp [Cnd.txt] at h16; omega
      have HA := Lib.hid (HI.out w5 B5.out a hk h16')
      have hz : (bs (Cnd.neg a).txt).size ≤ 16 := by rw [bs_size]; exact h16
      have hz1 : (bs a.txt).size < (bs (Cnd.neg a).txt).size := by rw [bs_size, bs_size]; simp [Cnd.txt]
      have hz0 : (bs [33]).size ≤ 1 := by simp [bs_size]
      have hap0 : (⟨#[]⟩ : ByteArray) ++ bs [33] = bs [33] := bs_append [] _
      have hap1 : bs [33] ++ bs a.txt = bs (Cnd.neg a).txt := bs_append _ _
      clear HI h16 h16' hk
      generalize bs (Cnd.neg a).txt = s at *
      generalize bs a.txt = t at *
      generalize bs [33] = t0 at *
      go_wp2_with fail
      refine wp_loop_rounds 3 ?_
      rw [rounds_succ]
      go_wp2_with fail
      rw [rounds_succ]
      go_wp2_with fail
      refine HA.out.mono ?_
      rintro e w6 ⟨rfl, b6⟩
      have c1' := cellLater c1 b6
      have B6 := Lib.hid (belStep B5.out b6)
      clear b6 B5 HA c1 c0
      go_wp2_with fail
      rw [rounds_succ]
      go_wp2
      go_ret
      exact ⟨rfl, B6.out⟩
    | two k a b =>
      obtain ⟨g, q, rfl, hgb, hgl, hq, hqm, hc⟩ := rowForm r5 (by simp [Cnd.parts])
      have c0 := hc 0 (bs [k]) rfl
      have c1 := hc 1 (bs a.txt) rfl
      have C2 := Lib.hid (hc 2 (bs b.txt) rfl)
      clear hc r5
      simp only [Cnd.parts, List.map_cons, List.map_nil, List.length_cons, List.length_nil] at *
      simp [Cnd.ok] at hk
      have h16' : a.txt.length ≤ 16 ∧ b.txt.length ≤ 16 := by simp [Cnd.txt] at h16; omega
      have HA := Lib.hid (HI.out w5 B5.out a hk.2.1 h16'.1)
      have HA' : Hid (∀ W : World, Below w.heap.size w W → Calls Tryd.prog 16 #[.string (bs b.txt)] W fun e w' => e = .returned (.bool true) ∧ Below W.heap.size W w') := fun W hb => HI.out W hb b hk.2.2 h16'.2
      have hz : (bs (Cnd.two k a b).txt).size ≤ 16 := by rw [bs_size]; exact h16
      have hz1 : (bs a.txt).size < (bs (Cnd.two k a b).txt).size := by rw [bs_size, bs_size]; simp [Cnd.txt]; omega
      have hz2 : (bs b.txt).size < (bs (Cnd.two k a b).txt).size := by rw [bs_size, bs_size]; simp [Cnd.txt]; omega
      have hz0 : (bs [k]).size ≤ 1 := by simp [bs_size]
      have hap0 : (⟨#[]⟩ : ByteArray) ++ bs [k] = bs [k] := bs_append [] _
      have hap1 : bs [k] ++ bs a.txt = bs (k :: a.txt) := bs_append _ _
      have hap2 : bs (k :: a.txt) ++ bs b.txt = bs (Cnd.two k a b).txt := bs_append _ _
      have hz3 : (bs (k :: a.txt)).size ≤ 17 := by rw [bs_size]; simp; omega
      clear HI h16 h16' hk
      generalize bs (Cnd.two k a b).txt = s at *
      generalize bs (k :: a.txt) = ka at *
      generalize bs a.txt = t at *
      generalize bs b.txt = t' at *
      generalize bs [k] = t0 at *
      go_wp2_with fail
      refine wp_loop_rounds 4 ?_
      rw [rounds_succ]
      go_wp2_with fail
      rw [rounds_succ]
      go_wp2_with fail
      refine HA.out.mono ?_
      rintro e w6 ⟨rfl, b6⟩
      have c1' := cellLater c1 b6
      have c2 := cellLater C2.out b6
      have hgl6 : g < w6.heap.size := by have := b6.size; omega
      have B6 := Lib.hid (belStep B5.out b6)
      clear b6 B5 HA c1 c0 C2
      go_wp2_with fail
      rw [rounds_succ]
      go_wp2_with fail
      refine (HA'.out _ B6.out).mono ?_
      rintro e w7 ⟨rfl, b7⟩
      have c2' := cellLater c2 b7
      have B7 := Lib.hid (belStep B6.out b7)
      clear b7 B6 HA' c2 c1'
      go_wp2_with fail
      rw [rounds_succ]
      go_wp2
      go_ret
      exact ⟨rfl, B7.out⟩

set_option maxRecDepth 100000 in
theorem contract_FnPredParts (H : Type) (enc : TypeId × Value → H) (W : World) (base : Nat) (args : Array Value) (ds gs : List (DataW H)) (before : List MemPlace)
    (hval : ∀ (j : Nat) t v, Tryd.f9.params[j]? = some t → args[j]? = some v → Value.okWide Tryd.prog W .any base t v)
    (hW : DataW.Whole enc Tryd.prog Tryd.f9.params.toList Rows.fnPredPartsSpec.vars false W args.toList ds gs before) (hL : laidMet Tryd.prog [("loop.example/crossbuck/impl.errPred", Rows.laid_loop_example_crossbuck_impl_errPred)] W) :
    Calls Tryd.prog 9 args W fun e W' => ∃ v, e = .returned v ∧ Rows.fnPredPartsSpec.post enc Tryd.prog Tryd.f9 false true false false W args v W' := by
  have hW' := hW
  obtain ⟨p, q, hA0, hV0, rfl, hfz, hnd⟩ := hW
  have hA : DataW.TrodAll enc Tryd.prog W 0 (fun _ => true) true Tryd.f9.params.toList args.toList ds p := hA0
  have hV : DataW.TrodVars enc Tryd.prog W (fun _ => true) ["loop.example/crossbuck/impl.errPred"] gs q := hV0
  rw [Tryd.params9] at hA hval
  obtain ⟨v0, vs0, d0, ds0, p0, q0, hargs, rfl, rfl, h0, r0⟩ := trodAll_cons hA
  obtain ⟨rfl, rfl, rfl⟩ := trodAll_nil r0
  obtain rfl : args = #[v0] := by cases args; simp_all
  obtain ⟨ep, hv⟩ := laidErr hL
  obtain ⟨rfl, rfl⟩ := hV.unique (vars_read1 enc gE gEt Tryd.underlying49 hv trivial _)
  have k0 := h0
  have lt0 : ∀ x ∈ p0, x.block < W.heap.size := by obtain ⟨m, hm⟩ := k0; exact DataW.trod_lt m _ _ _ hm
  obtain ⟨a0, len0, cap0, rfl⟩ := okWide_slice Tryd.underlying35 (hval 0 35 v0 rfl rfl)
  have w0 : BytesIn W W.heap.size a0 len0 cap0 := isRow_of h0
  clear hA0 hV0
  refine (walk_FnPredParts a0 len0 cap0 W w0 ep (varCell hv)).mono fun e W' ⟨he, bel⟩ => ?_
  subst he
  exact ⟨_, rfl, _, _, _, [], _, _, hW', trodAll_mk1 (shut_bool Tryd.underlying4 _), (trodAll_cons_mk (Below.trod laidOut (by kernel_rfl) (of_decide_eq_true (by kernel_rfl)) k0 bel lt0) (trodAll_mk0)), vars_read1 enc gE gEt Tryd.underlying49 (varLater hv bel) trivial _, bel.frame _, fun h => by cases h⟩

noncomputable def low_FnPredParts : Nat := (World.holding Tryd.prog default ⟨#[], #[], []⟩).heap.size
/-- A world for the witness: the settled one, with the error value as the text lays it. -/
noncomputable def laidWorld_FnPredParts (os : Os) : World :=
  { World.holding Tryd.prog os ⟨#[.cells #[.string ⟨#[110, 111, 32, 99, 111, 110, 100, 105, 116, 105, 111, 110]⟩] 150], #[], []⟩ with heap := (World.holding Tryd.prog os ⟨#[.cells #[.string ⟨#[110, 111, 32, 99, 111, 110, 100, 105, 116, 105, 111, 110]⟩] 150], #[], []⟩).heap.modify 0 (fun | .cells _ t frozen => .cells #[.iface 126 (.pointer (some ⟨low_FnPredParts, 0, none⟩))] t frozen | o => o) }

theorem laidMet_FnPredParts (os : Os) : laidMet Tryd.prog Rows.fnPredPartsRow.laid ((laidWorld_FnPredParts os).forCall (fun _ _ => 0) ⟨#[], #[.slice none 0 0], []⟩).memory :=
  laidMet_of_run' 8 (by kernel_rfl) (by kernel_rfl)

set_option maxRecDepth 100000 in
theorem lifted_FnPredParts (os : Os) (started : os.Started) (H : Type) (enc : TypeId × Value → H) (F : Stop.Interp) :
    ReturnsInHanded {} Tryd.checked os 9 .any ((OpenSpec.ofChange Rows.fnPredPartsSpec).preRow enc Tryd.prog Tryd.f9 Rows.fnPredPartsRow.domain false Rows.fnPredPartsRow.laid) (((OpenSpec.ofChange Rows.fnPredPartsSpec).at F).post enc Tryd.prog Tryd.f9 false true false false) := by
  refine returnsInHanded_of_row (C := Tryd.checked) (s := OpenSpec.ofChange Rows.fnPredPartsSpec) own started (by kernel_rfl) Tryd.func9
    (witness_row_at (enc := enc) (C := Tryd.checked) false (laidWorld_FnPredParts os) #[.slice none 0 0] rfl (by kernel_rfl) (by kernel_rfl) (by kernel_rfl)
      (OpenSpec.preRow_of_B rfl 8 (by kernel_rfl) (by kernel_rfl) (laidMet_FnPredParts os))) ?_
  intro W base args ds gs before hval hW _ _ _ hL _ _
  exact contract_FnPredParts H enc W base args ds gs before hval hW hL

theorem said_FnPredParts : Rows.FnPredPartsSaid :=
  OpenClaim.holds_of_cond 9 Tryd.f9 rfl rfl rfl rfl rfl rfl rfl ⟨rfl, rfl, rfl, rfl, rfl⟩ rfl rfl rfl rfl rfl (by kernel_rfl) Tryd.func9 (by kernel_rfl)
    (of_decide_eq_true (by kernel_rfl)) (by unfold Func.isWrapper; first | (rw [if_pos (by decide +kernel)]; kernel_rfl) | (rw [if_neg (by decide +kernel)]; exact ⟨rfl, rfl⟩))
    (fun os started H enc _ F => by rw [OpenClaim.pre_eq_preRow]; exact lifted_FnPredParts os started H enc F)

theorem plain_FnPredParts (f : FuncId) (fn : Func) (hf : Tryd.pinned.checked.prog.funcNamed "loop.example/crossbuck/laws.FnPredParts" = some f) (hfn : Tryd.pinned.checked.prog.funcs[f]? = some fn) :
    true = Tryd.pinned.checked.prog.looks [] ∧ ∀ (j : Nat) t, fn.params[j]? = some t → Tryd.pinned.checked.prog.wantsStandIn t = false := by
  obtain rfl : f = 9 := Option.some.inj ((show Tryd.prog.funcNamed "loop.example/crossbuck/laws.FnPredParts" = some 9 by kernel_rfl).symm.trans hf) |>.symm
  obtain rfl : fn = Tryd.f9 := (Option.some.inj (Tryd.func9.symm.trans hfn)).symm
  refine ⟨by kernel_rfl, fun j t ht => ?_⟩
  rw [Tryd.params9] at ht
  obtain rfl : t = 35 := by simpa using Array.mem_of_getElem? ht
  exact (show Tryd.prog.wantsStandIn 35 = false by kernel_rfl)

theorem proved_FnPredParts : Rows.FnPredPartsCardSaid :=
  Claim7.holds_tied_plain_at .later [] _ _ _ _ said_FnPredParts (fun _ h => by cases h) (by kernel_rfl) (fun _ h => by cases h) fnPredParts_row_tie rfl ⟨rfl, rfl⟩ (by kernel_rfl) rfl plain_FnPredParts (by kernel_rfl)

end Go.Proofs.YtddkpimmcmnogaaDoor
