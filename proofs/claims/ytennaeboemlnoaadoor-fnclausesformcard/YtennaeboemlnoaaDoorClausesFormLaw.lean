/-
  Proved: promise 65 (clauses are of conditions), at every code from which clauses are drawn; the code reads on as it did. No condition but the card's own: the program's error value stands as its text lays it.
-/
import Derived.Test.YtennaeboemlnoaaDoorPredCard
import Derived.Test.YtennaeboemlnoaaDoorOwnB
import Derived.Test.YtennaeboemlnoaaDoorClaCut
namespace Go.Proofs.YtennaeboemlnoaaDoor
open Go.ChangeShapes Go.WideShapes Go.ChangeAt Go.RowKit Go.Joins
set_option linter.unusedVariables false

theorem bad_s : okC ⟨⟨#[115]⟩, 1, 0, by decide⟩ = false := by decide +kernel
theorem bad_five : okC ⟨⟨#[49]⟩, 5, 0, by decide⟩ = false := by decide +kernel

set_option maxRecDepth 100000 in
set_option maxHeartbeats 8000000 in
theorem walk_FnClausesForm (a : Option Addr) (len cap : Nat) (a' : Option Addr) (len' cap' : Nat) (w : World) (hb : BytesIn w w.heap.size a len cap) (hb' : BytesIn w w.heap.size a' len' cap') (ep : Addr) (hE : w.cell? ⟨0, 0, none⟩ = some (errV ep)) :
    Calls Tryd.prog 9 #[.slice a len cap, .slice a' len' cap'] w fun e w' => e = .returned (.bool true) ∧ Below w.heap.size w w' := by
  have HB := Lib.hid hb
  have hm : (len : Int) ≤ maxLen := by have := hb.1; have := hb.2.1; omega
  have hm' : (len' : Int) ≤ maxLen := by have := hb'.1; have := hb'.2.1; omega
  unfold maxLen at hm hm'
  have HE : Hid (∀ W, Below w.heap.size w W → W.cell? ⟨0, 0, none⟩ = some (errV ep)) := fun W hb => cellLater hE hb
  clear hb hb' hE
  by_cases hlen : (1048576 : Int) < (len : Int)
  · go_enter Tryd.func9, Tryd.ntmps9
    go_wp2
    go_ret
    exact ⟨rfl, Below.refl _ _⟩
  have hl1 : decide ((1048576 : Int) < (len : Int)) = false := by simp; omega
  have hl1n : decide ((1048576 : Nat) < len) = false := by simp; omega
  by_cases hlen' : (1048576 : Int) < (len' : Int)
  · go_enter Tryd.func9, Tryd.ntmps9
    go_wp2
    go_ret
    exact ⟨rfl, Below.refl _ _⟩
  have hl2 : decide ((1048576 : Int) < (len' : Int)) = false := by simp; omega
  have hl2n : decide ((1048576 : Nat) < len') = false := by simp; omega
  go_enter Tryd.func9, Tryd.ntmps9
  go_wp2_with fail
  refine (drawClausesOk_any _ _ _ _ HB.out).mono ?_
  rintro e w1 ⟨v, l, rfl, hl, hown, hrow, b1⟩
  have hn : l.length ≤ 1048576 := by omega
  have HL : Hid (∀ W, Below w1.heap.size w1 W → Cls W W.heap.size v l) := fun W hb => (hrow.cls.below hb (Nat.le_refl _)).mono hb.size
  have HE1 : Hid (∀ W, Below w1.heap.size w1 W → W.cell? ⟨0, 0, none⟩ = some (errV ep)) := fun W hb => HE.out W (belStep b1 hb)
  have HI : Hid (∀ u m W, Cls W W.heap.size u m → m.length ≤ 1048576 → Below w1.heap.size w1 W → Calls Tryd.prog 15 #[u] W fun e w' => e = .returned (.bool (clB m)) ∧ Below W.heap.size W w') := fun u m W h hm hb => iClausesOk_any W u m h hm ep (HE1.out W hb)
  have HO : Hid (∀ W, Below w1.heap.size w1 W → Calls Tryd.prog 13 #[v] W fun e w' => e = .returned (.bool (clB l)) ∧ Below W.heap.size W w') := fun W h => sClausesOk_any W v l (HL.out W h) hn
  have HI0 : Hid (∀ W, Below w1.heap.size w1 W → Calls Tryd.prog 15 #[v] W fun e w' => e = .returned (.bool (clB l)) ∧ Below W.heap.size W w') := fun W hW => HI.out v l W (HL.out W hW) hn hW
  have BW : Hid (∀ W, Below w1.heap.size w1 W → Below w.heap.size w W) := fun W hb => belStep b1 hb
  obtain ⟨b, vc, rfl, hbl, hcap, hf0⟩ := hrow.solid hown
  have hvm : vc ≤ maxLen := by
    obtain ⟨_, cap2, hv2, _, hm2, _⟩ := hrow.cls
    injection hv2 with _ _ h3
    rw [h3]; exact hm2
  unfold maxLen at hvm
  have HF : Hid (∀ W, Below w1.heap.size w1 W → ∀ i, i < l.length → Thr W b (0 + i * 3) (clAt l i)) := fun W hb i hi => (hf0 i hi).below hb hbl
  clear hrow b1 HB HE hown hf0
  generalize hN : l.length = n at *
  have HN := Lib.hid hN
  clear hN
  go_wp2_with fail
  refine (HI0.out _ (Below.refl _ _)).mono ?_
  rintro e w2 ⟨rfl, b2⟩
  have B2 := Lib.hid b2
  clear b2 HI0
  go_wp2_with fail
  refine (HO.out _ B2.out).mono ?_
  rintro e w3 ⟨rfl, b3⟩
  have B3 := Lib.hid (belStep B2.out b3)
  clear b3 B2
  cases hok : clB l
  · go_wp2_with fail
    refine (HO.out _ B3.out).mono ?_
    rintro e w4 ⟨rfl, b4⟩
    have B4 := Lib.hid (belStep B3.out b4)
    rw [hok]
    go_wp2
    go_ret
    exact ⟨by simp, BW.out _ B4.out⟩
  have HOKL := Lib.hid hok
  clear hok HO
  obtain ⟨k, hkd, hkn⟩ : ∃ k : Nat, (len' : Int) % ((n : Int) + 1) = (k : Int) ∧ k ≤ n := ⟨len' % (n + 1), by have h := Int.natCast_emod len' (n + 1); rw [show ((n + 1 : Nat) : Int) = (n : Int) + 1 from by omega] at h; exact h.symm, by have := Nat.mod_lt len' (show 0 < n + 1 by omega); omega⟩
  have hkt : (len' : Int).tmod ((n : Int) + 1) = (k : Int) := by rw [Int.tmod_eq_emod_of_nonneg (by omega)]; exact hkd
  have hw1 : IntKind.i64.wrap ((n : Int) + 1) = (n : Int) + 1 := by rw [IntKind.wrap_i64]; omega
  have hkc : k ≤ vc := by omega
  have hkc' : (k : Int) ≤ (vc : Int) := by omega
  have hkn' : (k : Int) ≤ (n : Int) := by omega
  have hnc' : (n : Int) ≤ (vc : Int) := by omega
  have HS1 := Lib.hid (cutTo_runC b 0 n vc k hkc)
  have HS2 := Lib.hid (cutFrom_runC b 0 n vc k (k : Int) rfl hkn hcap)
  have HT1 : Hid ((l.take k).length = k) := by show _ = _; rw [List.length_take, HN.out]; omega
  have HTK : Hid (∀ W, Below w1.heap.size w1 W → ∀ i, i < (l.take k).length → Thr W b (0 + i * 3) (clAt (l.take k) i)) := fun W hW i hi => by
    rw [HT1.out] at hi
    rw [clAt_take hi]
    exact HF.out W hW i (by omega)
  have HK9 : Hid (k ≤ 9) := by show k ≤ 9; omega
  have HCA : Hid (∀ W, Below w1.heap.size w1 W → Calls Tryd.prog 15 #[.slice (some ⟨b, 0, none⟩) k vc] W fun e w' => e = .returned (.bool true) ∧ Below W.heap.size W w') := fun W hW => by
    have h := HI.out _ _ W (Cls.cutTo (HL.out W hW) HN.out hkn) (by rw [HT1.out]; omega) hW
    rwa [clB_take HOKL.out] at h
  obtain ⟨off2, ho2, hs2⟩ := HS2.out
  have HCB : Hid (∀ W, Below w1.heap.size w1 W → Calls Tryd.prog 15 #[.slice (some ⟨b, off2, none⟩) (n - k) (vc - k)] W fun e w' => e = .returned (.bool true) ∧ Below W.heap.size W w') := fun W hW => by
    have h := HI.out _ _ W (Cls.cutFrom (HL.out W hW) HN.out hkn ho2) (by rw [List.length_drop, HN.out]; omega) hW
    rwa [clB_drop HOKL.out] at h
  have HBA : Hid (clB (l.take k ++ [⟨⟨#[115]⟩, 1, 0, by decide⟩]) = false) := clB_bad _ _ bad_s
  have HBB : Hid (clB (l.take k ++ [⟨⟨#[49]⟩, 5, 0, by decide⟩]) = false) := clB_bad _ _ bad_five
  have hs1 := HS1.out
  have hs3 : w1.heap.size ≤ w3.heap.size := B3.out.size
  clear HL HF ho2 HN HS2 hcap hnc' hl hn hkn hbl HOKL
  generalize l.take k = L at *
  have HRe := Lib.hid (emptyRowC w3 w3.heap.size (Nat.le_refl _))
  have HBe := Lib.hid (below_alloc1 w3 (.cells #[] 49))
  have HR4 : Hid True := trivial
  go_wp2_with (first
    | (at_builtin; refine app_cla rfl _ _ rfl w5.heap.size _ L rfl (HR6.out.below (below_alloc1 _ _)) _ 0 1 [⟨⟨#[49]⟩, 5, 0, by decide⟩] rfl (oneC (newThr _ ⟨⟨#[49]⟩, 5, 0, by decide⟩)) (by have h1 := HT1.out; have h2 := HK9.out; simp; omega) (by have := HB6.out.size; simp; omega) ?_; rintro v4 w7 hrow7 hg7 -; have HR7 := Lib.hid hrow7; have HB7 := Lib.hid ((HB6.out.trans ((below_alloc1 w6 (.cells #[.string ⟨#[49]⟩, .int .i64 5, .int .i64 0] 49)).mono HB6.out.size)).trans ((HR6.out.below (below_alloc1 w6 (.cells #[.string ⟨#[49]⟩, .int .i64 5, .int .i64 0] 49))).belRow hg7 (by have := HB6.out.size; simp; omega))); clear hrow7 hg7 HR6 HB6)
    | (at_builtin; refine app_cla rfl _ _ rfl w5.heap.size _ [] rfl HRe5.out b 0 vc L (by rw [HT1.out]; rfl) (HTK.out _ (belStep B5.out HBe5.out)) (by have h1 := HT1.out; have h2 := HK9.out; simp; omega) HBe5.out.size ?_; rintro v3 w6 hrow6 hg6 -; have HR6 : Hid (ClaRow w6 w5.heap.size v3 L) := hrow6; have HB6 := Lib.hid (HBe5.out.trans (HRe5.out.belRow hg6 HBe5.out.size)); clear hrow6 hg6 HRe5 HBe5)
    | (at_builtin; refine app_cla rfl _ _ rfl w3.heap.size _ L rfl (HR4.out.below (below_alloc1 _ _)) _ 0 1 [⟨⟨#[115]⟩, 1, 0, by decide⟩] rfl (oneC (newThr _ ⟨⟨#[115]⟩, 1, 0, by decide⟩)) (by have h1 := HT1.out; have h2 := HK9.out; simp; omega) (by have := HB4.out.size; simp; omega) ?_; rintro v2 w5 hrow5 hg5 -; have HR5 := Lib.hid hrow5; have HB5 := Lib.hid ((HB4.out.trans ((below_alloc1 w4 (.cells #[.string ⟨#[115]⟩, .int .i64 1, .int .i64 0] 49)).mono HB4.out.size)).trans ((HR4.out.below (below_alloc1 w4 (.cells #[.string ⟨#[115]⟩, .int .i64 1, .int .i64 0] 49))).belRow hg5 (by have := HB4.out.size; simp; omega))); have B5 := Lib.hid (belStep B3.out HB5.out); have HRe5 := Lib.hid (emptyRowC w5 w5.heap.size (Nat.le_refl _)); have HBe5 := Lib.hid (below_alloc1 w5 (.cells #[] 49)); clear hrow5 hg5 HR4 HB4)
    | (at_builtin; refine app_cla rfl _ _ rfl w3.heap.size _ [] rfl HRe.out b 0 vc L (by rw [HT1.out]; rfl) (HTK.out _ (belStep B3.out HBe.out)) (by have h1 := HT1.out; have h2 := HK9.out; simp; omega) HBe.out.size ?_; rintro v1 w4 hrow4 hg4 -; clear HR4; have HR4 : Hid (ClaRow w4 w3.heap.size v1 L) := hrow4; have HB4 := Lib.hid (HBe.out.trans (HRe.out.belRow hg4 HBe.out.size)); clear hrow4 hg4 HRe HBe)
    | fail)
  have B7 := Lib.hid (belStep B5.out HB7.out)
  have HR57 := Lib.hid (HR5.out.below HB7.out)
  refine (HCA.out _ B7.out).mono ?_
  rintro e w8 ⟨rfl, b8⟩
  have B8 := Lib.hid (belStep B7.out b8)
  have HA8 := Lib.hid (HR57.out.below b8)
  have HB8 := Lib.hid (HR7.out.below b8)
  clear b8 B7 HR57 HR7 HCA
  go_wp2_with fail
  refine (HCB.out _ B8.out).mono ?_
  rintro e w9 ⟨rfl, b9⟩
  have B9 := Lib.hid (belStep B8.out b9)
  have HA9 := Lib.hid (HA8.out.below b9)
  have HB9 := Lib.hid (HB8.out.below b9)
  clear b9 B8 HA8 HB8 HCB
  have HCX := Lib.hid (HI.out _ _ w9 HA9.out.cls (by have h1 := HT1.out; have h2 := HK9.out; simp; omega) B9.out)
  rw [HBA.out] at HCX
  go_wp2_with fail
  refine HCX.out.mono ?_
  rintro e w10 ⟨rfl, b10⟩
  have B10 := Lib.hid (belStep B9.out b10)
  have HB10 := Lib.hid (HB9.out.below b10)
  clear b10 HCX HA9 HB9 B9
  have HCY := Lib.hid (HI.out _ _ w10 HB10.out.cls (by have h1 := HT1.out; have h2 := HK9.out; simp; omega) B10.out)
  rw [HBB.out] at HCY
  go_wp2_with fail
  refine HCY.out.mono ?_
  rintro e w11 ⟨rfl, b11⟩
  go_wp2
  go_ret
  exact ⟨by first | rfl | (simp; done), BW.out _ (belStep B10.out b11)⟩

set_option maxRecDepth 100000 in
theorem contract_FnClausesForm (H : Type) (enc : TypeId × Value → H) (W : World) (base : Nat) (args : Array Value) (ds gs : List (DataW H)) (before : List MemPlace)
    (hval : ∀ (j : Nat) t v, Tryd.f9.params[j]? = some t → args[j]? = some v → Value.okWide Tryd.prog W .any base t v)
    (hW : DataW.Whole enc Tryd.prog Tryd.f9.params.toList Rows.fnClausesFormSpec.vars false W args.toList ds gs before) (hL : laidMet Tryd.prog [("loop.example/crossbuck/impl.errPred", Rows.laid_loop_example_crossbuck_impl_errPred)] W) :
    Calls Tryd.prog 9 args W fun e W' => ∃ v, e = .returned v ∧ Rows.fnClausesFormSpec.post enc Tryd.prog Tryd.f9 false true false false W args v W' := by
  have hW' := hW
  obtain ⟨p, q, hA0, hV0, rfl, hfz, hnd⟩ := hW
  have hA : DataW.TrodAll enc Tryd.prog W 0 (fun _ => true) true Tryd.f9.params.toList args.toList ds p := hA0
  have hV : DataW.TrodVars enc Tryd.prog W (fun _ => true) ["loop.example/crossbuck/impl.errPred"] gs q := hV0
  rw [Tryd.params9] at hA hval
  obtain ⟨v0, vs0, d0, ds0, p0, q0, hargs, rfl, rfl, h0, r0⟩ := trodAll_cons hA
  obtain ⟨v1, vs1, d1, ds1, p1, q1, rfl, rfl, rfl, h1, r1⟩ := trodAll_cons r0
  obtain ⟨rfl, rfl, rfl⟩ := trodAll_nil r1
  obtain rfl : args = #[v0, v1] := by cases args; simp_all
  obtain ⟨ep, hv⟩ := laidErr hL
  obtain ⟨rfl, rfl⟩ := hV.unique (vars_read1 enc gE gEt Tryd.underlying87 hv trivial _)
  have k0 := h0
  have lt0 : ∀ x ∈ p0, x.block < W.heap.size := by obtain ⟨m, hm⟩ := k0; exact DataW.trod_lt m _ _ _ hm
  have k1 := h1
  have lt1 : ∀ x ∈ p1, x.block < W.heap.size := by obtain ⟨m, hm⟩ := k1; exact DataW.trod_lt m _ _ _ hm
  obtain ⟨a0, len0, cap0, rfl⟩ := okWide_slice Tryd.underlying43 (hval 0 43 v0 rfl rfl)
  have w0 : BytesIn W W.heap.size a0 len0 cap0 := isRow_of h0
  obtain ⟨a1, len1, cap1, rfl⟩ := okWide_slice Tryd.underlying43 (hval 1 43 v1 rfl rfl)
  have w1 : BytesIn W W.heap.size a1 len1 cap1 := isRow_of h1
  clear hA0 hV0
  refine (walk_FnClausesForm a0 len0 cap0 a1 len1 cap1 W w0 w1 ep (varCell hv)).mono fun e W' ⟨he, bel⟩ => ?_
  subst he
  exact ⟨_, rfl, _, _, _, [], _, _, hW', trodAll_mk1 (shut_bool Tryd.underlying4 _), (trodAll_cons_mk (Below.trod laidOut (by kernel_rfl) (of_decide_eq_true (by kernel_rfl)) k0 bel lt0) (trodAll_cons_mk (Below.trod laidOut (by kernel_rfl) (of_decide_eq_true (by kernel_rfl)) k1 bel lt1) (trodAll_mk0))), vars_read1 enc gE gEt Tryd.underlying87 (varLater hv bel) trivial _, bel.frame _, fun h => by cases h⟩

noncomputable def low_FnClausesForm : Nat := (World.holding Tryd.prog default ⟨#[], #[], []⟩).heap.size
/-- A world for the witness: the settled one, with the error value as the text lays it. -/
noncomputable def laidWorld_FnClausesForm (os : Os) : World :=
  { World.holding Tryd.prog os ⟨#[.cells #[.string ⟨#[110, 111, 32, 99, 111, 110, 100, 105, 116, 105, 111, 110]⟩] 253], #[], []⟩ with heap := (World.holding Tryd.prog os ⟨#[.cells #[.string ⟨#[110, 111, 32, 99, 111, 110, 100, 105, 116, 105, 111, 110]⟩] 253], #[], []⟩).heap.modify 0 (fun | .cells _ t frozen => .cells #[.iface 232 (.pointer (some ⟨low_FnClausesForm, 0, none⟩))] t frozen | o => o) }

theorem laidMet_FnClausesForm (os : Os) : laidMet Tryd.prog Rows.fnClausesFormRow.laid ((laidWorld_FnClausesForm os).forCall (fun _ _ => 0) ⟨#[], #[.slice none 0 0, .slice none 0 0], []⟩).memory :=
  laidMet_of_run' 8 (by kernel_rfl) (by kernel_rfl)

set_option maxRecDepth 100000 in
theorem lifted_FnClausesForm (os : Os) (started : os.Started) (H : Type) (enc : TypeId × Value → H) (F : Stop.Interp) :
    ReturnsInHanded {} Tryd.checked os 9 .any ((OpenSpec.ofChange Rows.fnClausesFormSpec).preRow enc Tryd.prog Tryd.f9 Rows.fnClausesFormRow.domain false Rows.fnClausesFormRow.laid) (((OpenSpec.ofChange Rows.fnClausesFormSpec).at F).post enc Tryd.prog Tryd.f9 false true false false) := by
  refine returnsInHanded_of_row (C := Tryd.checked) (s := OpenSpec.ofChange Rows.fnClausesFormSpec) own started (by kernel_rfl) Tryd.func9
    (witness_row_at (enc := enc) (C := Tryd.checked) false (laidWorld_FnClausesForm os) #[.slice none 0 0, .slice none 0 0] rfl (by kernel_rfl) (by kernel_rfl) (by kernel_rfl)
      (OpenSpec.preRow_of_B rfl 8 (by kernel_rfl) (by kernel_rfl) (laidMet_FnClausesForm os))) ?_
  intro W base args ds gs before hval hW _ _ _ hL _ _
  exact contract_FnClausesForm H enc W base args ds gs before hval hW hL

theorem said_FnClausesForm : Rows.FnClausesFormSaid :=
  OpenClaim.holds_of_cond 9 Tryd.f9 rfl rfl rfl rfl rfl rfl rfl ⟨rfl, rfl, rfl, rfl, rfl⟩ rfl rfl rfl rfl rfl (by kernel_rfl) Tryd.func9 (by kernel_rfl)
    (of_decide_eq_true (by kernel_rfl)) (by unfold Func.isWrapper; first | (rw [if_pos (by decide +kernel)]; kernel_rfl) | (rw [if_neg (by decide +kernel)]; exact ⟨rfl, rfl⟩))
    (fun os started H enc _ F => by rw [OpenClaim.pre_eq_preRow]; exact lifted_FnClausesForm os started H enc F)

theorem plain_FnClausesForm (f : FuncId) (fn : Func) (hf : Tryd.pinned.checked.prog.funcNamed "loop.example/crossbuck/laws.FnClausesForm" = some f) (hfn : Tryd.pinned.checked.prog.funcs[f]? = some fn) :
    true = Tryd.pinned.checked.prog.looks [] ∧ ∀ (j : Nat) t, fn.params[j]? = some t → Tryd.pinned.checked.prog.wantsStandIn t = false := by
  obtain rfl : f = 9 := Option.some.inj ((show Tryd.prog.funcNamed "loop.example/crossbuck/laws.FnClausesForm" = some 9 by kernel_rfl).symm.trans hf) |>.symm
  obtain rfl : fn = Tryd.f9 := (Option.some.inj (Tryd.func9.symm.trans hfn)).symm
  refine ⟨by kernel_rfl, fun j t ht => ?_⟩
  rw [Tryd.params9] at ht
  obtain rfl : t = 43 := by simpa using Array.mem_of_getElem? ht
  exact (show Tryd.prog.wantsStandIn 43 = false by kernel_rfl)

theorem proved_FnClausesForm : Rows.FnClausesFormCardSaid :=
  Claim7.holds_tied_plain_at .later [] _ _ _ _ said_FnClausesForm (fun _ h => by cases h) (by kernel_rfl) (fun _ h => by cases h) fnClausesForm_row_tie rfl ⟨rfl, rfl⟩ (by kernel_rfl) rfl plain_FnClausesForm (by kernel_rfl)

end Go.Proofs.YtennaeboemlnoaaDoor
