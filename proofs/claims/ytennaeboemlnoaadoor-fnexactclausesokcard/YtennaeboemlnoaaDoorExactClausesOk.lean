/-
  Proved: ClausesOk answers as its model at every slice of clauses, and writes into no argument; the clauses read on as they did. No condition but the card's own: the program's error value stands as its text lays it.
-/
import Derived.Test.YtennaeboemlnoaaDoorPredCard
import Derived.Test.YtennaeboemlnoaaDoorClaOkI
namespace Go.Proofs.YtennaeboemlnoaaDoor
open Go.ChangeShapes Go.WideShapes Go.ChangeAt Go.RowKit Go.Joins
open Go.ChangeMaps (open_string)
set_option linter.unusedVariables false

set_option maxRecDepth 100000 in
set_option maxHeartbeats 2000000 in
theorem walk_FnExactClausesOk (v : Value) (n : Nat) (f : Nat → ByteArray × Int × Int) (w : World) (hr : RawC w w.heap.size v n f) (hz : ∀ i, i < n → (f i).1.size ≤ maxLen) (ep : Addr) (hE : w.cell? ⟨0, 0, none⟩ = some (errV ep)) :
    Calls Tryd.prog 3 #[v] w fun e w' => e = .returned (.bool true) ∧ Below w.heap.size w w' := by
  have HE : Hid (∀ W, Below w.heap.size w W → W.cell? ⟨0, 0, none⟩ = some (errV ep)) := fun W hb => cellLater hE hb
  have HSZ := Lib.hid (szClauseS_any w v n 1048576 f hr hz (Nat.le_refl _))
  have HW : Hid ((∀ i, i < n → (f i).1.size ≤ 1048576) → ∀ W, Below w.heap.size w W → Cls W W.heap.size v ((List.range n).map (smallC f))) := fun hs W hb => ((hr.below hb (Nat.le_refl _)).mono hb.size).cls hs
  have hl : ((List.range n).map (smallC f)).length = n := by simp
  clear hr hz hE
  generalize (List.range n).map (smallC f) = l at *
  go_enter Tryd.func3, Tryd.ntmps3
  go_wp2_with fail
  refine HSZ.out.mono ?_
  rintro e w1 ⟨rfl | ⟨r, rfl, hr, hn, hsm⟩, b1⟩
  · go_wp2
    go_ret
    exact ⟨rfl, b1⟩
  have hr0 : ¬ ((r : Int) < 0) := by omega
  have HL := Lib.hid (HW.out hsm)
  have B1 := Lib.hid b1
  have HN : Hid (l.length ≤ 1048576) := by show _ ≤ _; omega
  clear hsm b1 HSZ HW hl hn
  go_wp2_with fail
  refine (toClauseS_any _ _ l (HL.out _ B1.out) HN.out).mono ?_
  rintro e w2 ⟨u, rfl, hrow, b2⟩
  have HR2 := Lib.hid hrow
  have B2 := Lib.hid (belStep B1.out b2)
  clear hrow b2 B1
  go_wp2_with fail
  refine (sClausesOk_any _ _ l HR2.out.cls HN.out).mono ?_
  rintro e w3 ⟨rfl, b3⟩
  have B3 := Lib.hid (belStep B2.out b3)
  clear b3 B2 HR2
  go_wp2_with fail
  refine (toClauseS_any _ _ l (HL.out _ B3.out) HN.out).mono ?_
  rintro e w4 ⟨x, rfl, hrow, b4⟩
  have HX4 := Lib.hid hrow
  have B4 := Lib.hid (belStep B3.out b4)
  clear hrow b4 B3
  go_wp2_with fail
  refine (iClausesOk_any _ _ l HX4.out.cls HN.out ep (HE.out _ B4.out)).mono ?_
  rintro e w5 ⟨rfl, b5⟩
  have HX5 := Lib.hid (HX4.out.below b5)
  have B5 := Lib.hid (belStep B4.out b5)
  clear b5 B4 HX4
  generalize clB l = ok
  go_wp2_with fail
  refine (toClauseS_any _ _ l (HL.out _ B5.out) HN.out).mono ?_
  rintro e w6 ⟨y, rfl, hrow, b6⟩
  have HX6 := Lib.hid (HX5.out.below b6)
  have HY6 := Lib.hid hrow
  have B6 := Lib.hid (belStep B5.out b6)
  clear hrow b6 B5 HX5
  go_wp2_with fail
  refine (eqClauseS_same _ _ _ l HX6.out.cls HY6.out.cls HN.out).mono ?_
  rintro e w7 ⟨rfl, b7⟩
  go_wp2
  go_ret
  exact ⟨rfl, belStep B6.out b7⟩

set_option maxRecDepth 100000 in
theorem contract_FnExactClausesOk (H : Type) (enc : TypeId × Value → H) (W : World) (base : Nat) (args : Array Value) (ds gs : List (DataW H)) (before : List MemPlace)
    (hval : ∀ (j : Nat) t v, Tryd.f3.params[j]? = some t → args[j]? = some v → Value.okWide Tryd.prog W .any base t v)
    (hW : DataW.Whole enc Tryd.prog Tryd.f3.params.toList Rows.fnExactClausesOkSpec.vars false W args.toList ds gs before) (hL : laidMet Tryd.prog [("loop.example/crossbuck/impl.errPred", Rows.laid_loop_example_crossbuck_impl_errPred)] W) :
    Calls Tryd.prog 3 args W fun e W' => ∃ v, e = .returned v ∧ Rows.fnExactClausesOkSpec.post enc Tryd.prog Tryd.f3 false true false false W args v W' := by
  have hW' := hW
  obtain ⟨p, q, hA0, hV0, rfl, hfz, hnd⟩ := hW
  have hA : DataW.TrodAll enc Tryd.prog W 0 (fun _ => true) true Tryd.f3.params.toList args.toList ds p := hA0
  have hV : DataW.TrodVars enc Tryd.prog W (fun _ => true) ["loop.example/crossbuck/impl.errPred"] gs q := hV0
  rw [Tryd.params3] at hA hval
  obtain ⟨v0, vs0, d0, ds0, p0, q0, hargs, rfl, rfl, h0, r0⟩ := trodAll_cons hA
  obtain ⟨rfl, rfl, rfl⟩ := trodAll_nil r0
  obtain rfl : args = #[v0] := by cases args; simp_all
  obtain ⟨ep, hv⟩ := laidErr hL
  obtain ⟨rfl, rfl⟩ := hV.unique (vars_read1 enc gE gEt Tryd.underlying87 hv trivial _)
  have k0 := h0
  have lt0 : ∀ x ∈ p0, x.block < W.heap.size := by obtain ⟨m, hm⟩ := k0; exact DataW.trod_lt m _ _ _ hm
  obtain ⟨n0, f0, w0, z0⟩ := clauses_of h0 (okWide_slice Tryd.underlying22 (hval 0 22 v0 rfl rfl))
  clear hA0 hV0
  refine (walk_FnExactClausesOk v0 n0 f0 W w0 z0 ep (varCell hv)).mono fun e W' ⟨he, bel⟩ => ?_
  subst he
  exact ⟨_, rfl, _, _, _, [], _, _, hW', trodAll_mk1 (shut_bool Tryd.underlying4 _), (trodAll_cons_mk (Below.trod laidOut (by kernel_rfl) (of_decide_eq_true (by kernel_rfl)) k0 bel lt0) (trodAll_mk0)), vars_read1 enc gE gEt Tryd.underlying87 (varLater hv bel) trivial _, bel.frame _, fun h => by cases h⟩

noncomputable def low_FnExactClausesOk : Nat := (World.holding Tryd.prog default ⟨#[], #[], []⟩).heap.size
/-- A world for the witness: the settled one, with the error value as the text lays it. -/
noncomputable def laidWorld_FnExactClausesOk (os : Os) : World :=
  { World.holding Tryd.prog os ⟨#[.cells #[.string ⟨#[110, 111, 32, 99, 111, 110, 100, 105, 116, 105, 111, 110]⟩] 253], #[], []⟩ with heap := (World.holding Tryd.prog os ⟨#[.cells #[.string ⟨#[110, 111, 32, 99, 111, 110, 100, 105, 116, 105, 111, 110]⟩] 253], #[], []⟩).heap.modify 0 (fun | .cells _ t frozen => .cells #[.iface 232 (.pointer (some ⟨low_FnExactClausesOk, 0, none⟩))] t frozen | o => o) }

theorem laidMet_FnExactClausesOk (os : Os) : laidMet Tryd.prog Rows.fnExactClausesOkRow.laid ((laidWorld_FnExactClausesOk os).forCall (fun _ _ => 0) ⟨#[], #[.slice none 0 0], []⟩).memory :=
  laidMet_of_run' 8 (by kernel_rfl) (by kernel_rfl)

set_option maxRecDepth 100000 in
theorem lifted_FnExactClausesOk (os : Os) (started : os.Started) (H : Type) (enc : TypeId × Value → H) (F : Stop.Interp) :
    ReturnsInHanded {} Tryd.checked os 3 .any ((OpenSpec.ofChange Rows.fnExactClausesOkSpec).preRow enc Tryd.prog Tryd.f3 Rows.fnExactClausesOkRow.domain false Rows.fnExactClausesOkRow.laid) (((OpenSpec.ofChange Rows.fnExactClausesOkSpec).at F).post enc Tryd.prog Tryd.f3 false true false false) := by
  refine returnsInHanded_of_row (C := Tryd.checked) (s := OpenSpec.ofChange Rows.fnExactClausesOkSpec) own started (by kernel_rfl) Tryd.func3
    (witness_row_at (enc := enc) (C := Tryd.checked) false (laidWorld_FnExactClausesOk os) #[.slice none 0 0] rfl (by kernel_rfl) (by kernel_rfl) (by kernel_rfl)
      (OpenSpec.preRow_of_B rfl 8 (by kernel_rfl) (by kernel_rfl) (laidMet_FnExactClausesOk os))) ?_
  intro W base args ds gs before hval hW _ _ _ hL _ _
  exact contract_FnExactClausesOk H enc W base args ds gs before hval hW hL

theorem said_FnExactClausesOk : Rows.FnExactClausesOkSaid :=
  OpenClaim.holds_of_cond 3 Tryd.f3 rfl rfl rfl rfl rfl rfl rfl ⟨rfl, rfl, rfl, rfl, rfl⟩ rfl rfl rfl rfl rfl (by kernel_rfl) Tryd.func3 (by kernel_rfl)
    (of_decide_eq_true (by kernel_rfl)) (by unfold Func.isWrapper; first | (rw [if_pos (by decide +kernel)]; kernel_rfl) | (rw [if_neg (by decide +kernel)]; exact ⟨rfl, rfl⟩))
    (fun os started H enc _ F => by rw [OpenClaim.pre_eq_preRow]; exact lifted_FnExactClausesOk os started H enc F)

theorem plain_FnExactClausesOk (f : FuncId) (fn : Func) (hf : Tryd.pinned.checked.prog.funcNamed "loop.example/crossbuck/laws.FnExactClausesOk" = some f) (hfn : Tryd.pinned.checked.prog.funcs[f]? = some fn) :
    true = Tryd.pinned.checked.prog.looks [] ∧ ∀ (j : Nat) t, fn.params[j]? = some t → Tryd.pinned.checked.prog.wantsStandIn t = false := by
  obtain rfl : f = 3 := Option.some.inj ((show Tryd.prog.funcNamed "loop.example/crossbuck/laws.FnExactClausesOk" = some 3 by kernel_rfl).symm.trans hf) |>.symm
  obtain rfl : fn = Tryd.f3 := (Option.some.inj (Tryd.func3.symm.trans hfn)).symm
  refine ⟨by kernel_rfl, fun j t ht => ?_⟩
  rw [Tryd.params3] at ht
  obtain rfl : t = 22 := by simpa using Array.mem_of_getElem? ht
  exact (show Tryd.prog.wantsStandIn 22 = false by kernel_rfl)

theorem proved_FnExactClausesOk : Rows.FnExactClausesOkCardSaid :=
  Claim7.holds_tied_plain_at .later [] _ _ _ _ said_FnExactClausesOk (fun _ h => by cases h) (by kernel_rfl) (fun _ h => by cases h) fnExactClausesOk_row_tie rfl ⟨rfl, rfl⟩ (by kernel_rfl) rfl plain_FnExactClausesOk (by kernel_rfl)

end Go.Proofs.YtennaeboemlnoaaDoor
