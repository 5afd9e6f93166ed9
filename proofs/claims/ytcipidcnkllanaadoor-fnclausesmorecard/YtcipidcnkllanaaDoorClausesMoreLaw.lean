/-
  Proved: promise 64 (a clause behind all does what none did), at every code from which clauses and a head are drawn; the code reads on as it did. No condition but the card's own: the program's error value stands as its text lays it.
-/
import Derived.Test.YtcipidcnkllanaaDoorPredCard
import Derived.Test.YtcipidcnkllanaaDoorOwnB
import Derived.Test.YtcipidcnkllanaaDoorMoreW
namespace Go.Proofs.YtcipidcnkllanaaDoor
open Go.ChangeShapes Go.WideShapes Go.ChangeAt Go.RowKit Go.Joins
set_option linter.unusedVariables false

set_option maxRecDepth 100000 in
theorem contract_FnClausesMore (H : Type) (enc : TypeId × Value → H) (W : World) (base : Nat) (args : Array Value) (ds gs : List (DataW H)) (before : List MemPlace)
    (hval : ∀ (j : Nat) t v, Tryd.f3.params[j]? = some t → args[j]? = some v → Value.okWide Tryd.prog W .any base t v)
    (hW : DataW.Whole enc Tryd.prog Tryd.f3.params.toList Rows.fnClausesMoreSpec.vars false W args.toList ds gs before) (hL : laidMet Tryd.prog [("loop.example/crossbuck/impl.errPred", Rows.laid_loop_example_crossbuck_impl_errPred)] W) :
    Calls Tryd.prog 3 args W fun e W' => ∃ v, e = .returned v ∧ Rows.fnClausesMoreSpec.post enc Tryd.prog Tryd.f3 false true false false W args v W' := by
  have hW' := hW
  obtain ⟨p, q, hA0, hV0, rfl, hfz, hnd⟩ := hW
  have hA : DataW.TrodAll enc Tryd.prog W 0 (fun _ => true) true Tryd.f3.params.toList args.toList ds p := hA0
  have hV : DataW.TrodVars enc Tryd.prog W (fun _ => true) ["loop.example/crossbuck/impl.errPred"] gs q := hV0
  rw [Tryd.params3] at hA hval
  obtain ⟨v0, vs0, d0, ds0, p0, q0, hargs, rfl, rfl, h0, r0⟩ := trodAll_cons hA
  obtain ⟨v1, vs1, d1, ds1, p1, q1, rfl, rfl, rfl, h1, r1⟩ := trodAll_cons r0
  obtain ⟨rfl, rfl, rfl⟩ := trodAll_nil r1
  obtain rfl : args = #[v0, v1] := by cases args; simp_all
  obtain ⟨ep, hv⟩ := laidErr hL
  obtain ⟨rfl, rfl⟩ := hV.unique (vars_read1 enc gE gEt Tryd.underlying56 hv trivial _)
  have k0 := h0
  have lt0 : ∀ x ∈ p0, x.block < W.heap.size := by obtain ⟨m, hm⟩ := k0; exact DataW.trod_lt m _ _ _ hm
  have k1 := h1
  have lt1 : ∀ x ∈ p1, x.block < W.heap.size := by obtain ⟨m, hm⟩ := k1; exact DataW.trod_lt m _ _ _ hm
  obtain ⟨a0, len0, cap0, rfl⟩ := okWide_slice Tryd.underlying22 (hval 0 22 v0 rfl rfl)
  have w0 : BytesIn W W.heap.size a0 len0 cap0 := isRow_of h0
  obtain ⟨a1, len1, cap1, rfl⟩ := okWide_slice Tryd.underlying22 (hval 1 22 v1 rfl rfl)
  have w1 : BytesIn W W.heap.size a1 len1 cap1 := isRow_of h1
  clear hA0 hV0
  refine (walk_FnClausesMore a0 len0 cap0 a1 len1 cap1 W w0 w1 ep (varCell hv)).mono fun e W' ⟨he, bel⟩ => ?_
  subst he
  exact ⟨_, rfl, _, _, _, [], _, _, hW', trodAll_mk1 (shut_bool Tryd.underlying4 _), (trodAll_cons_mk (Below.trod laidOut (by kernel_rfl) (of_decide_eq_true (by kernel_rfl)) k0 bel lt0) (trodAll_cons_mk (Below.trod laidOut (by kernel_rfl) (of_decide_eq_true (by kernel_rfl)) k1 bel lt1) (trodAll_mk0))), vars_read1 enc gE gEt Tryd.underlying56 (varLater hv bel) trivial _, bel.frame _, fun h => by cases h⟩

noncomputable def low_FnClausesMore : Nat := (World.holding Tryd.prog default ⟨#[], #[], []⟩).heap.size
/-- A world for the witness: the settled one, with the error value as the text lays it. -/
noncomputable def laidWorld_FnClausesMore (os : Os) : World :=
  { World.holding Tryd.prog os ⟨#[.cells #[.string ⟨#[110, 111, 32, 99, 111, 110, 100, 105, 116, 105, 111, 110]⟩] 128], #[], []⟩ with heap := (World.holding Tryd.prog os ⟨#[.cells #[.string ⟨#[110, 111, 32, 99, 111, 110, 100, 105, 116, 105, 111, 110]⟩] 128], #[], []⟩).heap.modify 0 (fun | .cells _ t frozen => .cells #[.iface 103 (.pointer (some ⟨low_FnClausesMore, 0, none⟩))] t frozen | o => o) }

theorem laidMet_FnClausesMore (os : Os) : laidMet Tryd.prog Rows.fnClausesMoreRow.laid ((laidWorld_FnClausesMore os).forCall (fun _ _ => 0) ⟨#[], #[.slice none 0 0, .slice none 0 0], []⟩).memory :=
  laidMet_of_run' 8 (by kernel_rfl) (by kernel_rfl)

set_option maxRecDepth 100000 in
theorem lifted_FnClausesMore (os : Os) (started : os.Started) (H : Type) (enc : TypeId × Value → H) (F : Stop.Interp) :
    ReturnsInHanded {} Tryd.checked os 3 .any ((OpenSpec.ofChange Rows.fnClausesMoreSpec).preRow enc Tryd.prog Tryd.f3 Rows.fnClausesMoreRow.domain false Rows.fnClausesMoreRow.laid) (((OpenSpec.ofChange Rows.fnClausesMoreSpec).at F).post enc Tryd.prog Tryd.f3 false true false false) := by
  refine returnsInHanded_of_row (C := Tryd.checked) (s := OpenSpec.ofChange Rows.fnClausesMoreSpec) own started (by kernel_rfl) Tryd.func3
    (witness_row_at (enc := enc) (C := Tryd.checked) false (laidWorld_FnClausesMore os) #[.slice none 0 0, .slice none 0 0] rfl (by kernel_rfl) (by kernel_rfl) (by kernel_rfl)
      (OpenSpec.preRow_of_B rfl 8 (by kernel_rfl) (by kernel_rfl) (laidMet_FnClausesMore os))) ?_
  intro W base args ds gs before hval hW _ _ _ hL _ _
  exact contract_FnClausesMore H enc W base args ds gs before hval hW hL

theorem said_FnClausesMore : Rows.FnClausesMoreSaid :=
  OpenClaim.holds_of_cond 3 Tryd.f3 rfl rfl rfl rfl rfl rfl rfl ⟨rfl, rfl, rfl, rfl, rfl⟩ rfl rfl rfl rfl rfl (by kernel_rfl) Tryd.func3 (by kernel_rfl)
    (of_decide_eq_true (by kernel_rfl)) (by unfold Func.isWrapper; first | (rw [if_pos (by decide +kernel)]; kernel_rfl) | (rw [if_neg (by decide +kernel)]; exact ⟨rfl, rfl⟩))
    (fun os started H enc _ F => by rw [OpenClaim.pre_eq_preRow]; exact lifted_FnClausesMore os started H enc F)

theorem plain_FnClausesMore (f : FuncId) (fn : Func) (hf : Tryd.pinned.checked.prog.funcNamed "loop.example/crossbuck/laws.FnClausesMore" = some f) (hfn : Tryd.pinned.checked.prog.funcs[f]? = some fn) :
    true = Tryd.pinned.checked.prog.looks [] ∧ ∀ (j : Nat) t, fn.params[j]? = some t → Tryd.pinned.checked.prog.wantsStandIn t = false := by
  obtain rfl : f = 3 := Option.some.inj ((show Tryd.prog.funcNamed "loop.example/crossbuck/laws.FnClausesMore" = some 3 by kernel_rfl).symm.trans hf) |>.symm
  obtain rfl : fn = Tryd.f3 := (Option.some.inj (Tryd.func3.symm.trans hfn)).symm
  refine ⟨by kernel_rfl, fun j t ht => ?_⟩
  rw [Tryd.params3] at ht
  obtain rfl : t = 22 := by simpa using Array.mem_of_getElem? ht
  exact (show Tryd.prog.wantsStandIn 22 = false by kernel_rfl)

theorem proved_FnClausesMore : Rows.FnClausesMoreCardSaid :=
  Claim7.holds_tied_plain_at .later [] _ _ _ _ said_FnClausesMore (fun _ h => by cases h) (by kernel_rfl) (fun _ h => by cases h) fnClausesMore_row_tie rfl ⟨rfl, rfl⟩ (by kernel_rfl) rfl plain_FnClausesMore (by kernel_rfl)

end Go.Proofs.YtcipidcnkllanaaDoor
