/-
  Proved: at every text and every head, whatever its fields, the program's PredHas answers as the model's does, and the arguments read on as they did. No condition but the card's own: the program's error value stands as its text lays it.
-/
import Derived.Test.YtddkpimmcmnogaaDoorPredCard
import Derived.Test.YtddkpimmcmnogaaDoorPredHasAll
namespace Go.Proofs.YtddkpimmcmnogaaDoor
open Go.ChangeShapes Go.WideShapes Go.ChangeAt Go.RowKit Go.Joins
open Go.ChangeMaps (open_string)
set_option linter.unusedVariables false

set_option maxHeartbeats 1000000 in
theorem walk_FnExactPredHas (s : ByteArray) (a b c : Int) (w : World) (hs : s.size ≤ maxLen) (wa : (Lit.int .i64 a).wf = true) (wb : (Lit.int .i64 b).wf = true) (wc : (Lit.int .i64 c).wf = true) (ep : Addr) (hE : w.cell? ⟨0, 0, none⟩ = some (errV ep)) :
    Calls Tryd.prog 5 #[.string s, .agg #[.int .i64 a, .int .i64 b, .int .i64 c]] w fun e w' => e = .returned (.bool true) ∧ Below w.heap.size w w' := by
  clear wa wb wc
  unfold maxLen at hs
  have HE := Lib.hid hE
  clear hE
  by_cases hlen : (1048576 : Int) < (s.size : Int)
  · go_enter Tryd.func5, Tryd.ntmps5
    go_wp2
    go_ret
    exact ⟨rfl, below_alloc1 _ _⟩
  have hl : s.data.toList.length ≤ 1048576 := by
    have : s.data.toList.length = s.size := Array.length_toList
    omega
  have HS : Hid (∀ W : World, Calls Tryd.prog 22 #[.string s, .agg #[.int .i64 a, .int .i64 b, .int .i64 c]] W fun e w' => e = .returned (.bool (hasL s.data.toList a b c)) ∧ Below W.heap.size W w') := fun W => by
    have := sPredHas_any s.data.toList hl a b c W
    rwa [bs_list] at this
  have HI : Hid (∀ W : World, Below w.heap.size w W → Calls Tryd.prog 24 #[.string s, .agg #[.int .i64 a, .int .i64 b, .int .i64 c]] W fun e w' => e = .returned (.bool (hasL s.data.toList a b c)) ∧ Below W.heap.size W w') := fun W hb => by
    have := iPredHas_any s.data.toList hl a b c ep W (cellLater HE.out hb)
    rwa [bs_list] at this
  generalize hasL s.data.toList a b c = k at *
  clear hl
  go_enter Tryd.func5, Tryd.ntmps5
  go_wp2_with fail
  refine (toHead_any _ _ _ _).mono ?_
  rintro e w1 ⟨rfl, b1⟩
  have c1 := belCell b1
  have s1 := b1.size
  simp at s1
  have z1 : w.heap.size < w1.heap.size := by omega
  go_wp2_with fail
  refine (HS.out _).mono ?_
  rintro e w2 ⟨rfl, b2⟩
  have c2 := belCell b2
  have s2 := b2.size
  have z2 : w.heap.size < w2.heap.size := by omega
  go_wp2_with fail
  refine (toHead_any _ _ _ _).mono ?_
  rintro e w3 ⟨rfl, b3⟩
  have s3 := b3.size
  have B3 : Hid (Below w.heap.size w w3) := (below_alloc1 _ _).trans ((belStep b1 (belStep b2 b3)).mono (by simp))
  go_wp2_with fail
  refine (HI.out _ B3.out).mono ?_
  rintro e w4 ⟨rfl, b4⟩
  go_wp2
  go_ret
  exact ⟨rfl, belStep B3.out b4⟩

set_option maxRecDepth 100000 in
theorem contract_FnExactPredHas (H : Type) (enc : TypeId × Value → H) (W : World) (base : Nat) (args : Array Value) (ds gs : List (DataW H)) (before : List MemPlace)
    (hval : ∀ (j : Nat) t v, Tryd.f5.params[j]? = some t → args[j]? = some v → Value.okWide Tryd.prog W .any base t v)
    (hW : DataW.Whole enc Tryd.prog Tryd.f5.params.toList Rows.fnExactPredHasSpec.vars false W args.toList ds gs before) (hL : laidMet Tryd.prog [("loop.example/crossbuck/impl.errPred", Rows.laid_loop_example_crossbuck_impl_errPred)] W) :
    Calls Tryd.prog 5 args W fun e W' => ∃ v, e = .returned v ∧ Rows.fnExactPredHasSpec.post enc Tryd.prog Tryd.f5 false true false false W args v W' := by
  have hW' := hW
  obtain ⟨p, q, hA0, hV0, rfl, hfz, hnd⟩ := hW
  have hA : DataW.TrodAll enc Tryd.prog W 0 (fun _ => true) true Tryd.f5.params.toList args.toList ds p := hA0
  have hV : DataW.TrodVars enc Tryd.prog W (fun _ => true) ["loop.example/crossbuck/impl.errPred"] gs q := hV0
  rw [Tryd.params5] at hA hval
  obtain ⟨v0, vs0, d0, ds0, p0, q0, hargs, rfl, rfl, h0, r0⟩ := trodAll_cons hA
  obtain ⟨v1, vs1, d1, ds1, p1, q1, rfl, rfl, rfl, h1, r1⟩ := trodAll_cons r0
  obtain ⟨rfl, rfl, rfl⟩ := trodAll_nil r1
  obtain rfl : args = #[v0, v1] := by cases args; simp_all
  obtain ⟨ep, hv⟩ := laidErr hL
  obtain ⟨rfl, rfl⟩ := hV.unique (vars_read1 enc gE gEt Tryd.underlying49 hv trivial _)
  have k0 := h0
  have lt0 : ∀ x ∈ p0, x.block < W.heap.size := by obtain ⟨m, hm⟩ := k0; exact DataW.trod_lt m _ _ _ hm
  have k1 := h1
  have lt1 : ∀ x ∈ p1, x.block < W.heap.size := by obtain ⟨m, hm⟩ := k1; exact DataW.trod_lt m _ _ _ hm
  obtain ⟨s0, rfl, -, -, w0⟩ := open_string Tryd.underlying9 (hval 0 9 v0 rfl rfl) h0
  obtain ⟨x1, y1, z1, ya1, yb1, yc1, m1, rfl, -, -, ha1, hb1, hc1⟩ := open_agg3 Tryd.underlying28 (by kernel_rfl) (show Tryd.prog.cellsOf 28 = 3 by kernel_rfl) (hval 1 28 v1 rfl rfl) h1
  obtain ⟨a1, ea1, -, wa1⟩ := DataW.trod_int Tryd.underlying3 ha1
  obtain ⟨b1, eb1, -, wb1⟩ := DataW.trod_int Tryd.underlying3 hb1
  obtain ⟨c1, ec1, -, wc1⟩ := DataW.trod_int Tryd.underlying3 hc1
  simp at ea1 eb1 ec1
  subst ea1 eb1 ec1
  clear hA0 hV0
  refine (walk_FnExactPredHas s0 a1 b1 c1 W w0 wa1 wb1 wc1 ep (varCell hv)).mono fun e W' ⟨he, bel⟩ => ?_
  subst he
  exact ⟨_, rfl, _, _, _, [], _, _, hW', trodAll_mk1 (shut_bool Tryd.underlying4 _), (trodAll_cons_mk (Below.trod laidOut (by kernel_rfl) (of_decide_eq_true (by kernel_rfl)) k0 bel lt0) (trodAll_cons_mk (Below.trod laidOut (by kernel_rfl) (of_decide_eq_true (by kernel_rfl)) k1 bel lt1) (trodAll_mk0))), vars_read1 enc gE gEt Tryd.underlying49 (varLater hv bel) trivial _, bel.frame _, fun h => by cases h⟩

noncomputable def low_FnExactPredHas : Nat := (World.holding Tryd.prog default ⟨#[], #[], []⟩).heap.size
/-- A world for the witness: the settled one, with the error value as the text lays it. -/
noncomputable def laidWorld_FnExactPredHas (os : Os) : World :=
  { World.holding Tryd.prog os ⟨#[.cells #[.string ⟨#[110, 111, 32, 99, 111, 110, 100, 105, 116, 105, 111, 110]⟩] 150], #[], []⟩ with heap := (World.holding Tryd.prog os ⟨#[.cells #[.string ⟨#[110, 111, 32, 99, 111, 110, 100, 105, 116, 105, 111, 110]⟩] 150], #[], []⟩).heap.modify 0 (fun | .cells _ t frozen => .cells #[.iface 126 (.pointer (some ⟨low_FnExactPredHas, 0, none⟩))] t frozen | o => o) }

theorem laidMet_FnExactPredHas (os : Os) : laidMet Tryd.prog Rows.fnExactPredHasRow.laid ((laidWorld_FnExactPredHas os).forCall (fun _ _ => 0) ⟨#[], #[.string ByteArray.empty, .agg #[.int .i64 0, .int .i64 0, .int .i64 0]], []⟩).memory :=
  laidMet_of_run' 8 (by kernel_rfl) (by kernel_rfl)

set_option maxRecDepth 100000 in
theorem lifted_FnExactPredHas (os : Os) (started : os.Started) (H : Type) (enc : TypeId × Value → H) (F : Stop.Interp) :
    ReturnsInHanded {} Tryd.checked os 5 .any ((OpenSpec.ofChange Rows.fnExactPredHasSpec).preRow enc Tryd.prog Tryd.f5 Rows.fnExactPredHasRow.domain false Rows.fnExactPredHasRow.laid) (((OpenSpec.ofChange Rows.fnExactPredHasSpec).at F).post enc Tryd.prog Tryd.f5 false true false false) := by
  refine returnsInHanded_of_row (C := Tryd.checked) (s := OpenSpec.ofChange Rows.fnExactPredHasSpec) own started (by kernel_rfl) Tryd.func5
    (witness_row_at (enc := enc) (C := Tryd.checked) false (laidWorld_FnExactPredHas os) #[.string ByteArray.empty, .agg #[.int .i64 0, .int .i64 0, .int .i64 0]] rfl (by kernel_rfl) (by kernel_rfl) (by kernel_rfl)
      (OpenSpec.preRow_of_B rfl 8 (by kernel_rfl) (by kernel_rfl) (laidMet_FnExactPredHas os))) ?_
  intro W base args ds gs before hval hW _ _ _ hL _ _
  exact contract_FnExactPredHas H enc W base args ds gs before hval hW hL

theorem said_FnExactPredHas : Rows.FnExactPredHasSaid :=
  OpenClaim.holds_of_cond 5 Tryd.f5 rfl rfl rfl rfl rfl rfl rfl ⟨rfl, rfl, rfl, rfl, rfl⟩ rfl rfl rfl rfl rfl (by kernel_rfl) Tryd.func5 (by kernel_rfl)
    (of_decide_eq_true (by kernel_rfl)) (by unfold Func.isWrapper; first | (rw [if_pos (by decide +kernel)]; kernel_rfl) | (rw [if_neg (by decide +kernel)]; exact ⟨rfl, rfl⟩))
    (fun os started H enc _ F => by rw [OpenClaim.pre_eq_preRow]; exact lifted_FnExactPredHas os started H enc F)

theorem plain_FnExactPredHas (f : FuncId) (fn : Func) (hf : Tryd.pinned.checked.prog.funcNamed "loop.example/crossbuck/laws.FnExactPredHas" = some f) (hfn : Tryd.pinned.checked.prog.funcs[f]? = some fn) :
    true = Tryd.pinned.checked.prog.looks [] ∧ ∀ (j : Nat) t, fn.params[j]? = some t → Tryd.pinned.checked.prog.wantsStandIn t = false := by
  obtain rfl : f = 5 := Option.some.inj ((show Tryd.prog.funcNamed "loop.example/crossbuck/laws.FnExactPredHas" = some 5 by kernel_rfl).symm.trans hf) |>.symm
  obtain rfl : fn = Tryd.f5 := (Option.some.inj (Tryd.func5.symm.trans hfn)).symm
  refine ⟨by kernel_rfl, fun j t ht => ?_⟩
  rw [Tryd.params5] at ht
  have hm : t = 9 ∨ t = 28 := by simpa using Array.mem_of_getElem? ht
  rcases hm with rfl | rfl
  · exact (show Tryd.prog.wantsStandIn 9 = false by kernel_rfl)
  · exact (show Tryd.prog.wantsStandIn 28 = false by kernel_rfl)

theorem proved_FnExactPredHas : Rows.FnExactPredHasCardSaid :=
  Claim7.holds_tied_plain_at .later [] _ _ _ _ said_FnExactPredHas (fun _ h => by cases h) (by kernel_rfl) (fun _ h => by cases h) fnExactPredHas_row_tie rfl ⟨rfl, rfl⟩ (by kernel_rfl) rfl plain_FnExactPredHas (by kernel_rfl)

end Go.Proofs.YtddkpimmcmnogaaDoor
