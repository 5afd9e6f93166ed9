/-
  Proved: at every two texts the program's PredSame answers as the model's does, and the arguments read on as they did. No condition but the card's own: the program's error value stands as its text lays it.
-/
import Derived.Test.YtddkpimmcmnogaaDoorPredCard
import Derived.Test.YtddkpimmcmnogaaDoorPredSameI
namespace Go.Proofs.YtddkpimmcmnogaaDoor
open Go.ChangeShapes Go.WideShapes Go.ChangeAt Go.RowKit Go.Joins
open Go.ChangeMaps (open_string)
set_option linter.unusedVariables false

set_option maxHeartbeats 400000 in
theorem walk_FnExactPredSame (s : ByteArray) (t : ByteArray) (w : World) (hs : s.size ≤ maxLen) (ht : t.size ≤ maxLen) (ep : Addr) (hE : w.cell? ⟨0, 0, none⟩ = some (errV ep)) :
    Calls Tryd.prog 6 #[.string s, .string t] w fun e w' => e = .returned (.bool true) ∧ Below w.heap.size w w' := by
  unfold maxLen at hs ht
  have HE := Lib.hid hE
  clear hE
  by_cases hlen : (1048576 : Int) < (s.size : Int)
  · go_enter Tryd.func6, Tryd.ntmps6
    go_wp2
    go_ret
    exact ⟨rfl, Below.refl _ _⟩
  by_cases hlen' : (1048576 : Int) < (t.size : Int)
  · go_enter Tryd.func6, Tryd.ntmps6
    go_wp2
    go_ret
    exact ⟨rfl, Below.refl _ _⟩
  have hl : s.data.toList.length ≤ 1048576 := by
    have : s.data.toList.length = s.size := Array.length_toList
    omega
  have hl' : t.data.toList.length ≤ 1048576 := by
    have : t.data.toList.length = t.size := Array.length_toList
    omega
  have HS : Hid (∀ W : World, Calls Tryd.prog 25 #[.string s, .string t] W fun e w' => e = .returned (.bool (sameL s.data.toList t.data.toList)) ∧ Below W.heap.size W w') := fun W => by
    have := sPredSame_any s.data.toList t.data.toList hl hl' W
    rwa [bs_list, bs_list] at this
  have HI : Hid (∀ W : World, Below w.heap.size w W → Calls Tryd.prog 26 #[.string s, .string t] W fun e w' => e = .returned (.bool (sameL s.data.toList t.data.toList)) ∧ Below W.heap.size W w') := fun W hb => by
    have := iPredSame_any s.data.toList t.data.toList hl hl' ep W (cellLater HE.out hb)
    rwa [bs_list, bs_list] at this
  generalize sameL s.data.toList t.data.toList = k at *
  clear hl hl'
  go_enter Tryd.func6, Tryd.ntmps6
  go_wp2_with fail
  refine (HS.out _).mono ?_
  rintro e w1 ⟨rfl, b1⟩
  go_wp2_with fail
  refine (HI.out _ b1).mono ?_
  rintro e w2 ⟨rfl, b2⟩
  go_wp2
  go_ret
  exact ⟨rfl, belStep b1 b2⟩

set_option maxRecDepth 100000 in
theorem contract_FnExactPredSame (H : Type) (enc : TypeId × Value → H) (W : World) (base : Nat) (args : Array Value) (ds gs : List (DataW H)) (before : List MemPlace)
    (hval : ∀ (j : Nat) t v, Tryd.f6.params[j]? = some t → args[j]? = some v → Value.okWide Tryd.prog W .any base t v)
    (hW : DataW.Whole enc Tryd.prog Tryd.f6.params.toList Rows.fnExactPredSameSpec.vars false W args.toList ds gs before) (hL : laidMet Tryd.prog [("loop.example/crossbuck/impl.errPred", Rows.laid_loop_example_crossbuck_impl_errPred)] W) :
    Calls Tryd.prog 6 args W fun e W' => ∃ v, e = .returned v ∧ Rows.fnExactPredSameSpec.post enc Tryd.prog Tryd.f6 false true false false W args v W' := by
  have hW' := hW
  obtain ⟨p, q, hA0, hV0, rfl, hfz, hnd⟩ := hW
  have hA : DataW.TrodAll enc Tryd.prog W 0 (fun _ => true) true Tryd.f6.params.toList args.toList ds p := hA0
  have hV : DataW.TrodVars enc Tryd.prog W (fun _ => true) ["loop.example/crossbuck/impl.errPred"] gs q := hV0
  rw [Tryd.params6] at hA hval
  obtain ⟨v0, vs0, d0, ds0, p0, q0, hargs, rfl, rfl, h0, r0⟩ := trodAll_cons hA
  obtain ⟨v1, vs1, d1, ds1, p1, q1, rfl, rfl, rfl, h1, r1⟩ := trodAll_cons r0
  obtain ⟨rfl, rfl, rfl⟩ := trodAll_nil r1
  obtain rfl : args = #[v0, v1] := by cases args; simp_all
  obtain ⟨ep, hv⟩ := laidErr hL
  obtain ⟨rfl, rfl⟩ := hV.unique (vars_read1 enc gE gEt Tryd.underlying49 hv trivial _)
  have k0 := h0
  have lt0 : ∀ x ∈ p0, x.block < W.heap.size := by obtain ⟨m, hm⟩ := k0; exact DataW.trod_lt m _ _ _ hm
  have k1 := h1
  have lt1 : ∀ x ∈ p1, x.block < W.heap.size := by obtain ⟨m, hm⟩ := k1; exact DataW.trod_lt m _ _ _ hm
  obtain ⟨s0, rfl, -, -, w0⟩ := open_string Tryd.underlying9 (hval 0 9 v0 rfl rfl) h0
  obtain ⟨s1, rfl, -, -, w1⟩ := open_string Tryd.underlying9 (hval 1 9 v1 rfl rfl) h1
  clear hA0 hV0
  refine (walk_FnExactPredSame s0 s1 W w0 w1 ep (varCell hv)).mono fun e W' ⟨he, bel⟩ => ?_
  subst he
  exact ⟨_, rfl, _, _, _, [], _, _, hW', trodAll_mk1 (shut_bool Tryd.underlying4 _), (trodAll_cons_mk (Below.trod laidOut (by kernel_rfl) (of_decide_eq_true (by kernel_rfl)) k0 bel lt0) (trodAll_cons_mk (Below.trod laidOut (by kernel_rfl) (of_decide_eq_true (by kernel_rfl)) k1 bel lt1) (trodAll_mk0))), vars_read1 enc gE gEt Tryd.underlying49 (varLater hv bel) trivial _, bel.frame _, fun h => by cases h⟩

noncomputable def low_FnExactPredSame : Nat := (World.holding Tryd.prog default ⟨#[], #[], []⟩).heap.size
/-- A world for the witness: the settled one, with the error value as the text lays it. -/
noncomputable def laidWorld_FnExactPredSame (os : Os) : World :=
  { World.holding Tryd.prog os ⟨#[.cells #[.string ⟨#[110, 111, 32, 99, 111, 110, 100, 105, 116, 105, 111, 110]⟩] 150], #[], []⟩ with heap := (World.holding Tryd.prog os ⟨#[.cells #[.string ⟨#[110, 111, 32, 99, 111, 110, 100, 105, 116, 105, 111, 110]⟩] 150], #[], []⟩).heap.modify 0 (fun | .cells _ t frozen => .cells #[.iface 126 (.pointer (some ⟨low_FnExactPredSame, 0, none⟩))] t frozen | o => o) }

theorem laidMet_FnExactPredSame (os : Os) : laidMet Tryd.prog Rows.fnExactPredSameRow.laid ((laidWorld_FnExactPredSame os).forCall (fun _ _ => 0) ⟨#[], #[.string ByteArray.empty, .string ByteArray.empty], []⟩).memory :=
  laidMet_of_run' 8 (by kernel_rfl) (by kernel_rfl)

set_option maxRecDepth 100000 in
theorem lifted_FnExactPredSame (os : Os) (started : os.Started) (H : Type) (enc : TypeId × Value → H) (F : Stop.Interp) :
    ReturnsInHanded {} Tryd.checked os 6 .any ((OpenSpec.ofChange Rows.fnExactPredSameSpec).preRow enc Tryd.prog Tryd.f6 Rows.fnExactPredSameRow.domain false Rows.fnExactPredSameRow.laid) (((OpenSpec.ofChange Rows.fnExactPredSameSpec).at F).post enc Tryd.prog Tryd.f6 false true false false) := by
  refine returnsInHanded_of_row (C := Tryd.checked) (s := OpenSpec.ofChange Rows.fnExactPredSameSpec) own started (by kernel_rfl) Tryd.func6
    (witness_row_at (enc := enc) (C := Tryd.checked) false (laidWorld_FnExactPredSame os) #[.string ByteArray.empty, .string ByteArray.empty] rfl (by kernel_rfl) (by kernel_rfl) (by kernel_rfl)
      (OpenSpec.preRow_of_B rfl 8 (by kernel_rfl) (by kernel_rfl) (laidMet_FnExactPredSame os))) ?_
  intro W base args ds gs before hval hW _ _ _ hL _ _
  exact contract_FnExactPredSame H enc W base args ds gs before hval hW hL

theorem said_FnExactPredSame : Rows.FnExactPredSameSaid :=
  OpenClaim.holds_of_cond 6 Tryd.f6 rfl rfl rfl rfl rfl rfl rfl ⟨rfl, rfl, rfl, rfl, rfl⟩ rfl rfl rfl rfl rfl (by kernel_rfl) Tryd.func6 (by kernel_rfl)
    (of_decide_eq_true (by kernel_rfl)) (by unfold Func.isWrapper; first | (rw [if_pos (by decide +kernel)]; kernel_rfl) | (rw [if_neg (by decide +kernel)]; exact ⟨rfl, rfl⟩))
    (fun os started H enc _ F => by rw [OpenClaim.pre_eq_preRow]; exact lifted_FnExactPredSame os started H enc F)

theorem plain_FnExactPredSame (f : FuncId) (fn : Func) (hf : Tryd.pinned.checked.prog.funcNamed "loop.example/crossbuck/laws.FnExactPredSame" = some f) (hfn : Tryd.pinned.checked.prog.funcs[f]? = some fn) :
    true = Tryd.pinned.checked.prog.looks [] ∧ ∀ (j : Nat) t, fn.params[j]? = some t → Tryd.pinned.checked.prog.wantsStandIn t = false := by
  obtain rfl : f = 6 := Option.some.inj ((show Tryd.prog.funcNamed "loop.example/crossbuck/laws.FnExactPredSame" = some 6 by kernel_rfl).symm.trans hf) |>.symm
  obtain rfl : fn = Tryd.f6 := (Option.some.inj (Tryd.func6.symm.trans hfn)).symm
  refine ⟨by kernel_rfl, fun j t ht => ?_⟩
  rw [Tryd.params6] at ht
  obtain rfl : t = 9 := by simpa using Array.mem_of_getElem? ht
  exact (show Tryd.prog.wantsStandIn 9 = false by kernel_rfl)

theorem proved_FnExactPredSame : Rows.FnExactPredSameCardSaid :=
  Claim7.holds_tied_plain_at .later [] _ _ _ _ said_FnExactPredSame (fun _ h => by cases h) (by kernel_rfl) (fun _ h => by cases h) fnExactPredSame_row_tie rfl ⟨rfl, rfl⟩ (by kernel_rfl) rfl plain_FnExactPredSame (by kernel_rfl)

end Go.Proofs.YtddkpimmcmnogaaDoor
