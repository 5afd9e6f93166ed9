/-
  Proved: at every text the program's PredSpace answers as the model's does, every string, its answer owns its memory (what is written into it is there still behind another call), and the argument reads on as it did. No condition but the card's own: the program's error value stands as its text lays it.
-/
import Derived.Test.YtddkpimmcmnogaaDoorPredCard
import Derived.Test.YtddkpimmcmnogaaDoorPredSpaceI
namespace Go.Proofs.YtddkpimmcmnogaaDoor
open Go.ChangeShapes Go.WideShapes Go.ChangeAt Go.RowKit Go.Joins
open Go.ChangeMaps (open_string)
set_option linter.unusedVariables false

set_option maxHeartbeats 1000000 in
theorem walk_FnExactPredSpace (s : ByteArray) (w : World) (hs : s.size ≤ maxLen) (ep : Addr) (hE : w.cell? ⟨0, 0, none⟩ = some (errV ep)) :
    Calls Tryd.prog 8 #[.string s] w fun e w' => e = .returned (.bool true) ∧ Below w.heap.size w w' := by
  unfold maxLen at hs
  have HE := Lib.hid hE
  clear hE
  by_cases hlen : (1048576 : Int) < (s.size : Int)
  · go_enter Tryd.func8, Tryd.ntmps8
    go_wp2
    go_ret
    exact ⟨rfl, Below.refl _ _⟩
  have hl : s.data.toList.length ≤ 1048576 := by
    have : s.data.toList.length = s.size := Array.length_toList
    omega
  have HS : Hid (∀ W : World, Calls Tryd.prog 29 #[.string s] W fun e w' => ∃ v, e = .returned v ∧ StrRow w' W.heap.size v (spaceT s.data.toList) ∧ Below W.heap.size W w') := fun W => by
    have := sPredSpace_any s.data.toList hl W
    rwa [bs_list] at this
  have HJ : Hid (∀ W : World, Below w.heap.size w W → Calls Tryd.prog 30 #[.string s] W fun e w' => ∃ v, e = .returned v ∧ StrRow w' W.heap.size v (spaceT s.data.toList) ∧ Below W.heap.size W w') := fun W hb => by
    have := iPredSpace_any s.data.toList hl ep W (cellLater HE.out hb)
    rwa [bs_list] at this
  have hn := spaceT_len s.data.toList
  generalize spaceT s.data.toList = L at *
  clear hl
  go_enter Tryd.func8, Tryd.ntmps8
  go_wp2_with fail
  refine (HS.out _).mono ?_
  rintro e w1 ⟨v0, rfl, r0, b1⟩
  have R0 := Lib.hid r0
  clear r0
  have s1 := b1.size
  go_wp2_with fail
  refine (HJ.out _ b1).mono ?_
  rintro e w2 ⟨v1, rfl, r1, b2⟩
  have R1 := Lib.hid r1
  clear r1
  have s2 := b2.size
  go_wp2_with fail
  refine (eqStringS_same _ _ _ _ _ _ R1.out (R0.out.below b2) (by omega)).mono ?_
  rintro e w3 ⟨rfl, b3⟩
  have s3 := b3.size
  have R1' := Lib.hid (R1.out.below b3)
  have R0' := Lib.hid ((R0.out.below b2).below b3)
  have B3 : Hid (Below w.heap.size w w3) := belStep b1 (belStep b2 b3)
  go_wp2_with fail
  refine (markStringS_at _ _ 1 _ _ R1'.out (by omega) (by omega) (by omega)).mono ?_
  rintro e w4 ⟨rfl, r4, b4⟩
  have s4 := b4.size
  have R4 := Lib.hid r4
  have Q4 : Hid (StrRow w4 w.heap.size v0 L) := R0'.out.under b4 (fun k hk => (World.ownsRow.lt R0.out k hk).2)
  have B4 : Hid (Below w.heap.size w w4) := B3.out.trans (b4.mono s1)
  clear r4 b1 b2 b3 b4 R0 R1 R0' R1' B3
  generalize hN : L.length = n at *
  clear HS
  go_wp2_with fail
  refine (heldStringS_at _ _ 1 n _ R4.out (by omega) (by omega)).mono ?_
  rintro e w5 ⟨rfl, b5⟩
  have s5 := b5.size
  have R5 := Lib.hid (R4.out.below b5)
  have Q5 := Lib.hid (Q4.out.below b5)
  have B5 : Hid (Below w.heap.size w w5) := belStep B4.out b5
  have hp : ¬ ((1 + n : Nat) : Int) < 0 := by omega
  have hp' : ¬ (1 + (n : Int)) < 0 := by omega
  clear R4 Q4 B4 b5
  go_wp2_with fail
  refine (HJ.out _ B5.out).mono ?_
  rintro e w6 ⟨v2, rfl, r6, b6⟩
  have R6 := Lib.hid r6
  clear r6
  go_wp2_with fail
  refine (eqStringS_same _ _ _ _ _ _ R6.out (Q5.out.below b6) (by omega)).mono ?_
  rintro e w7 ⟨rfl, b7⟩
  have R7 := Lib.hid ((R5.out.below b6).below b7)
  have B7 : Hid (Below w.heap.size w w7) := belStep B5.out (belStep b6 b7)
  clear R5 Q5 B5 b6 b7 R6
  go_wp2_with fail
  refine (heldStringS_at _ _ 1 n _ R7.out (by omega) (by omega)).mono ?_
  rintro e w8 ⟨rfl, b8⟩
  go_wp2
  go_ret
  exact ⟨rfl, belStep B7.out b8⟩

set_option maxRecDepth 100000 in
theorem contract_FnExactPredSpace (H : Type) (enc : TypeId × Value → H) (W : World) (base : Nat) (args : Array Value) (ds gs : List (DataW H)) (before : List MemPlace)
    (hval : ∀ (j : Nat) t v, Tryd.f8.params[j]? = some t → args[j]? = some v → Value.okWide Tryd.prog W .any base t v)
    (hW : DataW.Whole enc Tryd.prog Tryd.f8.params.toList Rows.fnExactPredSpaceSpec.vars false W args.toList ds gs before) (hL : laidMet Tryd.prog [("loop.example/crossbuck/impl.errPred", Rows.laid_loop_example_crossbuck_impl_errPred)] W) :
    Calls Tryd.prog 8 args W fun e W' => ∃ v, e = .returned v ∧ Rows.fnExactPredSpaceSpec.post enc Tryd.prog Tryd.f8 false true false false W args v W' := by
  have hW' := hW
  obtain ⟨p, q, hA0, hV0, rfl, hfz, hnd⟩ := hW
  have hA : DataW.TrodAll enc Tryd.prog W 0 (fun _ => true) true Tryd.f8.params.toList args.toList ds p := hA0
  have hV : DataW.TrodVars enc Tryd.prog W (fun _ => true) ["loop.example/crossbuck/impl.errPred"] gs q := hV0
  rw [Tryd.params8] at hA hval
  obtain ⟨v0, vs0, d0, ds0, p0, q0, hargs, rfl, rfl, h0, r0⟩ := trodAll_cons hA
  obtain ⟨rfl, rfl, rfl⟩ := trodAll_nil r0
  obtain rfl : args = #[v0] := by cases args; simp_all
  obtain ⟨ep, hv⟩ := laidErr hL
  obtain ⟨rfl, rfl⟩ := hV.unique (vars_read1 enc gE gEt Tryd.underlying49 hv trivial _)
  have k0 := h0
  have lt0 : ∀ x ∈ p0, x.block < W.heap.size := by obtain ⟨m, hm⟩ := k0; exact DataW.trod_lt m _ _ _ hm
  obtain ⟨s0, rfl, -, -, w0⟩ := open_string Tryd.underlying9 (hval 0 9 v0 rfl rfl) h0
  clear hA0 hV0
  refine (walk_FnExactPredSpace s0 W w0 ep (varCell hv)).mono fun e W' ⟨he, bel⟩ => ?_
  subst he
  exact ⟨_, rfl, _, _, _, [], _, _, hW', trodAll_mk1 (shut_bool Tryd.underlying4 _), (trodAll_cons_mk (Below.trod laidOut (by kernel_rfl) (of_decide_eq_true (by kernel_rfl)) k0 bel lt0) (trodAll_mk0)), vars_read1 enc gE gEt Tryd.underlying49 (varLater hv bel) trivial _, bel.frame _, fun h => by cases h⟩

noncomputable def low_FnExactPredSpace : Nat := (World.holding Tryd.prog default ⟨#[], #[], []⟩).heap.size
/-- A world for the witness: the settled one, with the error value as the text lays it. -/
noncomputable def laidWorld_FnExactPredSpace (os : Os) : World :=
  { World.holding Tryd.prog os ⟨#[.cells #[.string ⟨#[110, 111, 32, 99, 111, 110, 100, 105, 116, 105, 111, 110]⟩] 150], #[], []⟩ with heap := (World.holding Tryd.prog os ⟨#[.cells #[.string ⟨#[110, 111, 32, 99, 111, 110, 100, 105, 116, 105, 111, 110]⟩] 150], #[], []⟩).heap.modify 0 (fun | .cells _ t frozen => .cells #[.iface 126 (.pointer (some ⟨low_FnExactPredSpace, 0, none⟩))] t frozen | o => o) }

theorem laidMet_FnExactPredSpace (os : Os) : laidMet Tryd.prog Rows.fnExactPredSpaceRow.laid ((laidWorld_FnExactPredSpace os).forCall (fun _ _ => 0) ⟨#[], #[.string ByteArray.empty], []⟩).memory :=
  laidMet_of_run' 8 (by kernel_rfl) (by kernel_rfl)

set_option maxRecDepth 100000 in
theorem lifted_FnExactPredSpace (os : Os) (started : os.Started) (H : Type) (enc : TypeId × Value → H) (F : Stop.Interp) :
    ReturnsInHanded {} Tryd.checked os 8 .any ((OpenSpec.ofChange Rows.fnExactPredSpaceSpec).preRow enc Tryd.prog Tryd.f8 Rows.fnExactPredSpaceRow.domain false Rows.fnExactPredSpaceRow.laid) (((OpenSpec.ofChange Rows.fnExactPredSpaceSpec).at F).post enc Tryd.prog Tryd.f8 false true false false) := by
  refine returnsInHanded_of_row (C := Tryd.checked) (s := OpenSpec.ofChange Rows.fnExactPredSpaceSpec) own started (by kernel_rfl) Tryd.func8
    (witness_row_at (enc := enc) (C := Tryd.checked) false (laidWorld_FnExactPredSpace os) #[.string ByteArray.empty] rfl (by kernel_rfl) (by kernel_rfl) (by kernel_rfl)
      (OpenSpec.preRow_of_B rfl 8 (by kernel_rfl) (by kernel_rfl) (laidMet_FnExactPredSpace os))) ?_
  intro W base args ds gs before hval hW _ _ _ hL _ _
  exact contract_FnExactPredSpace H enc W base args ds gs before hval hW hL

theorem said_FnExactPredSpace : Rows.FnExactPredSpaceSaid :=
  OpenClaim.holds_of_cond 8 Tryd.f8 rfl rfl rfl rfl rfl rfl rfl ⟨rfl, rfl, rfl, rfl, rfl⟩ rfl rfl rfl rfl rfl (by kernel_rfl) Tryd.func8 (by kernel_rfl)
    (of_decide_eq_true (by kernel_rfl)) (by unfold Func.isWrapper; first | (rw [if_pos (by decide +kernel)]; kernel_rfl) | (rw [if_neg (by decide +kernel)]; exact ⟨rfl, rfl⟩))
    (fun os started H enc _ F => by rw [OpenClaim.pre_eq_preRow]; exact lifted_FnExactPredSpace os started H enc F)

theorem plain_FnExactPredSpace (f : FuncId) (fn : Func) (hf : Tryd.pinned.checked.prog.funcNamed "loop.example/crossbuck/laws.FnExactPredSpace" = some f) (hfn : Tryd.pinned.checked.prog.funcs[f]? = some fn) :
    true = Tryd.pinned.checked.prog.looks [] ∧ ∀ (j : Nat) t, fn.params[j]? = some t → Tryd.pinned.checked.prog.wantsStandIn t = false := by
  obtain rfl : f = 8 := Option.some.inj ((show Tryd.prog.funcNamed "loop.example/crossbuck/laws.FnExactPredSpace" = some 8 by kernel_rfl).symm.trans hf) |>.symm
  obtain rfl : fn = Tryd.f8 := (Option.some.inj (Tryd.func8.symm.trans hfn)).symm
  refine ⟨by kernel_rfl, fun j t ht => ?_⟩
  rw [Tryd.params8] at ht
  obtain rfl : t = 9 := by simpa using Array.mem_of_getElem? ht
  exact (show Tryd.prog.wantsStandIn 9 = false by kernel_rfl)

theorem proved_FnExactPredSpace : Rows.FnExactPredSpaceCardSaid :=
  Claim7.holds_tied_plain_at .later [] _ _ _ _ said_FnExactPredSpace (fun _ h => by cases h) (by kernel_rfl) (fun _ h => by cases h) fnExactPredSpace_row_tie rfl ⟨rfl, rfl⟩ (by kernel_rfl) rfl plain_FnExactPredSpace (by kernel_rfl)

end Go.Proofs.YtddkpimmcmnogaaDoor
