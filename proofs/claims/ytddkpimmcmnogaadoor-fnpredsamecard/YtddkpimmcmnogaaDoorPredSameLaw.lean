/-
  Proved: promise 34 (two conditions are the same, if their spaces are), at every code from which the two conditions are drawn; the code reads on as it did. No condition but the card's own: the program's error value stands as its text lays it.
-/
import Derived.Test.YtddkpimmcmnogaaDoorPredCard
import Derived.Test.YtddkpimmcmnogaaDoorPredDrawC
import Derived.Test.YtddkpimmcmnogaaDoorPredLxS
import Derived.Test.YtddkpimmcmnogaaDoorSpaceLx
namespace Go.Proofs.YtddkpimmcmnogaaDoor
open Go.ChangeShapes Go.WideShapes Go.ChangeAt Go.RowKit Go.Joins
set_option linter.unusedVariables false

theorem strRow_strs {w : World} {base : Nat} {v : Value} {l : List ByteArray} (h : StrRow w base v l) : Strs w w.heap.size v l := h.strs

set_option maxRecDepth 100000 in
set_option maxHeartbeats 8000000 in
theorem walk_FnPredSame (a : Option Addr) (len cap : Nat) (w : World) (hb : BytesIn w w.heap.size a len cap) (ep : Addr) (hE : w.cell? ⟨0, 0, none⟩ = some (errV ep)) :
    Calls Tryd.prog 10 #[.slice a len cap] w fun e w' => e = .returned (.bool true) ∧ Below w.heap.size w w' := by
  have HB := Lib.hid hb
  have HE := Lib.hid hE
  have hm : (len : Int) ≤ maxLen := by have := hb.1; have := hb.2.1; omega
  unfold maxLen at hm
  clear hb hE
  by_cases hlen : (1048576 : Int) < (len : Int)
  · go_enter Tryd.func10, Tryd.ntmps10
    go_wp2
    go_ret
    exact ⟨rfl, Below.refl _ _⟩
  go_enter Tryd.func10, Tryd.ntmps10
  go_wp2_with fail
  refine (drawPredSame_any _ _ _ _ HB.out).mono ?_
  rintro e w1 ⟨s, t, hs, ht, rfl, b1⟩
  have s1 := b1.size
  have B1 := Lib.hid b1
  have IS : Hid (∀ W : World, Below w.heap.size w W → Calls Tryd.prog 26 #[.string s, .string t] W fun e w' => e = .returned (.bool (sameL (lB s) (lB t))) ∧ Below W.heap.size W w') := fun W hb => iSame_at s t (by omega) (by omega) ep W (cellLater HE.out hb)
  have SS : Hid (∀ W : World, Calls Tryd.prog 25 #[.string s, .string t] W fun e w' => e = .returned (.bool (sameL (lB s) (lB t))) ∧ Below W.heap.size W w') := fun W => sSame_at s t (by omega) (by omega) W
  have SO : Hid (∀ W : World, Calls Tryd.prog 15 #[.string s] W fun e w' => e = .returned (.bool (whole (lB s)).isSome) ∧ Below W.heap.size W w') := fun W => sOk_at s (by omega) W
  have SO' : Hid (∀ W : World, Calls Tryd.prog 15 #[.string t] W fun e w' => e = .returned (.bool (whole (lB t)).isSome) ∧ Below W.heap.size W w') := fun W => sOk_at t (by omega) W
  have IP : Hid (∀ W : World, Below w.heap.size w W → Calls Tryd.prog 30 #[.string s] W fun e w' => ∃ v, e = .returned v ∧ StrRow w' W.heap.size v (spaceT (lB s)) ∧ Below W.heap.size W w') := fun W hb => iSpace_at s (by omega) ep W (cellLater HE.out hb)
  have IP' : Hid (∀ W : World, Below w.heap.size w W → Calls Tryd.prog 30 #[.string t] W fun e w' => ∃ v, e = .returned v ∧ StrRow w' W.heap.size v (spaceT (lB t)) ∧ Below W.heap.size W w') := fun W hb => iSpace_at t (by omega) ep W (cellLater HE.out hb)
  have IR : Hid (∀ W : World, Below w.heap.size w W → Calls Tryd.prog 26 #[.string s, .string s] W fun e w' => e = .returned (.bool (sameL (lB s) (lB s))) ∧ Below W.heap.size W w') := fun W hb => iSame_at s s (by omega) (by omega) ep W (cellLater HE.out hb)
  have IT : Hid (∀ W : World, Below w.heap.size w W → Calls Tryd.prog 26 #[.string t, .string s] W fun e w' => e = .returned (.bool (sameL (lB t) (lB s))) ∧ Below W.heap.size W w') := fun W hb => iSame_at t s (by omega) (by omega) ep W (cellLater HE.out hb)
  generalize hK : sameL (lB s) (lB t) = K at *
  have HK := Lib.hid hK
  clear b1 HB HE hK
  go_wp2_with fail
  refine (IS.out _ B1.out).mono ?_
  rintro e w2 ⟨rfl, b2⟩
  have B2 := Lib.hid (belStep B1.out b2)
  clear b2 B1 IS
  go_wp2_with fail
  refine (SS.out _).mono ?_
  rintro e w3 ⟨rfl, b3⟩
  have B3 := Lib.hid (belStep B2.out b3)
  clear b3 B2
  go_wp2_with fail
  refine (SO.out _).mono ?_
  rintro e w4 ⟨rfl, b4⟩
  have B4 := Lib.hid (belStep B3.out b4)
  clear b4 B3 SO
  cases hw : whole (lB s) with
  | none =>
    simp only [Option.isSome_none]
    clear hw
    go_wp2_with fail
    refine (SS.out _).mono ?_
    rintro e w5 ⟨rfl, b5⟩
    go_wp2
    go_ret
    exact ⟨by simp, belStep B4.out b5⟩
  | some c =>
    simp only [Option.isSome_some]
    go_wp2_with fail
    refine (SO'.out _).mono ?_
    rintro e w5 ⟨rfl, b5⟩
    have B5 := Lib.hid (belStep B4.out b5)
    clear b5 B4 SO'
    cases hw' : whole (lB t) with
    | none =>
      simp only [Option.isSome_none]
      clear hw hw'
      go_wp2_with fail
      refine (SS.out _).mono ?_
      rintro e w6 ⟨rfl, b6⟩
      go_wp2
      go_ret
      exact ⟨by simp, belStep B5.out b6⟩
    | some c' =>
      simp only [Option.isSome_some]
      obtain ⟨hl, hk, h16⟩ := whole_some hw
      obtain ⟨hl', hk', h16'⟩ := whole_some hw'
      have HTs : Hid (spaceT (lB s) = tidyT (evM c)) := by show _ = _; unfold spaceT; rw [hw]
      have HTt : Hid (spaceT (lB t) = tidyT (evM c')) := by show _ = _; unfold spaceT; rw [hw']
      have HKK : Hid (sameT (tidyT (evM c)) (tidyT (evM c')) = K) := by
        show _ = _
        rw [← HK.out, tidyT_inj (evM_len c) (evM_len c')]
        unfold sameL
        rw [hw, hw']
        try simp only
        by_cases e : evM c = evM c' <;> simp [e]
      have H1 : Hid (sameL (lB s) (lB s) = true) := by show _ = _; unfold sameL; rw [hw]; simp
      have H2 : Hid (sameL (lB t) (lB s) = K) := by
        show _ = _
        rw [← HK.out]
        unfold sameL
        rw [hw, hw']
        try simp only
        by_cases e : evM c = evM c'
        · simp [e]
        · have e' : ¬ evM c' = evM c := fun h => e h.symm
          show (evM c' == evM c) = (evM c == evM c')
          rw [beq_eq_false_iff_ne.2 e, beq_eq_false_iff_ne.2 e']
      rw [HTs.out] at IP
      rw [HTt.out] at IP'
      rw [H1.out] at IR
      rw [H2.out] at IT
      clear hw hw' hl hl' hk hk' h16 h16' HTs HTt H1 H2 HK SS
      generalize tidyT (evM c) = L at *
      generalize tidyT (evM c') = L' at *
      go_wp2_with fail
      refine (IP.out _ B5.out).mono ?_
      rintro e w6 ⟨v, rfl, r6, b6⟩
      have B6 := Lib.hid (belStep B5.out b6)
      have R6 := Lib.hid r6
      clear b6 B5 IP r6
      go_wp2_with fail
      refine (IP'.out _ B6.out).mono ?_
      rintro e w7 ⟨v', rfl, r7, b7⟩
      have B7 := Lib.hid (belStep B6.out b7)
      have R7 := Lib.hid r7
      have R6' := Lib.hid (R6.out.below b7)
      clear b7 B6 IP' r7 R6
      go_wp2_with fail
      refine (lxTexts_any _ _ _ L L' (strRow_strs R6'.out) (strRow_strs R7.out)).mono ?_
      rintro e w8 ⟨rfl, b8⟩
      have B8 := Lib.hid (belStep B7.out b8)
      clear b8 B7 R7 R6'
      rw [HKK.out]
      go_wp2_with fail

      refine (IR.out _ B8.out).mono ?_
      rintro e w9 ⟨rfl, b9⟩
      have B9 := Lib.hid (belStep B8.out b9)
      clear b9 B8 IR
      go_wp2_with fail
      refine (IT.out _ B9.out).mono ?_
      rintro e w10 ⟨rfl, b10⟩
      go_wp2
      go_ret
      exact ⟨by simp, belStep B9.out b10⟩

set_option maxRecDepth 100000 in
theorem contract_FnPredSame (H : Type) (enc : TypeId × Value → H) (W : World) (base : Nat) (args : Array Value) (ds gs : List (DataW H)) (before : List MemPlace)
    (hval : ∀ (j : Nat) t v, Tryd.f10.params[j]? = some t → args[j]? = some v → Value.okWide Tryd.prog W .any base t v)
    (hW : DataW.Whole enc Tryd.prog Tryd.f10.params.toList Rows.fnPredSameSpec.vars false W args.toList ds gs before) (hL : laidMet Tryd.prog [("loop.example/crossbuck/impl.errPred", Rows.laid_loop_example_crossbuck_impl_errPred)] W) :
    Calls Tryd.prog 10 args W fun e W' => ∃ v, e = .returned v ∧ Rows.fnPredSameSpec.post enc Tryd.prog Tryd.f10 false true false false W args v W' := by
  have hW' := hW
  obtain ⟨p, q, hA0, hV0, rfl, hfz, hnd⟩ := hW
  have hA : DataW.TrodAll enc Tryd.prog W 0 (fun _ => true) true Tryd.f10.params.toList args.toList ds p := hA0
  have hV : DataW.TrodVars enc Tryd.prog W (fun _ => true) ["loop.example/crossbuck/impl.errPred"] gs q := hV0
  rw [Tryd.params10] at hA hval
  obtain ⟨v0, vs0, d0, ds0, p0, q0, hargs, rfl, rfl, h0, r0⟩ := trodAll_cons hA
  obtain ⟨rfl, rfl, rfl⟩ := trodAll_nil r0
  obtain rfl : args = #[v0] := by cases args; simp_all
  obtain ⟨ep, hv⟩ := laidErr hL
  obtain ⟨rfl, rfl⟩ := hV.unique (vars_read1 enc gE gEt Tryd.underlying49 hv trivial _)
  have k0 := h0
  have lt0 : ∀ x ∈ p0, x.block < W.heap.size := by obtain ⟨m, hm⟩ := k0; exact DataW.trod_lt m _ _ _ hm
  obtain ⟨a0, len0, cap0, rfl⟩ := okWide_slice Tryd.underlying35 (hval 0 35 v0 rfl rfl)
  have w0 : BytesIn W W.heap.size a0 len0 cap0 := isRow_of h0
  clear hA0 hV0
  refine (walk_FnPredSame a0 len0 cap0 W w0 ep (varCell hv)).mono fun e W' ⟨he, bel⟩ => ?_
  subst he
  exact ⟨_, rfl, _, _, _, [], _, _, hW', trodAll_mk1 (shut_bool Tryd.underlying4 _), (trodAll_cons_mk (Below.trod laidOut (by kernel_rfl) (of_decide_eq_true (by kernel_rfl)) k0 bel lt0) (trodAll_mk0)), vars_read1 enc gE gEt Tryd.underlying49 (varLater hv bel) trivial _, bel.frame _, fun h => by cases h⟩

noncomputable def low_FnPredSame : Nat := (World.holding Tryd.prog default ⟨#[], #[], []⟩).heap.size
/-- A world for the witness: the settled one, with the error value as the text lays it. -/
noncomputable def laidWorld_FnPredSame (os : Os) : World :=
  { World.holding Tryd.prog os ⟨#[.cells #[.string ⟨#[110, 111, 32, 99, 111, 110, 100, 105, 116, 105, 111, 110]⟩] 150], #[], []⟩ with heap := (World.holding Tryd.prog os ⟨#[.cells #[.string ⟨#[110, 111, 32, 99, 111, 110, 100, 105, 116, 105, 111, 110]⟩] 150], #[], []⟩).heap.modify 0 (fun | .cells _ t frozen => .cells #[.iface 126 (.pointer (some ⟨low_FnPredSame, 0, none⟩))] t frozen | o => o) }

theorem laidMet_FnPredSame (os : Os) : laidMet Tryd.prog Rows.fnPredSameRow.laid ((laidWorld_FnPredSame os).forCall (fun _ _ => 0) ⟨#[], #[.slice none 0 0], []⟩).memory :=
  laidMet_of_run' 8 (by kernel_rfl) (by kernel_rfl)

set_option maxRecDepth 100000 in
theorem lifted_FnPredSame (os : Os) (started : os.Started) (H : Type) (enc : TypeId × Value → H) (F : Stop.Interp) :
    ReturnsInHanded {} Tryd.checked os 10 .any ((OpenSpec.ofChange Rows.fnPredSameSpec).preRow enc Tryd.prog Tryd.f10 Rows.fnPredSameRow.domain false Rows.fnPredSameRow.laid) (((OpenSpec.ofChange Rows.fnPredSameSpec).at F).post enc Tryd.prog Tryd.f10 false true false false) := by
  refine returnsInHanded_of_row (C := Tryd.checked) (s := OpenSpec.ofChange Rows.fnPredSameSpec) own started (by kernel_rfl) Tryd.func10
    (witness_row_at (enc := enc) (C := Tryd.checked) false (laidWorld_FnPredSame os) #[.slice none 0 0] rfl (by kernel_rfl) (by kernel_rfl) (by kernel_rfl)
      (OpenSpec.preRow_of_B rfl 8 (by kernel_rfl) (by kernel_rfl) (laidMet_FnPredSame os))) ?_
  intro W base args ds gs before hval hW _ _ _ hL _ _
  exact contract_FnPredSame H enc W base args ds gs before hval hW hL

theorem said_FnPredSame : Rows.FnPredSameSaid :=
  OpenClaim.holds_of_cond 10 Tryd.f10 rfl rfl rfl rfl rfl rfl rfl ⟨rfl, rfl, rfl, rfl, rfl⟩ rfl rfl rfl rfl rfl (by kernel_rfl) Tryd.func10 (by kernel_rfl)
    (of_decide_eq_true (by kernel_rfl)) (by unfold Func.isWrapper; first | (rw [if_pos (by decide +kernel)]; kernel_rfl) | (rw [if_neg (by decide +kernel)]; exact ⟨rfl, rfl⟩))
    (fun os started H enc _ F => by rw [OpenClaim.pre_eq_preRow]; exact lifted_FnPredSame os started H enc F)

theorem plain_FnPredSame (f : FuncId) (fn : Func) (hf : Tryd.pinned.checked.prog.funcNamed "loop.example/crossbuck/laws.FnPredSame" = some f) (hfn : Tryd.pinned.checked.prog.funcs[f]? = some fn) :
    true = Tryd.pinned.checked.prog.looks [] ∧ ∀ (j : Nat) t, fn.params[j]? = some t → Tryd.pinned.checked.prog.wantsStandIn t = false := by
  obtain rfl : f = 10 := Option.some.inj ((show Tryd.prog.funcNamed "loop.example/crossbuck/laws.FnPredSame" = some 10 by kernel_rfl).symm.trans hf) |>.symm
  obtain rfl : fn = Tryd.f10 := (Option.some.inj (Tryd.func10.symm.trans hfn)).symm
  refine ⟨by kernel_rfl, fun j t ht => ?_⟩
  rw [Tryd.params10] at ht
  obtain rfl : t = 35 := by simpa using Array.mem_of_getElem? ht
  exact (show Tryd.prog.wantsStandIn 35 = false by kernel_rfl)

theorem proved_FnPredSame : Rows.FnPredSameCardSaid :=
  Claim7.holds_tied_plain_at .later [] _ _ _ _ said_FnPredSame (fun _ h => by cases h) (by kernel_rfl) (fun _ h => by cases h) fnPredSame_row_tie rfl ⟨rfl, rfl⟩ (by kernel_rfl) rfl plain_FnPredSame (by kernel_rfl)

end Go.Proofs.YtddkpimmcmnogaaDoor
