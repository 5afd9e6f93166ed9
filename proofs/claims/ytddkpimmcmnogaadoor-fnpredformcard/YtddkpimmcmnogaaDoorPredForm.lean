/-
  Proved: promise 36 (a condition ends where it ends), at every code from which the text is drawn; the code reads on as it did. No condition but the card's own: the program's error value stands as its text lays it.
-/
import Derived.Test.YtddkpimmcmnogaaDoorPredCard
import Derived.Test.YtddkpimmcmnogaaDoorPredDrawC
import Derived.Test.YtddkpimmcmnogaaDoorPredLx
namespace Go.Proofs.YtddkpimmcmnogaaDoor
open Go.ChangeShapes Go.WideShapes Go.ChangeAt Go.RowKit Go.Joins
set_option linter.unusedVariables false

theorem lB_app (s t : ByteArray) : lB (s ++ t) = lB s ++ lB t := by simp [lB]
theorem whole_long {c : Cnd} (hk : c.ok = true) {r : List UInt8} (hr : r ≠ []) : whole (c.txt ++ r) = none := by
  cases h : whole (c.txt ++ r) with
  | none => rfl
  | some c' =>
    obtain ⟨e, hk', _⟩ := whole_some h
    have := txt_free (r' := []) hk hk' (by simpa using e)
    exact absurd this.2 hr
theorem whole_short {c : Cnd} (hk : c.ok = true) {l r : List UInt8} (e : c.txt = l ++ r) (hr : r ≠ []) : whole l = none := by
  cases h : whole l with
  | none => rfl
  | some c' =>
    obtain ⟨e', hk', _⟩ := whole_some h
    have := txt_free (r := []) (r' := r) hk hk' (by rw [List.append_nil, e, e'])
    exact absurd this.2.symm hr
theorem whole_neg {c : Cnd} (hk : c.ok = true) (h : c.txt.length ≤ 15) : whole (33 :: c.txt) = some (.neg c) := whole_of (c := .neg c) hk (by simp [Cnd.txt]; omega)

set_option maxRecDepth 100000 in
set_option maxHeartbeats 8000000 in
theorem walk_FnPredForm (a : Option Addr) (len cap : Nat) (w : World) (hb : BytesIn w w.heap.size a len cap) (ep : Addr) (hE : w.cell? ⟨0, 0, none⟩ = some (errV ep)) :
    Calls Tryd.prog 12 #[.slice a len cap] w fun e w' => e = .returned (.bool true) ∧ Below w.heap.size w w' := by
  have HB := Lib.hid hb
  have HE := Lib.hid hE
  have hm : (len : Int) ≤ maxLen := by have := hb.1; have := hb.2.1; omega
  unfold maxLen at hm
  clear hb hE
  by_cases hlen : (1048576 : Int) < (len : Int)
  · go_enter Tryd.func12, Tryd.ntmps12
    go_wp2
    go_ret
    exact ⟨rfl, Below.refl _ _⟩
  go_enter Tryd.func12, Tryd.ntmps12
  go_wp2_with fail
  refine (drawPredOk_any _ _ _ _ HB.out).mono ?_
  rintro e w1 ⟨s, hs, rfl, b1⟩
  have s1 := b1.size
  go_wp2_with fail
  refine (iOk_at s (by omega) ep _ (cellLater HE.out b1)).mono ?_
  rintro e w2 ⟨rfl, b2⟩
  have B2 := Lib.hid (belStep b1 b2)
  clear b1 b2
  have HO : Hid (∀ (W : World), Calls Tryd.prog 15 #[.string s] W fun e w' => e = .returned (.bool (whole (lB s)).isSome) ∧ Below W.heap.size W w') := fun W => sOk_at s (by omega) W
  cases hw : whole (lB s) with
  | none =>
    rw [hw] at HO
    simp only [Option.isSome_none] at HO ⊢
    clear hw
    go_wp2_with fail
    refine (HO.out _).mono ?_
    rintro e w3 ⟨rfl, b3⟩
    have B3 := Lib.hid (belStep B2.out b3)
    clear b3 B2
    go_wp2_with fail
    refine (HO.out _).mono ?_
    rintro e w4 ⟨rfl, b4⟩
    go_wp2
    go_ret
    exact ⟨rfl, belStep B3.out b4⟩
  | some c =>
    rw [hw] at HO
    simp only [Option.isSome_some] at HO ⊢
    obtain ⟨hl, hk, h16⟩ := whole_some hw
    have hpos := c.txt_pos
    have hsz : s.size = c.txt.length := by rw [← lB_len, hl]
    have F : Hid (∀ (t : ByteArray) (W : World), t.size ≤ 1000 → Below w.heap.size w W → Calls Tryd.prog 16 #[.string t] W fun e w' => e = .returned (.bool (whole (lB t)).isSome) ∧ Below W.heap.size W w') := fun t W ht hb => iOk_at t ht ep W (cellLater HE.out hb)
    have F1 : Hid (∀ W : World, Below w.heap.size w W → Calls Tryd.prog 16 #[.string (s ++ ⟨#[49]⟩)] W fun e w' => e = .returned (.bool false) ∧ Below W.heap.size W w') := fun W hb => by
      have := F.out (s ++ ⟨#[49]⟩) W (by rw [ByteArray.size_append]; show _ + 1 ≤ _; omega) hb
      rw [lB_app, hl, whole_long hk (by simp [lB])] at this
      exact this
    have F2 : Hid (∀ W : World, Below w.heap.size w W → Calls Tryd.prog 16 #[.string (s ++ s)] W fun e w' => e = .returned (.bool false) ∧ Below W.heap.size W w') := fun W hb => by
      have := F.out (s ++ s) W (by rw [ByteArray.size_append]; omega) hb
      rw [lB_app, hl, whole_long hk c.txt_ne] at this
      exact this
    obtain ⟨p, hp⟩ : ∃ p : ByteArray, p = s.extract 0 (s.size - 1) := ⟨_, rfl⟩
    have f3 : ∀ W : World, (Instr.slice 9 (.string s) none (some (.int .i64 ((s.size : Int) - 1))) none).run Tryd.prog W = .ok (.string p) W := fun W => by
      rw [run_slice_string_to_if (P := Tryd.prog) W 9 s .i64 _ Tryd.underlying9, if_pos ⟨by omega, by omega⟩, hp]
      congr 3
      omega
    have F3 : Hid (∀ W : World, Below w.heap.size w W → Calls Tryd.prog 16 #[.string p] W fun e w' => e = .returned (.bool false) ∧ Below W.heap.size W w') := fun W hb => by
      have := F.out p W (by rw [hp]; simp; omega) hb
      have ep : lB p = c.txt.take (c.txt.length - 1) := by
        rw [hp, ← bs_lB s, bs_extract, lB_bs, hl, List.drop_zero, bs_size]
      rw [ep, whole_short hk (l := c.txt.take (c.txt.length - 1)) (r := c.txt.drop (c.txt.length - 1)) (List.take_append_drop _ _).symm (by
        intro h
        have := congrArg List.length h
        simp at this
        omega)] at this
      exact this
    have F4 : Hid (s.size ≤ 15 → ∀ W : World, Below w.heap.size w W → Calls Tryd.prog 16 #[.string (⟨#[33]⟩ ++ s)] W fun e w' => e = .returned (.bool true) ∧ Below W.heap.size W w') := fun h15 W hb => by
      have := F.out (⟨#[33]⟩ ++ s) W (by rw [ByteArray.size_append]; show 1 + _ ≤ _; omega) hb
      rw [lB_app, hl, show lB ⟨#[33]⟩ ++ c.txt = 33 :: c.txt from by simp [lB], whole_neg hk (by omega)] at this
      exact this
    have hz : 1 ≤ s.size := by omega
    have hz16 : s.size ≤ 16 := by rw [hl] at h16; omega
    clear hw hl h16 hpos hsz hp F HB HE hs
    go_wp2_with fail
    refine (HO.out _).mono ?_
    rintro e w3 ⟨rfl, b3⟩
    have B3 := Lib.hid (belStep B2.out b3)
    clear b3 B2 HO
    go_wp2_with fail
    refine (F1.out _ B3.out).mono ?_
    rintro e w4 ⟨rfl, b4⟩
    have B4 := Lib.hid (belStep B3.out b4)
    clear b4 B3 F1
    go_wp2_with fail
    refine (F2.out _ B4.out).mono ?_
    rintro e w5 ⟨rfl, b5⟩
    have B5 := Lib.hid (belStep B4.out b5)
    clear b5 B4 F2
    go_wp2_with fail
    refine (F3.out _ B5.out).mono ?_
    rintro e w6 ⟨rfl, b6⟩
    have B6 := Lib.hid (belStep B5.out b6)
    clear b6 B5 F3
    by_cases h15 : s.size ≤ 15
    · have e16 : ((s.size : Int) == 16) = false := by simp; omega
      have F5 := Lib.hid (F4.out h15)
      clear F4
      go_wp2_with fail
      refine (F5.out _ B6.out).mono ?_
      rintro e w7 ⟨rfl, b7⟩
      go_wp2
      go_ret
      exact ⟨rfl, belStep B6.out b7⟩
    · have e16 : ((s.size : Int) == 16) = true := by simp; omega
      clear F4
      go_wp2
      go_ret
      exact ⟨rfl, B6.out⟩

set_option maxRecDepth 100000 in
theorem contract_FnPredForm (H : Type) (enc : TypeId × Value → H) (W : World) (base : Nat) (args : Array Value) (ds gs : List (DataW H)) (before : List MemPlace)
    (hval : ∀ (j : Nat) t v, Tryd.f12.params[j]? = some t → args[j]? = some v → Value.okWide Tryd.prog W .any base t v)
    (hW : DataW.Whole enc Tryd.prog Tryd.f12.params.toList Rows.fnPredFormSpec.vars false W args.toList ds gs before) (hL : laidMet Tryd.prog [("loop.example/crossbuck/impl.errPred", Rows.laid_loop_example_crossbuck_impl_errPred)] W) :
    Calls Tryd.prog 12 args W fun e W' => ∃ v, e = .returned v ∧ Rows.fnPredFormSpec.post enc Tryd.prog Tryd.f12 false true false false W args v W' := by
  have hW' := hW
  obtain ⟨p, q, hA0, hV0, rfl, hfz, hnd⟩ := hW
  have hA : DataW.TrodAll enc Tryd.prog W 0 (fun _ => true) true Tryd.f12.params.toList args.toList ds p := hA0
  have hV : DataW.TrodVars enc Tryd.prog W (fun _ => true) ["loop.example/crossbuck/impl.errPred"] gs q := hV0
  rw [Tryd.params12] at hA hval
  obtain ⟨v0, vs0, d0, ds0, p0, q0, hargs, rfl, rfl, h0, r0⟩ := trodAll_cons hA
  obtain ⟨rfl, rfl, rfl⟩ := trodAll_nil r0
  obtain rfl : args = #[v0] := by cases args; simp_all
  obtain ⟨ep, hv⟩ := laidErr hL
  obtain ⟨rfl, rfl⟩ := hV.unique (vars_read1 enc gE gEt Tryd.underlying49 hv trivial _)
  have k0 := h0
  have lt0 : ∀ x ∈ p0, x.block < W.heap.size := by obtain ⟨m, hm⟩ := k0; exact DataW.trod_lt m _ _ _ hm
  obtain ⟨a0, len0, cap0, rfl⟩ := okWide_slice Tryd.underlying35 (hval 0 35 v0 rfl rfl)
  have w0 : BytesIn W W.heap.size a0 len0 cap0 := isRow_of h0
  clear hA0 hV0
  refine (walk_FnPredForm a0 len0 cap0 W w0 ep (varCell hv)).mono fun e W' ⟨he, bel⟩ => ?_
  subst he
  exact ⟨_, rfl, _, _, _, [], _, _, hW', trodAll_mk1 (shut_bool Tryd.underlying4 _), (trodAll_cons_mk (Below.trod laidOut (by kernel_rfl) (of_decide_eq_true (by kernel_rfl)) k0 bel lt0) (trodAll_mk0)), vars_read1 enc gE gEt Tryd.underlying49 (varLater hv bel) trivial _, bel.frame _, fun h => by cases h⟩

noncomputable def low_FnPredForm : Nat := (World.holding Tryd.prog default ⟨#[], #[], []⟩).heap.size
/-- A world for the witness: the settled one, with the error value as the text lays it. -/
noncomputable def laidWorld_FnPredForm (os : Os) : World :=
  { World.holding Tryd.prog os ⟨#[.cells #[.string ⟨#[110, 111, 32, 99, 111, 110, 100, 105, 116, 105, 111, 110]⟩] 150], #[], []⟩ with heap := (World.holding Tryd.prog os ⟨#[.cells #[.string ⟨#[110, 111, 32, 99, 111, 110, 100, 105, 116, 105, 111, 110]⟩] 150], #[], []⟩).heap.modify 0 (fun | .cells _ t frozen => .cells #[.iface 126 (.pointer (some ⟨low_FnPredForm, 0, none⟩))] t frozen | o => o) }

theorem laidMet_FnPredForm (os : Os) : laidMet Tryd.prog Rows.fnPredFormRow.laid ((laidWorld_FnPredForm os).forCall (fun _ _ => 0) ⟨#[], #[.slice none 0 0], []⟩).memory :=
  laidMet_of_run' 8 (by kernel_rfl) (by kernel_rfl)

set_option maxRecDepth 100000 in
theorem lifted_FnPredForm (os : Os) (started : os.Started) (H : Type) (enc : TypeId × Value → H) (F : Stop.Interp) :
    ReturnsInHanded {} Tryd.checked os 12 .any ((OpenSpec.ofChange Rows.fnPredFormSpec).preRow enc Tryd.prog Tryd.f12 Rows.fnPredFormRow.domain false Rows.fnPredFormRow.laid) (((OpenSpec.ofChange Rows.fnPredFormSpec).at F).post enc Tryd.prog Tryd.f12 false true false false) := by
  refine returnsInHanded_of_row (C := Tryd.checked) (s := OpenSpec.ofChange Rows.fnPredFormSpec) own started (by kernel_rfl) Tryd.func12
    (witness_row_at (enc := enc) (C := Tryd.checked) false (laidWorld_FnPredForm os) #[.slice none 0 0] rfl (by kernel_rfl) (by kernel_rfl) (by kernel_rfl)
      (OpenSpec.preRow_of_B rfl 8 (by kernel_rfl) (by kernel_rfl) (laidMet_FnPredForm os))) ?_
  intro W base args ds gs before hval hW _ _ _ hL _ _
  exact contract_FnPredForm H enc W base args ds gs before hval hW hL

theorem said_FnPredForm : Rows.FnPredFormSaid :=
  OpenClaim.holds_of_cond 12 Tryd.f12 rfl rfl rfl rfl rfl rfl rfl ⟨rfl, rfl, rfl, rfl, rfl⟩ rfl rfl rfl rfl rfl (by kernel_rfl) Tryd.func12 (by kernel_rfl)
    (of_decide_eq_true (by kernel_rfl)) (by unfold Func.isWrapper; first | (rw [if_pos (by decide +kernel)]; kernel_rfl) | (rw [if_neg (by decide +kernel)]; exact ⟨rfl, rfl⟩))
    (fun os started H enc _ F => by rw [OpenClaim.pre_eq_preRow]; exact lifted_FnPredForm os started H enc F)

theorem plain_FnPredForm (f : FuncId) (fn : Func) (hf : Tryd.pinned.checked.prog.funcNamed "loop.example/crossbuck/laws.FnPredForm" = some f) (hfn : Tryd.pinned.checked.prog.funcs[f]? = some fn) :
    true = Tryd.pinned.checked.prog.looks [] ∧ ∀ (j : Nat) t, fn.params[j]? = some t → Tryd.pinned.checked.prog.wantsStandIn t = false := by
  obtain rfl : f = 12 := Option.some.inj ((show Tryd.prog.funcNamed "loop.example/crossbuck/laws.FnPredForm" = some 12 by kernel_rfl).symm.trans hf) |>.symm
  obtain rfl : fn = Tryd.f12 := (Option.some.inj (Tryd.func12.symm.trans hfn)).symm
  refine ⟨by kernel_rfl, fun j t ht => ?_⟩
  rw [Tryd.params12] at ht
  obtain rfl : t = 35 := by simpa using Array.mem_of_getElem? ht
  exact (show Tryd.prog.wantsStandIn 35 = false by kernel_rfl)

theorem proved_FnPredForm : Rows.FnPredFormCardSaid :=
  Claim7.holds_tied_plain_at .later [] _ _ _ _ said_FnPredForm (fun _ h => by cases h) (by kernel_rfl) (fun _ h => by cases h) fnPredForm_row_tie rfl ⟨rfl, rfl⟩ (by kernel_rfl) rfl plain_FnPredForm (by kernel_rfl)

end Go.Proofs.YtddkpimmcmnogaaDoor
