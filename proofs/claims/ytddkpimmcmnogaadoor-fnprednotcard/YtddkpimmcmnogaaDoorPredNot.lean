/-
  Proved: promise 37 (not both is not the one, or not the other), at every code from which the two conditions are drawn; the code reads on as it did. No condition but the card's own: the program's error value stands as its text lays it.
-/
import Derived.Test.YtddkpimmcmnogaaDoorPredCard
import Derived.Test.YtddkpimmcmnogaaDoorPredDrawC
import Derived.Test.YtddkpimmcmnogaaDoorPredLxS
namespace Go.Proofs.YtddkpimmcmnogaaDoor
open Go.ChangeShapes Go.WideShapes Go.ChangeAt Go.RowKit Go.Joins
set_option linter.unusedVariables false

theorem evn_neg (a : Cnd) (n : Int) : evn (.neg a) n = !evn a n := rfl
theorem evn_and (a b : Cnd) (n : Int) : evn (.two 38 a b) n = (evn a n && evn b n) := rfl
theorem evn_or (a b : Cnd) (n : Int) : evn (.two 124 a b) n = (evn a n || evn b n) := rfl

set_option maxRecDepth 100000 in
set_option maxHeartbeats 8000000 in
theorem walk_FnPredNot (a : Option Addr) (len cap : Nat) (w : World) (hb : BytesIn w w.heap.size a len cap) (ep : Addr) (hE : w.cell? ⟨0, 0, none⟩ = some (errV ep)) :
    Calls Tryd.prog 13 #[.slice a len cap] w fun e w' => e = .returned (.bool true) ∧ Below w.heap.size w w' := by
  have HB := Lib.hid hb
  have HE := Lib.hid hE
  have hm : (len : Int) ≤ maxLen := by have := hb.1; have := hb.2.1; omega
  unfold maxLen at hm
  clear hb hE
  by_cases hlen : (1048576 : Int) < (len : Int)
  · go_enter Tryd.func13, Tryd.ntmps13
    go_wp2
    go_ret
    exact ⟨rfl, Below.refl _ _⟩
  go_enter Tryd.func13, Tryd.ntmps13
  go_wp2_with fail
  refine (drawPredSame_any _ _ _ _ HB.out).mono ?_
  rintro e w1 ⟨s, t, hs, ht, rfl, b1⟩
  have s1 := b1.size
  have B1 := Lib.hid b1
  have IS : Hid (∀ W : World, Below w.heap.size w W → Calls Tryd.prog 26 #[.string s, .string t] W fun e w' => e = .returned (.bool (sameL (lB s) (lB t))) ∧ Below W.heap.size W w') := fun W hb => iSame_at s t (by omega) (by omega) ep W (cellLater HE.out hb)
  have SS : Hid (∀ W : World, Calls Tryd.prog 25 #[.string s, .string t] W fun e w' => e = .returned (.bool (sameL (lB s) (lB t))) ∧ Below W.heap.size W w') := fun W => sSame_at s t (by omega) (by omega) W
  have SO : Hid (∀ W : World, Calls Tryd.prog 15 #[.string s] W fun e w' => e = .returned (.bool (whole (lB s)).isSome) ∧ Below W.heap.size W w') := fun W => sOk_at s (by omega) W
  have SO' : Hid (∀ W : World, Calls Tryd.prog 15 #[.string t] W fun e w' => e = .returned (.bool (whole (lB t)).isSome) ∧ Below W.heap.size W w') := fun W => sOk_at t (by omega) W
  have IA : Hid (∀ (c c' : Cnd) (W : World), c.ok = true → c'.ok = true → c.txt.length ≤ 16 → c'.txt.length ≤ 16 → (∀ n, evn c n = evn c' n) → Below w.heap.size w W → Calls Tryd.prog 26 #[.string (bs c.txt), .string (bs c'.txt)] W fun e w' => e = .returned (.bool true) ∧ Below W.heap.size W w') := fun c c' W hk hk' h h' he hb => by
    have := iSame_at (bs c.txt) (bs c'.txt) (by rw [bs_size]; omega) (by rw [bs_size]; omega) ep W (cellLater HE.out hb)
    rwa [lB_bs, lB_bs, same_of hk hk' h h' he] at this
  generalize hK : sameL (lB s) (lB t) = K at *
  clear b1 HB HE hK
  go_wp2_with fail
  refine (IS.out _ B1.out).mono ?_
  rintro e w2 ⟨rfl, b2⟩
  have B2 := Lib.hid (belStep B1.out b2)
  clear b2 B1 IS
  go_wp2_with fail
  refine (SS.out _).mono ?_
  rintro e w3 ⟨rfl, b3⟩
  have B3 := Lib.hid (belStep B2.out b3)
  clear b3 B2
  go_wp2_with fail
  refine (SO.out _).mono ?_
  rintro e w4 ⟨rfl, b4⟩
  have B4 := Lib.hid (belStep B3.out b4)
  clear b4 B3 SO
  cases hw : whole (lB s) with
  | none =>
    simp only [Option.isSome_none]
    clear hw
    go_wp2_with fail
    refine (SS.out _).mono ?_
    rintro e w5 ⟨rfl, b5⟩
    go_wp2
    go_ret
    exact ⟨by simp, belStep B4.out b5⟩
  | some c =>
    simp only [Option.isSome_some]
    go_wp2_with fail
    refine (SO'.out _).mono ?_
    rintro e w5 ⟨rfl, b5⟩
    have B5 := Lib.hid (belStep B4.out b5)
    clear b5 B4 SO'
    cases hw' : whole (lB t) with
    | none =>
      simp only [Option.isSome_none]
      clear hw hw'
      go_wp2_with fail
      refine (SS.out _).mono ?_
      rintro e w6 ⟨rfl, b6⟩
      go_wp2
      go_ret
      exact ⟨by simp, belStep B5.out b6⟩
    | some c' =>
      simp only [Option.isSome_some]
      by_cases hlong : (16 : Int) < (s.size : Int) + (t.size : Int) + 3
      · clear hw hw'
        go_wp2_with fail
        refine (SS.out _).mono ?_
        rintro e w6 ⟨rfl, b6⟩
        go_wp2
        go_ret
        exact ⟨by simp, belStep B5.out b6⟩
      obtain ⟨hl, hk, h16⟩ := whole_some hw
      obtain ⟨hl', hk', h16'⟩ := whole_some hw'
      have es : s = bs c.txt := by rw [← bs_lB s, hl]
      have et : t = bs c'.txt := by rw [← bs_lB t, hl']
      have zs : s.size = c.txt.length := by rw [es, bs_size]
      have zt : t.size = c'.txt.length := by rw [et, bs_size]
      have F1 : Hid (∀ W : World, Below w.heap.size w W → Calls Tryd.prog 26 #[.string (⟨#[33, 38]⟩ ++ s ++ t), .string (⟨#[124, 33]⟩ ++ s ++ ⟨#[33]⟩ ++ t)] W fun e w' => e = .returned (.bool true) ∧ Below W.heap.size W w') := fun W hb => by
        have := IA.out (.neg (.two 38 c c')) (.two 124 (.neg c) (.neg c')) W (by simp [Cnd.ok, hk, hk']; rfl) (by simp [Cnd.ok, hk, hk']; rfl) (by simp [Cnd.txt]; omega) (by simp [Cnd.txt]; omega) (fun n => by rw [evn_neg, evn_and, evn_or, evn_neg, evn_neg]; cases evn c n <;> cases evn c' n <;> rfl) hb
        rw [es, et, show (⟨#[33, 38]⟩ : ByteArray) = bs [33, 38] from rfl, show (⟨#[124, 33]⟩ : ByteArray) = bs [124, 33] from rfl, show (⟨#[33]⟩ : ByteArray) = bs [33] from rfl]
        simpa [bs_append, Cnd.txt] using this
      have F2 : Hid (∀ W : World, Below w.heap.size w W → Calls Tryd.prog 26 #[.string (⟨#[33, 124]⟩ ++ s ++ t), .string (⟨#[38, 33]⟩ ++ s ++ ⟨#[33]⟩ ++ t)] W fun e w' => e = .returned (.bool true) ∧ Below W.heap.size W w') := fun W hb => by
        have := IA.out (.neg (.two 124 c c')) (.two 38 (.neg c) (.neg c')) W (by simp [Cnd.ok, hk, hk']; rfl) (by simp [Cnd.ok, hk, hk']; rfl) (by simp [Cnd.txt]; omega) (by simp [Cnd.txt]; omega) (fun n => by rw [evn_neg, evn_and, evn_or, evn_neg, evn_neg]; cases evn c n <;> cases evn c' n <;> rfl) hb
        rw [es, et, show (⟨#[33, 124]⟩ : ByteArray) = bs [33, 124] from rfl, show (⟨#[38, 33]⟩ : ByteArray) = bs [38, 33] from rfl, show (⟨#[33]⟩ : ByteArray) = bs [33] from rfl]
        simpa [bs_append, Cnd.txt] using this
      have F3 : Hid (∀ W : World, Below w.heap.size w W → Calls Tryd.prog 26 #[.string (⟨#[33, 33]⟩ ++ s), .string s] W fun e w' => e = .returned (.bool true) ∧ Below W.heap.size W w') := fun W hb => by
        have := IA.out (.neg (.neg c)) c W (by simp [Cnd.ok, hk]) hk (by simp [Cnd.txt]; omega) (by omega) (fun n => by rw [evn_neg, evn_neg]; cases evn c n <;> rfl) hb
        rw [es, show (⟨#[33, 33]⟩ : ByteArray) = bs [33, 33] from rfl]
        simpa [bs_append, Cnd.txt] using this
      have F4 : Hid (∀ W : World, Below w.heap.size w W → Calls Tryd.prog 26 #[.string (⟨#[38]⟩ ++ s ++ t), .string (⟨#[38]⟩ ++ t ++ s)] W fun e w' => e = .returned (.bool true) ∧ Below W.heap.size W w') := fun W hb => by
        have := IA.out (.two 38 c c') (.two 38 c' c) W (by simp [Cnd.ok, hk, hk']; rfl) (by simp [Cnd.ok, hk, hk']; rfl) (by simp [Cnd.txt]; omega) (by simp [Cnd.txt]; omega) (fun n => by rw [evn_and, evn_and]; cases evn c n <;> cases evn c' n <;> rfl) hb
        rw [es, et, show (⟨#[38]⟩ : ByteArray) = bs [38] from rfl]
        simpa [bs_append, Cnd.txt] using this
      have zs16 : s.size ≤ 16 := by omega
      have zt16 : t.size ≤ 16 := by omega
      clear IA hw hw' hl hl' hk hk' h16 h16' es et zs zt SS hs ht
      go_wp2_with fail
      refine (F1.out _ B5.out).mono ?_
      rintro e w6 ⟨rfl, b6⟩
      have B6 := Lib.hid (belStep B5.out b6)
      clear b6 B5 F1
      go_wp2_with fail
      refine (F2.out _ B6.out).mono ?_
      rintro e w7 ⟨rfl, b7⟩
      have B7 := Lib.hid (belStep B6.out b7)
      clear b7 B6 F2
      go_wp2_with fail
      refine (F3.out _ B7.out).mono ?_
      rintro e w8 ⟨rfl, b8⟩
      have B8 := Lib.hid (belStep B7.out b8)
      clear b8 B7 F3
      go_wp2_with fail
      refine (F4.out _ B8.out).mono ?_
      rintro e w9 ⟨rfl, b9⟩
      go_wp2
      go_ret
      exact ⟨rfl, belStep B8.out b9⟩

set_option maxRecDepth 100000 in
theorem contract_FnPredNot (H : Type) (enc : TypeId × Value → H) (W : World) (base : Nat) (args : Array Value) (ds gs : List (DataW H)) (before : List MemPlace)
    (hval : ∀ (j : Nat) t v, Tryd.f13.params[j]? = some t → args[j]? = some v → Value.okWide Tryd.prog W .any base t v)
    (hW : DataW.Whole enc Tryd.prog Tryd.f13.params.toList Rows.fnPredNotSpec.vars false W args.toList ds gs before) (hL : laidMet Tryd.prog [("loop.example/crossbuck/impl.errPred", Rows.laid_loop_example_crossbuck_impl_errPred)] W) :
    Calls Tryd.prog 13 args W fun e W' => ∃ v, e = .returned v ∧ Rows.fnPredNotSpec.post enc Tryd.prog Tryd.f13 false true false false W args v W' := by
  have hW' := hW
  obtain ⟨p, q, hA0, hV0, rfl, hfz, hnd⟩ := hW
  have hA : DataW.TrodAll enc Tryd.prog W 0 (fun _ => true) true Tryd.f13.params.toList args.toList ds p := hA0
  have hV : DataW.TrodVars enc Tryd.prog W (fun _ => true) ["loop.example/crossbuck/impl.errPred"] gs q := hV0
  rw [Tryd.params13] at hA hval
  obtain ⟨v0, vs0, d0, ds0, p0, q0, hargs, rfl, rfl, h0, r0⟩ := trodAll_cons hA
  obtain ⟨rfl, rfl, rfl⟩ := trodAll_nil r0
  obtain rfl : args = #[v0] := by cases args; simp_all
  obtain ⟨ep, hv⟩ := laidErr hL
  obtain ⟨rfl, rfl⟩ := hV.unique (vars_read1 enc gE gEt Tryd.underlying49 hv trivial _)
  have k0 := h0
  have lt0 : ∀ x ∈ p0, x.block < W.heap.size := by obtain ⟨m, hm⟩ := k0; exact DataW.trod_lt m _ _ _ hm
  obtain ⟨a0, len0, cap0, rfl⟩ := okWide_slice Tryd.underlying35 (hval 0 35 v0 rfl rfl)
  have w0 : BytesIn W W.heap.size a0 len0 cap0 := isRow_of h0
  clear hA0 hV0
  refine (walk_FnPredNot a0 len0 cap0 W w0 ep (varCell hv)).mono fun e W' ⟨he, bel⟩ => ?_
  subst he
  exact ⟨_, rfl, _, _, _, [], _, _, hW', trodAll_mk1 (shut_bool Tryd.underlying4 _), (trodAll_cons_mk (Below.trod laidOut (by kernel_rfl) (of_decide_eq_true (by kernel_rfl)) k0 bel lt0) (trodAll_mk0)), vars_read1 enc gE gEt Tryd.underlying49 (varLater hv bel) trivial _, bel.frame _, fun h => by cases h⟩

noncomputable def low_FnPredNot : Nat := (World.holding Tryd.prog default ⟨#[], #[], []⟩).heap.size
/-- A world for the witness: the settled one, with the error value as the text lays it. -/
noncomputable def laidWorld_FnPredNot (os : Os) : World :=
  { World.holding Tryd.prog os ⟨#[.cells #[.string ⟨#[110, 111, 32, 99, 111, 110, 100, 105, 116, 105, 111, 110]⟩] 150], #[], []⟩ with heap := (World.holding Tryd.prog os ⟨#[.cells #[.string ⟨#[110, 111, 32, 99, 111, 110, 100, 105, 116, 105, 111, 110]⟩] 150], #[], []⟩).heap.modify 0 (fun | .cells _ t frozen => .cells #[.iface 126 (.pointer (some ⟨low_FnPredNot, 0, none⟩))] t frozen | o => o) }

theorem laidMet_FnPredNot (os : Os) : laidMet Tryd.prog Rows.fnPredNotRow.laid ((laidWorld_FnPredNot os).forCall (fun _ _ => 0) ⟨#[], #[.slice none 0 0], []⟩).memory :=
  laidMet_of_run' 8 (by kernel_rfl) (by kernel_rfl)

set_option maxRecDepth 100000 in
theorem lifted_FnPredNot (os : Os) (started : os.Started) (H : Type) (enc : TypeId × Value → H) (F : Stop.Interp) :
    ReturnsInHanded {} Tryd.checked os 13 .any ((OpenSpec.ofChange Rows.fnPredNotSpec).preRow enc Tryd.prog Tryd.f13 Rows.fnPredNotRow.domain false Rows.fnPredNotRow.laid) (((OpenSpec.ofChange Rows.fnPredNotSpec).at F).post enc Tryd.prog Tryd.f13 false true false false) := by
  refine returnsInHanded_of_row (C := Tryd.checked) (s := OpenSpec.ofChange Rows.fnPredNotSpec) own started (by kernel_rfl) Tryd.func13
    (witness_row_at (enc := enc) (C := Tryd.checked) false (laidWorld_FnPredNot os) #[.slice none 0 0] rfl (by kernel_rfl) (by kernel_rfl) (by kernel_rfl)
      (OpenSpec.preRow_of_B rfl 8 (by kernel_rfl) (by kernel_rfl) (laidMet_FnPredNot os))) ?_
  intro W base args ds gs before hval hW _ _ _ hL _ _
  exact contract_FnPredNot H enc W base args ds gs before hval hW hL

theorem said_FnPredNot : Rows.FnPredNotSaid :=
  OpenClaim.holds_of_cond 13 Tryd.f13 rfl rfl rfl rfl rfl rfl rfl ⟨rfl, rfl, rfl, rfl, rfl⟩ rfl rfl rfl rfl rfl (by kernel_rfl) Tryd.func13 (by kernel_rfl)
    (of_decide_eq_true (by kernel_rfl)) (by unfold Func.isWrapper; first | (rw [if_pos (by decide +kernel)]; kernel_rfl) | (rw [if_neg (by decide +kernel)]; exact ⟨rfl, rfl⟩))
    (fun os started H enc _ F => by rw [OpenClaim.pre_eq_preRow]; exact lifted_FnPredNot os started H enc F)

theorem plain_FnPredNot (f : FuncId) (fn : Func) (hf : Tryd.pinned.checked.prog.funcNamed "loop.example/crossbuck/laws.FnPredNot" = some f) (hfn : Tryd.pinned.checked.prog.funcs[f]? = some fn) :
    true = Tryd.pinned.checked.prog.looks [] ∧ ∀ (j : Nat) t, fn.params[j]? = some t → Tryd.pinned.checked.prog.wantsStandIn t = false := by
  obtain rfl : f = 13 := Option.some.inj ((show Tryd.prog.funcNamed "loop.example/crossbuck/laws.FnPredNot" = some 13 by kernel_rfl).symm.trans hf) |>.symm
  obtain rfl : fn = Tryd.f13 := (Option.some.inj (Tryd.func13.symm.trans hfn)).symm
  refine ⟨by kernel_rfl, fun j t ht => ?_⟩
  rw [Tryd.params13] at ht
  obtain rfl : t = 35 := by simpa using Array.mem_of_getElem? ht
  exact (show Tryd.prog.wantsStandIn 35 = false by kernel_rfl)

theorem proved_FnPredNot : Rows.FnPredNotCardSaid :=
  Claim7.holds_tied_plain_at .later [] _ _ _ _ said_FnPredNot (fun _ h => by cases h) (by kernel_rfl) (fun _ h => by cases h) fnPredNot_row_tie rfl ⟨rfl, rfl⟩ (by kernel_rfl) rfl plain_FnPredNot (by kernel_rfl)

end Go.Proofs.YtddkpimmcmnogaaDoor
