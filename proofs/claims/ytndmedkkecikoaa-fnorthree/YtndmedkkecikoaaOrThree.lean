/-
  Proved: promise 29 (of three spaces it does not matter which are put together first), at every two codes from which the spaces are drawn; the codes read on as they did. No condition.
-/
import Derived.Test.YtndmedkkecikoaaSpaceAlg
namespace Go.Proofs.Ytndmedkkecikoaa
open Go.ChangeShapes Go.WideShapes Go.ChangeAt Go.RowKit Go.Joins
set_option linter.unusedVariables false

set_option maxRecDepth 100000 in
set_option maxHeartbeats 4000000 in
theorem walk_FnOrThree (a : Option Addr) (len cap : Nat) (a' : Option Addr) (len' cap' : Nat) (w : World) (hb : BytesIn w w.heap.size a len cap) (hb' : BytesIn w w.heap.size a' len' cap') :
    Calls Try.prog 14 #[.slice a len cap, .slice a' len' cap'] w fun e w' => e = .returned (.bool true) ∧ Below w.heap.size w w' := by
  have HB := Lib.hid hb
  have HM : Hid (∀ W, Below w.heap.size w W → BytesIn W W.heap.size a' len' cap') := fun W hW => (hb'.keep fun k hk => hW.block k hk).up hW.size
  have hm : (len : Int) ≤ maxLen := by have := hb.1; have := hb.2.1; omega
  have hm' : (len' : Int) ≤ maxLen := by have := hb'.1; have := hb'.2.1; omega
  unfold maxLen at hm hm'
  clear hb hb'
  by_cases hlen : (1048576 : Int) < (len : Int)
  · go_enter Try.func14, Try.ntmps14
    go_wp2
    go_ret
    exact ⟨rfl, Below.refl _ _⟩
  have hd1 : decide ((1048576 : Int) < (len : Int)) = false := by simpa using hlen
  by_cases hlen' : (1048576 : Int) < (len' : Int)
  · go_enter Try.func14, Try.ntmps14
    go_wp2
    go_ret
    exact ⟨rfl, Below.refl _ _⟩
  have hd2 : decide ((1048576 : Int) < (len' : Int)) = false := by simpa using hlen'
  go_enter Try.func14, Try.ntmps14
  go_wp2_with fail
  refine (drawSpaceOr_any _ _ _ _ HB.out).mono ?_
  rintro e w1 ⟨v, l, v', l', rfl, hsh, hsh', hx, hx', b1⟩
  have HF : Hid (Fit6 l) := hsh.fit
  have HF' : Hid (Fit6 l') := hsh'.fit
  have HX : Hid (∀ W, Below w1.heap.size w1 W → Strs W W.heap.size v l) := fun W hb => (hx.below hb (Nat.le_refl _)).mono hb.size
  have HX' : Hid (∀ W, Below w1.heap.size w1 W → Strs W W.heap.size v' l') := fun W hb => (hx'.below hb (Nat.le_refl _)).mono hb.size
  have BW : Hid (∀ W, Below w1.heap.size w1 W → Below w.heap.size w W) := fun W hb => belStep b1 hb
  have hlen2 := opR_len (fun x y => x || y) l l'
  clear hsh hsh' hx hx' b1
  go_wp2_with fail
  refine (iSpaceOr_any _ _ _ l l' (HX.out _ (Below.refl _ _)) (HX'.out _ (Below.refl _ _)) HF.out HF'.out).mono ?_
  rintro e w2 ⟨u, rfl, r2, B⟩
  have RU := Lib.hid r2
  replace B := Lib.hid B
  clear r2
  go_wp2_with fail
  refine (sSpaceOr_any _ _ _ l l' (HX.out _ B.out) (HX'.out _ B.out) HF.out HF'.out).mono ?_
  rintro e w3 ⟨u3, rfl, r3, b3⟩
  replace RU := Lib.hid (RU.out.below b3)
  replace B := Lib.hid (belStep B.out b3)
  clear b3
  have R3 := Lib.hid r3
  clear r3
  go_wp2_with fail
  refine (lxTexts_same _ _ _ _ _ _ RU.out R3.out (by omega)).mono ?_
  rintro e w4 ⟨rfl, b4⟩
  replace RU := Lib.hid (RU.out.below b4)
  replace R3 := Lib.hid (R3.out.below b4)
  replace B := Lib.hid (belStep B.out b4)
  clear b4
  clear R3
  go_wp2_with fail
  refine (sSpaceOk_any _ _ l (HX.out _ B.out) HF.out).mono ?_
  rintro e w5 ⟨rfl, b5⟩
  replace RU := Lib.hid (RU.out.below b5)
  replace B := Lib.hid (belStep B.out b5)
  clear b5
  cases hk : okSp l
  · go_wp2_with fail
    refine (sSpaceOr_any _ _ _ l l' (HX.out _ B.out) (HX'.out _ B.out) HF.out HF'.out).mono ?_
    rintro e w6 ⟨u6, rfl, r6, b6⟩
    replace RU := Lib.hid (RU.out.below b6)
    replace B := Lib.hid (belStep B.out b6)
    clear b6
    have R6 := Lib.hid r6
    clear r6
    go_wp2_with fail
    refine (lxTexts_same _ _ _ _ _ _ RU.out R6.out (by omega)).mono ?_
    rintro e w7 ⟨rfl, b7⟩
    replace RU := Lib.hid (RU.out.below b7)
    replace R6 := Lib.hid (R6.out.below b7)
    replace B := Lib.hid (belStep B.out b7)
    clear b7
    go_wp2
    go_ret
    exact ⟨rfl, BW.out _ B.out⟩
  go_wp2_with fail
  refine (sSpaceOk_any _ _ l' (HX'.out _ B.out) HF'.out).mono ?_
  rintro e w6 ⟨rfl, b6⟩
  replace RU := Lib.hid (RU.out.below b6)
  replace B := Lib.hid (belStep B.out b6)
  clear b6
  cases hk' : okSp l'
  · go_wp2_with fail
    refine (sSpaceOr_any _ _ _ l l' (HX.out _ B.out) (HX'.out _ B.out) HF.out HF'.out).mono ?_
    rintro e w7 ⟨u7, rfl, r7, b7⟩
    replace RU := Lib.hid (RU.out.below b7)
    replace B := Lib.hid (belStep B.out b7)
    clear b7
    have R6 := Lib.hid r7
    clear r7
    go_wp2_with fail
    refine (lxTexts_same _ _ _ _ _ _ RU.out R6.out (by omega)).mono ?_
    rintro e w8 ⟨rfl, b8⟩
    replace RU := Lib.hid (RU.out.below b8)
    replace R6 := Lib.hid (R6.out.below b8)
    replace B := Lib.hid (belStep B.out b8)
    clear b8
    go_wp2
    go_ret
    exact ⟨rfl, BW.out _ B.out⟩
  go_wp2_with fail
  refine (drawSpaceTidy_any _ _ _ _ (HM.out _ (BW.out _ B.out))).mono ?_
  rintro e w7 ⟨c, lc, rfl, hsc, hxc, b7⟩
  have HFC : Hid (Fit6 lc) := hsc.fit
  have HXC : Hid (∀ W, Below w7.heap.size w7 W → Strs W W.heap.size c lc) := fun W hb => (hxc.below hb (Nat.le_refl _)).mono hb.size
  have BC := Lib.hid (Below.refl w7.heap.size w7)
  clear hsc hxc
  replace RU := Lib.hid (RU.out.below b7)
  replace B := Lib.hid (belStep B.out b7)
  clear b7
  go_wp2_with fail
  refine (iSpaceOk_any _ _ lc (HXC.out _ BC.out) HFC.out).mono ?_
  rintro e w8 ⟨rfl, b8⟩
  replace BC := Lib.hid (belStep BC.out b8)
  replace RU := Lib.hid (RU.out.below b8)
  replace B := Lib.hid (belStep B.out b8)
  clear b8
  cases hc : okSp lc
  · go_wp2
    go_ret
    exact ⟨rfl, BW.out _ B.out⟩
  have H3 := Lib.hid (op_three (fun x y => x || y) (by decide) hk hk' hc)
  have H4 := Lib.hid (op_three (fun x y => x && y) (by decide) hk hk' hc)
  go_wp2_with fail
  refine (iSpaceOr_any _ _ _ (opR (fun x y => x || y) l l') lc RU.out.strs (HXC.out _ BC.out) (fit_op _ _ _) HFC.out).mono ?_
  rintro e w9 ⟨u9, rfl, r9, b9⟩
  replace BC := Lib.hid (belStep BC.out b9)
  replace RU := Lib.hid (RU.out.below b9)
  replace B := Lib.hid (belStep B.out b9)
  clear b9
  have P1 := Lib.hid r9
  clear r9
  go_wp2_with fail
  refine (iSpaceOr_any _ _ _ l' lc (HX'.out _ B.out) (HXC.out _ BC.out) HF'.out HFC.out).mono ?_
  rintro e w10 ⟨u10, rfl, r10, b10⟩
  replace BC := Lib.hid (belStep BC.out b10)
  replace RU := Lib.hid (RU.out.below b10)
  replace P1 := Lib.hid (P1.out.below b10)
  replace B := Lib.hid (belStep B.out b10)
  clear b10
  have P2 := Lib.hid r10
  clear r10
  go_wp2_with fail
  refine (iSpaceOr_any _ _ _ l (opR (fun x y => x || y) l' lc) (HX.out _ B.out) P2.out.strs HF.out (fit_op _ _ _)).mono ?_
  rintro e w11 ⟨u11, rfl, r11, b11⟩
  replace BC := Lib.hid (belStep BC.out b11)
  replace RU := Lib.hid (RU.out.below b11)
  replace P1 := Lib.hid (P1.out.below b11)
  replace P2 := Lib.hid (P2.out.below b11)
  replace B := Lib.hid (belStep B.out b11)
  clear b11
  have P3 := Lib.hid r11
  clear r11
  have E1 := H3.out
  rw [E1] at P1
  go_wp2_with fail
  refine (lxTexts_any _ _ _ _ _ P1.out.strs P3.out.strs).mono ?_
  rintro e w12 ⟨rfl, b12⟩
  rw [sameT_refl]
  replace BC := Lib.hid (belStep BC.out b12)
  replace RU := Lib.hid (RU.out.below b12)
  replace P1 := Lib.hid (P1.out.below b12)
  replace P2 := Lib.hid (P2.out.below b12)
  replace P3 := Lib.hid (P3.out.below b12)
  replace B := Lib.hid (belStep B.out b12)
  clear b12
  clear P1
  clear P2
  clear P3
  go_wp2_with fail
  refine (iSpaceAnd_any _ _ _ l l' (HX.out _ B.out) (HX'.out _ B.out) HF.out HF'.out).mono ?_
  rintro e w13 ⟨u13, rfl, r13, b13⟩
  replace BC := Lib.hid (belStep BC.out b13)
  replace RU := Lib.hid (RU.out.below b13)
  replace B := Lib.hid (belStep B.out b13)
  clear b13
  have P1 := Lib.hid r13
  clear r13
  go_wp2_with fail
  refine (iSpaceAnd_any _ _ _ (opR (fun x y => x && y) l l') lc P1.out.strs (HXC.out _ BC.out) (fit_op _ _ _) HFC.out).mono ?_
  rintro e w14 ⟨u14, rfl, r14, b14⟩
  replace BC := Lib.hid (belStep BC.out b14)
  replace RU := Lib.hid (RU.out.below b14)
  replace P1 := Lib.hid (P1.out.below b14)
  replace B := Lib.hid (belStep B.out b14)
  clear b14
  have P2 := Lib.hid r14
  clear r14
  go_wp2_with fail
  refine (iSpaceAnd_any _ _ _ l' lc (HX'.out _ B.out) (HXC.out _ BC.out) HF'.out HFC.out).mono ?_
  rintro e w15 ⟨u15, rfl, r15, b15⟩
  replace BC := Lib.hid (belStep BC.out b15)
  replace RU := Lib.hid (RU.out.below b15)
  replace P1 := Lib.hid (P1.out.below b15)
  replace P2 := Lib.hid (P2.out.below b15)
  replace B := Lib.hid (belStep B.out b15)
  clear b15
  have P3 := Lib.hid r15
  clear r15
  go_wp2_with fail
  refine (iSpaceAnd_any _ _ _ l (opR (fun x y => x && y) l' lc) (HX.out _ B.out) P3.out.strs HF.out (fit_op _ _ _)).mono ?_
  rintro e w16 ⟨u16, rfl, r16, b16⟩
  replace BC := Lib.hid (belStep BC.out b16)
  replace RU := Lib.hid (RU.out.below b16)
  replace P1 := Lib.hid (P1.out.below b16)
  replace P2 := Lib.hid (P2.out.below b16)
  replace P3 := Lib.hid (P3.out.below b16)
  replace B := Lib.hid (belStep B.out b16)
  clear b16
  have P4 := Lib.hid r16
  clear r16
  have E2 := H4.out
  rw [E2] at P2
  go_wp2_with fail
  refine (lxTexts_any _ _ _ _ _ P2.out.strs P4.out.strs).mono ?_
  rintro e w17 ⟨rfl, b17⟩
  rw [sameT_refl]
  replace BC := Lib.hid (belStep BC.out b17)
  replace RU := Lib.hid (RU.out.below b17)
  replace P1 := Lib.hid (P1.out.below b17)
  replace P2 := Lib.hid (P2.out.below b17)
  replace P3 := Lib.hid (P3.out.below b17)
  replace P4 := Lib.hid (P4.out.below b17)
  replace B := Lib.hid (belStep B.out b17)
  clear b17
  go_wp2
  go_ret
  exact ⟨rfl, BW.out _ B.out⟩

set_option maxRecDepth 100000 in
theorem lifted_FnOrThree (os : Os) (started : os.Started) (H : Type) (enc : TypeId × Value → H) :
    ReturnsInHanded {} Try.checked os 14 .any (Rows.fnOrThreeSpec.pre6 enc Try.prog Try.f14 Rows.fnOrThreeRow.domain false) (Rows.fnOrThreeSpec.post enc Try.prog Try.f14 false true false false) := by
  refine returnsInHanded_of_change (C := Try.checked) own started (by kernel_rfl) Try.func14
    (ChangeSpec.witness6 (enc := enc) (C := Try.checked) false ⟨#[], #[.slice none 0 0, .slice none 0 0], []⟩ 8 (by kernel_rfl) (by kernel_rfl) (by kernel_rfl) (by kernel_rfl)) ?_
  intro W base args ds gs before hval0 hW hcnd _
  have hval : ∀ (j : Nat) t v, Try.f14.params[j]? = some t → args[j]? = some v → Value.okWide Try.prog W .any base t v := hval0
  have hW' := hW
  obtain ⟨p, q, hA0, hV, rfl, hfz, hnd⟩ := hW
  have hA : DataW.TrodAll enc Try.prog W 0 (fun _ => true) true Try.f14.params.toList args.toList ds p := hA0
  rw [Try.params14] at hA hval
  obtain ⟨v0, vs0, d0, ds0, p0, q0, hargs, rfl, rfl, h0, r0⟩ := trodAll_cons hA
  obtain ⟨v1, vs1, d1, ds1, p1, q1, rfl, rfl, rfl, h1, r1⟩ := trodAll_cons r0
  obtain ⟨rfl, rfl, rfl⟩ := trodAll_nil r1
  obtain rfl : args = #[v0, v1] := by cases args; simp_all
  obtain ⟨rfl, rfl⟩ := trodVars_none hV
  have k0 := h0
  have lt0 : ∀ x ∈ p0, x.block < W.heap.size := by obtain ⟨m, hm⟩ := k0; exact DataW.trod_lt m _ _ _ hm
  have k1 := h1
  have lt1 : ∀ x ∈ p1, x.block < W.heap.size := by obtain ⟨m, hm⟩ := k1; exact DataW.trod_lt m _ _ _ hm
  obtain ⟨a0, len0, cap0, rfl⟩ := okWide_slice Try.underlying22 (hval 0 22 v0 rfl rfl)
  have w0 : BytesIn W W.heap.size a0 len0 cap0 := isRow_of h0
  obtain ⟨a1, len1, cap1, rfl⟩ := okWide_slice Try.underlying22 (hval 1 22 v1 rfl rfl)
  have w1 : BytesIn W W.heap.size a1 len1 cap1 := isRow_of h1
  clear hA0 hval0
  refine (walk_FnOrThree a0 len0 cap0 a1 len1 cap1 W w0 w1).mono fun e W' ⟨he, bel⟩ => ?_
  subst he
  exact ⟨_, rfl, _, _, _, [], _, [], hW', trodAll_mk1 (shut_bool Try.underlying4 _), (trodAll_cons_mk (Below.trod laidOut (by kernel_rfl) (of_decide_eq_true (by kernel_rfl)) k0 bel lt0) (trodAll_cons_mk (Below.trod laidOut (by kernel_rfl) (of_decide_eq_true (by kernel_rfl)) k1 bel lt1) (trodAll_mk0))), rfl, bel.frame _, fun h => by cases h⟩

theorem over_FnOrThree : Rows.fnOrThreeRow.holds Try.pinned (OpenSpec.ofChange Rows.fnOrThreeSpec) :=
  OpenClaim.holds_of_wide 14 Try.f14 rfl rfl rfl rfl rfl rfl rfl ⟨rfl, rfl, rfl, rfl, rfl⟩ rfl rfl rfl rfl rfl (by kernel_rfl) Try.func14 (by kernel_rfl)
    (of_decide_eq_true (by kernel_rfl)) (by unfold Func.isWrapper; first | (rw [if_pos (by decide +kernel)]; kernel_rfl) | (rw [if_neg (by decide +kernel)]; exact ⟨rfl, rfl⟩))
    (fun os started H enc _ => lifted_FnOrThree os started H enc)

theorem proved_FnOrThree : Rows.FnOrThreeSaid := over_FnOrThree

end Go.Proofs.Ytndmedkkecikoaa
