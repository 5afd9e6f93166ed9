/-
  Proved: promise 28 (one space is in another one, if nothing is left of it), at every code from which the spaces are drawn; the code reads on as it did. No condition.
-/
import Derived.Test.YtndmedkkecikoaaSpaceLx
import Derived.Test.YtndmedkkecikoaaDrawSpace
namespace Go.Proofs.Ytndmedkkecikoaa
open Go.ChangeShapes Go.WideShapes Go.ChangeAt Go.RowKit Go.Joins
set_option linter.unusedVariables false

theorem subset_all {l l' : List ByteArray} (hk : okSp l = true) (hk' : okSp l' = true) :
    decide ((opR (fun x y => x && !y) l l').length = 0) = sameT (opR (fun x y => x && y) l l') (tidyR l) ∧ decide ((opR (fun x y => x && !y) l l').length = 0) = sameT (opR (fun x y => x || y) l l') (tidyR l') := by
  have e : ∀ f, opR f l l' = tidyT (List.zipWith f (spL l) (spL l')) := fun f => by simp [opR, hk, hk']
  have t : tidyR l = tidyT (spL l) := by simp [tidyR, hk]
  have t' : tidyR l' = tidyT (spL l') := by simp [tidyR, hk']
  rw [e, e, e, t, t', tidyT_nil (zip64 _ _ _), tidyT_inj (zip64 _ _ _) (spL_len _), tidyT_inj (zip64 _ _ _) (spL_len _)]
  have h1 := sub_and (spL l) (spL l') (by rw [spL_len, spL_len])
  have h2 := sub_or (spL l) (spL l') (by rw [spL_len, spL_len])
  rw [spL_len] at h1 h2
  exact ⟨decide_eq_decide.2 h1, decide_eq_decide.2 h2⟩

set_option maxRecDepth 100000 in
set_option maxHeartbeats 4000000 in
theorem walk_FnSubset (a : Option Addr) (len cap : Nat) (w : World) (hb : BytesIn w w.heap.size a len cap) :
    Calls Try.prog 13 #[.slice a len cap] w fun e w' => e = .returned (.bool true) ∧ Below w.heap.size w w' := by
  have HB := Lib.hid hb
  have hm : (len : Int) ≤ maxLen := by have := hb.1; have := hb.2.1; omega
  unfold maxLen at hm
  clear hb
  by_cases hlen : (1048576 : Int) < (len : Int)
  · go_enter Try.func13, Try.ntmps13
    go_wp2
    go_ret
    exact ⟨rfl, Below.refl _ _⟩
  go_enter Try.func13, Try.ntmps13
  go_wp2_with fail
  refine (drawSpaceLess_any _ _ _ _ HB.out).mono ?_
  rintro e w1 ⟨v, l, v', l', rfl, hsh, hsh', hx, hx', b1⟩
  have HF : Hid (Fit6 l) := hsh.fit
  have HF' : Hid (Fit6 l') := hsh'.fit
  have HX : Hid (∀ W, Below w1.heap.size w1 W → Strs W W.heap.size v l) := fun W hb => (hx.below hb (Nat.le_refl _)).mono hb.size
  have HX' : Hid (∀ W, Below w1.heap.size w1 W → Strs W W.heap.size v' l') := fun W hb => (hx'.below hb (Nat.le_refl _)).mono hb.size
  have BW : Hid (∀ W, Below w1.heap.size w1 W → Below w.heap.size w W) := fun W hb => belStep b1 hb
  clear hsh hsh' hx hx' b1
  go_wp2_with fail
  refine (iSpaceLess_any _ _ _ l l' (HX.out _ (Below.refl _ _)) (HX'.out _ (Below.refl _ _)) HF.out HF'.out).mono ?_
  rintro e w2 ⟨u, rfl, r2, B⟩
  have RU := Lib.hid r2
  replace B := Lib.hid B
  clear r2
  go_wp2_with fail
  refine (sSpaceLess_any _ _ _ l l' (HX.out _ B.out) (HX'.out _ B.out) HF.out HF'.out).mono ?_
  rintro e w3 ⟨u3, rfl, r3, b3⟩
  replace RU := Lib.hid (RU.out.below b3)
  have R3 := Lib.hid r3
  replace B := Lib.hid (belStep B.out b3)
  clear r3 b3
  have hlen2 := opR_len (fun x y => x && !y) l l'
  go_wp2_with fail
  refine (lxTexts_same _ _ _ _ _ _ RU.out R3.out (by omega)).mono ?_
  rintro e w4 ⟨rfl, b4⟩
  replace RU := Lib.hid (RU.out.below b4)
  replace B := Lib.hid (belStep B.out b4)
  clear b4 R3
  go_wp2_with fail
  refine (sSpaceOk_any _ _ l (HX.out _ B.out) HF.out).mono ?_
  rintro e w5 ⟨rfl, b5⟩
  replace RU := Lib.hid (RU.out.below b5)
  replace B := Lib.hid (belStep B.out b5)
  clear b5
  cases hk : okSp l
  · go_wp2_with fail
    refine (sSpaceLess_any _ _ _ l l' (HX.out _ B.out) (HX'.out _ B.out) HF.out HF'.out).mono ?_
    rintro e w6 ⟨u6, rfl, r6, b6⟩
    replace RU := Lib.hid (RU.out.below b6)
    have R6 := Lib.hid r6
    replace B := Lib.hid (belStep B.out b6)
    clear r6 b6
    go_wp2_with fail
    refine (lxTexts_same _ _ _ _ _ _ RU.out R6.out (by omega)).mono ?_
    rintro e w7 ⟨rfl, b7⟩
    go_wp2
    go_ret
    exact ⟨rfl, BW.out _ (belStep B.out b7)⟩
  go_wp2_with fail
  refine (sSpaceOk_any _ _ l' (HX'.out _ B.out) HF'.out).mono ?_
  rintro e w6 ⟨rfl, b6⟩
  replace RU := Lib.hid (RU.out.below b6)
  replace B := Lib.hid (belStep B.out b6)
  clear b6
  cases hk' : okSp l'
  · go_wp2_with fail
    refine (sSpaceLess_any _ _ _ l l' (HX.out _ B.out) (HX'.out _ B.out) HF.out HF'.out).mono ?_
    rintro e w6 ⟨u6, rfl, r6, b6⟩
    replace RU := Lib.hid (RU.out.below b6)
    have R6 := Lib.hid r6
    replace B := Lib.hid (belStep B.out b6)
    clear r6 b6
    go_wp2_with fail
    refine (lxTexts_same _ _ _ _ _ _ RU.out R6.out (by omega)).mono ?_
    rintro e w7 ⟨rfl, b7⟩
    go_wp2
    go_ret
    exact ⟨rfl, BW.out _ (belStep B.out b7)⟩
  have HALL := Lib.hid (subset_all hk hk')
  have hz0 : (((opR (fun x y => x && !y) l l').length : Int) == 0) = decide ((opR (fun x y => x && !y) l l').length = 0) := by
    by_cases h : (opR (fun x y => x && !y) l l').length = 0 <;> simp [h]
  have HZ := Lib.hid hz0
  obtain ⟨ua, uc, hu, -, -, -⟩ := RU.out.at
  subst hu
  have HS1 := Lib.hid HALL.out.1
  have HS2 := Lib.hid HALL.out.2
  clear hz0 HALL RU
  go_wp2_with fail
  refine (iSpaceAnd_any _ _ _ l l' (HX.out _ B.out) (HX'.out _ B.out) HF.out HF'.out).mono ?_
  rintro e w7 ⟨u7, rfl, r7, b7⟩
  have R7 := Lib.hid r7
  replace B := Lib.hid (belStep B.out b7)
  clear r7 b7
  go_wp2_with fail
  refine (iSpaceTidy_any _ _ l (HX.out _ B.out) HF.out).mono ?_
  rintro e w8 ⟨u8, rfl, r8, b8⟩
  replace R7 := Lib.hid (R7.out.below b8)
  have R8 := Lib.hid r8
  replace B := Lib.hid (belStep B.out b8)
  clear r8 b8
  go_wp2_with fail
  refine (lxTexts_any _ _ _ _ _ R7.out.strs R8.out.strs).mono ?_
  rintro e w9 ⟨rfl, b9⟩
  replace B := Lib.hid (belStep B.out b9)
  clear b9 R7 R8
  rw [← HS1.out, ← HZ.out]
  have hq : ∀ q : Bool, (q == q) = true := by decide
  generalize (((opR (fun x y => x && !y) l l').length : Int) == 0) = q at *
  have hqq := hq q
  go_wp2_with fail
  refine (iSpaceOr_any _ _ _ l l' (HX.out _ B.out) (HX'.out _ B.out) HF.out HF'.out).mono ?_
  rintro e w10 ⟨u10, rfl, r10, b10⟩
  have R10 := Lib.hid r10
  replace B := Lib.hid (belStep B.out b10)
  clear r10 b10
  go_wp2_with fail
  refine (iSpaceTidy_any _ _ l' (HX'.out _ B.out) HF'.out).mono ?_
  rintro e w11 ⟨u11, rfl, r11, b11⟩
  replace R10 := Lib.hid (R10.out.below b11)
  have R11 := Lib.hid r11
  replace B := Lib.hid (belStep B.out b11)
  clear r11 b11
  go_wp2_with fail
  refine (lxTexts_any _ _ _ _ _ R10.out.strs R11.out.strs).mono ?_
  rintro e w12 ⟨rfl, b12⟩
  replace B := Lib.hid (belStep B.out b12)
  clear b12 R10 R11
  rw [← HS2.out, ← HZ.out]
  go_wp2
  go_ret
  exact ⟨by simp, BW.out _ B.out⟩

set_option maxRecDepth 100000 in
theorem lifted_FnSubset (os : Os) (started : os.Started) (H : Type) (enc : TypeId × Value → H) :
    ReturnsInHanded {} Try.checked os 13 .any (Rows.fnSubsetSpec.pre6 enc Try.prog Try.f13 Rows.fnSubsetRow.domain false) (Rows.fnSubsetSpec.post enc Try.prog Try.f13 false true false false) := by
  refine returnsInHanded_of_change (C := Try.checked) own started (by kernel_rfl) Try.func13
    (ChangeSpec.witness6 (enc := enc) (C := Try.checked) false ⟨#[], #[.slice none 0 0], []⟩ 8 (by kernel_rfl) (by kernel_rfl) (by kernel_rfl) (by kernel_rfl)) ?_
  intro W base args ds gs before hval0 hW hcnd _
  have hval : ∀ (j : Nat) t v, Try.f13.params[j]? = some t → args[j]? = some v → Value.okWide Try.prog W .any base t v := hval0
  have hW' := hW
  obtain ⟨p, q, hA0, hV, rfl, hfz, hnd⟩ := hW
  have hA : DataW.TrodAll enc Try.prog W 0 (fun _ => true) true Try.f13.params.toList args.toList ds p := hA0
  rw [Try.params13] at hA hval
  obtain ⟨v0, vs0, d0, ds0, p0, q0, hargs, rfl, rfl, h0, r0⟩ := trodAll_cons hA
  obtain ⟨rfl, rfl, rfl⟩ := trodAll_nil r0
  obtain rfl : args = #[v0] := by cases args; simp_all
  obtain ⟨rfl, rfl⟩ := trodVars_none hV
  have k0 := h0
  have lt0 : ∀ x ∈ p0, x.block < W.heap.size := by obtain ⟨m, hm⟩ := k0; exact DataW.trod_lt m _ _ _ hm
  obtain ⟨a0, len0, cap0, rfl⟩ := okWide_slice Try.underlying22 (hval 0 22 v0 rfl rfl)
  have w0 : BytesIn W W.heap.size a0 len0 cap0 := isRow_of h0
  clear hA0 hval0
  refine (walk_FnSubset a0 len0 cap0 W w0).mono fun e W' ⟨he, bel⟩ => ?_
  subst he
  exact ⟨_, rfl, _, _, _, [], _, [], hW', trodAll_mk1 (shut_bool Try.underlying4 _), (trodAll_cons_mk (Below.trod laidOut (by kernel_rfl) (of_decide_eq_true (by kernel_rfl)) k0 bel lt0) (trodAll_mk0)), rfl, bel.frame _, fun h => by cases h⟩

theorem over_FnSubset : Rows.fnSubsetRow.holds Try.pinned (OpenSpec.ofChange Rows.fnSubsetSpec) :=
  OpenClaim.holds_of_wide 13 Try.f13 rfl rfl rfl rfl rfl rfl rfl ⟨rfl, rfl, rfl, rfl, rfl⟩ rfl rfl rfl rfl rfl (by kernel_rfl) Try.func13 (by kernel_rfl)
    (of_decide_eq_true (by kernel_rfl)) (by unfold Func.isWrapper; first | (rw [if_pos (by decide +kernel)]; kernel_rfl) | (rw [if_neg (by decide +kernel)]; exact ⟨rfl, rfl⟩))
    (fun os started H enc _ => lifted_FnSubset os started H enc)

theorem proved_FnSubset : Rows.FnSubsetSaid := over_FnSubset

end Go.Proofs.Ytndmedkkecikoaa
