/-
  Proved: promise 24 (heads of a space are counted once), at every two codes from which the spaces are drawn; the codes read on as they did. No condition.
-/
import Derived.Test.YtndmedkkecikoaaSpaceAlg
import Derived.Test.YtndmedkkecikoaaSpaceSpecD
namespace Go.Proofs.Ytndmedkkecikoaa
open Go.ChangeShapes Go.WideShapes Go.ChangeAt Go.RowKit Go.Joins
set_option linter.unusedVariables false

theorem manyS_sText {x : List UInt8} (h : x.length = 6) (hs : ∀ b ∈ x, b = 48 ∨ b = 49 ∨ b = 120) : manyS (sText x) = manyB (cL x) := by
  rw [← txt_L h hs, manyS, okS_txt, cond_true]
  exact manyB_congr fun i hi => cf_txt _ _ hi
theorem sumL_tidy (m : List Bool) : sumL (tidyT m) = sumL6 (tidyB 6 m) := by
  unfold sumL sumL6 tidyT
  rw [List.map_map]
  congr 1
  apply List.map_congr_left
  intro x hx
  exact manyS_sText (tidyB_len 6 m x hx) (tidyB_sgn 6 m x hx)
theorem sum_step3 (l : List ByteArray) {k : Nat} (h : k < l.length) : sumL (l.take (k + 1)) = sumL (l.take k) + manyS (strAt l k) := by
  unfold sumL strAt
  rw [List.take_succ_eq_append_getElem h, List.map_append, List.sum_append, List.getD_eq_getElem?_getD, List.getElem?_eq_getElem h]
  simp only [List.map_cons, List.map_nil, List.sum_cons, List.sum_nil, Option.getD_some, Int.add_zero]
theorem manyS_bound3 (s : ByteArray) : 0 ≤ manyS s ∧ manyS s ≤ 64 := by
  unfold manyS
  cases okS s
  · exact ⟨by rw [cond_false]; decide, by rw [cond_false]; decide⟩
  · exact manyB_le (cf s)
theorem sum_bound3 (l : List ByteArray) : ∀ k, k ≤ l.length → 0 ≤ sumL (l.take k) ∧ sumL (l.take k) ≤ 64 * (k : Int)
  | 0, _ => by simp [sumL]
  | k + 1, h => by
    have ih := sum_bound3 l k (by omega)
    have hb := manyS_bound3 (strAt l k)
    rw [sum_step3 l (by omega)]
    omega
theorem incl : ∀ (a b : List Bool), a.length = b.length → (List.zipWith (fun x y => x || y) a b).count true + (List.zipWith (fun x y => x && y) a b).count true = a.count true + b.count true
  | [], [], _ => rfl
  | x :: a, y :: b, h => by
    have ih := incl a b (by simpa using h)
    simp only [List.zipWith_cons_cons, List.count_cons]
    cases x <;> cases y <;> simp <;> omega
theorem manyR_ok {l : List ByteArray} (hk : okSp l = true) : manyR l = ((spL l).count true : Int) := by
  rw [manyR, hk, cond_true, sumL6_count (spL_len l)]
theorem manyR_bound (l : List ByteArray) : -1 ≤ manyR l ∧ manyR l ≤ 64 := by
  unfold manyR
  cases hk : okSp l
  · exact ⟨by rw [cond_false]; decide, by rw [cond_false]; decide⟩
  · rw [cond_true, sumL6_count (spL_len l)]
    have : (spL l).count true ≤ 64 := by have := List.count_le_length (a := true) (l := spL l); rw [spL_len] at this; exact this
    omega
theorem many_two {l l' : List ByteArray} (hk : okSp l = true) (hk' : okSp l' = true) : manyR (opR (fun x y => x || y) l l') = manyR l + manyR l' - manyR (opR (fun x y => x && y) l l') := by
  rw [manyR_ok (okSp_op _ hk hk'), manyR_ok (okSp_op _ hk hk'), manyR_ok hk, manyR_ok hk', spL_op _ hk hk', spL_op _ hk hk']
  have := incl (spL l) (spL l') (by rw [spL_len, spL_len])
  omega

set_option maxHeartbeats 1000000 in
theorem drawSpaceMany_any (w : World) (a : Option Addr) (len cap : Nat) (hb : BytesIn w w.heap.size a len cap) :
    Calls Try.prog 39 #[.slice a len cap] w (SpaceFrom w) := by
  have HB := Lib.hid hb
  clear hb
  go_enter Try.func39, Try.ntmps39
  go_wp2_with fail
  refine (open_any _ _ _ _ HB.out).mono ?_
  rintro e w1 ⟨rfl, hr, b1⟩
  have HR := Lib.hid hr
  have s1 := hr.lt
  have z1 := b1.size
  clear hr
  go_wp2_with fail
  refine (l91Space_any _ _ _ HR.out (by omega)).mono ?_
  rintro e w2 ⟨v, l, rfl, hsh, hrow, hr2, g2⟩
  have HSH := Lib.hid hsh
  have HW2 : Hid (Strs w2 w2.heap.size v l) := hrow.strs
  have B2 : Hid (Below w.heap.size w w2) := b1.trans ((gBel g2 (Nat.le_refl _) z1).mono (Nat.le_refl _))
  clear hsh hrow hr2 g2 b1
  go_wp2
  go_ret
  exact ⟨v, l, rfl, HSH.out, HW2.out, B2.out⟩

set_option maxRecDepth 100000 in
set_option maxHeartbeats 4000000 in
theorem walk_FnSpaceMany (a : Option Addr) (len cap : Nat) (a' : Option Addr) (len' cap' : Nat) (w : World) (hb : BytesIn w w.heap.size a len cap) (hb' : BytesIn w w.heap.size a' len' cap') :
    Calls Try.prog 10 #[.slice a len cap, .slice a' len' cap'] w fun e w' => e = .returned (.bool true) ∧ Below w.heap.size w w' := by
  have HB := Lib.hid hb
  have HM : Hid (∀ W, Below w.heap.size w W → BytesIn W W.heap.size a' len' cap') := fun W hW => (hb'.keep fun k hk => hW.block k hk).up hW.size
  have hm : (len : Int) ≤ maxLen := by have := hb.1; have := hb.2.1; omega
  have hm' : (len' : Int) ≤ maxLen := by have := hb'.1; have := hb'.2.1; omega
  unfold maxLen at hm hm'
  clear hb hb'
  by_cases hlen : (1048576 : Int) < (len : Int)
  · go_enter Try.func10, Try.ntmps10
    go_wp2
    go_ret
    exact ⟨rfl, Below.refl _ _⟩
  have hd1 : decide ((1048576 : Int) < (len : Int)) = false := by simpa using hlen
  by_cases hlen' : (1048576 : Int) < (len' : Int)
  · go_enter Try.func10, Try.ntmps10
    go_wp2
    go_ret
    exact ⟨rfl, Below.refl _ _⟩
  have hd2 : decide ((1048576 : Int) < (len' : Int)) = false := by simpa using hlen'
  go_enter Try.func10, Try.ntmps10
  go_wp2_with fail
  refine (drawSpaceMany_any _ _ _ _ HB.out).mono ?_
  rintro e w1 ⟨v, l, rfl, hsh, hx, b1⟩
  have HF : Hid (Fit6 l) := hsh.fit
  have HX : Hid (∀ W, Below w1.heap.size w1 W → Strs W W.heap.size v l) := fun W hb => (hx.below hb (Nat.le_refl _)).mono hb.size
  have BW : Hid (∀ W, Below w1.heap.size w1 W → Below w.heap.size w W) := fun W hb => belStep b1 hb
  have hmb := manyR_bound l
  clear hsh hx b1
  go_wp2_with fail
  refine (iSpaceMany_any _ _ l (HX.out _ (Below.refl _ _)) HF.out).mono ?_
  rintro e w2 ⟨rfl, B⟩
  replace B := Lib.hid B
  go_wp2_with fail
  refine (sSpaceMany_any _ _ l (HX.out _ B.out) HF.out).mono ?_
  rintro e w3 ⟨rfl, b3⟩
  replace B := Lib.hid (belStep B.out b3)
  clear b3
  go_wp2_with fail
  refine (sSpaceOk_any _ _ l (HX.out _ B.out) HF.out).mono ?_
  rintro e w4 ⟨rfl, b4⟩
  replace B := Lib.hid (belStep B.out b4)
  clear b4
  cases hk : okSp l
  · go_wp2_with fail
    refine (sSpaceMany_any _ _ l (HX.out _ B.out) HF.out).mono ?_
    rintro e w5 ⟨rfl, b5⟩
    go_wp2
    go_ret
    exact ⟨by simp, BW.out _ (belStep B.out b5)⟩
  have HRT : Hid (tidyR l = tidyT (spL l)) := by show _ = _; simp [tidyR, hk]
  have HSUM : Hid (sumL ((tidyT (spL l)).take (tidyT (spL l)).length) = manyR l) := by
    show _ = _
    rw [List.take_length, sumL_tidy, manyR, hk, cond_true]
  have HSTEP : Hid (∀ k, k < (tidyT (spL l)).length → sumL ((tidyT (spL l)).take (k + 1)) = sumL ((tidyT (spL l)).take k) + manyS (strAt (tidyT (spL l)) k)) := fun k hk => sum_step3 _ hk
  have HBND : Hid (∀ k, k ≤ (tidyT (spL l)).length → 0 ≤ sumL ((tidyT (spL l)).take k) ∧ sumL ((tidyT (spL l)).take k) ≤ 64 * (k : Int)) := fun k hk => sum_bound3 _ k hk
  have HSIZ : Hid (∀ k, k < (tidyT (spL l)).length → (strAt (tidyT (spL l)) k).size ≤ 1048576) := fit_tidy _
  have hT64 := tidyT_len (spL l)
  go_wp2_with fail
  refine (iSpaceTidy_any _ _ l (HX.out _ B.out) HF.out).mono ?_
  rintro e w5 ⟨u, rfl, r5, b5⟩
  rw [HRT.out] at r5
  obtain ⟨ua, uc, rfl, hc1, hc2, hrow⟩ := r5.at
  replace B := Lib.hid (belStep B.out b5)
  unfold maxLen at hc2
  clear r5 b5
  generalize hTL : tidyT (spL l) = T at *
  clear hTL
  go_wp2
  go_loopw [7, 9] (fun x i wr => ∃ k : Nat, k ≤ T.length ∧ i = .int .i64 k ∧ x = .int .i64 (sumL (T.take k)) ∧ Below w5.heap.size w5 wr) (fun _ i _ => T.length - (intOf i).toNat)
  case atStart => exact ⟨0, Nat.zero_le _, rfl, rfl, Below.refl _ _⟩
  case round =>
    obtain ⟨k, hkT, rfl, rfl, hbel⟩ := hrel
    have hbd := HBND.out k hkT
    by_cases hlt : k < T.length
    · have hkz : (k : Int) < (T.length : Int) := by omega
      rcases hrow with h0 | ⟨g, rfl, hg, HC⟩
      · omega
      have c1 : wr.cell? ⟨g, k, none⟩ = some (.string (strAt T k)) := (belCell hbel _ _ hg).trans (HC.out k hlt)
      have HST := Lib.hid (HSTEP.out k hlt)
      have hsz := HSIZ.out k hlt
      have hmb2 := manyS_bound3 (strAt T k)
      generalize strAt T k = s at *
      generalize sumL (T.take k) = sm at *
      go_wp2_with fail
      refine (iWildMany_any s hsz _).mono ?_
      rintro e w6 ⟨rfl, b6⟩
      have B6 := Lib.hid (belStep hbel b6)
      clear b6 hbel c1
      go_wp2
      go_roundw
      case rel => exact ⟨k + 1, by omega, by go_num, by rw [HST.out], B6.out⟩
      case measure => simp [intOf]; omega
    · obtain rfl : k = T.length := by omega
      rw [HSUM.out]
      replace B := Lib.hid (belStep B.out hbel)
      clear hbel hbd HSUM HSTEP HBND HSIZ hrow
      go_wp2_with fail
      refine (drawSpaceTidy_any _ _ _ _ (HM.out _ (BW.out _ B.out))).mono ?_
      rintro e w7 ⟨c, lc, rfl, hsc, hxc, b7⟩
      have HFC : Hid (Fit6 lc) := hsc.fit
      have HXC : Hid (∀ W, Below w7.heap.size w7 W → Strs W W.heap.size c lc) := fun W hb => (hxc.below hb (Nat.le_refl _)).mono hb.size
      have BC := Lib.hid (Below.refl w7.heap.size w7)
      replace B := Lib.hid (belStep B.out b7)
      have hcb := manyR_bound lc
      clear hsc hxc b7
      go_wp2_with fail
      refine (iSpaceOk_any _ _ lc (HXC.out _ BC.out) HFC.out).mono ?_
      rintro e w8 ⟨rfl, b8⟩
      replace BC := Lib.hid (belStep BC.out b8)
      replace B := Lib.hid (belStep B.out b8)
      clear b8
      cases hc : okSp lc
      · go_wp2
        go_ret
        exact ⟨by simp, BW.out _ B.out⟩
      have H2 := Lib.hid (many_two hk hc)
      have hb3 := manyR_bound (opR (fun x y => x && y) l lc)
      go_wp2_with fail
      refine (iSpaceOr_any _ _ _ l lc (HX.out _ B.out) (HXC.out _ BC.out) HF.out HFC.out).mono ?_
      rintro e w9 ⟨u9, rfl, r9, b9⟩
      have R9 := Lib.hid r9
      replace BC := Lib.hid (belStep BC.out b9)
      replace B := Lib.hid (belStep B.out b9)
      clear r9 b9
      go_wp2_with fail
      refine (iSpaceMany_any _ _ _ R9.out.strs (fit_op _ _ _)).mono ?_
      rintro e w10 ⟨rfl, b10⟩
      replace BC := Lib.hid (belStep BC.out b10)
      replace B := Lib.hid (belStep B.out b10)
      clear b10 R9
      rw [H2.out]
      go_wp2_with fail
      refine (iSpaceMany_any _ _ lc (HXC.out _ BC.out) HFC.out).mono ?_
      rintro e w11 ⟨rfl, b11⟩
      replace BC := Lib.hid (belStep BC.out b11)
      replace B := Lib.hid (belStep B.out b11)
      clear b11
      go_wp2_with fail
      refine (iSpaceAnd_any _ _ _ l lc (HX.out _ B.out) (HXC.out _ BC.out) HF.out HFC.out).mono ?_
      rintro e w12 ⟨u12, rfl, r12, b12⟩
      have R12 := Lib.hid r12
      replace BC := Lib.hid (belStep BC.out b12)
      replace B := Lib.hid (belStep B.out b12)
      clear r12 b12
      go_wp2_with fail
      refine (iSpaceMany_any _ _ _ R12.out.strs (fit_op _ _ _)).mono ?_
      rintro e w13 ⟨rfl, b13⟩
      replace B := Lib.hid (belStep B.out b13)
      clear b13 R12
      generalize manyR (opR (fun x y => x && y) l lc) = m3 at *
      generalize manyR lc = m2 at *
      generalize manyR l = m1 at *
      go_wp2
      go_ret
      exact ⟨by simp, BW.out _ B.out⟩

set_option maxRecDepth 100000 in
theorem lifted_FnSpaceMany (os : Os) (started : os.Started) (H : Type) (enc : TypeId × Value → H) :
    ReturnsInHanded {} Try.checked os 10 .any (Rows.fnSpaceManySpec.pre6 enc Try.prog Try.f10 Rows.fnSpaceManyRow.domain false) (Rows.fnSpaceManySpec.post enc Try.prog Try.f10 false true false false) := by
  refine returnsInHanded_of_change (C := Try.checked) own started (by kernel_rfl) Try.func10
    (ChangeSpec.witness6 (enc := enc) (C := Try.checked) false ⟨#[], #[.slice none 0 0, .slice none 0 0], []⟩ 8 (by kernel_rfl) (by kernel_rfl) (by kernel_rfl) (by kernel_rfl)) ?_
  intro W base args ds gs before hval0 hW hcnd _
  have hval : ∀ (j : Nat) t v, Try.f10.params[j]? = some t → args[j]? = some v → Value.okWide Try.prog W .any base t v := hval0
  have hW' := hW
  obtain ⟨p, q, hA0, hV, rfl, hfz, hnd⟩ := hW
  have hA : DataW.TrodAll enc Try.prog W 0 (fun _ => true) true Try.f10.params.toList args.toList ds p := hA0
  rw [Try.params10] at hA hval
  obtain ⟨v0, vs0, d0, ds0, p0, q0, hargs, rfl, rfl, h0, r0⟩ := trodAll_cons hA
  obtain ⟨v1, vs1, d1, ds1, p1, q1, rfl, rfl, rfl, h1, r1⟩ := trodAll_cons r0
  obtain ⟨rfl, rfl, rfl⟩ := trodAll_nil r1
  obtain rfl : args = #[v0, v1] := by cases args; simp_all
  obtain ⟨rfl, rfl⟩ := trodVars_none hV
  have k0 := h0
  have lt0 : ∀ x ∈ p0, x.block < W.heap.size := by obtain ⟨m, hm⟩ := k0; exact DataW.trod_lt m _ _ _ hm
  have k1 := h1
  have lt1 : ∀ x ∈ p1, x.block < W.heap.size := by obtain ⟨m, hm⟩ := k1; exact DataW.trod_lt m _ _ _ hm
  obtain ⟨a0, len0, cap0, rfl⟩ := okWide_slice Try.underlying22 (hval 0 22 v0 rfl rfl)
  have w0 : BytesIn W W.heap.size a0 len0 cap0 := isRow_of h0
  obtain ⟨a1, len1, cap1, rfl⟩ := okWide_slice Try.underlying22 (hval 1 22 v1 rfl rfl)
  have w1 : BytesIn W W.heap.size a1 len1 cap1 := isRow_of h1
  clear hA0 hval0
  refine (walk_FnSpaceMany a0 len0 cap0 a1 len1 cap1 W w0 w1).mono fun e W' ⟨he, bel⟩ => ?_
  subst he
  exact ⟨_, rfl, _, _, _, [], _, [], hW', trodAll_mk1 (shut_bool Try.underlying4 _), (trodAll_cons_mk (Below.trod laidOut (by kernel_rfl) (of_decide_eq_true (by kernel_rfl)) k0 bel lt0) (trodAll_cons_mk (Below.trod laidOut (by kernel_rfl) (of_decide_eq_true (by kernel_rfl)) k1 bel lt1) (trodAll_mk0))), rfl, bel.frame _, fun h => by cases h⟩

theorem over_FnSpaceMany : Rows.fnSpaceManyRow.holds Try.pinned (OpenSpec.ofChange Rows.fnSpaceManySpec) :=
  OpenClaim.holds_of_wide 10 Try.f10 rfl rfl rfl rfl rfl rfl rfl ⟨rfl, rfl, rfl, rfl, rfl⟩ rfl rfl rfl rfl rfl (by kernel_rfl) Try.func10 (by kernel_rfl)
    (of_decide_eq_true (by kernel_rfl)) (by unfold Func.isWrapper; first | (rw [if_pos (by decide +kernel)]; kernel_rfl) | (rw [if_neg (by decide +kernel)]; exact ⟨rfl, rfl⟩))
    (fun os started H enc _ => lifted_FnSpaceMany os started H enc)

theorem proved_FnSpaceMany : Rows.FnSpaceManySaid := over_FnSpaceMany

end Go.Proofs.Ytndmedkkecikoaa
