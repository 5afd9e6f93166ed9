/-
  Proved: promise 19 (two spaces of the same heads are tidied alike), at every code from which the spaces are drawn; the code reads on as it did. No condition.
-/
import Derived.Test.YtndmedkkecikoaaSpaceSameDraw
import Derived.Test.YtndmedkkecikoaaOwnB
namespace Go.Proofs.Ytndmedkkecikoaa
open Go.ChangeShapes Go.WideShapes Go.ChangeAt Go.RowKit Go.Joins
set_option linter.unusedVariables false

theorem same_tidy {l l' : List ByteArray} (hk : okSp l = true) (hk' : okSp l' = true) : sameT (tidyR l) (tidyR l') = (spL l == spL l') := by
  have t : tidyR l = tidyT (spL l) := by simp [tidyR, hk]
  have t' : tidyR l' = tidyT (spL l') := by simp [tidyR, hk']
  rw [t, t', tidyT_inj (spL_len _) (spL_len _)]
  by_cases h : spL l = spL l' <;> simp [h]
theorem same_turn {α : Type} [BEq α] [LawfulBEq α] (x y : List α) : (y == x) = (x == y) := by
  by_cases h : x = y
  · subst h; rfl
  · have h1 : (x == y) = false := by simp [h]
    have h2 : (y == x) = false := beq_eq_false_iff_ne.2 (fun e => h e.symm)
    rw [h1, h2]

set_option maxRecDepth 100000 in
set_option maxHeartbeats 4000000 in
theorem walk_FnTidyOne (a : Option Addr) (len cap : Nat) (w : World) (hb : BytesIn w w.heap.size a len cap) :
    Calls Try.prog 5 #[.slice a len cap] w fun e w' => e = .returned (.bool true) ∧ Below w.heap.size w w' := by
  have HB := Lib.hid hb
  have hm : (len : Int) ≤ maxLen := by have := hb.1; have := hb.2.1; omega
  unfold maxLen at hm
  clear hb
  by_cases hlen : (1048576 : Int) < (len : Int)
  · go_enter Try.func5, Try.ntmps5
    go_wp2
    go_ret
    exact ⟨rfl, Below.refl _ _⟩
  go_enter Try.func5, Try.ntmps5
  go_wp2_with fail
  refine (drawSpaceSame_any _ _ _ _ HB.out).mono ?_
  rintro e w1 ⟨v, l, v', l', rfl, hsh, hsh', hx, hx', b1⟩
  have HF : Hid (Fit6 l) := hsh.fit
  have HF' : Hid (Fit6 l') := hsh'.fit
  have HX : Hid (∀ W, Below w1.heap.size w1 W → Strs W W.heap.size v l) := fun W hb => (hx.below hb (Nat.le_refl _)).mono hb.size
  have HX' : Hid (∀ W, Below w1.heap.size w1 W → Strs W W.heap.size v' l') := fun W hb => (hx'.below hb (Nat.le_refl _)).mono hb.size
  have BW : Hid (∀ W, Below w1.heap.size w1 W → Below w.heap.size w W) := fun W hb => belStep b1 hb
  clear hsh hsh' hx hx' b1
  go_wp2_with fail
  refine (iSpaceSame_any _ _ _ l l' (HX.out _ (Below.refl _ _)) (HX'.out _ (Below.refl _ _)) HF.out HF'.out).mono ?_
  rintro e w2 ⟨rfl, B⟩
  replace B := Lib.hid B
  go_wp2_with fail
  refine (sSpaceSame_any _ _ _ l l' (HX.out _ B.out) (HX'.out _ B.out) HF.out HF'.out).mono ?_
  rintro e w3 ⟨rfl, b3⟩
  replace B := Lib.hid (belStep B.out b3)
  clear b3
  go_wp2_with fail
  refine (sSpaceOk_any _ _ l (HX.out _ B.out) HF.out).mono ?_
  rintro e w5 ⟨rfl, b5⟩
  replace B := Lib.hid (belStep B.out b5)
  clear b5
  cases hk : okSp l
  · have HK := Lib.hid hk
    clear hk
    simp only [Bool.false_and]
    go_wp2_with fail
    refine (sSpaceSame_any _ _ _ l l' (HX.out _ B.out) (HX'.out _ B.out) HF.out HF'.out).mono ?_
    rintro e w6 ⟨rfl, b6⟩
    rw [HK.out]
    simp only [Bool.false_and]
    go_wp2
    go_ret
    exact ⟨rfl, BW.out _ (belStep B.out b6)⟩
  have HK := Lib.hid hk
  clear hk
  go_wp2_with fail
  refine (sSpaceOk_any _ _ l' (HX'.out _ B.out) HF'.out).mono ?_
  rintro e w6 ⟨rfl, b6⟩
  replace B := Lib.hid (belStep B.out b6)
  clear b6
  cases hk' : okSp l'
  · have HK' := Lib.hid hk'
    clear hk'
    simp only [Bool.false_and]
    go_wp2_with fail
    refine (sSpaceSame_any _ _ _ l l' (HX.out _ B.out) (HX'.out _ B.out) HF.out HF'.out).mono ?_
    rintro e w7 ⟨rfl, b7⟩
    rw [HK'.out]
    simp only [Bool.false_and, Bool.and_false]
    go_wp2
    go_ret
    exact ⟨rfl, BW.out _ (belStep B.out b7)⟩
  have HK' := Lib.hid hk'
  clear hk'
  simp only [Bool.true_and]
  have HS := Lib.hid (same_tidy HK.out HK'.out)
  have HTT := Lib.hid (same_turn (spL l) (spL l'))
  have hq : ∀ q : Bool, (q == q) = true := by decide
  go_wp2_with fail
  refine (iSpaceTidy_any _ _ l (HX.out _ B.out) HF.out).mono ?_
  rintro e w7 ⟨u7, rfl, r7, b7⟩
  have R7 := Lib.hid r7
  replace B := Lib.hid (belStep B.out b7)
  clear r7 b7
  go_wp2_with fail
  refine (iSpaceTidy_any _ _ l' (HX'.out _ B.out) HF'.out).mono ?_
  rintro e w8 ⟨u8, rfl, r8, b8⟩
  replace R7 := Lib.hid (R7.out.below b8)
  have R8 := Lib.hid r8
  replace B := Lib.hid (belStep B.out b8)
  clear r8 b8
  go_wp2_with fail
  refine (lxTexts_any _ _ _ _ _ R7.out.strs R8.out.strs).mono ?_
  rintro e w9 ⟨rfl, b9⟩
  replace B := Lib.hid (belStep B.out b9)
  clear b9 R7 R8
  rw [HS.out]
  have HI1 : Hid (∀ W, Below w1.heap.size w1 W → Calls Try.prog 27 #[v, v] W fun ex w' => ex = .returned (.bool true) ∧ Below W.heap.size W w') := fun W hb => by
    have := iSpaceSame_any W _ _ l l (HX.out _ hb) (HX.out _ hb) HF.out HF.out
    rw [HK.out] at this
    simpa using this
  have HI2 : Hid (∀ W, Below w1.heap.size w1 W → Calls Try.prog 27 #[v', v] W fun ex w' => ex = .returned (.bool (spL l == spL l')) ∧ Below W.heap.size W w') := fun W hb => by
    have := iSpaceSame_any W _ _ l' l (HX'.out _ hb) (HX.out _ hb) HF'.out HF.out
    rw [HK.out, HK'.out, HTT.out] at this
    simpa using this
  generalize (spL l == spL l') = q at *
  have hqq := hq q
  clear hq
  go_wp2_with fail
  refine (HI1.out _ B.out).mono ?_
  rintro e w10 ⟨rfl, b10⟩
  replace B := Lib.hid (belStep B.out b10)
  clear b10
  go_wp2_with fail
  refine (HI2.out _ B.out).mono ?_
  rintro e w11 ⟨rfl, b11⟩
  replace B := Lib.hid (belStep B.out b11)
  clear b11
  go_wp2
  go_ret
  exact ⟨by first | rfl | simp, BW.out _ B.out⟩

set_option maxRecDepth 100000 in
theorem lifted_FnTidyOne (os : Os) (started : os.Started) (H : Type) (enc : TypeId × Value → H) :
    ReturnsInHanded {} Try.checked os 5 .any (Rows.fnTidyOneSpec.pre6 enc Try.prog Try.f5 Rows.fnTidyOneRow.domain false) (Rows.fnTidyOneSpec.post enc Try.prog Try.f5 false true false false) := by
  refine returnsInHanded_of_change (C := Try.checked) own started (by kernel_rfl) Try.func5
    (ChangeSpec.witness6 (enc := enc) (C := Try.checked) false ⟨#[], #[.slice none 0 0], []⟩ 8 (by kernel_rfl) (by kernel_rfl) (by kernel_rfl) (by kernel_rfl)) ?_
  intro W base args ds gs before hval0 hW hcnd _
  have hval : ∀ (j : Nat) t v, Try.f5.params[j]? = some t → args[j]? = some v → Value.okWide Try.prog W .any base t v := hval0
  have hW' := hW
  obtain ⟨p, q, hA0, hV, rfl, hfz, hnd⟩ := hW
  have hA : DataW.TrodAll enc Try.prog W 0 (fun _ => true) true Try.f5.params.toList args.toList ds p := hA0
  rw [Try.params5] at hA hval
  obtain ⟨v0, vs0, d0, ds0, p0, q0, hargs, rfl, rfl, h0, r0⟩ := trodAll_cons hA
  obtain ⟨rfl, rfl, rfl⟩ := trodAll_nil r0
  obtain rfl : args = #[v0] := by cases args; simp_all
  obtain ⟨rfl, rfl⟩ := trodVars_none hV
  have k0 := h0
  have lt0 : ∀ x ∈ p0, x.block < W.heap.size := by obtain ⟨m, hm⟩ := k0; exact DataW.trod_lt m _ _ _ hm
  obtain ⟨a0, len0, cap0, rfl⟩ := okWide_slice Try.underlying22 (hval 0 22 v0 rfl rfl)
  have w0 : BytesIn W W.heap.size a0 len0 cap0 := isRow_of h0
  clear hA0 hval0
  refine (walk_FnTidyOne a0 len0 cap0 W w0).mono fun e W' ⟨he, bel⟩ => ?_
  subst he
  exact ⟨_, rfl, _, _, _, [], _, [], hW', trodAll_mk1 (shut_bool Try.underlying4 _), (trodAll_cons_mk (Below.trod laidOut (by kernel_rfl) (of_decide_eq_true (by kernel_rfl)) k0 bel lt0) (trodAll_mk0)), rfl, bel.frame _, fun h => by cases h⟩

theorem over_FnTidyOne : Rows.fnTidyOneRow.holds Try.pinned (OpenSpec.ofChange Rows.fnTidyOneSpec) :=
  OpenClaim.holds_of_wide 5 Try.f5 rfl rfl rfl rfl rfl rfl rfl ⟨rfl, rfl, rfl, rfl, rfl⟩ rfl rfl rfl rfl rfl (by kernel_rfl) Try.func5 (by kernel_rfl)
    (of_decide_eq_true (by kernel_rfl)) (by unfold Func.isWrapper; first | (rw [if_pos (by decide +kernel)]; kernel_rfl) | (rw [if_neg (by decide +kernel)]; exact ⟨rfl, rfl⟩))
    (fun os started H enc _ => lifted_FnTidyOne os started H enc)

theorem proved_FnTidyOne : Rows.FnTidyOneSaid := over_FnTidyOne

end Go.Proofs.Ytndmedkkecikoaa
