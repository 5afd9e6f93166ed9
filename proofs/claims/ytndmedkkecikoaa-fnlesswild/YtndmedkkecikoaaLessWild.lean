/-
  Proved: promise 26 (what is left of a pattern is what is left of its space), at every code from which the patterns are drawn; the code reads on as it did. No condition.
-/
import Derived.Test.YtndmedkkecikoaaSpaceF
namespace Go.Proofs.Ytndmedkkecikoaa
open Go.ChangeShapes Go.WideShapes Go.ChangeAt Go.RowKit Go.Joins
set_option linter.unusedVariables false

set_option maxRecDepth 100000 in
set_option maxHeartbeats 4000000 in
theorem walk_FnLessWild (a : Option Addr) (len cap : Nat) (w : World) (hb : BytesIn w w.heap.size a len cap) :
    Calls Try.prog 11 #[.slice a len cap] w fun e w' => e = .returned (.bool true) ∧ Below w.heap.size w w' := by
  have HB := Lib.hid hb
  have hm : (len : Int) ≤ maxLen := by have := hb.1; have := hb.2.1; omega
  unfold maxLen at hm
  clear hb
  by_cases hlen : (1048576 : Int) < (len : Int)
  · go_enter Try.func11, Try.ntmps11
    go_wp2
    go_ret
    exact ⟨rfl, Below.refl _ _⟩
  go_enter Try.func11, Try.ntmps11
  go_wp2_with fail
  refine (drawWildLess_any _ _ _ _ HB.out).mono ?_
  rintro e w1 ⟨s, t, hs, ht, rfl, b1⟩
  have s1 := b1.size
  go_wp2_with fail
  refine (iWildLess_any s t (by omega) (by omega) _).mono ?_
  rintro e w2 ⟨v0, rfl, r0, b2⟩
  have R0 := Lib.hid r0
  have s2 := b2.size
  clear r0
  go_wp2_with fail
  refine (sWildLess_any s t (by omega) (by omega) _).mono ?_
  rintro e w3 ⟨v1, rfl, r1, b3⟩
  have R1 := Lib.hid r1
  have R0' := Lib.hid (R0.out.below b3)
  have B3 : Hid (Below w.heap.size w w3) := belStep b1 (belStep b2 b3)
  have hn := lessL_len s t
  clear r1 b1 b2 b3 R0
  go_wp2_with fail
  refine (lxTexts_same _ _ _ _ _ _ R0'.out R1.out (by omega)).mono ?_
  rintro e w4 ⟨rfl, b4⟩
  have B4 := Lib.hid (belStep B3.out b4)
  have R04 := Lib.hid (R0'.out.below b4)
  have R14 := Lib.hid (R1.out.below b4)
  clear b4 R0' R1 B3
  go_wp2_with fail
  refine (sWildOk_any s (by omega) _).mono ?_
  rintro e w4' ⟨rfl, rfl⟩
  cases hks : okS s
  · go_wp2_with fail
    refine (lxTexts_same _ _ _ _ _ _ R04.out R14.out (by omega)).mono ?_
    rintro e w5 ⟨rfl, b5⟩
    go_wp2
    go_ret
    exact ⟨rfl, belStep B4.out b5⟩
  go_wp2_with fail
  refine (sWildOk_any t (by omega) _).mono ?_
  rintro e w4' ⟨rfl, rfl⟩
  cases hkt : okS t
  · go_wp2_with fail
    refine (lxTexts_same _ _ _ _ _ _ R04.out R14.out (by omega)).mono ?_
    rintro e w5 ⟨rfl, b5⟩
    go_wp2
    go_ret
    exact ⟨rfl, belStep B4.out b5⟩
  have HO : Hid (opR (fun x y => x && !y) [s] [t] = tidyT (spL (lessL s t))) := by
    show _ = _
    rw [opR, okSp_one, okSp_one, hks, hkt, spL_less hks hkt]
    rfl
  have HR : Hid ((okSp (lessL s t) && okSp (tidyT (spL (lessL s t))) && (spL (lessL s t) == spL (tidyT (spL (lessL s t))))) = true) := by
    show _ = _
    rw [okSp_less hks, okSp_tidy, spL_tidy (spL_len _)]
    simp
  have HFL : Hid (Fit6 (lessL s t)) := strs_max fun x hx => by rw [okS_size (lessL_ok hks x hx)]; omega
  have HFS : Hid (Fit6 [s]) := strs_max fun x hx => by simp at hx; subst hx; omega
  have HFT : Hid (Fit6 [t]) := strs_max fun x hx => by simp at hx; subst hx; omega
  have A1 : Hid (StrRow (w4.alloc (.cells #[.string s] 9)) 0 (.slice (some ⟨w4.heap.size, 0, none⟩) 1 1) [s]) := oneRow w4 s (Nat.zero_le _)
  have A1' : Hid (StrRow ((w4.alloc (.cells #[.string s] 9)).alloc (.cells #[.string t] 9)) 0 (.slice (some ⟨w4.heap.size, 0, none⟩) 1 1) [s]) := A1.out.below (below_alloc1 _ _)
  have A2 : Hid (StrRow ((w4.alloc (.cells #[.string s] 9)).alloc (.cells #[.string t] 9)) 0 (.slice (some ⟨w4.heap.size + 1, 0, none⟩) 1 1) [t]) := by
    show StrRow _ _ _ _
    have := oneRow (w4.alloc (.cells #[.string s] 9)) t (Nat.zero_le _)
    simpa using this
  have A3 : Hid (StrRow ((w4.alloc (.cells #[.string s] 9)).alloc (.cells #[.string t] 9)) w1.heap.size v0 (lessL s t)) := R04.out.below (below_alloc2 _ _ _)
  have B5 : Hid (Below w.heap.size w ((w4.alloc (.cells #[.string s] 9)).alloc (.cells #[.string t] 9))) := belStep B4.out (below_alloc2 _ _ _)
  clear A1
  go_wp2_with fail
  refine (iSpaceLess_any _ _ _ [s] [t] A1'.out.strs A2.out.strs HFS.out HFT.out).mono ?_
  rintro e w6 ⟨u, rfl, r6, b6⟩
  have A6 := Lib.hid (A3.out.below b6)
  rw [HO.out] at r6
  have R6 := Lib.hid r6
  have B6 := Lib.hid (belStep B5.out b6)
  clear r6 b6 A1' A2 A3 B5
  go_wp2_with fail
  refine (iSpaceSame_any _ _ _ _ _ A6.out.strs R6.out.strs HFL.out (fit_tidy _)).mono ?_
  rintro e w7 ⟨rfl, b7⟩
  rw [HR.out]
  go_wp2
  go_ret
  exact ⟨rfl, belStep B6.out b7⟩

set_option maxRecDepth 100000 in
theorem lifted_FnLessWild (os : Os) (started : os.Started) (H : Type) (enc : TypeId × Value → H) :
    ReturnsInHanded {} Try.checked os 11 .any (Rows.fnLessWildSpec.pre6 enc Try.prog Try.f11 Rows.fnLessWildRow.domain false) (Rows.fnLessWildSpec.post enc Try.prog Try.f11 false true false false) := by
  refine returnsInHanded_of_change (C := Try.checked) own started (by kernel_rfl) Try.func11
    (ChangeSpec.witness6 (enc := enc) (C := Try.checked) false ⟨#[], #[.slice none 0 0], []⟩ 8 (by kernel_rfl) (by kernel_rfl) (by kernel_rfl) (by kernel_rfl)) ?_
  intro W base args ds gs before hval0 hW hcnd _
  have hval : ∀ (j : Nat) t v, Try.f11.params[j]? = some t → args[j]? = some v → Value.okWide Try.prog W .any base t v := hval0
  have hW' := hW
  obtain ⟨p, q, hA0, hV, rfl, hfz, hnd⟩ := hW
  have hA : DataW.TrodAll enc Try.prog W 0 (fun _ => true) true Try.f11.params.toList args.toList ds p := hA0
  rw [Try.params11] at hA hval
  obtain ⟨v0, vs0, d0, ds0, p0, q0, hargs, rfl, rfl, h0, r0⟩ := trodAll_cons hA
  obtain ⟨rfl, rfl, rfl⟩ := trodAll_nil r0
  obtain rfl : args = #[v0] := by cases args; simp_all
  obtain ⟨rfl, rfl⟩ := trodVars_none hV
  have k0 := h0
  have lt0 : ∀ x ∈ p0, x.block < W.heap.size := by obtain ⟨m, hm⟩ := k0; exact DataW.trod_lt m _ _ _ hm
  obtain ⟨a0, len0, cap0, rfl⟩ := okWide_slice Try.underlying22 (hval 0 22 v0 rfl rfl)
  have w0 : BytesIn W W.heap.size a0 len0 cap0 := isRow_of h0
  clear hA0 hval0
  refine (walk_FnLessWild a0 len0 cap0 W w0).mono fun e W' ⟨he, bel⟩ => ?_
  subst he
  exact ⟨_, rfl, _, _, _, [], _, [], hW', trodAll_mk1 (shut_bool Try.underlying4 _), (trodAll_cons_mk (Below.trod laidOut (by kernel_rfl) (of_decide_eq_true (by kernel_rfl)) k0 bel lt0) (trodAll_mk0)), rfl, bel.frame _, fun h => by cases h⟩

theorem over_FnLessWild : Rows.fnLessWildRow.holds Try.pinned (OpenSpec.ofChange Rows.fnLessWildSpec) :=
  OpenClaim.holds_of_wide 11 Try.f11 rfl rfl rfl rfl rfl rfl rfl ⟨rfl, rfl, rfl, rfl, rfl⟩ rfl rfl rfl rfl rfl (by kernel_rfl) Try.func11 (by kernel_rfl)
    (of_decide_eq_true (by kernel_rfl)) (by unfold Func.isWrapper; first | (rw [if_pos (by decide +kernel)]; kernel_rfl) | (rw [if_neg (by decide +kernel)]; exact ⟨rfl, rfl⟩))
    (fun os started H enc _ => lifted_FnLessWild os started H enc)

theorem proved_FnLessWild : Rows.FnLessWildSaid := over_FnLessWild

end Go.Proofs.Ytndmedkkecikoaa
