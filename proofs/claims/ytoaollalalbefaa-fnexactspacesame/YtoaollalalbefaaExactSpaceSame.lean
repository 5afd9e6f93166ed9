/-
  Proved: at every two slices of texts the program's SpaceSame answers as the model's does, and the arguments read on as they did. No condition.
-/
import Derived.Test.YtoaollalalbefaaSpaceImplA
import Derived.Test.YtoaollalalbefaaSpaceSp
import Derived.Test.YtoaollalalbefaaStrB
namespace Go.Proofs.Ytoaollalalbefaa
open Go.ChangeShapes Go.WideShapes Go.ChangeAt Go.RowKit Go.Joins
open Go.ChangeMaps (open_string)
set_option linter.unusedVariables false

set_option maxRecDepth 100000 in
set_option maxHeartbeats 2000000 in
theorem walk_FnExactSpaceSame (v : Value) (l : List ByteArray) (v' : Value) (l' : List ByteArray) (w : World) (hl : Strs w w.heap.size v l) (hz : ∀ s ∈ l, s.size ≤ maxLen) (hl' : Strs w w.heap.size v' l') (hz' : ∀ s ∈ l', s.size ≤ maxLen) :
    Calls Try.prog 8 #[v, v'] w fun e w' => e = .returned (.bool true) ∧ Below w.heap.size w w' := by
  have HW : Hid (∀ W, Below w.heap.size w W → Strs W W.heap.size v l) := fun W hb => (hl.below hb (Nat.le_refl _)).mono hb.size
  have HW' : Hid (∀ W, Below w.heap.size w W → Strs W W.heap.size v' l') := fun W hb => (hl'.below hb (Nat.le_refl _)).mono hb.size
  have HSZ := Lib.hid (szStringS_big w v l hl hz)
  have HZ' : Hid (∀ i, i < l'.length → (strAt l' i).size ≤ maxLen) := strs_max hz'
  clear hl hz hl' hz'
  go_enter Try.func8, Try.ntmps8
  go_wp2_with fail
  refine HSZ.out.mono ?_
  rintro e w1 ⟨rfl | ⟨r, rfl, hr, hsm⟩, b1⟩
  · go_wp2
    go_ret
    exact ⟨rfl, b1⟩
  have hr0 : ¬ ((r : Int) < 0) := by omega
  have HF : Hid (Fit6 l) := hsm.2
  have hlen := hsm.1
  have B1 := Lib.hid b1
  clear hsm b1 HSZ
  go_wp2_with fail
  refine (szStringS_any _ _ l' r (HW'.out _ B1.out) HZ'.out hr).mono ?_
  rintro e w1' ⟨rfl | ⟨r', rfl, hr', hsm⟩, b1⟩
  · go_wp2
    go_ret
    exact ⟨rfl, belStep B1.out b1⟩
  have hr0' : ¬ ((r' : Int) < 0) := by omega
  have HF' : Hid (Fit6 l') := fun i hi => Nat.le_trans (hsm.2 i hi) hr
  have hlen' : l'.length ≤ 1048576 := Nat.le_trans hsm.1 hr
  have B1' := Lib.hid (belStep B1.out b1)
  clear hsm b1 B1
  go_wp2_with fail
  refine (toStringS_any _ _ l (HW.out _ B1'.out) hlen).mono ?_
  rintro e w2 ⟨u, rfl, hrow, b2⟩
  have HU := Lib.hid hrow
  have B2 := Lib.hid (belStep B1'.out b2)
  clear hrow b2 B1'
  go_wp2_with fail
  refine (toStringS_any _ _ l' (HW'.out _ B2.out) hlen').mono ?_
  rintro e w3 ⟨u', rfl, hrow, b3⟩
  have HU3 := Lib.hid (HU.out.below b3)
  have HU3' := Lib.hid hrow
  have B3 := Lib.hid (belStep B2.out b3)
  clear hrow b3 B2 HU
  go_wp2_with fail
  refine (sSpaceSame_any _ _ _ l l' HU3.out.strs HU3'.out.strs HF.out HF'.out).mono ?_
  rintro e w4 ⟨rfl, b4⟩
  have B4 := Lib.hid (belStep B3.out b4)
  clear b4 B3 HU3 HU3'
  go_wp2_with fail
  refine (toStringS_any _ _ l (HW.out _ B4.out) hlen).mono ?_
  rintro e w5 ⟨x, rfl, hrow, b5⟩
  have HX := Lib.hid hrow
  have B5 := Lib.hid (belStep B4.out b5)
  clear hrow b5 B4
  go_wp2_with fail
  refine (toStringS_any _ _ l' (HW'.out _ B5.out) hlen').mono ?_
  rintro e w6 ⟨x', rfl, hrow, b6⟩
  have HX6 := Lib.hid (HX.out.below b6)
  have HX6' := Lib.hid hrow
  have B6 := Lib.hid (belStep B5.out b6)
  clear hrow b6 B5 HX
  go_wp2_with fail
  refine (iSpaceSame_any _ _ _ l l' HX6.out.strs HX6'.out.strs HF.out HF'.out).mono ?_
  rintro e w7 ⟨rfl, b7⟩
  have HX7 := Lib.hid (HX6.out.below b7)
  have HX7' := Lib.hid (HX6'.out.below b7)
  have B7 := Lib.hid (belStep B6.out b7)
  clear b7 B6 HX6 HX6'
  go_wp2_with fail
  refine (toStringS_any _ _ l (HW.out _ B7.out) hlen).mono ?_
  rintro e w8 ⟨y, rfl, hrow, b8⟩
  have HX8 := Lib.hid (HX7.out.below b8)
  have HX8' := Lib.hid (HX7'.out.below b8)
  have HY := Lib.hid hrow
  have B8 := Lib.hid (belStep B7.out b8)
  clear hrow b8 B7 HX7 HX7'
  go_wp2_with fail
  refine (eqStringS_same _ _ _ _ _ l HX8.out HY.out (by omega)).mono ?_
  rintro e w9 ⟨rfl, b9⟩
  have HX9' := Lib.hid (HX8'.out.below b9)
  have B9 := Lib.hid (belStep B8.out b9)
  clear b9 B8 HX8 HX8' HY
  go_wp2_with fail
  refine (toStringS_any _ _ l' (HW'.out _ B9.out) hlen').mono ?_
  rintro e w10 ⟨y', rfl, hrow, b10⟩
  have HX10' := Lib.hid (HX9'.out.below b10)
  have HY' := Lib.hid hrow
  have B10 := Lib.hid (belStep B9.out b10)
  clear hrow b10 B9 HX9'
  go_wp2_with fail
  refine (eqStringS_same _ _ _ _ _ l' HX10'.out HY'.out (by omega)).mono ?_
  rintro e w11 ⟨rfl, b11⟩
  go_wp2
  go_ret
  exact ⟨rfl, belStep B10.out b11⟩

set_option maxRecDepth 100000 in
theorem lifted_FnExactSpaceSame (os : Os) (started : os.Started) (H : Type) (enc : TypeId × Value → H) :
    ReturnsInHanded {} Try.checked os 8 .any (Rows.fnExactSpaceSameSpec.pre6 enc Try.prog Try.f8 Rows.fnExactSpaceSameRow.domain false) (Rows.fnExactSpaceSameSpec.post enc Try.prog Try.f8 false true false false) := by
  refine returnsInHanded_of_change (C := Try.checked) own started (by kernel_rfl) Try.func8
    (ChangeSpec.witness6 (enc := enc) (C := Try.checked) false ⟨#[], #[.slice none 0 0, .slice none 0 0], []⟩ 8 (by kernel_rfl) (by kernel_rfl) (by kernel_rfl) (by kernel_rfl)) ?_
  intro W base args ds gs before hval0 hW hcnd _
  have hval : ∀ (j : Nat) t v, Try.f8.params[j]? = some t → args[j]? = some v → Value.okWide Try.prog W .any base t v := hval0
  have hW' := hW
  obtain ⟨p, q, hA0, hV, rfl, hfz, hnd⟩ := hW
  have hA : DataW.TrodAll enc Try.prog W 0 (fun _ => true) true Try.f8.params.toList args.toList ds p := hA0
  rw [Try.params8] at hA hval
  obtain ⟨v0, vs0, d0, ds0, p0, q0, hargs, rfl, rfl, h0, r0⟩ := trodAll_cons hA
  obtain ⟨v1, vs1, d1, ds1, p1, q1, rfl, rfl, rfl, h1, r1⟩ := trodAll_cons r0
  obtain ⟨rfl, rfl, rfl⟩ := trodAll_nil r1
  obtain rfl : args = #[v0, v1] := by cases args; simp_all
  obtain ⟨rfl, rfl⟩ := trodVars_none hV
  have k0 := h0
  have lt0 : ∀ x ∈ p0, x.block < W.heap.size := by obtain ⟨m, hm⟩ := k0; exact DataW.trod_lt m _ _ _ hm
  have k1 := h1
  have lt1 : ∀ x ∈ p1, x.block < W.heap.size := by obtain ⟨m, hm⟩ := k1; exact DataW.trod_lt m _ _ _ hm
  obtain ⟨l0, w0, z0⟩ := strs_of h0 (okWide_slice Try.underlying22 (hval 0 22 v0 rfl rfl))
  obtain ⟨l1, w1, z1⟩ := strs_of h1 (okWide_slice Try.underlying22 (hval 1 22 v1 rfl rfl))
  clear hA0 hval0
  refine (walk_FnExactSpaceSame v0 l0 v1 l1 W w0 z0 w1 z1).mono fun e W' ⟨he, bel⟩ => ?_
  subst he
  exact ⟨_, rfl, _, _, _, [], _, [], hW', trodAll_mk1 (shut_bool Try.underlying4 _), (trodAll_cons_mk (Below.trod laidOut (by kernel_rfl) (of_decide_eq_true (by kernel_rfl)) k0 bel lt0) (trodAll_cons_mk (Below.trod laidOut (by kernel_rfl) (of_decide_eq_true (by kernel_rfl)) k1 bel lt1) (trodAll_mk0))), rfl, bel.frame _, fun h => by cases h⟩

theorem over_FnExactSpaceSame : Rows.fnExactSpaceSameRow.holds Try.pinned (OpenSpec.ofChange Rows.fnExactSpaceSameSpec) :=
  OpenClaim.holds_of_wide 8 Try.f8 rfl rfl rfl rfl rfl rfl rfl ⟨rfl, rfl, rfl, rfl, rfl⟩ rfl rfl rfl rfl rfl (by kernel_rfl) Try.func8 (by kernel_rfl)
    (of_decide_eq_true (by kernel_rfl)) (by unfold Func.isWrapper; first | (rw [if_pos (by decide +kernel)]; kernel_rfl) | (rw [if_neg (by decide +kernel)]; exact ⟨rfl, rfl⟩))
    (fun os started H enc _ => lifted_FnExactSpaceSame os started H enc)

theorem proved_FnExactSpaceSame : Rows.FnExactSpaceSameSaid := over_FnExactSpaceSame

end Go.Proofs.Ytoaollalalbefaa
