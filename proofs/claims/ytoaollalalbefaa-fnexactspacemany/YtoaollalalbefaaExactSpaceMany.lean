/-
  Proved: at every slice of texts the program's SpaceMany counts as the model's does, and the argument reads on as it did. No condition.
-/
import Derived.Test.YtoaollalalbefaaSpaceSpecD
import Derived.Test.YtoaollalalbefaaStrB
namespace Go.Proofs.Ytoaollalalbefaa
open Go.ChangeShapes Go.WideShapes Go.ChangeAt Go.RowKit Go.Joins
open Go.ChangeMaps (open_string)
set_option linter.unusedVariables false

set_option maxRecDepth 100000 in
set_option maxHeartbeats 2000000 in
theorem walk_FnExactSpaceMany (v : Value) (l : List ByteArray) (w : World) (hl : Strs w w.heap.size v l) (hz : ∀ s ∈ l, s.size ≤ maxLen) :
    Calls Try.prog 9 #[v] w fun e w' => e = .returned (.bool true) ∧ Below w.heap.size w w' := by
  have HW : Hid (∀ W, Below w.heap.size w W → Strs W W.heap.size v l) := fun W hb => (hl.below hb (Nat.le_refl _)).mono hb.size
  have HSZ := Lib.hid (szStringS_big w v l hl hz)
  clear hl hz
  go_enter Try.func9, Try.ntmps9
  go_wp2_with fail
  refine HSZ.out.mono ?_
  rintro e w1 ⟨rfl | ⟨r, rfl, hr, hsm⟩, b1⟩
  · go_wp2
    go_ret
    exact ⟨rfl, b1⟩
  have hr0 : ¬ ((r : Int) < 0) := by omega
  have HF : Hid (Fit6 l) := hsm.2
  have hlen := hsm.1
  have B1 := Lib.hid b1
  clear hsm b1 HSZ
  go_wp2_with fail
  refine (toStringS_any _ _ l (HW.out _ B1.out) hlen).mono ?_
  rintro e w2 ⟨u, rfl, hrow, b2⟩
  have HR2 := Lib.hid hrow.strs
  have B2 := Lib.hid (belStep B1.out b2)
  clear hrow b2 B1
  go_wp2_with fail
  refine (sSpaceMany_any _ _ l HR2.out HF.out).mono ?_
  rintro e w3 ⟨rfl, b3⟩
  have B3 := Lib.hid (belStep B2.out b3)
  clear b3 B2 HR2
  go_wp2_with fail
  refine (toStringS_any _ _ l (HW.out _ B3.out) hlen).mono ?_
  rintro e w4 ⟨x, rfl, hrow, b4⟩
  have HX := Lib.hid hrow
  have B4 := Lib.hid (belStep B3.out b4)
  clear hrow b4 B3
  go_wp2_with fail
  refine (iSpaceMany_any _ _ l HX.out.strs HF.out).mono ?_
  rintro e w5 ⟨rfl, b5⟩
  have HX5 := Lib.hid (HX.out.below b5)
  have B5 := Lib.hid (belStep B4.out b5)
  clear b5 B4 HX
  go_wp2_with fail
  refine (toStringS_any _ _ l (HW.out _ B5.out) hlen).mono ?_
  rintro e w6 ⟨y, rfl, hrow, b6⟩
  have HX6 := Lib.hid (HX5.out.below b6)
  have HY := Lib.hid hrow
  have B6 := Lib.hid (belStep B5.out b6)
  clear hrow b6 B5 HX5
  go_wp2_with fail
  refine (eqStringS_same _ _ _ _ _ l HX6.out HY.out (by omega)).mono ?_
  rintro e w7 ⟨rfl, b7⟩
  go_wp2
  go_ret
  exact ⟨rfl, belStep B6.out b7⟩

set_option maxRecDepth 100000 in
theorem lifted_FnExactSpaceMany (os : Os) (started : os.Started) (H : Type) (enc : TypeId × Value → H) :
    ReturnsInHanded {} Try.checked os 9 .any (Rows.fnExactSpaceManySpec.pre6 enc Try.prog Try.f9 Rows.fnExactSpaceManyRow.domain false) (Rows.fnExactSpaceManySpec.post enc Try.prog Try.f9 false true false false) := by
  refine returnsInHanded_of_change (C := Try.checked) own started (by kernel_rfl) Try.func9
    (ChangeSpec.witness6 (enc := enc) (C := Try.checked) false ⟨#[], #[.slice none 0 0], []⟩ 8 (by kernel_rfl) (by kernel_rfl) (by kernel_rfl) (by kernel_rfl)) ?_
  intro W base args ds gs before hval0 hW hcnd _
  have hval : ∀ (j : Nat) t v, Try.f9.params[j]? = some t → args[j]? = some v → Value.okWide Try.prog W .any base t v := hval0
  have hW' := hW
  obtain ⟨p, q, hA0, hV, rfl, hfz, hnd⟩ := hW
  have hA : DataW.TrodAll enc Try.prog W 0 (fun _ => true) true Try.f9.params.toList args.toList ds p := hA0
  rw [Try.params9] at hA hval
  obtain ⟨v0, vs0, d0, ds0, p0, q0, hargs, rfl, rfl, h0, r0⟩ := trodAll_cons hA
  obtain ⟨rfl, rfl, rfl⟩ := trodAll_nil r0
  obtain rfl : args = #[v0] := by cases args; simp_all
  obtain ⟨rfl, rfl⟩ := trodVars_none hV
  have k0 := h0
  have lt0 : ∀ x ∈ p0, x.block < W.heap.size := by obtain ⟨m, hm⟩ := k0; exact DataW.trod_lt m _ _ _ hm
  obtain ⟨l0, w0, z0⟩ := strs_of h0 (okWide_slice Try.underlying22 (hval 0 22 v0 rfl rfl))
  clear hA0 hval0
  refine (walk_FnExactSpaceMany v0 l0 W w0 z0).mono fun e W' ⟨he, bel⟩ => ?_
  subst he
  exact ⟨_, rfl, _, _, _, [], _, [], hW', trodAll_mk1 (shut_bool Try.underlying4 _), (trodAll_cons_mk (Below.trod laidOut (by kernel_rfl) (of_decide_eq_true (by kernel_rfl)) k0 bel lt0) (trodAll_mk0)), rfl, bel.frame _, fun h => by cases h⟩

theorem over_FnExactSpaceMany : Rows.fnExactSpaceManyRow.holds Try.pinned (OpenSpec.ofChange Rows.fnExactSpaceManySpec) :=
  OpenClaim.holds_of_wide 9 Try.f9 rfl rfl rfl rfl rfl rfl rfl ⟨rfl, rfl, rfl, rfl, rfl⟩ rfl rfl rfl rfl rfl (by kernel_rfl) Try.func9 (by kernel_rfl)
    (of_decide_eq_true (by kernel_rfl)) (by unfold Func.isWrapper; first | (rw [if_pos (by decide +kernel)]; kernel_rfl) | (rw [if_neg (by decide +kernel)]; exact ⟨rfl, rfl⟩))
    (fun os started H enc _ => lifted_FnExactSpaceMany os started H enc)

theorem proved_FnExactSpaceMany : Rows.FnExactSpaceManySaid := over_FnExactSpaceMany

end Go.Proofs.Ytoaollalalbefaa
