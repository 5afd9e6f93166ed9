/-
  Proved: at every slice of texts and every head the program's SpaceHas answers as the model's does, and the arguments read on as they did. No condition.
-/
import Derived.Test.YtoaollalalbefaaSpaceImplA
import Derived.Test.YtoaollalalbefaaSpaceSp
import Derived.Test.YtoaollalalbefaaStrB
import Derived.Test.YtoaollalalbefaaHeadB
namespace Go.Proofs.Ytoaollalalbefaa
open Go.ChangeShapes Go.WideShapes Go.ChangeAt Go.RowKit Go.Joins
open Go.ChangeMaps (open_string)
set_option linter.unusedVariables false

set_option maxRecDepth 100000 in
set_option maxHeartbeats 2000000 in
theorem walk_FnExactSpaceHas (v : Value) (l : List ByteArray) (a b c : Int) (w : World) (hl : Strs w w.heap.size v l) (hz : ∀ s ∈ l, s.size ≤ maxLen) (wa : (Lit.int .i64 a).wf = true) (wb : (Lit.int .i64 b).wf = true) (wc : (Lit.int .i64 c).wf = true) :
    Calls Try.prog 4 #[v, .agg #[.int .i64 a, .int .i64 b, .int .i64 c]] w fun e w' => e = .returned (.bool true) ∧ Below w.heap.size w w' := by
  have HW : Hid (∀ W, Below w.heap.size w W → Strs W W.heap.size v l) := fun W hb => (hl.below hb (Nat.le_refl _)).mono hb.size
  have HSZ : Hid (Calls Try.prog 10 #[v, .int .i64 1048576] (w.alloc (.cells #[.int .i64 a, .int .i64 b, .int .i64 c] 28)) fun e w' => (e = .returned (.int .i64 (-1)) ∨ ∃ r : Nat, e = .returned (.int .i64 r) ∧ r ≤ 1048576 ∧ Small 1048576 l) ∧ Below (w.alloc (.cells #[.int .i64 a, .int .i64 b, .int .i64 c] 28)).heap.size (w.alloc (.cells #[.int .i64 a, .int .i64 b, .int .i64 c] 28)) w') := szStringS_big _ v l (HW.out _ (below_alloc1 _ _)) hz
  have HB0 : Hid (∀ W, Below (w.alloc (.cells #[.int .i64 a, .int .i64 b, .int .i64 c] 28)).heap.size (w.alloc (.cells #[.int .i64 a, .int .i64 b, .int .i64 c] 28)) W → Below w.heap.size w W ∧ w.heap.size < W.heap.size ∧ W.cell? ⟨w.heap.size, 0, none⟩ = some (.int .i64 a) ∧ W.cell? ⟨w.heap.size, 1, none⟩ = some (.int .i64 b) ∧ W.cell? ⟨w.heap.size, 2, none⟩ = some (.int .i64 c)) := fun W hb => by
    have hs := hb.size
    simp at hs
    exact ⟨(below_alloc1 _ _).trans (hb.mono (by simp)), by omega, trioCells ((hb.block _ (by simp)).trans (newBlockM w _))⟩
  clear hl hz
  go_enter Try.func4, Try.ntmps4
  go_wp2_with fail
  refine HSZ.out.mono ?_
  rintro e w1 ⟨rfl | ⟨r, rfl, hr, hsm⟩, b1⟩
  · go_wp2
    go_ret
    exact ⟨rfl, (HB0.out _ b1).1⟩
  have hr0 : ¬ ((r : Int) < 0) := by omega
  have HF : Hid (Fit6 l) := hsm.2
  have hlen := hsm.1
  have B1 := Lib.hid b1
  clear hsm b1 HSZ
  go_wp2_with fail
  go_region_held3 (fun W' => W'.cell? ⟨w.heap.size, 0, none⟩ = some (.int .i64 a) ∧ W'.cell? ⟨w.heap.size, 1, none⟩ = some (.int .i64 b) ∧ W'.cell? ⟨w.heap.size, 2, none⟩ = some (.int .i64 c))
    (first | exact (HB0.out _ B1.out.drew).2.2 | exact (HB0.out _ B4.out).2.2 | exact (HB0.out _ B3.out).2.2 | exact (HB0.out _ B2.out).2.2)
    (first
      | (go_at_call 12; ((with_reducible refine (toStringS_any _ _ l (HW.out _ (HB0.out _ B1.out.drew).1) hlen).mono ?_); rintro e w2 ⟨u, rfl, hrow, b2⟩; have HR2 := Lib.hid hrow; have B2 := Lib.hid (belStep B1.out.drew b2); clear hrow b2))
      | (go_at_call 18; ((with_reducible refine (toHead_any _ _ _ _).mono ?_); rintro e w3 ⟨rfl, b3⟩; have HR3 := Lib.hid (HR2.out.below b3); have B3 := Lib.hid (belStep B2.out b3); clear b3))
      | (go_at_call 17; ((with_reducible refine (sSpaceHas_any _ _ l a b c HR3.out.strs HF.out).mono ?_); rintro e w4 ⟨rfl, b4⟩; have B4 := Lib.hid (belStep B3.out b4); clear b4)))
  clear HR2 HR3 B2 B3 B1
  go_wp2_with fail
  refine (toStringS_any _ _ l (HW.out _ (HB0.out _ B4.out).1) hlen).mono ?_
  rintro e w5 ⟨x, rfl, hrow, b5⟩
  have HX := Lib.hid hrow
  have B5 := Lib.hid (belStep B4.out b5)
  obtain ⟨-, q2, k0, k1, k2⟩ := HB0.out _ B5.out
  clear hrow b5 B4
  go_wp2_with fail
  refine (toHead_any _ _ _ _).mono ?_
  rintro e w6 ⟨rfl, b6⟩
  have HX6 := Lib.hid (HX.out.below b6)
  have B6 := Lib.hid (belStep B5.out b6)
  clear b6 B5 HX k0 k1 k2 q2
  go_wp2_with fail
  refine (iSpaceHas_any _ _ l a b c HX6.out.strs HF.out).mono ?_
  rintro e w7 ⟨rfl, b7⟩
  have HX7 := Lib.hid (HX6.out.below b7)
  have B7 := Lib.hid (belStep B6.out b7)
  clear b7 B6 HX6
  go_wp2_with fail
  refine (toStringS_any _ _ l (HW.out _ (HB0.out _ B7.out).1) hlen).mono ?_
  rintro e w8 ⟨y, rfl, hrow, b8⟩
  have HX8 := Lib.hid (HX7.out.below b8)
  have HY := Lib.hid hrow
  have B8 := Lib.hid (belStep B7.out b8)
  clear hrow b8 B7 HX7
  go_wp2_with fail
  refine (eqStringS_same _ _ _ _ _ l HX8.out HY.out (by omega)).mono ?_
  rintro e w9 ⟨rfl, b9⟩
  go_wp2
  go_ret
  exact ⟨rfl, (HB0.out _ (belStep B8.out b9)).1⟩

set_option maxRecDepth 100000 in
theorem lifted_FnExactSpaceHas (os : Os) (started : os.Started) (H : Type) (enc : TypeId × Value → H) :
    ReturnsInHanded {} Try.checked os 4 .any (Rows.fnExactSpaceHasSpec.pre6 enc Try.prog Try.f4 Rows.fnExactSpaceHasRow.domain false) (Rows.fnExactSpaceHasSpec.post enc Try.prog Try.f4 false true false false) := by
  refine returnsInHanded_of_change (C := Try.checked) own started (by kernel_rfl) Try.func4
    (ChangeSpec.witness6 (enc := enc) (C := Try.checked) false ⟨#[], #[.slice none 0 0, .agg #[.int .i64 0, .int .i64 0, .int .i64 0]], []⟩ 8 (by kernel_rfl) (by kernel_rfl) (by kernel_rfl) (by kernel_rfl)) ?_
  intro W base args ds gs before hval0 hW hcnd _
  have hval : ∀ (j : Nat) t v, Try.f4.params[j]? = some t → args[j]? = some v → Value.okWide Try.prog W .any base t v := hval0
  have hW' := hW
  obtain ⟨p, q, hA0, hV, rfl, hfz, hnd⟩ := hW
  have hA : DataW.TrodAll enc Try.prog W 0 (fun _ => true) true Try.f4.params.toList args.toList ds p := hA0
  rw [Try.params4] at hA hval
  obtain ⟨v0, vs0, d0, ds0, p0, q0, hargs, rfl, rfl, h0, r0⟩ := trodAll_cons hA
  obtain ⟨v1, vs1, d1, ds1, p1, q1, rfl, rfl, rfl, h1, r1⟩ := trodAll_cons r0
  obtain ⟨rfl, rfl, rfl⟩ := trodAll_nil r1
  obtain rfl : args = #[v0, v1] := by cases args; simp_all
  obtain ⟨rfl, rfl⟩ := trodVars_none hV
  have k0 := h0
  have lt0 : ∀ x ∈ p0, x.block < W.heap.size := by obtain ⟨m, hm⟩ := k0; exact DataW.trod_lt m _ _ _ hm
  have k1 := h1
  have lt1 : ∀ x ∈ p1, x.block < W.heap.size := by obtain ⟨m, hm⟩ := k1; exact DataW.trod_lt m _ _ _ hm
  obtain ⟨l0, w0, z0⟩ := strs_of h0 (okWide_slice Try.underlying22 (hval 0 22 v0 rfl rfl))
  obtain ⟨x1, y1, z1, ya1, yb1, yc1, m1, rfl, -, -, ha1, hb1, hc1⟩ := open_agg3 Try.underlying28 (by kernel_rfl) (show Try.prog.cellsOf 28 = 3 by kernel_rfl) (hval 1 28 v1 rfl rfl) h1
  obtain ⟨a1, ea1, -, wa1⟩ := DataW.trod_int Try.underlying3 ha1
  obtain ⟨b1, eb1, -, wb1⟩ := DataW.trod_int Try.underlying3 hb1
  obtain ⟨c1, ec1, -, wc1⟩ := DataW.trod_int Try.underlying3 hc1
  simp at ea1 eb1 ec1
  subst ea1 eb1 ec1
  clear hA0 hval0
  refine (walk_FnExactSpaceHas v0 l0 a1 b1 c1 W w0 z0 wa1 wb1 wc1).mono fun e W' ⟨he, bel⟩ => ?_
  subst he
  exact ⟨_, rfl, _, _, _, [], _, [], hW', trodAll_mk1 (shut_bool Try.underlying4 _), (trodAll_cons_mk (Below.trod laidOut (by kernel_rfl) (of_decide_eq_true (by kernel_rfl)) k0 bel lt0) (trodAll_cons_mk (Below.trod laidOut (by kernel_rfl) (of_decide_eq_true (by kernel_rfl)) k1 bel lt1) (trodAll_mk0))), rfl, bel.frame _, fun h => by cases h⟩

theorem over_FnExactSpaceHas : Rows.fnExactSpaceHasRow.holds Try.pinned (OpenSpec.ofChange Rows.fnExactSpaceHasSpec) :=
  OpenClaim.holds_of_wide 4 Try.f4 rfl rfl rfl rfl rfl rfl rfl ⟨rfl, rfl, rfl, rfl, rfl⟩ rfl rfl rfl rfl rfl (by kernel_rfl) Try.func4 (by kernel_rfl)
    (of_decide_eq_true (by kernel_rfl)) (by unfold Func.isWrapper; first | (rw [if_pos (by decide +kernel)]; kernel_rfl) | (rw [if_neg (by decide +kernel)]; exact ⟨rfl, rfl⟩))
    (fun os started H enc _ => lifted_FnExactSpaceHas os started H enc)

theorem proved_FnExactSpaceHas : Rows.FnExactSpaceHasSaid := over_FnExactSpaceHas

end Go.Proofs.Ytoaollalalbefaa
