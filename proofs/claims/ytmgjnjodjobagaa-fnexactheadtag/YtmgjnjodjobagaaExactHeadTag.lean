/-
  Proved: at every head, whatever its fields, and every tag the program's HeadTag answers as the model's does, every field, and the arguments read on as they did. No condition.
-/
import Derived.Test.YtmgjnjodjobagaaHeadMore
namespace Go.Proofs.Ytmgjnjodjobagaa
open Go.ChangeShapes Go.WideShapes Go.ChangeAt Go.RowKit Go.Joins
set_option linter.unusedVariables false

set_option maxHeartbeats 400000 in
theorem walk_FnExactHeadTag (a b c t : Int) (w : World) (wa : (Lit.int .i64 a).wf = true) (wb : (Lit.int .i64 b).wf = true) (wc : (Lit.int .i64 c).wf = true) (wt : (Lit.int .i64 t).wf = true) :
    Calls Try.prog 10 #[.agg #[.int .i64 a, .int .i64 b, .int .i64 c], .int .i64 t] w fun e w' => e = .returned (.bool true) ∧ Below w.heap.size w w' := by
  clear wa wb wc wt
  obtain ⟨x, y, z, k, hs, hi⟩ : ∃ (x y z : Int) (k : Bool), (∀ W : World, Calls Try.prog 21 #[.agg #[.int .i64 a, .int .i64 b, .int .i64 c], .int .i64 t] W fun e w' => e = .returned (.tuple #[.agg #[.int .i64 x, .int .i64 y, .int .i64 z], .bool k]) ∧ Below W.heap.size W w')
      ∧ ∀ W : World, Calls Try.prog 22 #[.agg #[.int .i64 a, .int .i64 b, .int .i64 c], .int .i64 t] W fun e w' => e = .returned (.tuple #[.agg #[.int .i64 x, .int .i64 y, .int .i64 z], .bool k]) ∧ Below W.heap.size W w' := by
    by_cases h : okB a b c = true ∧ fldB t = true
    · exact ⟨_, _, _, _, sHeadTag_yes a b c t h.1 h.2, iHeadTag_yes a b c t h.1 h.2⟩
    · have h' : okB a b c = false ∨ fldB t = false := by
        cases hk : okB a b c
        · exact .inl rfl
        · right; cases ht : fldB t
          · rfl
          · exact absurd ⟨hk, ht⟩ h
      exact ⟨_, _, _, _, sHeadTag_no a b c t h', iHeadTag_no a b c t h'⟩
  have HS := Lib.hid hs
  have HI := Lib.hid hi
  clear hs hi
  go_enter Try.func10, Try.ntmps10
  go_wp2_with fail
  refine (toHead_any _ _ _ _).mono ?_
  rintro e w1 ⟨rfl, b1⟩
  have c1 := belCell b1
  go_wp2_with fail
  refine (HS.out _).mono ?_
  rintro e w2 ⟨rfl, b2⟩
  have z1 : w.heap.size < w1.heap.size := by { have := b1.size; simp at this; omega }
  have c2 := belCell b2
  have z2 : w1.heap.size ≤ w2.heap.size := b2.size
  have d2 : w.heap.size < w2.heap.size := by omega
  go_wp2_with fail
  refine (toHead_any _ _ _ _).mono ?_
  rintro e w3 ⟨rfl, b3⟩
  go_wp2_with fail
  refine (HI.out _).mono ?_
  rintro e w4 ⟨rfl, b4⟩
  have c3 := belCell b3
  have c4 := belCell b4
  have z3 : w2.heap.size < w3.heap.size := by { have := b3.size; simp at this; omega }
  have z4 : w2.heap.size < w4.heap.size := by { have := b4.size; omega }
  go_wp2_with fail
  refine (eqHead_same _ _ _ _).mono ?_
  rintro e w5 ⟨rfl, b5⟩
  go_wp2
  go_ret
  exact ⟨rfl, (below_alloc1 _ _).trans ((b1.mono (by simp)).trans ((b2.mono (by omega)).trans ((((Below.refl _ _).alloc (by omega) _).trans (b3.mono (by simp; omega))).trans ((b4.mono (by omega)).trans (((Below.refl _ _).alloc (by omega) _).trans (b5.mono (by simp; omega)))))))⟩

set_option maxRecDepth 100000 in
theorem lifted_FnExactHeadTag (os : Os) (started : os.Started) (H : Type) (enc : TypeId × Value → H) :
    ReturnsInHanded {} Try.checked os 10 .any (Rows.fnExactHeadTagSpec.pre6 enc Try.prog Try.f10 Rows.fnExactHeadTagRow.domain false) (Rows.fnExactHeadTagSpec.post enc Try.prog Try.f10 false true false false) := by
  refine returnsInHanded_of_change (C := Try.checked) own started (by kernel_rfl) Try.func10
    (ChangeSpec.witness6 (enc := enc) (C := Try.checked) false ⟨#[], #[.agg #[.int .i64 0, .int .i64 0, .int .i64 0], .int .i64 0], []⟩ 8 (by kernel_rfl) (by kernel_rfl) (by kernel_rfl) (by kernel_rfl)) ?_
  intro W base args ds gs before hval0 hW hcnd _
  have hval : ∀ (j : Nat) t v, Try.f10.params[j]? = some t → args[j]? = some v → Value.okWide Try.prog W .any base t v := hval0
  have hW' := hW
  obtain ⟨p, q, hA0, hV, rfl, hfz, hnd⟩ := hW
  have hA : DataW.TrodAll enc Try.prog W 0 (fun _ => true) true Try.f10.params.toList args.toList ds p := hA0
  rw [Try.params10] at hA hval
  obtain ⟨v0, vs0, d0, ds0, p0, q0, hargs, rfl, rfl, h0, r0⟩ := trodAll_cons hA
  obtain ⟨v1, vs1, d1, ds1, p1, q1, rfl, rfl, rfl, h1, r1⟩ := trodAll_cons r0
  obtain ⟨rfl, rfl, rfl⟩ := trodAll_nil r1
  obtain rfl : args = #[v0, v1] := by cases args; simp_all
  obtain ⟨rfl, rfl⟩ := trodVars_none hV
  have k0 := h0
  have lt0 : ∀ x ∈ p0, x.block < W.heap.size := by obtain ⟨m, hm⟩ := k0; exact DataW.trod_lt m _ _ _ hm
  have k1 := h1
  have lt1 : ∀ x ∈ p1, x.block < W.heap.size := by obtain ⟨m, hm⟩ := k1; exact DataW.trod_lt m _ _ _ hm
  obtain ⟨x0, y0, z0, ya0, yb0, yc0, m0, rfl, -, -, ha0, hb0, hc0⟩ := open_agg3 Try.underlying37 (by kernel_rfl) (show Try.prog.cellsOf 37 = 3 by kernel_rfl) (hval 0 37 v0 rfl rfl) h0
  obtain ⟨a0, ea0, -, wa0⟩ := DataW.trod_int Try.underlying3 ha0
  obtain ⟨b0, eb0, -, wb0⟩ := DataW.trod_int Try.underlying3 hb0
  obtain ⟨c0, ec0, -, wc0⟩ := DataW.trod_int Try.underlying3 hc0
  simp at ea0 eb0 ec0
  subst ea0 eb0 ec0
  obtain ⟨a1, rfl, -, -, w1⟩ := open_int Try.underlying3 (hval 1 3 v1 rfl rfl) h1
  clear hA0 hval0
  refine (walk_FnExactHeadTag a0 b0 c0 a1 W wa0 wb0 wc0 w1).mono fun e W' ⟨he, bel⟩ => ?_
  subst he
  exact ⟨_, rfl, _, _, _, [], _, [], hW', trodAll_mk1 (shut_bool Try.underlying4 _), (trodAll_cons_mk (Below.trod laidOut (by kernel_rfl) (of_decide_eq_true (by kernel_rfl)) k0 bel lt0) (trodAll_cons_mk (Below.trod laidOut (by kernel_rfl) (of_decide_eq_true (by kernel_rfl)) k1 bel lt1) (trodAll_mk0))), rfl, bel.frame _, fun h => by cases h⟩

theorem over_FnExactHeadTag : Rows.fnExactHeadTagRow.holds Try.pinned (OpenSpec.ofChange Rows.fnExactHeadTagSpec) :=
  OpenClaim.holds_of_wide 10 Try.f10 rfl rfl rfl rfl rfl rfl rfl ⟨rfl, rfl, rfl, rfl, rfl⟩ rfl rfl rfl rfl rfl (by kernel_rfl) Try.func10 (by kernel_rfl)
    (of_decide_eq_true (by kernel_rfl)) (by unfold Func.isWrapper; first | (rw [if_pos (by decide +kernel)]; kernel_rfl) | (rw [if_neg (by decide +kernel)]; exact ⟨rfl, rfl⟩))
    (fun os started H enc _ => lifted_FnExactHeadTag os started H enc)

theorem proved_FnExactHeadTag : Rows.FnExactHeadTagSaid := over_FnExactHeadTag

end Go.Proofs.Ytmgjnjodjobagaa
