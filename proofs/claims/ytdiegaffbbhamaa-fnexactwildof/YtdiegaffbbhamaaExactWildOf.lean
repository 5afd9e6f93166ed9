/-
  Proved: at every head, whatever its fields, the program's WildOf answers as the model's does, and the argument reads on as it did. No condition.
-/
import Derived.Test.YtdiegaffbbhamaaWildSpecB
namespace Go.Proofs.Ytdiegaffbbhamaa
open Go.ChangeShapes Go.WideShapes Go.ChangeAt Go.RowKit Go.Joins
open Go.ChangeMaps (open_string)
set_option linter.unusedVariables false

set_option maxHeartbeats 1000000 in
theorem walk_FnExactWildOf (a b c : Int) (w : World) (wa : (Lit.int .i64 a).wf = true) (wb : (Lit.int .i64 b).wf = true) (wc : (Lit.int .i64 c).wf = true) :
    Calls Try.prog 8 #[.agg #[.int .i64 a, .int .i64 b, .int .i64 c]] w fun e w' => e = .returned (.bool true) ∧ Below w.heap.size w w' := by
  clear wa wb wc
  go_enter Try.func8, Try.ntmps8
  go_wp2_with fail
  refine (toHead_any _ _ _ _).mono ?_
  rintro e w1 ⟨rfl, b1⟩
  have c1 := belCell b1
  have s1 := b1.size
  simp at s1
  have z1 : w.heap.size < w1.heap.size := by omega
  go_wp2_with fail
  refine (sWildOf_any _ _ _ _).mono ?_
  rintro e w2 ⟨rfl, b2⟩
  have c2 := belCell b2
  have s2 := b2.size
  have z2 : w.heap.size < w2.heap.size := by omega
  go_wp2_with fail
  refine (toHead_any _ _ _ _).mono ?_
  rintro e w3 ⟨rfl, b3⟩
  have s3 := b3.size
  go_wp2_with fail
  refine (iWildOf_any _ _ _ _).mono ?_
  rintro e w4 ⟨rfl, b4⟩
  go_wp2
  go_ret
  exact ⟨rfl, (below_alloc1 _ _).trans ((belStep b1 (belStep b2 (belStep b3 b4))).mono (by simp))⟩

set_option maxRecDepth 100000 in
theorem lifted_FnExactWildOf (os : Os) (started : os.Started) (H : Type) (enc : TypeId × Value → H) :
    ReturnsInHanded {} Try.checked os 8 .any (Rows.fnExactWildOfSpec.pre6 enc Try.prog Try.f8 Rows.fnExactWildOfRow.domain false) (Rows.fnExactWildOfSpec.post enc Try.prog Try.f8 false true false false) := by
  refine returnsInHanded_of_change (C := Try.checked) own started (by kernel_rfl) Try.func8
    (ChangeSpec.witness6 (enc := enc) (C := Try.checked) false ⟨#[], #[.agg #[.int .i64 0, .int .i64 0, .int .i64 0]], []⟩ 8 (by kernel_rfl) (by kernel_rfl) (by kernel_rfl) (by kernel_rfl)) ?_
  intro W base args ds gs before hval0 hW hcnd _
  have hval : ∀ (j : Nat) t v, Try.f8.params[j]? = some t → args[j]? = some v → Value.okWide Try.prog W .any base t v := hval0
  have hW' := hW
  obtain ⟨p, q, hA0, hV, rfl, hfz, hnd⟩ := hW
  have hA : DataW.TrodAll enc Try.prog W 0 (fun _ => true) true Try.f8.params.toList args.toList ds p := hA0
  rw [Try.params8] at hA hval
  obtain ⟨v0, vs0, d0, ds0, p0, q0, hargs, rfl, rfl, h0, r0⟩ := trodAll_cons hA
  obtain ⟨rfl, rfl, rfl⟩ := trodAll_nil r0
  obtain rfl : args = #[v0] := by cases args; simp_all
  obtain ⟨rfl, rfl⟩ := trodVars_none hV
  have k0 := h0
  have lt0 : ∀ x ∈ p0, x.block < W.heap.size := by obtain ⟨m, hm⟩ := k0; exact DataW.trod_lt m _ _ _ hm
  obtain ⟨x0, y0, z0, ya0, yb0, yc0, m0, rfl, -, -, ha0, hb0, hc0⟩ := open_agg3 Try.underlying24 (by kernel_rfl) (show Try.prog.cellsOf 24 = 3 by kernel_rfl) (hval 0 24 v0 rfl rfl) h0
  obtain ⟨a0, ea0, -, wa0⟩ := DataW.trod_int Try.underlying3 ha0
  obtain ⟨b0, eb0, -, wb0⟩ := DataW.trod_int Try.underlying3 hb0
  obtain ⟨c0, ec0, -, wc0⟩ := DataW.trod_int Try.underlying3 hc0
  simp at ea0 eb0 ec0
  subst ea0 eb0 ec0
  clear hA0 hval0
  refine (walk_FnExactWildOf a0 b0 c0 W wa0 wb0 wc0).mono fun e W' ⟨he, bel⟩ => ?_
  subst he
  exact ⟨_, rfl, _, _, _, [], _, [], hW', trodAll_mk1 (shut_bool Try.underlying4 _), (trodAll_cons_mk (Below.trod laidOut (by kernel_rfl) (of_decide_eq_true (by kernel_rfl)) k0 bel lt0) (trodAll_mk0)), rfl, bel.frame _, fun h => by cases h⟩

theorem over_FnExactWildOf : Rows.fnExactWildOfRow.holds Try.pinned (OpenSpec.ofChange Rows.fnExactWildOfSpec) :=
  OpenClaim.holds_of_wide 8 Try.f8 rfl rfl rfl rfl rfl rfl rfl ⟨rfl, rfl, rfl, rfl, rfl⟩ rfl rfl rfl rfl rfl (by kernel_rfl) Try.func8 (by kernel_rfl)
    (of_decide_eq_true (by kernel_rfl)) (by unfold Func.isWrapper; first | (rw [if_pos (by decide +kernel)]; kernel_rfl) | (rw [if_neg (by decide +kernel)]; exact ⟨rfl, rfl⟩))
    (fun os started H enc _ => lifted_FnExactWildOf os started H enc)

theorem proved_FnExactWildOf : Rows.FnExactWildOfSaid := over_FnExactWildOf

end Go.Proofs.Ytdiegaffbbhamaa
