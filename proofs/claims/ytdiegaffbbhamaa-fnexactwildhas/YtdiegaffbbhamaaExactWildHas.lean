/-
  Proved: at every text and every head, whatever its fields, the program's WildHas answers as the model's does, and the arguments read on as they did. No condition.
-/
import Derived.Test.YtdiegaffbbhamaaWildSpecB
namespace Go.Proofs.Ytdiegaffbbhamaa
open Go.ChangeShapes Go.WideShapes Go.ChangeAt Go.RowKit Go.Joins
open Go.ChangeMaps (open_string)
set_option linter.unusedVariables false

set_option maxHeartbeats 1000000 in
theorem walk_FnExactWildHas (s : ByteArray) (a b c : Int) (w : World) (hs : s.size ≤ maxLen) (wa : (Lit.int .i64 a).wf = true) (wb : (Lit.int .i64 b).wf = true) (wc : (Lit.int .i64 c).wf = true) :
    Calls Try.prog 4 #[.string s, .agg #[.int .i64 a, .int .i64 b, .int .i64 c]] w fun e w' => e = .returned (.bool true) ∧ Below w.heap.size w w' := by
  clear wa wb wc
  unfold maxLen at hs
  by_cases hlen : (1048576 : Int) < (s.size : Int)
  · go_enter Try.func4, Try.ntmps4
    go_wp2
    go_ret
    exact ⟨rfl, below_alloc1 _ _⟩
  go_enter Try.func4, Try.ntmps4
  go_wp2_with fail
  refine (toHead_any _ _ _ _).mono ?_
  rintro e w1 ⟨rfl, b1⟩
  have c1 := belCell b1
  have s1 := b1.size
  simp at s1
  have z1 : w.heap.size < w1.heap.size := by omega
  go_wp2_with fail
  refine (sWildHas_any _ (by omega) _ _ _ _).mono ?_
  rintro e w2 ⟨rfl, b2⟩
  have c2 := belCell b2
  have s2 := b2.size
  have z2 : w.heap.size < w2.heap.size := by omega
  go_wp2_with fail
  refine (toHead_any _ _ _ _).mono ?_
  rintro e w3 ⟨rfl, b3⟩
  have s3 := b3.size
  go_wp2_with fail
  refine (iWildHas_any _ (by omega) _ _ _ _).mono ?_
  rintro e w4 ⟨rfl, b4⟩
  go_wp2
  go_ret
  exact ⟨rfl, (below_alloc1 _ _).trans ((belStep b1 (belStep b2 (belStep b3 b4))).mono (by simp))⟩

set_option maxRecDepth 100000 in
theorem lifted_FnExactWildHas (os : Os) (started : os.Started) (H : Type) (enc : TypeId × Value → H) :
    ReturnsInHanded {} Try.checked os 4 .any (Rows.fnExactWildHasSpec.pre6 enc Try.prog Try.f4 Rows.fnExactWildHasRow.domain false) (Rows.fnExactWildHasSpec.post enc Try.prog Try.f4 false true false false) := by
  refine returnsInHanded_of_change (C := Try.checked) own started (by kernel_rfl) Try.func4
    (ChangeSpec.witness6 (enc := enc) (C := Try.checked) false ⟨#[], #[.string ByteArray.empty, .agg #[.int .i64 0, .int .i64 0, .int .i64 0]], []⟩ 8 (by kernel_rfl) (by kernel_rfl) (by kernel_rfl) (by kernel_rfl)) ?_
  intro W base args ds gs before hval0 hW hcnd _
  have hval : ∀ (j : Nat) t v, Try.f4.params[j]? = some t → args[j]? = some v → Value.okWide Try.prog W .any base t v := hval0
  have hW' := hW
  obtain ⟨p, q, hA0, hV, rfl, hfz, hnd⟩ := hW
  have hA : DataW.TrodAll enc Try.prog W 0 (fun _ => true) true Try.f4.params.toList args.toList ds p := hA0
  rw [Try.params4] at hA hval
  obtain ⟨v0, vs0, d0, ds0, p0, q0, hargs, rfl, rfl, h0, r0⟩ := trodAll_cons hA
  obtain ⟨v1, vs1, d1, ds1, p1, q1, rfl, rfl, rfl, h1, r1⟩ := trodAll_cons r0
  obtain ⟨rfl, rfl, rfl⟩ := trodAll_nil r1
  obtain rfl : args = #[v0, v1] := by cases args; simp_all
  obtain ⟨rfl, rfl⟩ := trodVars_none hV
  have k0 := h0
  have lt0 : ∀ x ∈ p0, x.block < W.heap.size := by obtain ⟨m, hm⟩ := k0; exact DataW.trod_lt m _ _ _ hm
  have k1 := h1
  have lt1 : ∀ x ∈ p1, x.block < W.heap.size := by obtain ⟨m, hm⟩ := k1; exact DataW.trod_lt m _ _ _ hm
  obtain ⟨s0, rfl, -, -, w0⟩ := open_string Try.underlying9 (hval 0 9 v0 rfl rfl) h0
  obtain ⟨x1, y1, z1, ya1, yb1, yc1, m1, rfl, -, -, ha1, hb1, hc1⟩ := open_agg3 Try.underlying24 (by kernel_rfl) (show Try.prog.cellsOf 24 = 3 by kernel_rfl) (hval 1 24 v1 rfl rfl) h1
  obtain ⟨a1, ea1, -, wa1⟩ := DataW.trod_int Try.underlying3 ha1
  obtain ⟨b1, eb1, -, wb1⟩ := DataW.trod_int Try.underlying3 hb1
  obtain ⟨c1, ec1, -, wc1⟩ := DataW.trod_int Try.underlying3 hc1
  simp at ea1 eb1 ec1
  subst ea1 eb1 ec1
  clear hA0 hval0
  refine (walk_FnExactWildHas s0 a1 b1 c1 W w0 wa1 wb1 wc1).mono fun e W' ⟨he, bel⟩ => ?_
  subst he
  exact ⟨_, rfl, _, _, _, [], _, [], hW', trodAll_mk1 (shut_bool Try.underlying4 _), (trodAll_cons_mk (Below.trod laidOut (by kernel_rfl) (of_decide_eq_true (by kernel_rfl)) k0 bel lt0) (trodAll_cons_mk (Below.trod laidOut (by kernel_rfl) (of_decide_eq_true (by kernel_rfl)) k1 bel lt1) (trodAll_mk0))), rfl, bel.frame _, fun h => by cases h⟩

theorem over_FnExactWildHas : Rows.fnExactWildHasRow.holds Try.pinned (OpenSpec.ofChange Rows.fnExactWildHasSpec) :=
  OpenClaim.holds_of_wide 4 Try.f4 rfl rfl rfl rfl rfl rfl rfl ⟨rfl, rfl, rfl, rfl, rfl⟩ rfl rfl rfl rfl rfl (by kernel_rfl) Try.func4 (by kernel_rfl)
    (of_decide_eq_true (by kernel_rfl)) (by unfold Func.isWrapper; first | (rw [if_pos (by decide +kernel)]; kernel_rfl) | (rw [if_neg (by decide +kernel)]; exact ⟨rfl, rfl⟩))
    (fun os started H enc _ => lifted_FnExactWildHas os started H enc)

theorem proved_FnExactWildHas : Rows.FnExactWildHasSaid := over_FnExactWildHas

end Go.Proofs.Ytdiegaffbbhamaa
