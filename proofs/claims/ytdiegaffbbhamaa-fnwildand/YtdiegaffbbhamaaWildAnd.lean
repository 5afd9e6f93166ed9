/-
  Proved: promise 10 (heads of both patterns are of one), at every two codes from which the patterns and the head are drawn; the codes read on as they did. No condition.
-/
import Derived.Test.YtdiegaffbbhamaaWildFacts
namespace Go.Proofs.Ytdiegaffbbhamaa
open Go.ChangeShapes Go.WideShapes Go.ChangeAt Go.RowKit Go.Joins
set_option linter.unusedVariables false

set_option maxHeartbeats 4000000 in
theorem walk_FnWildAnd (a : Option Addr) (len cap : Nat) (a' : Option Addr) (len' cap' : Nat) (w : World) (hb : BytesIn w w.heap.size a len cap) (hb' : BytesIn w w.heap.size a' len' cap') :
    Calls Try.prog 14 #[.slice a len cap, .slice a' len' cap'] w fun e w' => e = .returned (.bool true) ∧ Below w.heap.size w w' := by
  have HB := Lib.hid hb
  have hm : (len : Int) ≤ maxLen := by have := hb.1; have := hb.2.1; omega
  have hm' : (len' : Int) ≤ maxLen := by have := hb'.1; have := hb'.2.1; omega
  unfold maxLen at hm hm'
  clear hb hb'
  by_cases hlen : (1048576 : Int) < (len : Int)
  · go_enter Try.func14, Try.ntmps14
    go_wp2
    go_ret
    exact ⟨rfl, Below.refl _ _⟩
  have hl1 : decide ((1048576 : Int) < (len : Int)) = false := by simp; omega
  have hl1n : decide ((1048576 : Nat) < len) = false := by simp; omega
  by_cases hlen' : (1048576 : Int) < (len' : Int)
  · go_enter Try.func14, Try.ntmps14
    go_wp2
    go_ret
    exact ⟨rfl, Below.refl _ _⟩
  have hl2 : decide ((1048576 : Int) < (len' : Int)) = false := by simp; omega
  have hl2n : decide ((1048576 : Nat) < len') = false := by simp; omega
  go_enter Try.func14, Try.ntmps14
  go_wp2_with fail
  refine (drawWildAnd_any _ _ _ _ HB.out).mono ?_
  rintro e w1 ⟨s, t, hs, ht, rfl, b1⟩
  go_wp2_with fail
  refine (sWildAnd_any s t (by omega) (by omega) _).mono ?_
  rintro e w2 ⟨rfl, b2⟩
  go_wp2_with fail
  refine (iWildAnd_any s t (by omega) (by omega) _).mono ?_
  rintro e w3 ⟨rfl, b3⟩
  have B3 : Hid (Below w.heap.size w w3) := belStep b1 (belStep b2 b3)
  have z3 := B3.out.size
  clear b1 b2 b3
  have HX := Lib.hid (hasS_and s t)
  have HI := Lib.hid (iWildAnd_any t s (by omega) (by omega))
  rw [andS_comm, meetS_comm] at HI
  have hz := andS_size s t
  generalize hx : andS s t = x at *
  generalize hy : meetS s t = y at *
  clear hx hy
  go_wp2_with fail
  refine (sWildOk_any s (by omega) _).mono ?_
  rintro e w' ⟨rfl, rfl⟩
  cases hks : okS s
  · go_wp2
    go_ret
    exact ⟨rfl, B3.out⟩
  go_wp2_with fail
  refine (sWildOk_any t (by omega) _).mono ?_
  rintro e w' ⟨rfl, rfl⟩
  cases hkt : okS t
  · go_wp2
    go_ret
    exact ⟨rfl, B3.out⟩
  have hxx := HX.out hks hkt len'
  clear HX
  go_wp2_with fail
  refine (lxHead_at _ (by omega) _).mono ?_
  rintro e w4 ⟨rfl, b4⟩
  have s4 := b4.size
  generalize hu : (len' : Int) / 16 % 4 = u at *
  generalize hv : (len' : Int) / 4 % 4 = v at *
  generalize hq : (len' : Int) % 4 = q at *
  have HS1 := Lib.hid (iWildHas_any s (by omega) u v q)
  have HS2 := Lib.hid (iWildHas_any t (by omega) u v q)
  have HS3 := Lib.hid (iWildHas_any x (by omega) u v q)
  clear hu hv hq
  generalize hasS s u v q = A at *
  generalize hasS t u v q = B at *
  generalize hasS x u v q = X at *
  cases A <;> cases B <;> cases y <;> cases X <;> first | (exfalso; revert hxx; decide) | skip
  all_goals
    clear hxx
    go_wp2_with fail
    have C0 := Lib.hid (trip_cells (newBlock w4 (.cells #[.int .i64 u, .int .i64 v, .int .i64 q] 26)))
    have BW : Hid (Below w.heap.size w (w4.alloc (.cells #[.int .i64 u, .int .i64 v, .int .i64 q] 26))) := (B3.out.trans (b4.mono z3)).alloc (by omega) _
    have zW : w4.heap.size < (w4.alloc (.cells #[.int .i64 u, .int .i64 v, .int .i64 q] 26)).heap.size := by simp
    clear b4 B3
    generalize w4.alloc (.cells #[.int .i64 u, .int .i64 v, .int .i64 q] 26) = W at *
    have HC := Lib.hid (cellsHeld C0.out zW)
    refine (HS1.out _).mono ?_
    rintro e wq ⟨rfl, bq⟩
    obtain ⟨q0, q1, q2⟩ := HC.out _ bq
    go_wp2_with (first
      | (go_at_call 19; (first | (with_reducible refine (HS1.out _).mono ?_) | (with_reducible refine (HS2.out _).mono ?_) | (with_reducible refine (HS3.out _).mono ?_)); rintro e wq ⟨rfl, bq'⟩; have bq := belStep (by assumption) bq'; obtain ⟨q0, q1, q2⟩ := HC.out _ bq; clear bq')
      | (go_at_call 21; (with_reducible refine (HI.out _).mono ?_); rintro e wq ⟨rfl, bq'⟩; have bq := belStep (by assumption) bq'; obtain ⟨q0, q1, q2⟩ := HC.out _ bq; clear bq'))
    go_ret
    exact ⟨rfl, BW.out.trans (bq.mono BW.out.size)⟩

set_option maxRecDepth 100000 in
theorem lifted_FnWildAnd (os : Os) (started : os.Started) (H : Type) (enc : TypeId × Value → H) :
    ReturnsInHanded {} Try.checked os 14 .any (Rows.fnWildAndSpec.pre6 enc Try.prog Try.f14 Rows.fnWildAndRow.domain false) (Rows.fnWildAndSpec.post enc Try.prog Try.f14 false true false false) := by
  refine returnsInHanded_of_change (C := Try.checked) own started (by kernel_rfl) Try.func14
    (ChangeSpec.witness6 (enc := enc) (C := Try.checked) false ⟨#[], #[.slice none 0 0, .slice none 0 0], []⟩ 8 (by kernel_rfl) (by kernel_rfl) (by kernel_rfl) (by kernel_rfl)) ?_
  intro W base args ds gs before hval0 hW hcnd _
  have hval : ∀ (j : Nat) t v, Try.f14.params[j]? = some t → args[j]? = some v → Value.okWide Try.prog W .any base t v := hval0
  have hW' := hW
  obtain ⟨p, q, hA0, hV, rfl, hfz, hnd⟩ := hW
  have hA : DataW.TrodAll enc Try.prog W 0 (fun _ => true) true Try.f14.params.toList args.toList ds p := hA0
  rw [Try.params14] at hA hval
  obtain ⟨v0, vs0, d0, ds0, p0, q0, hargs, rfl, rfl, h0, r0⟩ := trodAll_cons hA
  obtain ⟨v1, vs1, d1, ds1, p1, q1, rfl, rfl, rfl, h1, r1⟩ := trodAll_cons r0
  obtain ⟨rfl, rfl, rfl⟩ := trodAll_nil r1
  obtain rfl : args = #[v0, v1] := by cases args; simp_all
  obtain ⟨rfl, rfl⟩ := trodVars_none hV
  have k0 := h0
  have lt0 : ∀ x ∈ p0, x.block < W.heap.size := by obtain ⟨m, hm⟩ := k0; exact DataW.trod_lt m _ _ _ hm
  have k1 := h1
  have lt1 : ∀ x ∈ p1, x.block < W.heap.size := by obtain ⟨m, hm⟩ := k1; exact DataW.trod_lt m _ _ _ hm
  obtain ⟨a0, len0, cap0, rfl⟩ := okWide_slice Try.underlying39 (hval 0 39 v0 rfl rfl)
  have w0 : BytesIn W W.heap.size a0 len0 cap0 := isRow_of h0
  obtain ⟨a1, len1, cap1, rfl⟩ := okWide_slice Try.underlying39 (hval 1 39 v1 rfl rfl)
  have w1 : BytesIn W W.heap.size a1 len1 cap1 := isRow_of h1
  clear hA0 hval0
  refine (walk_FnWildAnd a0 len0 cap0 a1 len1 cap1 W w0 w1).mono fun e W' ⟨he, bel⟩ => ?_
  subst he
  exact ⟨_, rfl, _, _, _, [], _, [], hW', trodAll_mk1 (shut_bool Try.underlying4 _), (trodAll_cons_mk (Below.trod laidOut (by kernel_rfl) (of_decide_eq_true (by kernel_rfl)) k0 bel lt0) (trodAll_cons_mk (Below.trod laidOut (by kernel_rfl) (of_decide_eq_true (by kernel_rfl)) k1 bel lt1) (trodAll_mk0))), rfl, bel.frame _, fun h => by cases h⟩

theorem over_FnWildAnd : Rows.fnWildAndRow.holds Try.pinned (OpenSpec.ofChange Rows.fnWildAndSpec) :=
  OpenClaim.holds_of_wide 14 Try.f14 rfl rfl rfl rfl rfl rfl rfl ⟨rfl, rfl, rfl, rfl, rfl⟩ rfl rfl rfl rfl rfl (by kernel_rfl) Try.func14 (by kernel_rfl)
    (of_decide_eq_true (by kernel_rfl)) (by unfold Func.isWrapper; first | (rw [if_pos (by decide +kernel)]; kernel_rfl) | (rw [if_neg (by decide +kernel)]; exact ⟨rfl, rfl⟩))
    (fun os started H enc _ => lifted_FnWildAnd os started H enc)

theorem proved_FnWildAnd : Rows.FnWildAndSaid := over_FnWildAnd

end Go.Proofs.Ytdiegaffbbhamaa
