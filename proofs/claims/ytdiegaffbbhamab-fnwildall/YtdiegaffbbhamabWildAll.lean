/-
  Proved: promise 11 (each head of both is in what they have in common), at every code from which the patterns are drawn; the code reads on as it did. No condition.
-/
import Derived.Test.YtdiegaffbbhamabWildFactsB
namespace Go.Proofs.Ytdiegaffbbhamab
open Go.ChangeShapes Go.WideShapes Go.ChangeAt Go.RowKit Go.Joins
set_option linter.unusedVariables false

set_option maxHeartbeats 4000000 in
theorem walk_FnWildAll (a : Option Addr) (len cap : Nat) (w : World) (hb : BytesIn w w.heap.size a len cap) :
    Calls Try.prog 3 #[.slice a len cap] w fun e w' => e = .returned (.bool true) ∧ Below w.heap.size w w' := by
  have HB := Lib.hid hb
  have hm : (len : Int) ≤ maxLen := by have := hb.1; have := hb.2.1; omega
  unfold maxLen at hm
  clear hb
  by_cases hlen : (1048576 : Int) < (len : Int)
  · go_enter Try.func3, Try.ntmps3
    go_wp2
    go_ret
    exact ⟨rfl, Below.refl _ _⟩
  go_enter Try.func3, Try.ntmps3
  go_wp2_with fail
  refine (drawWildAnd_any _ _ _ _ HB.out).mono ?_
  rintro e w1 ⟨s, t, hs, ht, rfl, b1⟩
  go_wp2_with fail
  refine (sWildAnd_any s t (by omega) (by omega) _).mono ?_
  rintro e w2 ⟨rfl, b2⟩
  go_wp2_with fail
  refine (iWildAnd_any s t (by omega) (by omega) _).mono ?_
  rintro e w3 ⟨rfl, b3⟩
  have B3 : Hid (Below w.heap.size w w3) := belStep b1 (belStep b2 b3)
  have z3 := B3.out.size
  clear b1 b2 b3
  have HX := Lib.hid (hasS_and s t)
  have HP : Hid (okS s = true → okS t = true → decide (0 < ((cntTo (fun k => hasS s ((k : Int) / 16 % 4) ((k : Int) / 4 % 4) ((k : Int) % 4) && hasS t ((k : Int) / 16 % 4) ((k : Int) / 4 % 4) ((k : Int) % 4)) 64 : Nat) : Int)) = meetS s t) := by
    intro h1 h2
    cases hm : meetS s t
    · rw [cntTo_congr (q := fun _ => false) (fun k _ => by rw [hasS_and s t h1 h2, hm]; rfl)]
      decide
    · rw [cntTo_congr (q := fun k => hasM (cf (andS s t)) (vf (andS s t)) (kb k)) (fun k _ => by rw [hasS_and s t h1 h2, hm, hasS_lx, okS_andS hm]; rfl), cnt_many (okS_andS hm)]
      have := (manyB_pos (cf (andS s t))).1
      simp
      omega
  have HI := Lib.hid (iWildAnd_any s s (by omega) (by omega))
  have hz := andS_size s t
  generalize hx : andS s t = x at *
  generalize hy : meetS s t = y at *
  clear hx hy
  go_wp2_with fail
  refine (sWildOk_any s (by omega) _).mono ?_
  rintro e w' ⟨rfl, rfl⟩
  cases hks : okS s
  · go_wp2
    go_ret
    exact ⟨rfl, B3.out⟩
  go_wp2_with fail
  refine (sWildOk_any t (by omega) _).mono ?_
  rintro e w' ⟨rfl, rfl⟩
  cases hkt : okS t
  · go_wp2
    go_ret
    exact ⟨rfl, B3.out⟩
  have HP1 := Lib.hid (HP.out hks hkt)
  have HX1 := Lib.hid (fun n => HX.out hks hkt n)
  rw [(and_self hks).1, (and_self hks).2] at HI
  clear HP HX
  go_wp2
  go_loopw [9, 10] (fun n i wr => ∃ k : Nat, k ≤ 64 ∧ i = .int .i64 k ∧ n = .int .i64 ((cntTo (fun k => hasS s ((k : Int) / 16 % 4) ((k : Int) / 4 % 4) ((k : Int) % 4) && hasS t ((k : Int) / 16 % 4) ((k : Int) / 4 % 4) ((k : Int) % 4)) k : Nat) : Int) ∧ Below w.heap.size w wr) (fun _ i _ => 64 - (intOf i).toNat)
  case atStart => exact ⟨0, Nat.zero_le _, rfl, rfl, B3.out⟩
  case round =>
    obtain ⟨k, hk, rfl, rfl, hbel⟩ := hrel
    have hl := cntTo_le (fun k => hasS s ((k : Int) / 16 % 4) ((k : Int) / 4 % 4) ((k : Int) % 4) && hasS t ((k : Int) / 16 % 4) ((k : Int) / 4 % 4) ((k : Int) % 4)) k
    by_cases hlt : k < 64
    · have HE : Hid (cntTo (fun k => hasS s ((k : Int) / 16 % 4) ((k : Int) / 4 % 4) ((k : Int) % 4) && hasS t ((k : Int) / 16 % 4) ((k : Int) / 4 % 4) ((k : Int) % 4)) (k + 1) = cntTo (fun k => hasS s ((k : Int) / 16 % 4) ((k : Int) / 4 % 4) ((k : Int) % 4) && hasS t ((k : Int) / 16 % 4) ((k : Int) / 4 % 4) ((k : Int) % 4)) k + (hasS s ((k : Int) / 16 % 4) ((k : Int) / 4 % 4) ((k : Int) % 4) && hasS t ((k : Int) / 16 % 4) ((k : Int) / 4 % 4) ((k : Int) % 4)).toNat) := rfl
      have hxx := HX1.out k
      generalize hn : cntTo (fun k => hasS s ((k : Int) / 16 % 4) ((k : Int) / 4 % 4) ((k : Int) % 4) && hasS t ((k : Int) / 16 % 4) ((k : Int) / 4 % 4) ((k : Int) % 4)) k = n at *
      clear hn
      go_wp2_with fail
      refine (lxHead_at _ (by omega) _).mono ?_
      rintro e w4 ⟨rfl, b4⟩
      have s4 := b4.size
      have z4 := hbel.size
      have HS1 := Lib.hid (iWildHas_any s (by omega) ((k : Int) / 16 % 4) ((k : Int) / 4 % 4) ((k : Int) % 4))
      have HS2 := Lib.hid (iWildHas_any t (by omega) ((k : Int) / 16 % 4) ((k : Int) / 4 % 4) ((k : Int) % 4))
      have HS3 := Lib.hid (iWildHas_any x (by omega) ((k : Int) / 16 % 4) ((k : Int) / 4 % 4) ((k : Int) % 4))
      generalize hu : (k : Int) / 16 % 4 = u at *
      generalize hv : (k : Int) / 4 % 4 = v at *
      generalize hq : (k : Int) % 4 = q at *
      clear hu hv hq
      generalize hasS s u v q = A at *
      generalize hasS t u v q = B at *
      generalize hasS x u v q = X at *
      cases A <;> cases B <;> cases y <;> cases X <;> first | (exfalso; revert hxx; decide) | skip
      all_goals
        clear hxx
        go_wp2_with fail
        have C0 := Lib.hid (trip_cells (newBlock w4 (.cells #[.int .i64 u, .int .i64 v, .int .i64 q] 29)))
        have BW : Hid (Below w.heap.size w (w4.alloc (.cells #[.int .i64 u, .int .i64 v, .int .i64 q] 29))) := (belStep hbel b4).alloc (by omega) _
        have zW : w4.heap.size < (w4.alloc (.cells #[.int .i64 u, .int .i64 v, .int .i64 q] 29)).heap.size := by simp
        clear b4 hbel
        generalize w4.alloc (.cells #[.int .i64 u, .int .i64 v, .int .i64 q] 29) = W at *
        have HC := Lib.hid (cellsHeld C0.out zW)
        refine (HS1.out _).mono ?_
        rintro e wq ⟨rfl, bq⟩
        obtain ⟨q0, q1, q2⟩ := HC.out _ bq
        go_wp2_with (go_at_call 13; (first | (with_reducible refine (HS1.out _).mono ?_) | (with_reducible refine (HS2.out _).mono ?_) | (with_reducible refine (HS3.out _).mono ?_)); rintro e wq ⟨rfl, bq'⟩; have bq := belStep (by assumption) bq'; obtain ⟨q0, q1, q2⟩ := HC.out _ bq; clear bq')
        go_roundw
        case rel => exact ⟨k + 1, by omega, by go_num, by rw [HE.out]; rfl, BW.out.trans (bq.mono BW.out.size)⟩
        case measure => simp [intOf]; omega
    · obtain rfl : k = 64 := by omega
      generalize hn : cntTo (fun k => hasS s ((k : Int) / 16 % 4) ((k : Int) / 4 % 4) ((k : Int) % 4) && hasS t ((k : Int) / 16 % 4) ((k : Int) / 4 % 4) ((k : Int) % 4)) 64 = n at *
      clear hn HX1
      go_wp2_with fail
      refine (HI.out _).mono ?_
      rintro e w4 ⟨rfl, b4⟩
      have hp := HP1.out
      cases y
      · have hp' : (n : Int) = 0 := by simp at hp; omega
        rw [hp']
        go_wp2
        go_ret
        exact ⟨rfl, belStep hbel b4⟩
      · have hp' : 0 < (n : Int) := by simpa using hp
        clear hp HP1
        go_wp2
        go_ret
        exact ⟨rfl, belStep hbel b4⟩

set_option maxRecDepth 100000 in
theorem lifted_FnWildAll (os : Os) (started : os.Started) (H : Type) (enc : TypeId × Value → H) :
    ReturnsInHanded {} Try.checked os 3 .any (Rows.fnWildAllSpec.pre6 enc Try.prog Try.f3 Rows.fnWildAllRow.domain false) (Rows.fnWildAllSpec.post enc Try.prog Try.f3 false true false false) := by
  refine returnsInHanded_of_change (C := Try.checked) own started (by kernel_rfl) Try.func3
    (ChangeSpec.witness6 (enc := enc) (C := Try.checked) false ⟨#[], #[.slice none 0 0], []⟩ 8 (by kernel_rfl) (by kernel_rfl) (by kernel_rfl) (by kernel_rfl)) ?_
  intro W base args ds gs before hval0 hW hcnd _
  have hval : ∀ (j : Nat) t v, Try.f3.params[j]? = some t → args[j]? = some v → Value.okWide Try.prog W .any base t v := hval0
  have hW' := hW
  obtain ⟨p, q, hA0, hV, rfl, hfz, hnd⟩ := hW
  have hA : DataW.TrodAll enc Try.prog W 0 (fun _ => true) true Try.f3.params.toList args.toList ds p := hA0
  rw [Try.params3] at hA hval
  obtain ⟨v0, vs0, d0, ds0, p0, q0, hargs, rfl, rfl, h0, r0⟩ := trodAll_cons hA
  obtain ⟨rfl, rfl, rfl⟩ := trodAll_nil r0
  obtain rfl : args = #[v0] := by cases args; simp_all
  obtain ⟨rfl, rfl⟩ := trodVars_none hV
  have k0 := h0
  have lt0 : ∀ x ∈ p0, x.block < W.heap.size := by obtain ⟨m, hm⟩ := k0; exact DataW.trod_lt m _ _ _ hm
  obtain ⟨a0, len0, cap0, rfl⟩ := okWide_slice Try.underlying22 (hval 0 22 v0 rfl rfl)
  have w0 : BytesIn W W.heap.size a0 len0 cap0 := isRow_of h0
  clear hA0 hval0
  refine (walk_FnWildAll a0 len0 cap0 W w0).mono fun e W' ⟨he, bel⟩ => ?_
  subst he
  exact ⟨_, rfl, _, _, _, [], _, [], hW', trodAll_mk1 (shut_bool Try.underlying4 _), (trodAll_cons_mk (Below.trod laidOut (by kernel_rfl) (of_decide_eq_true (by kernel_rfl)) k0 bel lt0) (trodAll_mk0)), rfl, bel.frame _, fun h => by cases h⟩

theorem over_FnWildAll : Rows.fnWildAllRow.holds Try.pinned (OpenSpec.ofChange Rows.fnWildAllSpec) :=
  OpenClaim.holds_of_wide 3 Try.f3 rfl rfl rfl rfl rfl rfl rfl ⟨rfl, rfl, rfl, rfl, rfl⟩ rfl rfl rfl rfl rfl (by kernel_rfl) Try.func3 (by kernel_rfl)
    (of_decide_eq_true (by kernel_rfl)) (by unfold Func.isWrapper; first | (rw [if_pos (by decide +kernel)]; kernel_rfl) | (rw [if_neg (by decide +kernel)]; exact ⟨rfl, rfl⟩))
    (fun os started H enc _ => lifted_FnWildAll os started H enc)

theorem proved_FnWildAll : Rows.FnWildAllSaid := over_FnWildAll

end Go.Proofs.Ytdiegaffbbhamab
