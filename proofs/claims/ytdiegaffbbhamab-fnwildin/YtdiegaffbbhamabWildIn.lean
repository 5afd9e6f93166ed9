/-
  Proved: promise 13 (one pattern is in another one, if all its heads are), at every code from which the patterns are drawn; the code reads on as it did. No condition.
-/
import Derived.Test.YtdiegaffbbhamabWildFactsB
namespace Go.Proofs.Ytdiegaffbbhamab
open Go.ChangeShapes Go.WideShapes Go.ChangeAt Go.RowKit Go.Joins
set_option linter.unusedVariables false

set_option maxHeartbeats 4000000 in
theorem walk_FnWildIn (a : Option Addr) (len cap : Nat) (w : World) (hb : BytesIn w w.heap.size a len cap) :
    Calls Try.prog 5 #[.slice a len cap] w fun e w' => e = .returned (.bool true) ∧ Below w.heap.size w w' := by
  have HB := Lib.hid hb
  have hm : (len : Int) ≤ maxLen := by have := hb.1; have := hb.2.1; omega
  unfold maxLen at hm
  clear hb
  by_cases hlen : (1048576 : Int) < (len : Int)
  · go_enter Try.func5, Try.ntmps5
    go_wp2
    go_ret
    exact ⟨rfl, Below.refl _ _⟩
  go_enter Try.func5, Try.ntmps5
  go_wp2_with fail
  refine (drawWildIn_any _ _ _ _ HB.out).mono ?_
  rintro e w1 ⟨s, t, hs, ht, rfl, b1⟩
  go_wp2_with fail
  refine (iWildIn_any s t (by omega) (by omega) _).mono ?_
  rintro e w2 ⟨rfl, b2⟩
  go_wp2_with fail
  refine (sWildIn_any s t (by omega) (by omega) _).mono ?_
  rintro e w3 ⟨rfl, b3⟩
  have B3 : Hid (Below w.heap.size w w3) := belStep b1 (belStep b2 b3)
  clear b1 b2 b3
  go_wp2_with fail
  refine (sWildOk_any s (by omega) _).mono ?_
  rintro e w' ⟨rfl, rfl⟩
  cases hks : okS s
  · go_wp2_with fail
    refine (sWildIn_any s t (by omega) (by omega) _).mono ?_
    rintro e w4 ⟨rfl, b4⟩
    go_wp2
    go_ret
    exact ⟨rfl, belStep B3.out b4⟩
  go_wp2_with fail
  refine (sWildOk_any t (by omega) _).mono ?_
  rintro e w' ⟨rfl, rfl⟩
  cases hkt : okS t
  · go_wp2_with fail
    refine (sWildIn_any s t (by omega) (by omega) _).mono ?_
    rintro e w4 ⟨rfl, b4⟩
    go_wp2
    go_ret
    exact ⟨rfl, belStep B3.out b4⟩
  have HI1 := Lib.hid (iWildIn_any t s (by omega) (by omega))
  have HI2 := Lib.hid (iWildIn_any s ⟨#[120, 120, 120, 120, 120, 120]⟩ (by omega) (by decide))
  rw [in_allX hks] at HI2
  have hbo := in_both hks hkt
  have HE : Hid (inS s t = preTo (fun k => !hasS s ((k : Int) / 16 % 4) ((k : Int) / 4 % 4) ((k : Int) % 4) || hasS t ((k : Int) / 16 % 4) ((k : Int) / 4 % 4) ((k : Int) % 4)) 64) := by
    show _ = _
    have e1 : inS s t = inM (cf s) (vf s) (cf t) (vf t) := by unfold inS; rw [hks, hkt]; rfl
    rw [e1, in_all hks hkt]
    congr 1
    funext k
    rw [hasS_lx, hasS_lx, hks, hkt, Bool.true_and, Bool.true_and]
  generalize inS s t = y at *
  generalize inS t s = z at *
  clear hks hkt
  go_wp2
  go_loopw [6, 7] (fun c i wr => ∃ k : Nat, k ≤ 64 ∧ i = .int .i64 k ∧ c = .bool (preTo (fun k => !hasS s ((k : Int) / 16 % 4) ((k : Int) / 4 % 4) ((k : Int) % 4) || hasS t ((k : Int) / 16 % 4) ((k : Int) / 4 % 4) ((k : Int) % 4)) k) ∧ Below w.heap.size w wr) (fun _ i _ => 64 - (intOf i).toNat)
  case atStart => exact ⟨0, Nat.zero_le _, rfl, rfl, B3.out⟩
  case round =>
    obtain ⟨k, hk, rfl, rfl, hbel⟩ := hrel
    by_cases hlt : k < 64
    · have HS : Hid (preTo (fun k => !hasS s ((k : Int) / 16 % 4) ((k : Int) / 4 % 4) ((k : Int) % 4) || hasS t ((k : Int) / 16 % 4) ((k : Int) / 4 % 4) ((k : Int) % 4)) (k + 1) = (preTo (fun k => !hasS s ((k : Int) / 16 % 4) ((k : Int) / 4 % 4) ((k : Int) % 4) || hasS t ((k : Int) / 16 % 4) ((k : Int) / 4 % 4) ((k : Int) % 4)) k && (!hasS s ((k : Int) / 16 % 4) ((k : Int) / 4 % 4) ((k : Int) % 4) || hasS t ((k : Int) / 16 % 4) ((k : Int) / 4 % 4) ((k : Int) % 4)))) := rfl
      generalize hp : preTo (fun k => !hasS s ((k : Int) / 16 % 4) ((k : Int) / 4 % 4) ((k : Int) % 4) || hasS t ((k : Int) / 16 % 4) ((k : Int) / 4 % 4) ((k : Int) % 4)) k = c at *
      clear hp
      cases c
      · go_wp2
        go_roundw
        case rel => exact ⟨k + 1, by omega, by go_num, by rw [HS.out]; rfl, hbel⟩
        case measure => simp [intOf]; omega
      go_wp2_with fail
      refine (lxHead_at _ (by omega) _).mono ?_
      rintro e w4 ⟨rfl, b4⟩
      go_wp2_with fail
      refine (iWildHas_any s (by omega) _ _ _ _).mono ?_
      rintro e w5 ⟨rfl, b5⟩
      have B5 : Hid (Below w.heap.size w w5) := belStep hbel (belStep b4 b5)
      clear b4 b5
      cases ha : hasS s ((k : Int) / 16 % 4) ((k : Int) / 4 % 4) ((k : Int) % 4)
      · rw [ha] at HS
        go_wp2
        go_roundw
        case rel => exact ⟨k + 1, by omega, by go_num, by rw [HS.out]; rfl, B5.out⟩
        case measure => simp [intOf]; omega
      rw [ha] at HS
      clear ha
      go_wp2_with fail
      refine (lxHead_at _ (by omega) _).mono ?_
      rintro e w6 ⟨rfl, b6⟩
      go_wp2_with fail
      refine (iWildHas_any t (by omega) _ _ _ _).mono ?_
      rintro e w7 ⟨rfl, b7⟩
      have B7 : Hid (Below w.heap.size w w7) := belStep B5.out (belStep b6 b7)
      clear b6 b7
      go_wp2
      go_roundw
      case rel => exact ⟨k + 1, by omega, by go_num, by rw [HS.out]; rfl, B7.out⟩
      case measure => simp [intOf]; omega
    · obtain rfl : k = 64 := by omega
      rw [← HE.out]
      clear HE
      cases y
      · rw [Bool.false_and] at hbo
        have hb2 := hbo.symm
        clear hbo
        go_wp2_with fail
        refine (HI2.out _).mono ?_
        rintro e w6 ⟨rfl, b6⟩
        go_wp2
        go_ret
        exact ⟨rfl, belStep hbel b6⟩
      · rw [Bool.true_and] at hbo
        go_wp2_with fail
        refine (HI1.out _).mono ?_
        rintro e w5 ⟨rfl, b5⟩
        rw [hbo]
        clear hbo
        go_wp2_with fail
        refine (HI2.out _).mono ?_
        rintro e w6 ⟨rfl, b6⟩
        go_wp2
        go_ret
        exact ⟨rfl, belStep hbel (belStep b5 b6)⟩

set_option maxRecDepth 100000 in
theorem lifted_FnWildIn (os : Os) (started : os.Started) (H : Type) (enc : TypeId × Value → H) :
    ReturnsInHanded {} Try.checked os 5 .any (Rows.fnWildInSpec.pre6 enc Try.prog Try.f5 Rows.fnWildInRow.domain false) (Rows.fnWildInSpec.post enc Try.prog Try.f5 false true false false) := by
  refine returnsInHanded_of_change (C := Try.checked) own started (by kernel_rfl) Try.func5
    (ChangeSpec.witness6 (enc := enc) (C := Try.checked) false ⟨#[], #[.slice none 0 0], []⟩ 8 (by kernel_rfl) (by kernel_rfl) (by kernel_rfl) (by kernel_rfl)) ?_
  intro W base args ds gs before hval0 hW hcnd _
  have hval : ∀ (j : Nat) t v, Try.f5.params[j]? = some t → args[j]? = some v → Value.okWide Try.prog W .any base t v := hval0
  have hW' := hW
  obtain ⟨p, q, hA0, hV, rfl, hfz, hnd⟩ := hW
  have hA : DataW.TrodAll enc Try.prog W 0 (fun _ => true) true Try.f5.params.toList args.toList ds p := hA0
  rw [Try.params5] at hA hval
  obtain ⟨v0, vs0, d0, ds0, p0, q0, hargs, rfl, rfl, h0, r0⟩ := trodAll_cons hA
  obtain ⟨rfl, rfl, rfl⟩ := trodAll_nil r0
  obtain rfl : args = #[v0] := by cases args; simp_all
  obtain ⟨rfl, rfl⟩ := trodVars_none hV
  have k0 := h0
  have lt0 : ∀ x ∈ p0, x.block < W.heap.size := by obtain ⟨m, hm⟩ := k0; exact DataW.trod_lt m _ _ _ hm
  obtain ⟨a0, len0, cap0, rfl⟩ := okWide_slice Try.underlying22 (hval 0 22 v0 rfl rfl)
  have w0 : BytesIn W W.heap.size a0 len0 cap0 := isRow_of h0
  clear hA0 hval0
  refine (walk_FnWildIn a0 len0 cap0 W w0).mono fun e W' ⟨he, bel⟩ => ?_
  subst he
  exact ⟨_, rfl, _, _, _, [], _, [], hW', trodAll_mk1 (shut_bool Try.underlying4 _), (trodAll_cons_mk (Below.trod laidOut (by kernel_rfl) (of_decide_eq_true (by kernel_rfl)) k0 bel lt0) (trodAll_mk0)), rfl, bel.frame _, fun h => by cases h⟩

theorem over_FnWildIn : Rows.fnWildInRow.holds Try.pinned (OpenSpec.ofChange Rows.fnWildInSpec) :=
  OpenClaim.holds_of_wide 5 Try.f5 rfl rfl rfl rfl rfl rfl rfl ⟨rfl, rfl, rfl, rfl, rfl⟩ rfl rfl rfl rfl rfl (by kernel_rfl) Try.func5 (by kernel_rfl)
    (of_decide_eq_true (by kernel_rfl)) (by unfold Func.isWrapper; first | (rw [if_pos (by decide +kernel)]; kernel_rfl) | (rw [if_neg (by decide +kernel)]; exact ⟨rfl, rfl⟩))
    (fun os started H enc _ => lifted_FnWildIn os started H enc)

theorem proved_FnWildIn : Rows.FnWildInSaid := over_FnWildIn

end Go.Proofs.Ytdiegaffbbhamab
