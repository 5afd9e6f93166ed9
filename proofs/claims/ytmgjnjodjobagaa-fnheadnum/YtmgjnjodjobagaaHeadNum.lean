/-
  Proved: promise 3 (each number is of one head), at every code from which the number is drawn; the code reads on as it did. No condition.
-/
import Derived.Test.YtmgjnjodjobagaaHeadMore
import Derived.Test.YtmgjnjodjobagaaPick
namespace Go.Proofs.Ytmgjnjodjobagaa
open Go.ChangeShapes Go.WideShapes Go.ChangeAt Go.RowKit Go.Joins
set_option linter.unusedVariables false

def DrawnNum (w : World) (e : Ending) (w' : World) : Prop := ∃ n : Int, -3 ≤ n ∧ n ≤ 66 ∧ e = .returned (.int .i64 n) ∧ Below w.heap.size w w'

set_option maxHeartbeats 400000 in
theorem drawHeadOf_any (w : World) (a : Option Addr) (len cap : Nat) (hb : BytesIn w w.heap.size a len cap) :
    Calls Try.prog 11 #[.slice a len cap] w (DrawnNum w) := by
  have HB := Lib.hid hb
  clear hb
  go_enter Try.func11, Try.ntmps11
  go_wp2_with fail
  refine (open_any _ _ _ _ HB.out).mono ?_
  rintro e w1 ⟨rfl, hr, b1⟩
  have HR := Lib.hid hr
  clear hr
  go_wp2_with fail
  refine (pick_any _ _ _ _ HR.out (by omega) (by omega)).mono ?_
  rintro e w2 ⟨v, v0, v1, rfl, hr2, g2⟩
  clear hr2
  go_wp2
  go_ret
  exact ⟨v - 3, by omega, by omega, rfl, b1.grown g2 b1.size (by intro k hk; cases hk; exact Nat.le_refl _)⟩

set_option maxHeartbeats 1000000 in
theorem walk_FnHeadNum (a : Option Addr) (len cap : Nat) (w : World) (hb : BytesIn w w.heap.size a len cap) :
    Calls Try.prog 3 #[.slice a len cap] w fun e w' => e = .returned (.bool true) ∧ Below w.heap.size w w' := by
  have HB := Lib.hid hb
  have hm : (len : Int) ≤ maxLen := by have := hb.1; have := hb.2.1; omega
  unfold maxLen at hm
  clear hb
  by_cases hlen : (1048576 : Int) < (len : Int)
  · go_enter Try.func3, Try.ntmps3
    go_wp2
    go_ret
    exact ⟨rfl, Below.refl _ _⟩
  · go_enter Try.func3, Try.ntmps3
    go_wp2_with fail
    refine (drawHeadOf_any _ _ _ _ HB.out).mono ?_
    rintro e w1 ⟨n, n0, n1, rfl, b1⟩
    by_cases h : 0 ≤ n ∧ n ≤ 63
    · obtain ⟨h0, h1⟩ := h
      go_wp2_with fail
      refine (sHeadOf_yes _ h0 h1 _).mono ?_
      rintro e w2 ⟨rfl, b2⟩
      go_wp2_with fail
      refine (iHeadOf_yes _ h0 h1 _).mono ?_
      rintro e w3 ⟨rfl, b3⟩
      have c3 := belCell b3
      have z3 : w2.heap.size < w3.heap.size := by { have := b3.size; simp at this; omega }
      go_wp2_with fail
      refine (iHeadNum_yes _ _ _ (okB_mk (by omega) (by omega) (by omega) (by omega) (by omega) (by omega)) _).mono ?_
      rintro e w4 ⟨rfl, b4⟩
      have c4 := belCell b4
      have e1 : (16 * (n / 16) + 4 * (n / 4 % 4) + n % 4 == n) = true := by simp; omega
      go_wp2_with fail
      refine (iHeadOk_any _ _ _ _).mono ?_
      rintro e w5 ⟨rfl, b5⟩
      rw [okB_mk (a := n / 16) (b := n / 4 % 4) (c := n % 4) (by omega) (by omega) (by omega) (by omega) (by omega) (by omega)]
      go_wp2
      go_ret
      have s2 := b2.size
      have s4 := b4.size
      simp at s4
      have s1 := b1.size
      exact ⟨rfl, b1.trans ((b2.mono (by omega)).trans (((Below.refl _ _).alloc (by omega) _).trans ((b3.mono (by simp; omega)).trans (((Below.refl _ _).alloc (by omega) _).trans ((b4.mono (by simp; omega)).trans (b5.mono (by omega)))))))⟩
    · go_wp2_with fail
      refine (sHeadOf_no _ (by omega) _).mono ?_
      rintro e w2 ⟨rfl, b2⟩
      go_wp2_with fail
      refine (iHeadOf_no _ (by omega) _).mono ?_
      rintro e w3 ⟨rfl, b3⟩
      have c3 := belCell b3
      have z3 : w2.heap.size < w3.heap.size := by { have := b3.size; simp at this; omega }
      have s1 := b1.size
      have s2 := b2.size
      by_cases hn : 0 ≤ n
      · have hd : decide (n < 64) = false := by simp; omega
        go_wp2
        go_ret
        exact ⟨rfl, b1.trans ((b2.mono (by omega)).trans (((Below.refl _ _).alloc (by omega) _).trans ((b3.mono (by simp; omega)).trans ((Below.refl _ _).alloc (by omega) _))))⟩
      · have hd : decide (0 ≤ n) = false := by simp; omega
        go_wp2
        go_ret
        exact ⟨rfl, b1.trans ((b2.mono (by omega)).trans (((Below.refl _ _).alloc (by omega) _).trans ((b3.mono (by simp; omega)).trans ((Below.refl _ _).alloc (by omega) _))))⟩

set_option maxRecDepth 100000 in
theorem lifted_FnHeadNum (os : Os) (started : os.Started) (H : Type) (enc : TypeId × Value → H) :
    ReturnsInHanded {} Try.checked os 3 .any (Rows.fnHeadNumSpec.pre6 enc Try.prog Try.f3 Rows.fnHeadNumRow.domain false) (Rows.fnHeadNumSpec.post enc Try.prog Try.f3 false true false false) := by
  refine returnsInHanded_of_change (C := Try.checked) own started (by kernel_rfl) Try.func3
    (ChangeSpec.witness6 (enc := enc) (C := Try.checked) false ⟨#[], #[.slice none 0 0], []⟩ 8 (by kernel_rfl) (by kernel_rfl) (by kernel_rfl) (by kernel_rfl)) ?_
  intro W base args ds gs before hval0 hW hcnd _
  have hval : ∀ (j : Nat) t v, Try.f3.params[j]? = some t → args[j]? = some v → Value.okWide Try.prog W .any base t v := hval0
  have hW' := hW
  obtain ⟨p, q, hA0, hV, rfl, hfz, hnd⟩ := hW
  have hA : DataW.TrodAll enc Try.prog W 0 (fun _ => true) true Try.f3.params.toList args.toList ds p := hA0
  rw [Try.params3] at hA hval
  obtain ⟨v0, vs0, d0, ds0, p0, q0, hargs, rfl, rfl, h0, r0⟩ := trodAll_cons hA
  obtain ⟨rfl, rfl, rfl⟩ := trodAll_nil r0
  obtain rfl : args = #[v0] := by cases args; simp_all
  obtain ⟨rfl, rfl⟩ := trodVars_none hV
  have k0 := h0
  have lt0 : ∀ x ∈ p0, x.block < W.heap.size := by obtain ⟨m, hm⟩ := k0; exact DataW.trod_lt m _ _ _ hm
  obtain ⟨a0, len0, cap0, rfl⟩ := okWide_slice Try.underlying22 (hval 0 22 v0 rfl rfl)
  have w0 : BytesIn W W.heap.size a0 len0 cap0 := isRow_of h0
  clear hA0 hval0
  refine (walk_FnHeadNum a0 len0 cap0 W w0).mono fun e W' ⟨he, bel⟩ => ?_
  subst he
  exact ⟨_, rfl, _, _, _, [], _, [], hW', trodAll_mk1 (shut_bool Try.underlying4 _), (trodAll_cons_mk (Below.trod laidOut (by kernel_rfl) (of_decide_eq_true (by kernel_rfl)) k0 bel lt0) (trodAll_mk0)), rfl, bel.frame _, fun h => by cases h⟩

theorem over_FnHeadNum : Rows.fnHeadNumRow.holds Try.pinned (OpenSpec.ofChange Rows.fnHeadNumSpec) :=
  OpenClaim.holds_of_wide 3 Try.f3 rfl rfl rfl rfl rfl rfl rfl ⟨rfl, rfl, rfl, rfl, rfl⟩ rfl rfl rfl rfl rfl (by kernel_rfl) Try.func3 (by kernel_rfl)
    (of_decide_eq_true (by kernel_rfl)) (by unfold Func.isWrapper; first | (rw [if_pos (by decide +kernel)]; kernel_rfl) | (rw [if_neg (by decide +kernel)]; exact ⟨rfl, rfl⟩))
    (fun os started H enc _ => lifted_FnHeadNum os started H enc)

theorem proved_FnHeadNum : Rows.FnHeadNumSaid := over_FnHeadNum

end Go.Proofs.Ytmgjnjodjobagaa
