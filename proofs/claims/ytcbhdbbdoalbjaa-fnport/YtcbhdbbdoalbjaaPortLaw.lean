/-
  Proved: FnPort is true at every input.
-/
import Derived.Test.YtcbhdbbdoalbjaaOwnB
import Derived.Test.YtcbhdbbdoalbjaaNetTwo
import Derived.Test.YtcbhdbbdoalbjaaNetPortI
namespace Go.Proofs.Ytcbhdbbdoalbjaa
open Go.ChangeShapes Go.WideShapes Go.ChangeAt Go.RowKit Go.Joins
set_option linter.unusedVariables false

set_option maxRecDepth 100000 in
set_option maxHeartbeats 8000000 in
theorem walk_FnPort (a : Option Addr) (len cap : Nat) (w : World) (hb : BytesIn w w.heap.size a len cap) :
    Calls Try.prog 9 #[.slice a len cap] w fun e w' => e = .returned (.bool true) ∧ Below w.heap.size w w' := by
  have HB := Lib.hid hb
  have hm : (len : Int) ≤ maxLen := by have := hb.1; have := hb.2.1; omega
  unfold maxLen at hm
  clear hb
  by_cases hlen : (1048576 : Int) < (len : Int)
  · go_enter Try.func9, Try.ntmps9
    go_wp2
    go_ret
    exact ⟨rfl, Below.refl _ _⟩
  go_enter Try.func9, Try.ntmps9
  go_wp2_with fail
  refine (drawNetPort_any _ _ _ _ HB.out).mono ?_
  rintro e w1 ⟨v, l, x, y, rfl, hl, x0, x1, y0, y1, hrow, b1⟩
  have hn : l.length ≤ 1048576 := by omega
  have HL : Hid (∀ W, Below w1.heap.size w1 W → Lks W W.heap.size v l) := fun W hb => (hrow.lks.below hb (Nat.le_refl _)).mono hb.size
  have HI : Hid (∀ W, Below w1.heap.size w1 W → Calls Try.prog 27 #[v, .int .i64 x, .int .i64 y] W fun e w' => e = .returned (.int .i64 (portV l x y)) ∧ Below W.heap.size W w') := fun W h => iNetPort_any W v l x y (HL.out W h)
  have HS : Hid (∀ W, Below w1.heap.size w1 W → Calls Try.prog 39 #[v, .int .i64 x, .int .i64 y] W fun e w' => e = .returned (.int .i64 (portV l x y)) ∧ Below W.heap.size W w') := fun W h => sNetPort_any W v l x y (HL.out W h) hn
  have HO : Hid (∀ W, Below w1.heap.size w1 W → Calls Try.prog 22 #[v] W fun e w' => e = .returned (.bool (netB l)) ∧ Below W.heap.size W w') := fun W h => sNetOk_any W v l (HL.out W h) hn
  have HP : Hid (∀ (k : Int) W, Below w1.heap.size w1 W → Calls Try.prog 21 #[v, .int .i64 x, .int .i64 k] W fun e w' => e = .returned (peerV l x k) ∧ Below W.heap.size W w') := fun k W h => iNetPeer_any W v l x k (HL.out W h)
  have HF := Lib.hid (fun n W => lxFour_any n W)
  have BW : Hid (∀ W, Below w1.heap.size w1 W → Below w.heap.size w W) := fun W hb => belStep b1 hb
  have HV : Hid (portV l x y = bif netB l && (swB x && swB y) then leastF (fun k => (peerF l x k).1 == y) else 0) := rfl
  have HPV : Hid (netB l = true → ∀ k : Int, peerV l x k = .tuple #[.int .i64 (peerF l x k).1, .int .i64 (peerF l x k).2, .bool (decide ((peerF l x k).1 > 0))]) := fun e k => by unfold peerV; rw [e]; rfl
  have HSW : Hid (swB y = true → 1 ≤ y) := fun e => by unfold swB inB at e; simp at e; exact e.1
  obtain ⟨va, vn, vc, rfl⟩ : ∃ va vn vc, v = .slice va vn vc := by
    rcases hrow.form with ⟨rfl, -⟩ | ⟨_, _, rfl, -⟩ <;> exact ⟨_, _, _, rfl⟩
  clear hrow b1 HB HL
  have hh : w1.heap.size ≤ w1.heap.size := Nat.le_refl _
  generalize portV l x y = pv at *
  go_wp2_with fail
  refine (HI.out _ (Below.refl _ _)).mono ?_
  rintro e w2 ⟨rfl, b2⟩
  have B2 := Lib.hid b2
  clear b2
  go_wp2_with fail
  refine (HS.out _ B2.out).mono ?_
  rintro e w3 ⟨rfl, b3⟩
  have B3 := Lib.hid (belStep B2.out b3)
  clear b3 B2
  go_wp2_with fail
  refine (HO.out _ B3.out).mono ?_
  rintro e w4 ⟨rfl, b4⟩
  have B4 := Lib.hid (belStep B3.out b4)
  clear b4 B3
  cases hnb : netB l
  · go_wp2_with fail
    refine (HS.out _ B4.out).mono ?_
    rintro e w5 ⟨rfl, b5⟩
    have B5 := Lib.hid (belStep B4.out b5)
    go_wp2
    go_ret
    exact ⟨by simp, BW.out _ B5.out⟩
  have HPP := Lib.hid (HPV.out hnb)
  rw [hnb] at HV
  clear HPV
  go_wp2_with fail
  refine (HF.out _ _).mono ?_
  rintro e w' ⟨rfl, rfl⟩
  cases hx : swB x
  · go_wp2_with fail
    refine (HS.out _ B4.out).mono ?_
    rintro e w5 ⟨rfl, b5⟩
    have B5 := Lib.hid (belStep B4.out b5)
    go_wp2
    go_ret
    exact ⟨by simp, BW.out _ B5.out⟩
  go_wp2_with fail
  refine (HF.out _ _).mono ?_
  rintro e w' ⟨rfl, rfl⟩
  cases hy : swB y
  · go_wp2_with fail
    refine (HS.out _ B4.out).mono ?_
    rintro e w5 ⟨rfl, b5⟩
    have B5 := Lib.hid (belStep B4.out b5)
    go_wp2
    go_ret
    exact ⟨by simp, BW.out _ B5.out⟩
  have hy1 := HSW.out hy
  rw [hx, hy] at HV
  have HVV : Hid (pv = leastF (fun k => (peerF l x k).1 == y)) := HV.out
  clear HV HI HS HO HF HSW hx hy
  go_wp2
  go_loopw [7] (fun n wr => ∃ k : Nat, 1 ≤ k ∧ k ≤ 4 ∧ n = .int .i64 k ∧ (∀ j : Nat, 1 ≤ j → j < k → ((peerF l x j).1 == y) = false) ∧ Below w1.heap.size w1 wr) (fun n _ => 4 - (intOf n).toNat)
  case atStart => exact ⟨1, by omega, by omega, rfl, fun j h1 h2 => by omega, B4.out⟩
  case round =>
    obtain ⟨k, hk1, hk4, rfl, hno, hbel⟩ := hrel
    have HNO := Lib.hid hno
    have HBL := Lib.hid hbel
    clear hno hbel
    by_cases hlt : k ≤ 3
    · have hkz : (k : Int) ≤ 3 := by omega
      have HPK := Lib.hid (HP.out (k : Int) wr HBL.out)
      rw [HPP.out] at HPK
      have HYES : Hid ((peerF l x k).1 = y → pv = (k : Int)) := fun e => by rw [HVV.out]; exact leastF_at hk1 hlt (by simp [e]) HNO.out
      have HNN : Hid ((peerF l x k).1 ≠ y → ∀ j : Nat, 1 ≤ j → j < k + 1 → ((peerF l x j).1 == y) = false) := fun e j h1 h2 => by
        by_cases hj : j = k
        · subst hj; simpa using e
        · exact HNO.out j h1 (by omega)
      clear HNO
      generalize (peerF l x k).1 = s at *
      generalize (peerF l x k).2 = t at *
      go_wp2_with fail
      refine HPK.out.mono ?_
      rintro e w5 ⟨rfl, b5⟩
      have HB1 := Lib.hid (belStep HBL.out b5)
      clear b5 HBL HPK
      by_cases hs : s = y
      · have HR := Lib.hid (HYES.out hs)
        have hs' : (s == y) = true := by simp [hs]
        have hs0 : decide (s > 0) = true := by simp; omega
        rw [HR.out] at *
        clear HYES HNN
        go_wp2
        go_ret
        exact ⟨by simp, BW.out _ HB1.out⟩
      · have HR := Lib.hid (HNN.out hs)
        have hs' : (s == y) = false := by simpa using hs
        clear HYES HNN
        cases hs0 : decide (s > 0)
        · go_wp2
          go_roundw
          case rel => exact ⟨k + 1, by omega, by omega, by go_num, HR.out, HB1.out⟩
          case measure => simp [intOf]; omega
        · go_wp2
          go_roundw
          case rel => exact ⟨k + 1, by omega, by omega, by go_num, HR.out, HB1.out⟩
          case measure => simp [intOf]; omega
    · have hkz : ¬ ((k : Int) ≤ 3) := by omega
      have hv0 : pv = 0 := by rw [HVV.out]; exact leastF_no fun j h1 h2 => HNO.out j h1 (by omega)
      subst hv0
      go_wp2
      go_ret
      exact ⟨rfl, BW.out _ HBL.out⟩

set_option maxRecDepth 100000 in
theorem lifted_FnPort (os : Os) (started : os.Started) (H : Type) (enc : TypeId × Value → H) :
    ReturnsInHanded {} Try.checked os 9 .any (Rows.fnPortSpec.pre6 enc Try.prog Try.f9 Rows.fnPortRow.domain false) (Rows.fnPortSpec.post enc Try.prog Try.f9 false true false false) := by
  refine returnsInHanded_of_change (C := Try.checked) own started (by kernel_rfl) Try.func9
    (ChangeSpec.witness6 (enc := enc) (C := Try.checked) false ⟨#[], #[.slice none 0 0], []⟩ 8 (by kernel_rfl) (by kernel_rfl) (by kernel_rfl) (by kernel_rfl)) ?_
  intro W base args ds gs before hval0 hW hcnd _
  have hval : ∀ (j : Nat) t v, Try.f9.params[j]? = some t → args[j]? = some v → Value.okWide Try.prog W .any base t v := hval0
  have hW' := hW
  obtain ⟨p, q, hA0, hV, rfl, hfz, hnd⟩ := hW
  have hA : DataW.TrodAll enc Try.prog W 0 (fun _ => true) true Try.f9.params.toList args.toList ds p := hA0
  rw [Try.params9] at hA hval
  obtain ⟨v0, vs0, d0, ds0, p0, q0, hargs, rfl, rfl, h0, r0⟩ := trodAll_cons hA
  obtain ⟨rfl, rfl, rfl⟩ := trodAll_nil r0
  obtain rfl : args = #[v0] := by cases args; simp_all
  obtain ⟨rfl, rfl⟩ := trodVars_none hV
  have k0 := h0
  have lt0 : ∀ x ∈ p0, x.block < W.heap.size := by obtain ⟨m, hm⟩ := k0; exact DataW.trod_lt m _ _ _ hm
  obtain ⟨a0, len0, cap0, rfl⟩ := okWide_slice Try.underlying22 (hval 0 22 v0 rfl rfl)
  have w0 : BytesIn W W.heap.size a0 len0 cap0 := isRow_of h0
  clear hA0 hval0
  refine (walk_FnPort a0 len0 cap0 W w0).mono fun e W' ⟨he, bel⟩ => ?_
  subst he
  exact ⟨_, rfl, _, _, _, [], _, [], hW', trodAll_mk1 (shut_bool Try.underlying4 _), (trodAll_cons_mk (Below.trod laidOut (by kernel_rfl) (of_decide_eq_true (by kernel_rfl)) k0 bel lt0) (trodAll_mk0)), rfl, bel.frame _, fun h => by cases h⟩

theorem over_FnPort : Rows.fnPortRow.holds Try.pinned (OpenSpec.ofChange Rows.fnPortSpec) :=
  OpenClaim.holds_of_wide 9 Try.f9 rfl rfl rfl rfl rfl rfl rfl ⟨rfl, rfl, rfl, rfl, rfl⟩ rfl rfl rfl rfl rfl (by kernel_rfl) Try.func9 (by kernel_rfl)
    (of_decide_eq_true (by kernel_rfl)) (by unfold Func.isWrapper; first | (rw [if_pos (by decide +kernel)]; kernel_rfl) | (rw [if_neg (by decide +kernel)]; exact ⟨rfl, rfl⟩))
    (fun os started H enc _ => lifted_FnPort os started H enc)

theorem proved_FnPort : Rows.FnPortSaid := over_FnPort

end Go.Proofs.Ytcbhdbbdoalbjaa
