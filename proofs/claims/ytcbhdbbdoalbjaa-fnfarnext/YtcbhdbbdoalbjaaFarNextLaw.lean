/-
  Proved: FnFarNext is true at every input.
-/
import Derived.Test.YtcbhdbbdoalbjaaOwnB
import Derived.Test.YtcbhdbbdoalbjaaNetTwo
import Derived.Test.YtcbhdbbdoalbjaaNetNextJ
import Derived.Test.YtcbhdbbdoalbjaaNetWayI
namespace Go.Proofs.Ytcbhdbbdoalbjaa
open Go.ChangeShapes Go.WideShapes Go.ChangeAt Go.RowKit Go.Joins
set_option linter.unusedVariables false

theorem leastF_spec (f : Nat → Bool) : (leastF f = 0 ∧ ∀ j, 1 ≤ j → j ≤ 3 → f j = false) ∨ ∃ k : Nat, 1 ≤ k ∧ k ≤ 3 ∧ leastF f = (k : Int) ∧ f k = true ∧ ∀ j, 1 ≤ j → j < k → f j = false := by
  cases h1 : f 1
  · cases h2 : f 2
    · cases h3 : f 3
      · refine .inl ⟨by simp [leastF, h1, h2, h3], fun j a b => ?_⟩
        have : j = 1 ∨ j = 2 ∨ j = 3 := by omega
        rcases this with rfl | rfl | rfl <;> assumption
      · refine .inr ⟨3, by omega, by omega, by simp [leastF, h1, h2, h3], h3, fun j a b => ?_⟩
        have : j = 1 ∨ j = 2 := by omega
        rcases this with rfl | rfl <;> assumption
    · refine .inr ⟨2, by omega, by omega, by simp [leastF, h1, h2], h2, fun j a b => ?_⟩
      obtain rfl : j = 1 := by omega
      exact h1
  · exact .inr ⟨1, by omega, by omega, by simp [leastF, h1], h1, fun j a b => by omega⟩
theorem swB_parts {x : Int} (h : swB x = true) : 1 ≤ x ∧ x ≤ 4 := by
  unfold swB inB at h; simp at h; exact h
theorem swB_of {x : Int} (h1 : 1 ≤ x) (h4 : x ≤ 4) : swB x = true := by
  unfold swB inB; simp [h1, h4]
theorem farV_of {l : List K4} {x y : Int} (hn : netB l = true) (hx : swB x = true) (hy : swB y = true) : farV l x y = farS l y.toNat x.toNat := by
  obtain ⟨x1, x4⟩ := swB_parts hx
  obtain ⟨y1, y4⟩ := swB_parts hy
  unfold farV
  rw [hn, hx, hy]
  exact farS_symm (net_ok hn) (by omega) (by omega) (by omega) (by omega)
/-- What FnFarNext asks, of the plain functions. -/
theorem farNext_ok {l : List K4} {x y : Int} (hn : netB l = true) (hx : swB x = true) (hy : swB y = true) :
    0 ≤ nextV l x y ∧ nextV l x y ≤ 3 ∧ farV l x y ≤ 3 ∧ (nextV l x y = 0 → farV l x y ≤ 0) ∧ (nextV l x y ≠ 0 → 0 < farV l x y) ∧
      ∀ k : Nat, 1 ≤ k → (k : Int) ≤ nextV l x y → ((peerF l x k).1 > 0 → (farV l (peerF l x k).1 y = farV l x y - 1 ↔ (k : Int) = nextV l x y)) ∧ (¬ (peerF l x k).1 > 0 → (k : Int) ≠ nextV l x y) := by
  obtain ⟨x1, x4⟩ := swB_parts hx
  obtain ⟨y1, y4⟩ := swB_parts hy
  have hd := farV_of hn hx hy
  have hv : nextV l x y = leastF (nearB l x.toNat y.toNat) := by unfold nextV; rw [hn, hx, hy]; rfl
  have hxs : ((x.toNat : Nat) : Int) = x := by omega
  rw [hv, hd]
  have hd3 := (far_range hn (t := y.toNat) (v := x.toNat) (by omega) (by omega) (by omega) (by omega)).2
  rcases leastF_spec (nearB l x.toNat y.toNat) with ⟨h0, hno⟩ | ⟨m, m1, m3, hm, hf, hno⟩
  · rw [h0]
    refine ⟨by omega, by omega, hd3, fun _ => ?_, fun h => absurd rfl h, fun k k1 k2 => by omega⟩
    rcases Int.lt_or_le 0 (farS l y.toNat x.toNat) with hp | hp
    · obtain ⟨n, hn'⟩ : ∃ n : Nat, farS l y.toNat x.toNat = (n : Int) + 1 := ⟨(farS l y.toNat x.toNat).toNat - 1, by omega⟩
      obtain ⟨k, u, k1, k3, hk, -⟩ := step_ok hn (s := x.toNat) (t := y.toNat) (by omega) (by omega) (by omega) (by omega) hn'
      unfold nextF at hk
      omega
    · exact hp
  · rw [hm]
    have hp : 0 < farS l y.toNat x.toNat := by
      unfold nearB at hf
      simp at hf
      exact hf.2.1
    refine ⟨by omega, by omega, hd3, fun h => by omega, fun _ => hp, fun k k1 k2 => ?_⟩
    have hk : nearB l x.toNat y.toNat k = decide (k = m) := by
      by_cases e : k = m
      · subst e; simp [hf]
      · rw [hno k k1 (by omega)]; simp [e]
    unfold nearB at hk
    rw [hxs] at hk
    refine ⟨fun hz => ?_, fun hz e => ?_⟩
    · have hz4 : swB (peerF l x k).1 = true := by
        rcases peer_ok hn x k with h0 | ⟨-, -, ⟨h1, h4⟩, -⟩
        · rw [h0] at hz; simp at hz
        · exact swB_of h1 h4
      rw [farV_of hn hz4 hy]
      rw [show decide ((peerF l x k).1 > 0) = true from by simp; omega, show decide (farS l y.toNat x.toNat > 0) = true from by simp; omega] at hk
      simp only [Bool.true_and] at hk
      constructor
      · intro e
        rw [e] at hk
        simp at hk
        omega
      · intro e
        have : k = m := by omega
        rw [decide_eq_true this] at hk
        exact eq_of_beq hk
    · have : k = m := by omega
      rw [decide_eq_true this, show decide ((peerF l x k).1 > 0) = false from by simp; omega] at hk
      cases hk

set_option maxRecDepth 100000 in
set_option maxHeartbeats 8000000 in
theorem walk_FnFarNext (a : Option Addr) (len cap : Nat) (w : World) (hb : BytesIn w w.heap.size a len cap) :
    Calls Try.prog 5 #[.slice a len cap] w fun e w' => e = .returned (.bool true) ∧ Below w.heap.size w w' := by
  have HB := Lib.hid hb
  have hm : (len : Int) ≤ maxLen := by have := hb.1; have := hb.2.1; omega
  unfold maxLen at hm
  clear hb
  by_cases hlen : (1048576 : Int) < (len : Int)
  · go_enter Try.func5, Try.ntmps5
    go_wp2
    go_ret
    exact ⟨rfl, Below.refl _ _⟩
  go_enter Try.func5, Try.ntmps5
  go_wp2_with fail
  refine (drawNetNext_any _ _ _ _ HB.out).mono ?_
  rintro e w1 ⟨v, l, x, y, rfl, hl, x0, x1, y0, y1, hrow, b1⟩
  have hn : l.length ≤ 1048576 := by omega
  have HL : Hid (∀ W, Below w1.heap.size w1 W → Lks W W.heap.size v l) := fun W hb => (hrow.lks.below hb (Nat.le_refl _)).mono hb.size
  have HI : Hid (∀ W, Below w1.heap.size w1 W → Calls Try.prog 29 #[v, .int .i64 x, .int .i64 y] W fun e w' => e = .returned (.int .i64 (nextV l x y)) ∧ Below W.heap.size W w') := fun W h => iNetNext_any W v l x y (HL.out W h)
  have HS : Hid (∀ W, Below w1.heap.size w1 W → Calls Try.prog 30 #[v, .int .i64 x, .int .i64 y] W fun e w' => e = .returned (.int .i64 (nextV l x y)) ∧ Below W.heap.size W w') := fun W h => sNetNext_any W v l x y (HL.out W h) hn
  have HFA : Hid (∀ z W, Below w1.heap.size w1 W → Calls Try.prog 24 #[v, .int .i64 z, .int .i64 y] W fun e w' => e = .returned (.int .i64 (farV l z y)) ∧ Below W.heap.size W w') := fun z W h => iNetFar_any W v l z y (HL.out W h)
  have HO : Hid (∀ W, Below w1.heap.size w1 W → Calls Try.prog 22 #[v] W fun e w' => e = .returned (.bool (netB l)) ∧ Below W.heap.size W w') := fun W h => sNetOk_any W v l (HL.out W h) hn
  have HP : Hid (∀ (k : Int) W, Below w1.heap.size w1 W → Calls Try.prog 21 #[v, .int .i64 x, .int .i64 k] W fun e w' => e = .returned (peerV l x k) ∧ Below W.heap.size W w') := fun k W h => iNetPeer_any W v l x k (HL.out W h)
  have HF := Lib.hid (fun n W => lxFour_any n W)
  have BW : Hid (∀ W, Below w1.heap.size w1 W → Below w.heap.size w W) := fun W hb => belStep b1 hb
  have HPV : Hid (netB l = true → ∀ k : Int, peerV l x k = .tuple #[.int .i64 (peerF l x k).1, .int .i64 (peerF l x k).2, .bool (decide ((peerF l x k).1 > 0))]) := fun e k => by unfold peerV; rw [e]; rfl
  have HX : Hid (netB l = true → swB x = true → swB y = true → _) := fun a b c => farNext_ok (l := l) (x := x) (y := y) a b c
  obtain ⟨va, vn, vc, rfl⟩ : ∃ va vn vc, v = .slice va vn vc := by
    rcases hrow.form with ⟨rfl, -⟩ | ⟨_, _, rfl, -⟩ <;> exact ⟨_, _, _, rfl⟩
  clear hrow b1 HB HL
  have hh : w1.heap.size ≤ w1.heap.size := Nat.le_refl _
  generalize hpv : nextV l x y = pv at *
  go_wp2_with fail
  refine (HI.out _ (Below.refl _ _)).mono ?_
  rintro e w2 ⟨rfl, b2⟩
  have B2 := Lib.hid b2
  clear b2
  go_wp2_with fail
  refine (HS.out _ B2.out).mono ?_
  rintro e w3 ⟨rfl, b3⟩
  have B3 := Lib.hid (belStep B2.out b3)
  clear b3 B2
  go_wp2_with fail
  refine (HO.out _ B3.out).mono ?_
  rintro e w4 ⟨rfl, b4⟩
  have B4 := Lib.hid (belStep B3.out b4)
  clear b4 B3
  cases hnb : netB l
  · go_wp2_with fail
    refine (HS.out _ B4.out).mono ?_
    rintro e w5 ⟨rfl, b5⟩
    have B5 := Lib.hid (belStep B4.out b5)
    go_wp2
    go_ret
    exact ⟨by simp, BW.out _ B5.out⟩
  have HPP := Lib.hid (HPV.out hnb)
  clear HPV
  go_wp2_with fail
  refine (HF.out _ _).mono ?_
  rintro e w' ⟨rfl, rfl⟩
  cases hx : swB x
  · go_wp2_with fail
    refine (HS.out _ B4.out).mono ?_
    rintro e w5 ⟨rfl, b5⟩
    have B5 := Lib.hid (belStep B4.out b5)
    go_wp2
    go_ret
    exact ⟨by simp, BW.out _ B5.out⟩
  go_wp2_with fail
  refine (HF.out _ _).mono ?_
  rintro e w' ⟨rfl, rfl⟩
  cases hy : swB y
  · go_wp2_with fail
    refine (HS.out _ B4.out).mono ?_
    rintro e w5 ⟨rfl, b5⟩
    have B5 := Lib.hid (belStep B4.out b5)
    go_wp2
    go_ret
    exact ⟨by simp, BW.out _ B5.out⟩
  obtain ⟨p0, p3, hd3, hz, hnz, hall⟩ := HX.out hnb hx hy
  have HALL := Lib.hid hall
  clear hall HX HI HS HO HF hpv hx hy
  have HFX := Lib.hid (fun W h => HFA.out x W h)
  generalize farV l x y = d at *
  go_wp2_with fail
  refine (HFX.out _ B4.out).mono ?_
  rintro e w5 ⟨rfl, b5⟩
  have B5 := Lib.hid (belStep B4.out b5)
  clear b5 B4 HFX
  by_cases hp0 : pv = 0
  · have hd := hz hp0
    subst hp0
    go_wp2
    go_ret
    exact ⟨by first | rfl | (simp; done) | (simp; omega), BW.out _ B5.out⟩
  have hd := hnz hp0
  have hp0' : (pv == 0) = false := by simpa using hp0
  clear hz hnz
  go_wp2
  go_loopw [8] (fun n wr => ∃ k : Nat, 1 ≤ k ∧ (k : Int) ≤ pv + 1 ∧ n = .int .i64 k ∧ Below w1.heap.size w1 wr) (fun n _ => 5 - (intOf n).toNat)
  case atStart => exact ⟨1, by omega, by omega, rfl, B5.out⟩
  case round =>
    obtain ⟨k, hk1, hk4, rfl, hbel⟩ := hrel
    have HBL := Lib.hid hbel
    clear hbel
    by_cases hlt : (k : Int) ≤ pv
    · have HPK := Lib.hid (HP.out (k : Int) wr HBL.out)
      rw [HPP.out] at HPK
      obtain ⟨hyes, hno⟩ := HALL.out k hk1 hlt
      have HFZ := Lib.hid (fun W h => HFA.out (peerF l x k).1 W h)
      generalize (peerF l x k).1 = s at *
      generalize (peerF l x k).2 = t at *
      generalize farV l s y = fz at *
      go_wp2_with fail
      refine HPK.out.mono ?_
      rintro e w6 ⟨rfl, b6⟩
      have B6 := Lib.hid (belStep HBL.out b6)
      clear b6 HBL HPK
      by_cases hs : s > 0
      · have hs0 : decide (s > 0) = true := by simp; omega
        have hiff := hyes hs
        go_wp2_with fail
        refine (HFZ.out _ B6.out).mono ?_
        rintro e w7 ⟨rfl, b7⟩
        have B7 := Lib.hid (belStep B6.out b7)
        clear b7 B6
        by_cases hkp : (k : Int) = pv
        · have hf := hiff.2 hkp
          have hf' : (fz == d - 1) = true := by simp [hf]
          have hk' : ((k : Int) == pv) = true := by simp [hkp]
          go_wp2
          go_roundw
          case rel => exact ⟨k + 1, by omega, by omega, by go_num, B7.out⟩
          case measure => simp [intOf]; omega
        · have hf : ¬ fz = d - 1 := fun e => hkp (hiff.1 e)
          have hf' : (fz == d - 1) = false := by simpa using hf
          have hk' : ((k : Int) == pv) = false := by simpa using hkp
          go_wp2
          go_roundw
          case rel => exact ⟨k + 1, by omega, by omega, by go_num, B7.out⟩
          case measure => simp [intOf]; omega
      · have hs0 : decide (s > 0) = false := by simp; omega
        have hkp := hno (by omega)
        have hk' : ((k : Int) == pv) = false := by simpa using hkp
        go_wp2
        go_roundw
        case rel => exact ⟨k + 1, by omega, by omega, by go_num, B6.out⟩
        case measure => simp [intOf]; omega
    · have hl' : decide ((k : Int) ≤ pv) = false := by simpa using hlt
      go_wp2
      go_ret
      exact ⟨by first | rfl | (simp; done) | (simp; omega), BW.out _ HBL.out⟩

set_option maxRecDepth 100000 in
theorem lifted_FnFarNext (os : Os) (started : os.Started) (H : Type) (enc : TypeId × Value → H) :
    ReturnsInHanded {} Try.checked os 5 .any (Rows.fnFarNextSpec.pre6 enc Try.prog Try.f5 Rows.fnFarNextRow.domain false) (Rows.fnFarNextSpec.post enc Try.prog Try.f5 false true false false) := by
  refine returnsInHanded_of_change (C := Try.checked) own started (by kernel_rfl) Try.func5
    (ChangeSpec.witness6 (enc := enc) (C := Try.checked) false ⟨#[], #[.slice none 0 0], []⟩ 8 (by kernel_rfl) (by kernel_rfl) (by kernel_rfl) (by kernel_rfl)) ?_
  intro W base args ds gs before hval0 hW hcnd _
  have hval : ∀ (j : Nat) t v, Try.f5.params[j]? = some t → args[j]? = some v → Value.okWide Try.prog W .any base t v := hval0
  have hW' := hW
  obtain ⟨p, q, hA0, hV, rfl, hfz, hnd⟩ := hW
  have hA : DataW.TrodAll enc Try.prog W 0 (fun _ => true) true Try.f5.params.toList args.toList ds p := hA0
  rw [Try.params5] at hA hval
  obtain ⟨v0, vs0, d0, ds0, p0, q0, hargs, rfl, rfl, h0, r0⟩ := trodAll_cons hA
  obtain ⟨rfl, rfl, rfl⟩ := trodAll_nil r0
  obtain rfl : args = #[v0] := by cases args; simp_all
  obtain ⟨rfl, rfl⟩ := trodVars_none hV
  have k0 := h0
  have lt0 : ∀ x ∈ p0, x.block < W.heap.size := by obtain ⟨m, hm⟩ := k0; exact DataW.trod_lt m _ _ _ hm
  obtain ⟨a0, len0, cap0, rfl⟩ := okWide_slice Try.underlying22 (hval 0 22 v0 rfl rfl)
  have w0 : BytesIn W W.heap.size a0 len0 cap0 := isRow_of h0
  clear hA0 hval0
  refine (walk_FnFarNext a0 len0 cap0 W w0).mono fun e W' ⟨he, bel⟩ => ?_
  subst he
  exact ⟨_, rfl, _, _, _, [], _, [], hW', trodAll_mk1 (shut_bool Try.underlying4 _), (trodAll_cons_mk (Below.trod laidOut (by kernel_rfl) (of_decide_eq_true (by kernel_rfl)) k0 bel lt0) (trodAll_mk0)), rfl, bel.frame _, fun h => by cases h⟩

theorem over_FnFarNext : Rows.fnFarNextRow.holds Try.pinned (OpenSpec.ofChange Rows.fnFarNextSpec) :=
  OpenClaim.holds_of_wide 5 Try.f5 rfl rfl rfl rfl rfl rfl rfl ⟨rfl, rfl, rfl, rfl, rfl⟩ rfl rfl rfl rfl rfl (by kernel_rfl) Try.func5 (by kernel_rfl)
    (of_decide_eq_true (by kernel_rfl)) (by unfold Func.isWrapper; first | (rw [if_pos (by decide +kernel)]; kernel_rfl) | (rw [if_neg (by decide +kernel)]; exact ⟨rfl, rfl⟩))
    (fun os started H enc _ => lifted_FnFarNext os started H enc)

theorem proved_FnFarNext : Rows.FnFarNextSaid := over_FnFarNext

end Go.Proofs.Ytcbhdbbdoalbjaa
