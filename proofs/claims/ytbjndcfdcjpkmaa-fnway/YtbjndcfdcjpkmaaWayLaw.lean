/-
  Proved: FnWay is true at every input.
-/
import Derived.Test.YtbjndcfdcjpkmaaOwnB
import Derived.Test.YtbjndcfdcjpkmaaWayF
import Derived.Test.YtbjndcfdcjpkmaaNetWayJ
namespace Go.Proofs.Ytbjndcfdcjpkmaa
open Go.ChangeShapes Go.WideShapes Go.ChangeAt Go.RowKit Go.Joins
set_option linter.unusedVariables false

set_option maxRecDepth 100000 in
set_option maxHeartbeats 8000000 in
theorem walk_FnWay (a : Option Addr) (len cap : Nat) (w : World) (hb : BytesIn w w.heap.size a len cap) :
    Calls Try.prog 5 #[.slice a len cap] w fun e w' => e = .returned (.bool true) ∧ Below w.heap.size w w' := by
  have HB := Lib.hid hb
  have hm : (len : Int) ≤ maxLen := by have := hb.1; have := hb.2.1; omega
  unfold maxLen at hm
  clear hb
  by_cases hlen : (1048576 : Int) < (len : Int)
  · go_enter Try.func5, Try.ntmps5
    go_wp2
    go_ret
    exact ⟨rfl, Below.refl _ _⟩
  go_enter Try.func5, Try.ntmps5
  go_wp2_with fail
  refine (drawNetWay_any _ _ _ _ HB.out).mono ?_
  rintro e w1 ⟨v, l, x, y, rfl, hl, x0, x1, y0, y1, hrow, b1⟩
  have hn : l.length ≤ 1048576 := by omega
  have HL : Hid (∀ W, Below w1.heap.size w1 W → Lks W W.heap.size v l) := fun W hb => (hrow.lks.below hb (Nat.le_refl _)).mono hb.size
  have HI : Hid (∀ W, Below w1.heap.size w1 W → Calls Try.prog 25 #[v, .int .i64 x, .int .i64 y] W fun e w' => ∃ u, e = .returned u ∧ IntRow w' W.heap.size u (wayV l x y) ∧ Below W.heap.size W w') := fun W h => iNetWay_any W v l x y (HL.out W h)
  have HS : Hid (∀ W, Below w1.heap.size w1 W → Calls Try.prog 26 #[v, .int .i64 x, .int .i64 y] W fun e w' => ∃ u, e = .returned u ∧ IntRow w' W.heap.size u (wayV l x y) ∧ Below W.heap.size W w') := fun W h => sNetWay_any W v l x y (HL.out W h) hn
  have HFA : Hid (∀ W, Below w1.heap.size w1 W → Calls Try.prog 19 #[v, .int .i64 x, .int .i64 y] W fun e w' => e = .returned (.int .i64 (farV l x y)) ∧ Below W.heap.size W w') := fun W h => iNetFar_any W v l x y (HL.out W h)
  have HNX : Hid (∀ (s : Int) W, Below w1.heap.size w1 W → Calls Try.prog 28 #[v, .int .i64 s, .int .i64 y] W fun e w' => e = .returned (.int .i64 (nextV l s y)) ∧ Below W.heap.size W w') := fun s W h => iNetNext_any W v l s y (HL.out W h)
  have HO : Hid (∀ W, Below w1.heap.size w1 W → Calls Try.prog 21 #[v] W fun e w' => e = .returned (.bool (netB l)) ∧ Below W.heap.size W w') := fun W h => sNetOk_any W v l (HL.out W h) hn
  have HP : Hid (∀ (s k : Int) W, Below w1.heap.size w1 W → Calls Try.prog 27 #[v, .int .i64 s, .int .i64 k] W fun e w' => e = .returned (peerV l s k) ∧ Below W.heap.size W w') := fun s k W h => iNetPeer_any W v l s k (HL.out W h)
  have HF := Lib.hid (fun n W => lxFour_any n W)
  have BW : Hid (∀ W, Below w1.heap.size w1 W → Below w.heap.size w W) := fun W hb => belStep b1 hb
  have HX := Lib.hid (fun (n : Nat) (a : netB l = true) (b : swB x = true) (c : swB y = true) => way_law (l := l) (x := x) (y := y) (n := n) a b c)
  have HXN : Hid (netB l = true → swB x = true → swB y = true → farV l x y < 0 → wayV l x y = []) := fun a b c d => wayV_no a b c d
  obtain ⟨va, vn, vc, rfl⟩ : ∃ va vn vc, v = .slice va vn vc := by
    rcases hrow.form with ⟨rfl, -⟩ | ⟨_, _, rfl, -⟩ <;> exact ⟨_, _, _, rfl⟩
  clear hrow b1 HB HL
  go_wp2_with fail
  refine (HI.out _ (Below.refl _ _)).mono ?_
  rintro e w2 ⟨u, rfl, hu, b2⟩
  have HU := Lib.hid hu
  have B2 := Lib.hid b2
  clear b2 hu
  obtain ⟨ua, uc, rfl⟩ := HU.out.shape
  go_wp2_with fail
  refine (HS.out _ B2.out).mono ?_
  rintro e w3 ⟨u', rfl, hu', b3⟩
  have B23 := Lib.hid b3
  have B3 := Lib.hid (belStep B2.out b3)
  obtain ⟨ua', uc', rfl⟩ := hu'.shape
  clear b3 B2 hu'
  generalize hL : wayV l x y = L at *
  have HLL := Lib.hid hL
  clear hL
  generalize hN : L.length = N at *
  have HN := Lib.hid hN
  clear hN
  go_wp2_with fail
  refine (HO.out _ B3.out).mono ?_
  rintro e w4 ⟨rfl, b4⟩
  have B24 := Lib.hid (belStep B23.out b4)
  have B4 := Lib.hid (belStep B3.out b4)
  clear b4 B3 B23
  cases hnb : netB l
  · go_wp2
    go_ret
    exact ⟨by simp, BW.out _ B4.out⟩
  go_wp2_with fail
  refine (HF.out _ _).mono ?_
  rintro e w' ⟨rfl, rfl⟩
  cases hx : swB x
  · go_wp2
    go_ret
    exact ⟨by simp, BW.out _ B4.out⟩
  go_wp2_with fail
  refine (HF.out _ _).mono ?_
  rintro e w' ⟨rfl, rfl⟩
  cases hy : swB y
  · go_wp2
    go_ret
    exact ⟨by simp, BW.out _ B4.out⟩
  have HFX := Lib.hid (fun n => HX.out n hnb hx hy)
  have HFN := Lib.hid (HXN.out hnb hx hy)
  clear HX HXN HI HS HO HF hx hy
  generalize farV l x y = d at *
  go_wp2_with fail
  refine (HFA.out _ B4.out).mono ?_
  rintro e w5 ⟨rfl, b5⟩
  have B25 := Lib.hid (belStep B24.out b5)
  have B5 := Lib.hid (belStep B4.out b5)
  clear b5 B4 HFA B24
  by_cases hneg : d < 0
  · have hN0 : N = 0 := by rw [← HN.out, HFN.out hneg]; rfl
    subst hN0
    go_wp2
    go_ret
    exact ⟨by simp, BW.out _ B5.out⟩
  obtain ⟨n, rfl⟩ : ∃ n : Nat, d = (n : Int) := ⟨d.toNat, by omega⟩
  have hq := HFX.out n rfl
  obtain ⟨q1, q2, q3, q4, q5⟩ := hq
  have HST := Lib.hid q5
  have HNN := Lib.hid q1
  have hnneg : ¬ ((n : Int) < 0) := by omega
  obtain ⟨g, rfl, hg, hcell⟩ : ∃ g, ua = some ⟨g, 0, none⟩ ∧ g < w2.heap.size ∧ (∀ j, j < N → w2.cell? ⟨g, j, none⟩ = some (.int .i64 (inAt L j))) := by
    rcases HU.out.form with ⟨h, h'⟩ | ⟨g, cap', h, -, hg, -, -, hc, -⟩
    · have := HN.out
      rw [h'] at this
      simp at this
      omega
    · rw [HN.out] at hc h
      simp at h
      exact ⟨g, h.1, hg, hc⟩
  have HC : Hid (∀ W, Below w2.heap.size w2 W → ∀ j, j < N → W.cell? ⟨g, j, none⟩ = some (.int .i64 (inAt L j))) := fun W hb j hj => (belCell hb _ _ hg).trans (hcell j hj)
  have HG : Hid (∀ W, Below w2.heap.size w2 W → g < W.heap.size) := fun W hb => Nat.lt_of_lt_of_le hg hb.size
  have hq3 := Lib.hid q3
  have hq4 := Lib.hid q4
  clear q3 q4 q5 hcell HFX HFN HLL HN HU q1
  go_wp2_with fail
  go_loopw [9] (fun i wr => ∃ j : Nat, j ≤ n ∧ i = .int .i64 ((j : Int) + 1) ∧ Below w1.heap.size w1 wr ∧ Below w2.heap.size w2 wr) (fun i _ => (n + 2) - (intOf i).toNat)
  case atStart => exact ⟨0, by omega, rfl, B5.out, B25.out⟩
  case round =>
    obtain ⟨j, hj, rfl, hbel, hbel2⟩ := hrel
    have HBL := Lib.hid hbel
    have HB2 := Lib.hid hbel2
    clear hbel hbel2
    by_cases hlt : j < n
    · have hNI : (N : Int) = (n : Int) + 1 := by have := HNN.out; omega
      have h1 : (j : Int) + 1 < (N : Int) := by omega
      have h2 : (j : Int) < (N : Int) := by omega
      have h3 : j + 1 < N := by omega
      have h4 : j < N := by omega
      have hw1 : IntKind.i64.wrap ((j : Int) + 1 + 1) = (j : Int) + 1 + 1 := by rw [IntKind.wrap_i64]; omega
      have hw2 : IntKind.i64.wrap (j : Int) = (j : Int) := by rw [IntKind.wrap_i64]; omega
      have hz : (0 : Int) ≤ (j : Int) + 1 := by omega
      have hgl := HG.out _ HB2.out
      have c0 := HC.out _ HB2.out j (by omega)
      have c1 := HC.out _ HB2.out (j + 1) (by omega)
      have HPE := Lib.hid (HST.out j hlt)
      generalize inAt L (j + 1) = q at *
      generalize inAt L j = p at *
      generalize hzz : (peerF l p (nextV l p y)).2 = zz at *
      have HPX : Hid (∀ W, Below w1.heap.size w1 W → Calls Try.prog 27 #[.slice va vn vc, .int .i64 p, .int .i64 (nextV l p y)] W fun e w' => e = .returned (.tuple #[.int .i64 q, .int .i64 zz, .bool true]) ∧ Below W.heap.size W w') := fun W h => by
        rw [← HPE.out]
        exact HP.out _ _ _ h
      clear hNI hzz HPE
      go_wp2_with fail
      have k0 := fun m : Ext wr => m.cell hgl c0
      refine wp_region_ext (w0 := wr) (by kernel_rfl) (by kernel_rfl) (Below.refl _ _) ?_
      repeat (go_big_quiet_step (first | (go_at_call 28; exact ext_of (HNX.out _ _ (belStep HBL.out (Ext.h _)))) | (go_at_call 27; exact ext_of (HPX.out _ (belStep HBL.out (Ext.h _))))))
      refine wpQuiet_nil ?_
      intro w6 hx6
      have HB6 := Lib.hid (ext_out hx6)
      have c1' := (belCell HB6.out g (j + 1) hgl).trans c1
      have HBL6 := Lib.hid (belStep HBL.out HB6.out)
      have HB26 := Lib.hid (belStep HB2.out HB6.out)
      clear hx6 k0 c0 c1
      go_wp2
      go_roundw
      case rel => exact ⟨j + 1, by omega, by go_num, HBL6.out, HB26.out⟩
      case measure => simp [intOf]; omega
    · obtain rfl : j = n := by omega
      have hNI : (N : Int) = (j : Int) + 1 := by have := HNN.out; omega
      have h1 : ¬ (j : Int) + 1 < (N : Int) := by omega
      have h1' : decide ((j : Int) + 1 < (N : Int)) = false := by simp; omega
      have h3 : ((N : Int) == (j : Int) + 1) = true := by simp [hNI]
      have h4 : (j : Int) < (N : Int) := by omega
      have h4' : j < N := by omega
      have h5 : (0 : Int) < (N : Int) := by omega
      have h5' : 0 < N := by omega
      have hw1 : IntKind.i64.wrap ((j : Int) + 1) = (j : Int) + 1 := by rw [IntKind.wrap_i64]; omega
      have hgl := HG.out _ HB2.out
      have c0 := HC.out _ HB2.out 0 (by omega)
      have c1 := HC.out _ HB2.out j (by omega)
      rw [hq3.out] at c0
      rw [hq4.out] at c1
      clear hNI
      go_wp2
      go_ret
      exact ⟨by first | rfl | (simp; done) | (simp; omega), BW.out _ HBL.out⟩

set_option maxRecDepth 100000 in
theorem lifted_FnWay (os : Os) (started : os.Started) (H : Type) (enc : TypeId × Value → H) :
    ReturnsInHanded {} Try.checked os 5 .any (Rows.fnWaySpec.pre6 enc Try.prog Try.f5 Rows.fnWayRow.domain false) (Rows.fnWaySpec.post enc Try.prog Try.f5 false true false false) := by
  refine returnsInHanded_of_change (C := Try.checked) own started (by kernel_rfl) Try.func5
    (ChangeSpec.witness6 (enc := enc) (C := Try.checked) false ⟨#[], #[.slice none 0 0], []⟩ 8 (by kernel_rfl) (by kernel_rfl) (by kernel_rfl) (by kernel_rfl)) ?_
  intro W base args ds gs before hval0 hW hcnd _
  have hval : ∀ (j : Nat) t v, Try.f5.params[j]? = some t → args[j]? = some v → Value.okWide Try.prog W .any base t v := hval0
  have hW' := hW
  obtain ⟨p, q, hA0, hV, rfl, hfz, hnd⟩ := hW
  have hA : DataW.TrodAll enc Try.prog W 0 (fun _ => true) true Try.f5.params.toList args.toList ds p := hA0
  rw [Try.params5] at hA hval
  obtain ⟨v0, vs0, d0, ds0, p0, q0, hargs, rfl, rfl, h0, r0⟩ := trodAll_cons hA
  obtain ⟨rfl, rfl, rfl⟩ := trodAll_nil r0
  obtain rfl : args = #[v0] := by cases args; simp_all
  obtain ⟨rfl, rfl⟩ := trodVars_none hV
  have k0 := h0
  have lt0 : ∀ x ∈ p0, x.block < W.heap.size := by obtain ⟨m, hm⟩ := k0; exact DataW.trod_lt m _ _ _ hm
  obtain ⟨a0, len0, cap0, rfl⟩ := okWide_slice Try.underlying31 (hval 0 31 v0 rfl rfl)
  have w0 : BytesIn W W.heap.size a0 len0 cap0 := isRow_of h0
  clear hA0 hval0
  refine (walk_FnWay a0 len0 cap0 W w0).mono fun e W' ⟨he, bel⟩ => ?_
  subst he
  exact ⟨_, rfl, _, _, _, [], _, [], hW', trodAll_mk1 (shut_bool Try.underlying4 _), (trodAll_cons_mk (Below.trod laidOut (by kernel_rfl) (of_decide_eq_true (by kernel_rfl)) k0 bel lt0) (trodAll_mk0)), rfl, bel.frame _, fun h => by cases h⟩

theorem over_FnWay : Rows.fnWayRow.holds Try.pinned (OpenSpec.ofChange Rows.fnWaySpec) :=
  OpenClaim.holds_of_wide 5 Try.f5 rfl rfl rfl rfl rfl rfl rfl ⟨rfl, rfl, rfl, rfl, rfl⟩ rfl rfl rfl rfl rfl (by kernel_rfl) Try.func5 (by kernel_rfl)
    (of_decide_eq_true (by kernel_rfl)) (by unfold Func.isWrapper; first | (rw [if_pos (by decide +kernel)]; kernel_rfl) | (rw [if_neg (by decide +kernel)]; exact ⟨rfl, rfl⟩))
    (fun os started H enc _ => lifted_FnWay os started H enc)

theorem proved_FnWay : Rows.FnWaySaid := over_FnWay

end Go.Proofs.Ytbjndcfdcjpkmaa
