/-
  Proved: FnFar is true at every input.
-/
import Derived.Test.YtbjndcfdcjpkmaaOwnB
import Derived.Test.YtbjndcfdcjpkmaaNetTwo
import Derived.Test.YtbjndcfdcjpkmaaFarLawF
namespace Go.Proofs.Ytbjndcfdcjpkmaa
open Go.ChangeShapes Go.WideShapes Go.ChangeAt Go.RowKit Go.Joins
set_option linter.unusedVariables false

set_option maxRecDepth 100000 in
set_option maxHeartbeats 8000000 in
theorem walk_FnFar (a : Option Addr) (len cap : Nat) (a' : Option Addr) (len' cap' : Nat) (w : World) (hb : BytesIn w w.heap.size a len cap) (hb' : BytesIn w w.heap.size a' len' cap') :
    Calls Try.prog 4 #[.slice a len cap, .slice a' len' cap'] w fun e w' => e = .returned (.bool true) ∧ Below w.heap.size w w' := by
  have HB := Lib.hid hb
  have hm : (len : Int) ≤ maxLen := by have := hb.1; have := hb.2.1; omega
  have hm' : (len' : Int) ≤ maxLen := by have := hb'.1; have := hb'.2.1; omega
  unfold maxLen at hm hm'
  clear hb hb'
  by_cases hlen : (1048576 : Int) < (len : Int)
  · go_enter Try.func4, Try.ntmps4
    go_wp2
    go_ret
    exact ⟨rfl, Below.refl _ _⟩
  have hl1 : decide ((1048576 : Int) < (len : Int)) = false := by simp; omega
  have hl1n : decide ((1048576 : Nat) < len) = false := by simp; omega
  by_cases hlen' : (1048576 : Int) < (len' : Int)
  · go_enter Try.func4, Try.ntmps4
    go_wp2
    go_ret
    exact ⟨rfl, Below.refl _ _⟩
  have hl2 : decide ((1048576 : Int) < (len' : Int)) = false := by simp; omega
  have hl2n : decide ((1048576 : Nat) < len') = false := by simp; omega
  go_enter Try.func4, Try.ntmps4
  go_wp2_with fail
  refine (drawNetFar_any _ _ _ _ HB.out).mono ?_
  rintro e w1 ⟨v, l, x, y, rfl, hl, x0, x1, y0, y1, hrow, b1⟩
  have hn : l.length ≤ 1048576 := by omega
  have HL : Hid (∀ W, Below w1.heap.size w1 W → Lks W W.heap.size v l) := fun W hb => (hrow.lks.below hb (Nat.le_refl _)).mono hb.size
  have HFA : Hid (∀ p q W, Below w1.heap.size w1 W → Calls Try.prog 19 #[v, .int .i64 p, .int .i64 q] W fun e w' => e = .returned (.int .i64 (farV l p q)) ∧ Below W.heap.size W w') := fun p q W h => iNetFar_any W v l p q (HL.out W h)
  have HI : Hid (∀ W, Below w1.heap.size w1 W → Calls Try.prog 19 #[v, .int .i64 x, .int .i64 y] W fun e w' => e = .returned (.int .i64 (farV l x y)) ∧ Below W.heap.size W w') := fun W h => iNetFar_any W v l x y (HL.out W h)
  have HS : Hid (∀ W, Below w1.heap.size w1 W → Calls Try.prog 20 #[v, .int .i64 x, .int .i64 y] W fun e w' => e = .returned (.int .i64 (farV l x y)) ∧ Below W.heap.size W w') := fun W h => sNetFar_any W v l x y (HL.out W h) hn
  have HPT : Hid (∀ W, Below w1.heap.size w1 W → Calls Try.prog 23 #[v, .int .i64 x, .int .i64 y] W fun e w' => e = .returned (.int .i64 (portV l x y)) ∧ Below W.heap.size W w') := fun W h => iNetPort_any W v l x y (HL.out W h)
  have HO : Hid (∀ W, Below w1.heap.size w1 W → Calls Try.prog 21 #[v] W fun e w' => e = .returned (.bool (netB l)) ∧ Below W.heap.size W w') := fun W h => sNetOk_any W v l (HL.out W h) hn
  have HF := Lib.hid (fun n W => lxFour_any n W)
  have BW : Hid (∀ W, Below w1.heap.size w1 W → Below w.heap.size w W) := fun W hb => belStep b1 hb
  obtain ⟨z, hzd⟩ : ∃ z, z = 1 + (len' : Int) % 4 := ⟨_, rfl⟩
  have HZ : Hid (swB z = true) := swB_of (by omega) (by omega)
  have HX : Hid (netB l = true → swB x = true → swB y = true → _) := fun a b c => far_law (l := l) (x := x) (y := y) a b c HZ.out
  obtain ⟨va, vn, vc, rfl⟩ : ∃ va vn vc, v = .slice va vn vc := by
    rcases hrow.form with ⟨rfl, -⟩ | ⟨_, _, rfl, -⟩ <;> exact ⟨_, _, _, rfl⟩
  clear hrow b1 HB HL
  have hh : w1.heap.size ≤ w1.heap.size := Nat.le_refl _
  go_wp2_with fail
  refine (HI.out _ (Below.refl _ _)).mono ?_
  rintro e w2 ⟨rfl, b2⟩
  have B2 := Lib.hid b2
  clear b2
  go_wp2_with fail
  refine (HS.out _ B2.out).mono ?_
  rintro e w3 ⟨rfl, b3⟩
  have B3 := Lib.hid (belStep B2.out b3)
  clear b3 B2
  go_wp2_with fail
  refine (HO.out _ B3.out).mono ?_
  rintro e w4 ⟨rfl, b4⟩
  have B4 := Lib.hid (belStep B3.out b4)
  clear b4 B3
  cases hnb : netB l
  · go_wp2_with fail
    refine (HS.out _ B4.out).mono ?_
    rintro e w5 ⟨rfl, b5⟩
    have B5 := Lib.hid (belStep B4.out b5)
    go_wp2
    go_ret
    exact ⟨by simp, BW.out _ B5.out⟩
  go_wp2_with fail
  refine (HF.out _ _).mono ?_
  rintro e w' ⟨rfl, rfl⟩
  cases hx : swB x
  · go_wp2_with fail
    refine (HS.out _ B4.out).mono ?_
    rintro e w5 ⟨rfl, b5⟩
    have B5 := Lib.hid (belStep B4.out b5)
    go_wp2
    go_ret
    exact ⟨by simp, BW.out _ B5.out⟩
  go_wp2_with fail
  refine (HF.out _ _).mono ?_
  rintro e w' ⟨rfl, rfl⟩
  cases hy : swB y
  · go_wp2_with fail
    refine (HS.out _ B4.out).mono ?_
    rintro e w5 ⟨rfl, b5⟩
    have B5 := Lib.hid (belStep B4.out b5)
    go_wp2
    go_ret
    exact ⟨by simp, BW.out _ B5.out⟩
  obtain ⟨h1, h2, h3, h4, h5⟩ := HX.out hnb hx hy
  have HYX := Lib.hid (fun W h => HFA.out y x W h)
  have HXZ := Lib.hid (fun W h => HFA.out x z W h)
  have HZY := Lib.hid (fun W h => HFA.out z y W h)
  rw [h1] at HYX
  obtain ⟨dr, -⟩ := farV_range hnb hx hy
  obtain ⟨a1, a2⟩ := farV_range hnb hx HZ.out
  obtain ⟨b1, b2⟩ := farV_range hnb HZ.out hy
  clear HX HI HS HO HF HFA hx hy HZ h1
  generalize farV l x y = d at *
  generalize farV l x z = A at *
  generalize farV l z y = B at *
  generalize portV l x y = P at *
  go_wp2_with fail
  rw [← hzd]
  clear hzd
  refine (HXZ.out _ B4.out).mono ?_
  rintro e w5 ⟨rfl, b5⟩
  have B5 := Lib.hid (belStep B4.out b5)
  clear b5 B4 HXZ
  go_wp2_with fail
  refine (HZY.out _ B5.out).mono ?_
  rintro e w6 ⟨rfl, b6⟩
  have B6 := Lib.hid (belStep B5.out b6)
  clear b6 B5 HZY
  go_wp2_with fail
  refine (HYX.out _ B6.out).mono ?_
  rintro e w7 ⟨rfl, b7⟩
  have B7 := Lib.hid (belStep B6.out b7)
  clear b7 B6 HYX
  have hE0 : (d == 0) = (x == y) := by
    by_cases h : x = y
    · rw [h2.2 h, h]; simp
    · have h' : ¬ d = 0 := fun e => h (h2.1 e)
      rw [show (x == y) = false from by simpa using h]
      simpa using h'
  have hE1 : (d == 1) = decide (P > 0) := by
    by_cases h : P > 0
    · rw [h3.2 h]; simp; omega
    · have h' : ¬ d = 1 := fun e => h (h3.1 e)
      rw [show decide (P > 0) = false from by simp; omega]
      simpa using h'
  have hE4 : decide (d < 4) = true := by simp; omega
  have hAB : Hid (A < 0 ∨ B < 0 ∨ (0 ≤ d ∧ d ≤ A + B)) := h4
  have hw : IntKind.i64.wrap (A + B) = A + B := by rw [IntKind.wrap_i64]; omega
  clear h2 h3 h4 h5 dr a1 a2 b1 b2 x0 x1 y0 y1 hl hn hm hm' hh
  generalize hxy : (x == y) = e0 at *
  generalize hPP : decide (P > 0) = e1 at *
  have hE1' : decide (0 < P) = e1 := hPP
  go_wp2_with fail
  refine (HPT.out _ B7.out).mono ?_
  rintro e w8 ⟨rfl, b8⟩
  have B8 := Lib.hid (belStep B7.out b8)
  clear b8 B7 HPT
  by_cases hA : A < 0
  · clear hAB
    go_wp2
    go_ret
    exact ⟨by first | rfl | (simp; done) | (simp; omega), BW.out _ B8.out⟩
  have hA' : decide (A < 0) = false := by simp; omega
  by_cases hB : B < 0
  · clear hAB
    go_wp2
    go_ret
    exact ⟨by first | rfl | (simp; done) | (simp; omega), BW.out _ B8.out⟩
  have hB' : decide (B < 0) = false := by simp; omega
  obtain ⟨hd0, hd1⟩ : 0 ≤ d ∧ d ≤ A + B := by have := hAB.out; omega
  clear hAB
  go_wp2
  go_ret
  exact ⟨by first | rfl | (simp; done) | (simp; omega), BW.out _ B8.out⟩

set_option maxRecDepth 100000 in
theorem lifted_FnFar (os : Os) (started : os.Started) (H : Type) (enc : TypeId × Value → H) :
    ReturnsInHanded {} Try.checked os 4 .any (Rows.fnFarSpec.pre6 enc Try.prog Try.f4 Rows.fnFarRow.domain false) (Rows.fnFarSpec.post enc Try.prog Try.f4 false true false false) := by
  refine returnsInHanded_of_change (C := Try.checked) own started (by kernel_rfl) Try.func4
    (ChangeSpec.witness6 (enc := enc) (C := Try.checked) false ⟨#[], #[.slice none 0 0, .slice none 0 0], []⟩ 8 (by kernel_rfl) (by kernel_rfl) (by kernel_rfl) (by kernel_rfl)) ?_
  intro W base args ds gs before hval0 hW hcnd _
  have hval : ∀ (j : Nat) t v, Try.f4.params[j]? = some t → args[j]? = some v → Value.okWide Try.prog W .any base t v := hval0
  have hW' := hW
  obtain ⟨p, q, hA0, hV, rfl, hfz, hnd⟩ := hW
  have hA : DataW.TrodAll enc Try.prog W 0 (fun _ => true) true Try.f4.params.toList args.toList ds p := hA0
  rw [Try.params4] at hA hval
  obtain ⟨v0, vs0, d0, ds0, p0, q0, hargs, rfl, rfl, h0, r0⟩ := trodAll_cons hA
  obtain ⟨v1, vs1, d1, ds1, p1, q1, rfl, rfl, rfl, h1, r1⟩ := trodAll_cons r0
  obtain ⟨rfl, rfl, rfl⟩ := trodAll_nil r1
  obtain rfl : args = #[v0, v1] := by cases args; simp_all
  obtain ⟨rfl, rfl⟩ := trodVars_none hV
  have k0 := h0
  have lt0 : ∀ x ∈ p0, x.block < W.heap.size := by obtain ⟨m, hm⟩ := k0; exact DataW.trod_lt m _ _ _ hm
  have k1 := h1
  have lt1 : ∀ x ∈ p1, x.block < W.heap.size := by obtain ⟨m, hm⟩ := k1; exact DataW.trod_lt m _ _ _ hm
  obtain ⟨a0, len0, cap0, rfl⟩ := okWide_slice Try.underlying31 (hval 0 31 v0 rfl rfl)
  have w0 : BytesIn W W.heap.size a0 len0 cap0 := isRow_of h0
  obtain ⟨a1, len1, cap1, rfl⟩ := okWide_slice Try.underlying31 (hval 1 31 v1 rfl rfl)
  have w1 : BytesIn W W.heap.size a1 len1 cap1 := isRow_of h1
  clear hA0 hval0
  refine (walk_FnFar a0 len0 cap0 a1 len1 cap1 W w0 w1).mono fun e W' ⟨he, bel⟩ => ?_
  subst he
  exact ⟨_, rfl, _, _, _, [], _, [], hW', trodAll_mk1 (shut_bool Try.underlying4 _), (trodAll_cons_mk (Below.trod laidOut (by kernel_rfl) (of_decide_eq_true (by kernel_rfl)) k0 bel lt0) (trodAll_cons_mk (Below.trod laidOut (by kernel_rfl) (of_decide_eq_true (by kernel_rfl)) k1 bel lt1) (trodAll_mk0))), rfl, bel.frame _, fun h => by cases h⟩

theorem over_FnFar : Rows.fnFarRow.holds Try.pinned (OpenSpec.ofChange Rows.fnFarSpec) :=
  OpenClaim.holds_of_wide 4 Try.f4 rfl rfl rfl rfl rfl rfl rfl ⟨rfl, rfl, rfl, rfl, rfl⟩ rfl rfl rfl rfl rfl (by kernel_rfl) Try.func4 (by kernel_rfl)
    (of_decide_eq_true (by kernel_rfl)) (by unfold Func.isWrapper; first | (rw [if_pos (by decide +kernel)]; kernel_rfl) | (rw [if_neg (by decide +kernel)]; exact ⟨rfl, rfl⟩))
    (fun os started H enc _ => lifted_FnFar os started H enc)

theorem proved_FnFar : Rows.FnFarSaid := over_FnFar

end Go.Proofs.Ytbjndcfdcjpkmaa
