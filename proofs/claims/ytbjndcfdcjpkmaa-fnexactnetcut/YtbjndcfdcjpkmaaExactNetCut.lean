/-
  Proved: NetCut answers as its model at every slice of links and every number, writes into no argument, and its answer owns its memory. No condition.
-/
import Derived.Test.YtbjndcfdcjpkmaaOwnB
import Derived.Test.YtbjndcfdcjpkmaaNetCutJ
import Derived.Test.YtbjndcfdcjpkmaaNetMark
namespace Go.Proofs.Ytbjndcfdcjpkmaa
open Go.ChangeShapes Go.WideShapes Go.ChangeAt Go.RowKit Go.Joins
set_option linter.unusedVariables false

theorem LkRow.lt {w : World} {base : Nat} {v : Value} {l : List K4} (h : LkRow w base v l) : ∀ k, v.ownBlock = some k → base ≤ k ∧ k < w.heap.size := fun k hk => World.ownsRow.lt h k hk
theorem LkRow.apart {w w' : World} {base : Nat} {v : Value} {l : List K4} {row : Option Nat} (h : LkRow w base v l) (hg : w.grownBy w' row) (hne : ∀ k, v.ownBlock = some k → row ≠ some k) : LkRow w' base v l :=
  World.ownsRow.kept h hg (by
    cases hv : v.ownBlock with
    | none => exact .inl rfl
    | some k => exact .inr (fun e => hne k hv e.symm))
/-- One that lies below what has turned. -/
theorem LkRow.under {w w' : World} {base n : Nat} {v : Value} {l : List K4} (h : LkRow w base v l) (hb : Below n w w') (hv : ∀ k, v.ownBlock = some k → k < n) : LkRow w' base v l := by
  obtain ⟨hl, h1 | ⟨g, cap, cur, rfl, hb0, hg, hc⟩⟩ := h
  · exact ⟨hl, .inl h1⟩
  · exact ⟨hl, .inr ⟨g, cap, cur, rfl, hb0, (hb.block g (hv g rfl)).trans hg, hc⟩⟩
theorem cutVL_len (l : List K4) (z : Int) : (cutVL l z).length ≤ 6 := by
  cases h : cutB l z
  · rw [cutVL_no h]; simp
  · obtain ⟨hn, k, rfl, hk, e⟩ := cutB_parts h
    have := netB_six hn
    rw [e, cutL_len hk]
    omega

set_option maxRecDepth 100000 in
set_option maxHeartbeats 4000000 in
theorem walk_FnExactNetCut (v : Value) (l : List K4) (z : Int) (w : World) (hr : Lks w w.heap.size v l) (ha : (Lit.int .i64 z).wf = true) :
    Calls Try.prog 3 #[v, .int .i64 z] w fun e w' => e = .returned (.bool true) ∧ Below w.heap.size w w' := by
  have HSZ := Lib.hid (szLinkS_any w v l 1048576 hr (Nat.le_refl _))
  have HL : Hid (∀ W, Below w.heap.size w W → Lks W W.heap.size v l) := fun W hb => (hr.below hb (Nat.le_refl _)).mono hb.size
  have HAL : Hid ((cutVL l z).length ≤ 1048576) := Nat.le_trans (cutVL_len l z) (by omega)
  clear hr ha
  have HS : Hid (∀ W v, Lks W W.heap.size v l → l.length ≤ 1048576 → Calls Try.prog 12 #[v, .int .i64 z] W fun e w' => ∃ u, e = .returned (.tuple #[u, .bool (cutB l z)]) ∧ LkRow w' W.heap.size u (cutVL l z) ∧ Below W.heap.size W w') := fun W v h hn => sNetCut_any W v l z h hn
  have HI : Hid (∀ W v, Lks W W.heap.size v l → Calls Try.prog 14 #[v, .int .i64 z] W fun e w' => ∃ u, e = .returned (.tuple #[u, .bool (cutB l z)]) ∧ LkRow w' W.heap.size u (cutVL l z) ∧ Below W.heap.size W w') := fun W v h => iNetCut_any W v l z h
  generalize cutVL l z = ans at *
  generalize cutB l z = cb at *
  have hcc : (cb == cb) = true := by simp
  have hcn : (cb != cb) = false := by simp
  go_enter Try.func3, Try.ntmps3
  go_wp2_with fail
  refine HSZ.out.mono ?_
  rintro e w1 ⟨rfl | ⟨r, rfl, hN⟩, rfl⟩
  · go_wp2
    go_ret
    exact ⟨rfl, Below.refl _ _⟩
  have hr0 : ¬ ((r : Int) < 0) := by omega
  have HN : Hid (l.length ≤ 1048576) := hN
  clear hN HSZ
  go_wp2_with fail
  refine (toLinkS_any _ _ l (HL.out _ (Below.refl _ _)) HN.out).mono ?_
  rintro e w2 ⟨u, rfl, hrow, b2⟩
  have HR2 := Lib.hid hrow
  have B2 := Lib.hid b2
  clear hrow b2
  go_wp2_with fail
  refine (HS.out _ _ HR2.out.lks HN.out).mono ?_
  rintro e w3 ⟨a0, rfl, hrow, b3⟩
  have HA3 := Lib.hid hrow
  have B3 := Lib.hid (belStep B2.out b3)
  clear hrow b3 B2 HR2 HS
  go_wp2_with fail
  refine (toLinkS_any _ _ l (HL.out _ B3.out) HN.out).mono ?_
  rintro e w4 ⟨x, rfl, hrow, b4⟩
  have HX4 := Lib.hid hrow
  have HA4 := Lib.hid (HA3.out.below b4)
  have B4 := Lib.hid (belStep B3.out b4)
  have S34 : Hid (w3.heap.size ≤ w4.heap.size) := b4.size
  clear hrow b4
  go_wp2_with fail
  refine (HI.out _ _ HX4.out.lks).mono ?_
  rintro e w5 ⟨g0, rfl, hrow, b5⟩
  have HG5 := Lib.hid hrow
  have HX5 := Lib.hid (HX4.out.below b5)
  have HA5 := Lib.hid (HA4.out.below b5)
  have B5 := Lib.hid (belStep B4.out b5)
  have S45 : Hid (w4.heap.size ≤ w5.heap.size) := b5.size
  clear hrow b5 B4
  go_wp2_with fail
  refine (eqLinkS_same _ _ _ ans HG5.out.lks HA5.out.lks HAL.out).mono ?_
  rintro e w6 ⟨rfl, b6⟩
  have HG6 := Lib.hid (HG5.out.below b6)
  have HX6 := Lib.hid (HX5.out.below b6)
  have HA6 := Lib.hid (HA5.out.below b6)
  have B6 := Lib.hid (belStep B5.out b6)
  have S56 : Hid (w5.heap.size ≤ w6.heap.size) := b6.size
  clear b6 B5 HG5 HX5 HA5
  go_wp2_with fail
  refine (toLinkS_any _ _ l (HL.out _ B6.out) HN.out).mono ?_
  rintro e w7 ⟨y, rfl, hrow, b7⟩
  have HY7 := Lib.hid hrow
  have HG7 := Lib.hid (HG6.out.below b7)
  have HX7 := Lib.hid (HX6.out.below b7)
  have HA7 := Lib.hid (HA6.out.below b7)
  have B7 := Lib.hid (belStep B6.out b7)
  have S67 : Hid (w6.heap.size ≤ w7.heap.size) := b7.size
  clear hrow b7 B6 HG6 HX6 HA6
  go_wp2_with fail
  refine (eqLinkS_same _ _ _ l HX7.out.lks HY7.out.lks HN.out).mono ?_
  rintro e w8 ⟨rfl, b8⟩
  have HG8 := Lib.hid (HG7.out.below b8)
  have HX8 := Lib.hid (HX7.out.below b8)
  have HA8 := Lib.hid (HA7.out.below b8)
  have B8 := Lib.hid (belStep B7.out b8)
  have S78 : Hid (w7.heap.size ≤ w8.heap.size) := b8.size
  clear b8 B7 HG7 HX7 HA7 HY7
  go_wp2_with fail
  refine (markLinkS_own _ w3.heap.size 1 _ l HX8.out (Nat.le_refl _) (by have := HN.out; omega) (by have := S34.out; have := S45.out; have := S56.out; have := S67.out; have := S78.out; omega)).mono ?_
  rintro e w9 ⟨rfl, -, b9, g9⟩
  have HG9 := Lib.hid (HG8.out.apart g9 (fun k hk e => by
    have h1 := HG8.out.lt k hk
    have h2 := HX4.out.lt k e
    omega))
  have HA9 := Lib.hid (HA8.out.under b9 (fun k hk => (HA3.out.lt k hk).2))
  have B9 := Lib.hid (B8.out.trans (b9.mono B3.out.size))
  have S89 : Hid (w8.heap.size ≤ w9.heap.size) := b9.size
  clear b9 g9 B8 HG8 HA8 HX8
  have hk9 : ¬ (((1 + 4 * l.length : Nat) : Int) < 0) := by omega
  go_wp2_with fail
  refine (eqLinkS_same _ _ _ ans HG9.out.lks HA9.out.lks HAL.out).mono ?_
  rintro e w10 ⟨rfl, b10⟩
  have HG10 := Lib.hid (HG9.out.below b10)
  have HA10 := Lib.hid (HA9.out.below b10)
  have B10 := Lib.hid (belStep B9.out b10)
  have S910 : Hid (w9.heap.size ≤ w10.heap.size) := b10.size
  clear b10 B9 HG9 HA9
  go_wp2_with fail
  refine (markLinkS_own _ w4.heap.size 1 _ ans HG10.out (Nat.le_refl _) (by have := HAL.out; omega) (by have := S45.out; have := S56.out; have := S67.out; have := S78.out; have := S89.out; have := S910.out; omega)).mono ?_
  rintro e w11 ⟨rfl, hm, b11, -⟩
  have HM11 := Lib.hid hm
  have HA11 := Lib.hid (HA10.out.under b11 (fun k hk => (HA4.out.lt k hk).2))
  have B11 := Lib.hid (B10.out.trans (b11.mono (Nat.le_trans B3.out.size S34.out)))
  clear hm b11 B10 HG10 HA10
  go_wp2_with fail
  refine (heldLinkS_at _ _ 1 ans.length _ HM11.out (Nat.le_refl _) (by have := HAL.out; omega)).mono ?_
  rintro e w12 ⟨rfl, b12⟩
  have HM12 := Lib.hid (HM11.out.below b12)
  have HA12 := Lib.hid (HA11.out.below b12)
  have B12 := Lib.hid (belStep B11.out b12)
  clear b12 B11 HM11 HA11
  have hq : ¬ (((1 + 4 * ans.length : Nat) : Int) < 0) := by omega
  go_wp2_with fail
  refine (toLinkS_any _ _ l (HL.out _ B12.out) HN.out).mono ?_
  rintro e w13 ⟨z, rfl, hrow, b13⟩
  have HZ13 := Lib.hid hrow
  have HM13 := Lib.hid (HM12.out.below b13)
  have HA13 := Lib.hid (HA12.out.below b13)
  have B13 := Lib.hid (belStep B12.out b13)
  clear hrow b13 B12 HM12 HA12
  go_wp2_with fail
  refine (HI.out _ _ HZ13.out.lks).mono ?_
  rintro e w14 ⟨h0, rfl, hrow, b14⟩
  have HH14 := Lib.hid hrow
  have HM14 := Lib.hid (HM13.out.below b14)
  have HA14 := Lib.hid (HA13.out.below b14)
  have B14 := Lib.hid (belStep B13.out b14)
  clear hrow b14 B13 HM13 HA13
  go_wp2_with fail
  refine (eqLinkS_same _ _ _ ans HH14.out.lks HA14.out.lks HAL.out).mono ?_
  rintro e w15 ⟨rfl, b15⟩
  have HM15 := Lib.hid (HM14.out.below b15)
  have B15 := Lib.hid (belStep B14.out b15)
  clear b15 B14 HM14 HA14
  go_wp2_with fail
  refine (heldLinkS_at _ _ 1 ans.length _ HM15.out (Nat.le_refl _) (by have := HAL.out; omega)).mono ?_
  rintro e w16 ⟨rfl, b16⟩
  have B16 := Lib.hid (belStep B15.out b16)
  clear b16
  go_wp2
  go_ret
  exact ⟨rfl, B16.out⟩

set_option maxRecDepth 100000 in
theorem lifted_FnExactNetCut (os : Os) (started : os.Started) (H : Type) (enc : TypeId × Value → H) :
    ReturnsInHanded {} Try.checked os 3 .any (Rows.fnExactNetCutSpec.pre6 enc Try.prog Try.f3 Rows.fnExactNetCutRow.domain false) (Rows.fnExactNetCutSpec.post enc Try.prog Try.f3 false true false false) := by
  refine returnsInHanded_of_change (C := Try.checked) own started (by kernel_rfl) Try.func3
    (ChangeSpec.witness6 (enc := enc) (C := Try.checked) false ⟨#[], #[.slice none 0 0, .int .i64 0], []⟩ 8 (by kernel_rfl) (by kernel_rfl) (by kernel_rfl) (by kernel_rfl)) ?_
  intro W base args ds gs before hval0 hW hcnd _
  have hval : ∀ (j : Nat) t v, Try.f3.params[j]? = some t → args[j]? = some v → Value.okWide Try.prog W .any base t v := hval0
  have hW' := hW
  obtain ⟨p, q, hA0, hV, rfl, hfz, hnd⟩ := hW
  have hA : DataW.TrodAll enc Try.prog W 0 (fun _ => true) true Try.f3.params.toList args.toList ds p := hA0
  rw [Try.params3] at hA hval
  obtain ⟨v0, vs0, d0, ds0, p0, q0, hargs, rfl, rfl, h0, r0⟩ := trodAll_cons hA
  obtain ⟨v1, vs1, d1, ds1, p1, q1, rfl, rfl, rfl, h1, r1⟩ := trodAll_cons r0
  obtain ⟨rfl, rfl, rfl⟩ := trodAll_nil r1
  obtain rfl : args = #[v0, v1] := by cases args; simp_all
  obtain ⟨rfl, rfl⟩ := trodVars_none hV
  have k0 := h0
  have lt0 : ∀ x ∈ p0, x.block < W.heap.size := by obtain ⟨m, hm⟩ := k0; exact DataW.trod_lt m _ _ _ hm
  have k1 := h1
  have lt1 : ∀ x ∈ p1, x.block < W.heap.size := by obtain ⟨m, hm⟩ := k1; exact DataW.trod_lt m _ _ _ hm
  obtain ⟨l0, w0⟩ := links_of h0 (okWide_slice Try.underlying22 (hval 0 22 v0 rfl rfl))
  obtain ⟨a1, rfl, -, -, w1⟩ := open_int Try.underlying3 (hval 1 3 v1 rfl rfl) h1
  clear hA0 hval0
  refine (walk_FnExactNetCut v0 l0 a1 W w0 w1).mono fun e W' ⟨he, bel⟩ => ?_
  subst he
  exact ⟨_, rfl, _, _, _, [], _, [], hW', trodAll_mk1 (shut_bool Try.underlying4 _), (trodAll_cons_mk (Below.trod laidOut (by kernel_rfl) (of_decide_eq_true (by kernel_rfl)) k0 bel lt0) (trodAll_cons_mk (Below.trod laidOut (by kernel_rfl) (of_decide_eq_true (by kernel_rfl)) k1 bel lt1) (trodAll_mk0))), rfl, bel.frame _, fun h => by cases h⟩

theorem over_FnExactNetCut : Rows.fnExactNetCutRow.holds Try.pinned (OpenSpec.ofChange Rows.fnExactNetCutSpec) :=
  OpenClaim.holds_of_wide 3 Try.f3 rfl rfl rfl rfl rfl rfl rfl ⟨rfl, rfl, rfl, rfl, rfl⟩ rfl rfl rfl rfl rfl (by kernel_rfl) Try.func3 (by kernel_rfl)
    (of_decide_eq_true (by kernel_rfl)) (by unfold Func.isWrapper; first | (rw [if_pos (by decide +kernel)]; kernel_rfl) | (rw [if_neg (by decide +kernel)]; exact ⟨rfl, rfl⟩))
    (fun os started H enc _ => lifted_FnExactNetCut os started H enc)

theorem proved_FnExactNetCut : Rows.FnExactNetCutSaid := over_FnExactNetCut

end Go.Proofs.Ytbjndcfdcjpkmaa
