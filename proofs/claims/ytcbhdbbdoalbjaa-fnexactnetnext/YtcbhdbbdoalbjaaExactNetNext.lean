/-
  Proved: NetNext answers as its model at every slice of links and every two numbers, and writes into no argument; the links read on as they did. No condition.
-/
import Derived.Test.YtcbhdbbdoalbjaaOwnB
import Derived.Test.YtcbhdbbdoalbjaaNetNextJ
namespace Go.Proofs.Ytcbhdbbdoalbjaa
open Go.ChangeShapes Go.WideShapes Go.ChangeAt Go.RowKit Go.Joins
set_option linter.unusedVariables false

set_option maxRecDepth 100000 in
set_option maxHeartbeats 2000000 in
theorem walk_FnExactNetNext (v : Value) (l : List K4) (sw to : Int) (w : World) (hr : Lks w w.heap.size v l) (ha : (Lit.int .i64 sw).wf = true) (hb : (Lit.int .i64 to).wf = true) :
    Calls Try.prog 15 #[v, .int .i64 sw, .int .i64 to] w fun e w' => e = .returned (.bool true) ∧ Below w.heap.size w w' := by
  have HSZ := Lib.hid (szLinkS_any w v l 1048576 hr (Nat.le_refl _))
  have HL : Hid (∀ W, Below w.heap.size w W → Lks W W.heap.size v l) := fun W hb => (hr.below hb (Nat.le_refl _)).mono hb.size
  clear hr ha hb
  go_enter Try.func15, Try.ntmps15
  go_wp2_with fail
  refine HSZ.out.mono ?_
  rintro e w1 ⟨rfl | ⟨r, rfl, hN⟩, rfl⟩
  · go_wp2
    go_ret
    exact ⟨rfl, Below.refl _ _⟩
  have hr0 : ¬ ((r : Int) < 0) := by omega
  have HN : Hid (l.length ≤ 1048576) := hN
  clear hN HSZ
  go_wp2_with fail
  refine (toLinkS_any _ _ l (HL.out _ (Below.refl _ _)) HN.out).mono ?_
  rintro e w2 ⟨u, rfl, hrow, b2⟩
  have HR2 := Lib.hid hrow
  have B2 := Lib.hid b2
  clear hrow b2
  go_wp2_with fail
  refine ((sNetNext_any _ _ l sw to HR2.out.lks HN.out)).mono ?_
  rintro e w3 ⟨rfl, b3⟩
  have B3 := Lib.hid (belStep B2.out b3)
  clear b3 B2 HR2
  have HI : Hid (∀ W v, Lks W W.heap.size v l → Calls Try.prog 29 #[v, .int .i64 sw, .int .i64 to] W fun e w' => e = .returned (.int .i64 (nextV l sw to)) ∧ Below W.heap.size W w') := fun W v h => iNetNext_any W v l sw to h
  generalize nextV l sw to = ans at *
  go_wp2_with fail
  refine (toLinkS_any _ _ l (HL.out _ B3.out) HN.out).mono ?_
  rintro e w4 ⟨x, rfl, hrow, b4⟩
  have HX4 := Lib.hid hrow
  have B4 := Lib.hid (belStep B3.out b4)
  clear hrow b4 B3
  go_wp2_with fail
  refine (HI.out _ _ HX4.out.lks).mono ?_
  rintro e w5 ⟨rfl, b5⟩
  have HX5 := Lib.hid (HX4.out.below b5)
  have B5 := Lib.hid (belStep B4.out b5)
  clear b5 B4 HX4
  go_wp2_with fail
  refine (toLinkS_any _ _ l (HL.out _ B5.out) HN.out).mono ?_
  rintro e w6 ⟨y, rfl, hrow, b6⟩
  have HX6 := Lib.hid (HX5.out.below b6)
  have HY6 := Lib.hid hrow
  have B6 := Lib.hid (belStep B5.out b6)
  clear hrow b6 B5 HX5
  go_wp2_with fail
  refine (eqLinkS_same _ _ _ l HX6.out.lks HY6.out.lks HN.out).mono ?_
  rintro e w7 ⟨rfl, b7⟩
  go_wp2
  go_ret
  exact ⟨rfl, belStep B6.out b7⟩

set_option maxRecDepth 100000 in
theorem lifted_FnExactNetNext (os : Os) (started : os.Started) (H : Type) (enc : TypeId × Value → H) :
    ReturnsInHanded {} Try.checked os 15 .any (Rows.fnExactNetNextSpec.pre6 enc Try.prog Try.f15 Rows.fnExactNetNextRow.domain false) (Rows.fnExactNetNextSpec.post enc Try.prog Try.f15 false true false false) := by
  refine returnsInHanded_of_change (C := Try.checked) own started (by kernel_rfl) Try.func15
    (ChangeSpec.witness6 (enc := enc) (C := Try.checked) false ⟨#[], #[.slice none 0 0, .int .i64 0, .int .i64 0], []⟩ 8 (by kernel_rfl) (by kernel_rfl) (by kernel_rfl) (by kernel_rfl)) ?_
  intro W base args ds gs before hval0 hW hcnd _
  have hval : ∀ (j : Nat) t v, Try.f15.params[j]? = some t → args[j]? = some v → Value.okWide Try.prog W .any base t v := hval0
  have hW' := hW
  obtain ⟨p, q, hA0, hV, rfl, hfz, hnd⟩ := hW
  have hA : DataW.TrodAll enc Try.prog W 0 (fun _ => true) true Try.f15.params.toList args.toList ds p := hA0
  rw [Try.params15] at hA hval
  obtain ⟨v0, vs0, d0, ds0, p0, q0, hargs, rfl, rfl, h0, r0⟩ := trodAll_cons hA
  obtain ⟨v1, vs1, d1, ds1, p1, q1, rfl, rfl, rfl, h1, r1⟩ := trodAll_cons r0
  obtain ⟨v2, vs2, d2, ds2, p2, q2, rfl, rfl, rfl, h2, r2⟩ := trodAll_cons r1
  obtain ⟨rfl, rfl, rfl⟩ := trodAll_nil r2
  obtain rfl : args = #[v0, v1, v2] := by cases args; simp_all
  obtain ⟨rfl, rfl⟩ := trodVars_none hV
  have k0 := h0
  have lt0 : ∀ x ∈ p0, x.block < W.heap.size := by obtain ⟨m, hm⟩ := k0; exact DataW.trod_lt m _ _ _ hm
  have k1 := h1
  have lt1 : ∀ x ∈ p1, x.block < W.heap.size := by obtain ⟨m, hm⟩ := k1; exact DataW.trod_lt m _ _ _ hm
  have k2 := h2
  have lt2 : ∀ x ∈ p2, x.block < W.heap.size := by obtain ⟨m, hm⟩ := k2; exact DataW.trod_lt m _ _ _ hm
  obtain ⟨l0, w0⟩ := links_of h0 (okWide_slice Try.underlying42 (hval 0 42 v0 rfl rfl))
  obtain ⟨a1, rfl, -, -, w1⟩ := open_int Try.underlying3 (hval 1 3 v1 rfl rfl) h1
  obtain ⟨a2, rfl, -, -, w2⟩ := open_int Try.underlying3 (hval 2 3 v2 rfl rfl) h2
  clear hA0 hval0
  refine (walk_FnExactNetNext v0 l0 a1 a2 W w0 w1 w2).mono fun e W' ⟨he, bel⟩ => ?_
  subst he
  exact ⟨_, rfl, _, _, _, [], _, [], hW', trodAll_mk1 (shut_bool Try.underlying4 _), (trodAll_cons_mk (Below.trod laidOut (by kernel_rfl) (of_decide_eq_true (by kernel_rfl)) k0 bel lt0) (trodAll_cons_mk (Below.trod laidOut (by kernel_rfl) (of_decide_eq_true (by kernel_rfl)) k1 bel lt1) (trodAll_cons_mk (Below.trod laidOut (by kernel_rfl) (of_decide_eq_true (by kernel_rfl)) k2 bel lt2) (trodAll_mk0)))), rfl, bel.frame _, fun h => by cases h⟩

theorem over_FnExactNetNext : Rows.fnExactNetNextRow.holds Try.pinned (OpenSpec.ofChange Rows.fnExactNetNextSpec) :=
  OpenClaim.holds_of_wide 15 Try.f15 rfl rfl rfl rfl rfl rfl rfl ⟨rfl, rfl, rfl, rfl, rfl⟩ rfl rfl rfl rfl rfl (by kernel_rfl) Try.func15 (by kernel_rfl)
    (of_decide_eq_true (by kernel_rfl)) (by unfold Func.isWrapper; first | (rw [if_pos (by decide +kernel)]; kernel_rfl) | (rw [if_neg (by decide +kernel)]; exact ⟨rfl, rfl⟩))
    (fun os started H enc _ => lifted_FnExactNetNext os started H enc)

theorem proved_FnExactNetNext : Rows.FnExactNetNextSaid := over_FnExactNetNext

end Go.Proofs.Ytcbhdbbdoalbjaa
