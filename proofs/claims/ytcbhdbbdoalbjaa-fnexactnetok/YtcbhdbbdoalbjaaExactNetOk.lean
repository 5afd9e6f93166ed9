/-
  Proved: NetOk answers as its model at every slice of links, and writes into no argument; the links read on as they did. No condition.
-/
import Derived.Test.YtcbhdbbdoalbjaaOwnB
import Derived.Test.YtcbhdbbdoalbjaaNetOkI
namespace Go.Proofs.Ytcbhdbbdoalbjaa
open Go.ChangeShapes Go.WideShapes Go.ChangeAt Go.RowKit Go.Joins
set_option linter.unusedVariables false

set_option maxRecDepth 100000 in
set_option maxHeartbeats 2000000 in
theorem walk_FnExactNetOk (v : Value) (l : List K4) (w : World) (hr : Lks w w.heap.size v l) :
    Calls Try.prog 12 #[v] w fun e w' => e = .returned (.bool true) ∧ Below w.heap.size w w' := by
  have HSZ := Lib.hid (szLinkS_any w v l 1048576 hr (Nat.le_refl _))
  have HL : Hid (∀ W, Below w.heap.size w W → Lks W W.heap.size v l) := fun W hb => (hr.below hb (Nat.le_refl _)).mono hb.size
  clear hr
  go_enter Try.func12, Try.ntmps12
  go_wp2_with fail
  refine HSZ.out.mono ?_
  rintro e w1 ⟨rfl | ⟨r, rfl, hN⟩, rfl⟩
  · go_wp2
    go_ret
    exact ⟨rfl, Below.refl _ _⟩
  have hr0 : ¬ ((r : Int) < 0) := by omega
  have HN : Hid (l.length ≤ 1048576) := hN
  clear hN HSZ
  go_wp2_with fail
  refine (toLinkS_any _ _ l (HL.out _ (Below.refl _ _)) HN.out).mono ?_
  rintro e w2 ⟨u, rfl, hrow, b2⟩
  have HR2 := Lib.hid hrow
  have B2 := Lib.hid b2
  clear hrow b2
  go_wp2_with fail
  refine (sNetOk_any _ _ l HR2.out.lks HN.out).mono ?_
  rintro e w3 ⟨rfl, b3⟩
  have B3 := Lib.hid (belStep B2.out b3)
  clear b3 B2 HR2
  go_wp2_with fail
  refine (toLinkS_any _ _ l (HL.out _ B3.out) HN.out).mono ?_
  rintro e w4 ⟨x, rfl, hrow, b4⟩
  have HX4 := Lib.hid hrow
  have B4 := Lib.hid (belStep B3.out b4)
  clear hrow b4 B3
  go_wp2_with fail
  refine (iNetOk_any _ _ l HX4.out.lks).mono ?_
  rintro e w5 ⟨rfl, b5⟩
  have HX5 := Lib.hid (HX4.out.below b5)
  have B5 := Lib.hid (belStep B4.out b5)
  clear b5 B4 HX4
  generalize netB l = ok
  go_wp2_with fail
  refine (toLinkS_any _ _ l (HL.out _ B5.out) HN.out).mono ?_
  rintro e w6 ⟨y, rfl, hrow, b6⟩
  have HX6 := Lib.hid (HX5.out.below b6)
  have HY6 := Lib.hid hrow
  have B6 := Lib.hid (belStep B5.out b6)
  clear hrow b6 B5 HX5
  go_wp2_with fail
  refine (eqLinkS_same _ _ _ l HX6.out.lks HY6.out.lks HN.out).mono ?_
  rintro e w7 ⟨rfl, b7⟩
  go_wp2
  go_ret
  exact ⟨rfl, belStep B6.out b7⟩

set_option maxRecDepth 100000 in
theorem lifted_FnExactNetOk (os : Os) (started : os.Started) (H : Type) (enc : TypeId × Value → H) :
    ReturnsInHanded {} Try.checked os 12 .any (Rows.fnExactNetOkSpec.pre6 enc Try.prog Try.f12 Rows.fnExactNetOkRow.domain false) (Rows.fnExactNetOkSpec.post enc Try.prog Try.f12 false true false false) := by
  refine returnsInHanded_of_change (C := Try.checked) own started (by kernel_rfl) Try.func12
    (ChangeSpec.witness6 (enc := enc) (C := Try.checked) false ⟨#[], #[.slice none 0 0], []⟩ 8 (by kernel_rfl) (by kernel_rfl) (by kernel_rfl) (by kernel_rfl)) ?_
  intro W base args ds gs before hval0 hW hcnd _
  have hval : ∀ (j : Nat) t v, Try.f12.params[j]? = some t → args[j]? = some v → Value.okWide Try.prog W .any base t v := hval0
  have hW' := hW
  obtain ⟨p, q, hA0, hV, rfl, hfz, hnd⟩ := hW
  have hA : DataW.TrodAll enc Try.prog W 0 (fun _ => true) true Try.f12.params.toList args.toList ds p := hA0
  rw [Try.params12] at hA hval
  obtain ⟨v0, vs0, d0, ds0, p0, q0, hargs, rfl, rfl, h0, r0⟩ := trodAll_cons hA
  obtain ⟨rfl, rfl, rfl⟩ := trodAll_nil r0
  obtain rfl : args = #[v0] := by cases args; simp_all
  obtain ⟨rfl, rfl⟩ := trodVars_none hV
  have k0 := h0
  have lt0 : ∀ x ∈ p0, x.block < W.heap.size := by obtain ⟨m, hm⟩ := k0; exact DataW.trod_lt m _ _ _ hm
  obtain ⟨l0, w0⟩ := links_of h0 (okWide_slice Try.underlying42 (hval 0 42 v0 rfl rfl))
  clear hA0 hval0
  refine (walk_FnExactNetOk v0 l0 W w0).mono fun e W' ⟨he, bel⟩ => ?_
  subst he
  exact ⟨_, rfl, _, _, _, [], _, [], hW', trodAll_mk1 (shut_bool Try.underlying4 _), (trodAll_cons_mk (Below.trod laidOut (by kernel_rfl) (of_decide_eq_true (by kernel_rfl)) k0 bel lt0) (trodAll_mk0)), rfl, bel.frame _, fun h => by cases h⟩

theorem over_FnExactNetOk : Rows.fnExactNetOkRow.holds Try.pinned (OpenSpec.ofChange Rows.fnExactNetOkSpec) :=
  OpenClaim.holds_of_wide 12 Try.f12 rfl rfl rfl rfl rfl rfl rfl ⟨rfl, rfl, rfl, rfl, rfl⟩ rfl rfl rfl rfl rfl (by kernel_rfl) Try.func12 (by kernel_rfl)
    (of_decide_eq_true (by kernel_rfl)) (by unfold Func.isWrapper; first | (rw [if_pos (by decide +kernel)]; kernel_rfl) | (rw [if_neg (by decide +kernel)]; exact ⟨rfl, rfl⟩))
    (fun os started H enc _ => lifted_FnExactNetOk os started H enc)

theorem proved_FnExactNetOk : Rows.FnExactNetOkSaid := over_FnExactNetOk

end Go.Proofs.Ytcbhdbbdoalbjaa
