/-
  Proved: at every two slices of texts the program's SpaceLess returns what the model's does; what it returns is its own, no argument is written, and the same call answers the same again. No condition.
-/
import Derived.Test.YtoaollalalbefaaSpaceSpecE
import Derived.Test.YtoaollalalbefaaStrMark
namespace Go.Proofs.Ytoaollalalbefaa
open Go.ChangeShapes Go.WideShapes Go.ChangeAt Go.RowKit Go.Joins
open Go.ChangeMaps (open_string)
set_option linter.unusedVariables false

set_option maxRecDepth 100000 in
set_option maxHeartbeats 4000000 in
theorem walk_FnExactSpaceLess (v : Value) (l : List ByteArray) (v' : Value) (l' : List ByteArray) (w : World) (hl : Strs w w.heap.size v l) (hz : ∀ s ∈ l, s.size ≤ maxLen) (hl' : Strs w w.heap.size v' l') (hz' : ∀ s ∈ l', s.size ≤ maxLen) :
    Calls Try.prog 7 #[v, v'] w fun e w' => e = .returned (.bool true) ∧ Below w.heap.size w w' := by
  have HW : Hid (∀ W, Below w.heap.size w W → Strs W W.heap.size v l) := fun W hb => (hl.below hb (Nat.le_refl _)).mono hb.size
  have HW' : Hid (∀ W, Below w.heap.size w W → Strs W W.heap.size v' l') := fun W hb => (hl'.below hb (Nat.le_refl _)).mono hb.size
  have HZ' : Hid (∀ i, i < l'.length → (strAt l' i).size ≤ maxLen) := strs_max hz'
  have HSZ := Lib.hid (szStringS_big w v l hl hz)
  have hrl : (opR (fun x y => x && !y) l l').length ≤ 64 := opR_len _ l l'
  clear hl hz hl' hz'
  go_enter Try.func7, Try.ntmps7
  go_wp2_with fail
  refine HSZ.out.mono ?_
  rintro e w1 ⟨rfl | ⟨r, rfl, hr, hsm⟩, b1⟩
  · go_wp2
    go_ret
    exact ⟨rfl, b1⟩
  have hr0 : ¬ ((r : Int) < 0) := by omega
  have HF : Hid (Fit6 l) := hsm.2
  have hlen := hsm.1
  have B := Lib.hid b1
  have sz := b1.size
  clear hsm b1 HSZ
  go_wp2_with fail
  refine (szStringS_any _ _ l' r (HW'.out _ B.out) HZ'.out hr).mono ?_
  rintro e w1' ⟨rfl | ⟨r', rfl, hr', hsm⟩, b1⟩
  · go_wp2
    go_ret
    exact ⟨rfl, belStep B.out b1⟩
  have hr0' : ¬ ((r' : Int) < 0) := by omega
  have HF' : Hid (Fit6 l') := fun i hi => Nat.le_trans (hsm.2 i hi) hr
  have hlen' : l'.length ≤ 1048576 := Nat.le_trans hsm.1 hr
  replace B := Lib.hid (belStep B.out b1)
  replace sz := B.out.size
  clear hsm b1
  go_wp2_with fail
  refine (toStringS_any _ _ l (HW.out _ B.out) hlen).mono ?_
  rintro e w2 ⟨uRA, rfl, hrow, b2⟩
  have t2 := b2.size
  replace B := Lib.hid (belStep B.out b2)
  clear b2
  have RA := Lib.hid hrow
  clear hrow
  go_wp2_with fail
  refine (toStringS_any _ _ l' (HW'.out _ B.out) hlen').mono ?_
  rintro e w3 ⟨uRA2, rfl, hrow, b3⟩
  have t3 := b3.size
  replace RA := Lib.hid (RA.out.below b3)
  replace B := Lib.hid (belStep B.out b3)
  clear b3
  have RA2 := Lib.hid hrow
  clear hrow
  go_wp2_with fail
  refine (sSpaceLess_any _ _ _ l l' RA.out.strs RA2.out.strs HF.out HF'.out).mono ?_
  rintro e w4 ⟨uRW, rfl, hrow, b4⟩
  have t4 := b4.size
  replace RA := Lib.hid (RA.out.below b4)
  replace RA2 := Lib.hid (RA2.out.below b4)
  replace B := Lib.hid (belStep B.out b4)
  clear b4
  have RW := Lib.hid hrow
  clear hrow
  have FW : Hid (∀ k, uRW.ownBlock = some k → k < w4.heap.size) := fun k hk => (World.ownsRow.lt RW.out k hk).2
  clear RA
  clear RA2
  go_wp2_with fail
  refine (toStringS_any _ _ l (HW.out _ B.out) hlen).mono ?_
  rintro e w5 ⟨uRX, rfl, hrow, b5⟩
  have t5 := b5.size
  replace RW := Lib.hid (RW.out.below b5)
  replace B := Lib.hid (belStep B.out b5)
  clear b5
  have RX := Lib.hid hrow
  clear hrow
  have FX : Hid (∀ k, uRX.ownBlock = some k → w4.heap.size ≤ k ∧ k < w5.heap.size) := fun k hk => World.ownsRow.lt RX.out k hk
  go_wp2_with fail
  refine (toStringS_any _ _ l' (HW'.out _ B.out) hlen').mono ?_
  rintro e w6 ⟨uRY, rfl, hrow, b6⟩
  have t6 := b6.size
  replace RW := Lib.hid (RW.out.below b6)
  replace RX := Lib.hid (RX.out.below b6)
  replace B := Lib.hid (belStep B.out b6)
  clear b6
  have RY := Lib.hid hrow
  clear hrow
  have FY : Hid (∀ k, uRY.ownBlock = some k → w5.heap.size ≤ k ∧ k < w6.heap.size) := fun k hk => World.ownsRow.lt RY.out k hk
  go_wp2_with fail
  refine (iSpaceLess_any _ _ _ l l' RX.out.strs RY.out.strs HF.out HF'.out).mono ?_
  rintro e w7 ⟨uRG, rfl, hrow, b7⟩
  have t7 := b7.size
  replace RW := Lib.hid (RW.out.below b7)
  replace RX := Lib.hid (RX.out.below b7)
  replace RY := Lib.hid (RY.out.below b7)
  replace B := Lib.hid (belStep B.out b7)
  clear b7
  have RG := Lib.hid hrow
  clear hrow
  have FG : Hid (∀ k, uRG.ownBlock = some k → w6.heap.size ≤ k) := fun k hk => (World.ownsRow.lt RG.out k hk).1
  go_wp2_with fail
  refine (eqStringS_same _ _ _ _ _ (opR (fun x y => x && !y) l l') RG.out RW.out (by omega)).mono ?_
  rintro e w8 ⟨rfl, b8⟩
  have t8 := b8.size
  replace RW := Lib.hid (RW.out.below b8)
  replace RX := Lib.hid (RX.out.below b8)
  replace RY := Lib.hid (RY.out.below b8)
  replace RG := Lib.hid (RG.out.below b8)
  replace B := Lib.hid (belStep B.out b8)
  clear b8
  go_wp2_with fail
  refine (toStringS_any _ _ l (HW.out _ B.out) hlen).mono ?_
  rintro e w9 ⟨uRC, rfl, hrow, b9⟩
  have t9 := b9.size
  replace RW := Lib.hid (RW.out.below b9)
  replace RX := Lib.hid (RX.out.below b9)
  replace RY := Lib.hid (RY.out.below b9)
  replace RG := Lib.hid (RG.out.below b9)
  replace B := Lib.hid (belStep B.out b9)
  clear b9
  have RC := Lib.hid hrow
  clear hrow
  go_wp2_with fail
  refine (eqStringS_same _ _ _ _ _ l RX.out RC.out (by omega)).mono ?_
  rintro e w10 ⟨rfl, b10⟩
  have t10 := b10.size
  replace RW := Lib.hid (RW.out.below b10)
  replace RX := Lib.hid (RX.out.below b10)
  replace RY := Lib.hid (RY.out.below b10)
  replace RG := Lib.hid (RG.out.below b10)
  replace RC := Lib.hid (RC.out.below b10)
  replace B := Lib.hid (belStep B.out b10)
  clear b10
  clear RC
  go_wp2_with fail
  refine (toStringS_any _ _ l' (HW'.out _ B.out) hlen').mono ?_
  rintro e w11 ⟨uRC, rfl, hrow, b11⟩
  have t11 := b11.size
  replace RW := Lib.hid (RW.out.below b11)
  replace RX := Lib.hid (RX.out.below b11)
  replace RY := Lib.hid (RY.out.below b11)
  replace RG := Lib.hid (RG.out.below b11)
  replace B := Lib.hid (belStep B.out b11)
  clear b11
  have RC := Lib.hid hrow
  clear hrow
  go_wp2_with fail
  refine (eqStringS_same _ _ _ _ _ l' RY.out RC.out (by omega)).mono ?_
  rintro e w12 ⟨rfl, b12⟩
  have t12 := b12.size
  replace RW := Lib.hid (RW.out.below b12)
  replace RX := Lib.hid (RX.out.below b12)
  replace RY := Lib.hid (RY.out.below b12)
  replace RG := Lib.hid (RG.out.below b12)
  replace RC := Lib.hid (RC.out.below b12)
  replace B := Lib.hid (belStep B.out b12)
  clear b12
  clear RC
  go_wp2_with fail
  refine (markStringS_own _ _ 1 _ l RX.out (by omega) (by omega) (by omega)).mono ?_
  rintro e w13 ⟨rfl, hrow, b13, g13⟩
  have t13 := b13.size
  replace RW : Hid (StrRow w13 _ uRW _) := RW.out.apart g13 (fun k hk e => by have h1 := (FX.out k e).1; have h2 := FW.out k hk; omega)
  replace RY : Hid (StrRow w13 _ uRY _) := RY.out.apart g13 (fun k hk e => by have h1 := (FX.out k e).2; have h2 := (FY.out k hk).1; omega)
  replace RG : Hid (StrRow w13 _ uRG _) := RG.out.apart g13 (fun k hk e => by have h1 := (FX.out k e).2; have h2 := FG.out k hk; omega)
  replace B : Hid (Below w.heap.size w w13) := B.out.trans (b13.mono (by omega))
  clear hrow b13 g13 RX
  go_wp2_with fail
  refine (markStringS_own _ _ (1 + l.length) _ l' RY.out (by omega) (by omega) (by omega)).mono ?_
  rintro e w14 ⟨rfl, hrow, b14, g14⟩
  have t14 := b14.size
  replace RW : Hid (StrRow w14 _ uRW _) := RW.out.apart g14 (fun k hk e => by have h1 := (FY.out k e).1; have h2 := FW.out k hk; omega)
  replace RG : Hid (StrRow w14 _ uRG _) := RG.out.apart g14 (fun k hk e => by have h1 := (FY.out k e).2; have h2 := FG.out k hk; omega)
  replace B : Hid (Below w.heap.size w w14) := B.out.trans (b14.mono (by omega))
  clear hrow b14 g14 RY
  have hk0 : ¬ ((1 + l.length + l'.length : Nat) : Int) < 0 := by omega
  have hk1 : ¬ (1 + (l.length : Int) + (l'.length : Int)) < 0 := by omega
  go_wp2_with fail
  refine (eqStringS_same _ _ _ _ _ (opR (fun x y => x && !y) l l') RG.out RW.out (by omega)).mono ?_
  rintro e w15 ⟨rfl, b15⟩
  have t15 := b15.size
  replace RW := Lib.hid (RW.out.below b15)
  replace RG := Lib.hid (RG.out.below b15)
  replace B := Lib.hid (belStep B.out b15)
  clear b15
  go_wp2_with fail
  refine (markStringS_at _ _ 1 _ (opR (fun x y => x && !y) l l') RG.out (by omega) (by omega) (by omega)).mono ?_
  rintro e w16 ⟨rfl, hrow, b16⟩
  have t16 := b16.size
  replace RW : Hid (StrRow w16 _ uRW _) := RW.out.under b16 (fun k hk => by have h1 := FW.out k hk; omega)
  have RM := Lib.hid hrow
  replace B : Hid (Below w.heap.size w w16) := B.out.trans (b16.mono (by omega))
  clear hrow b16 RG
  have hp : ¬ ((1 + (opR (fun x y => x && !y) l l').length : Nat) : Int) < 0 := by omega
  have hp' : ¬ (1 + ((opR (fun x y => x && !y) l l').length : Int)) < 0 := by omega
  go_wp2_with fail
  refine (heldStringS_at _ _ 1 (opR (fun x y => x && !y) l l').length _ RM.out (by omega) (by omega)).mono ?_
  rintro e w17 ⟨rfl, b17⟩
  have t17 := b17.size
  replace RW := Lib.hid (RW.out.below b17)
  replace RM := Lib.hid (RM.out.below b17)
  replace B := Lib.hid (belStep B.out b17)
  clear b17
  go_wp2_with fail
  refine (toStringS_any _ _ l (HW.out _ B.out) hlen).mono ?_
  rintro e w18 ⟨uRD, rfl, hrow, b18⟩
  have t18 := b18.size
  replace RW := Lib.hid (RW.out.below b18)
  replace RM := Lib.hid (RM.out.below b18)
  replace B := Lib.hid (belStep B.out b18)
  clear b18
  have RD := Lib.hid hrow
  clear hrow
  go_wp2_with fail
  refine (toStringS_any _ _ l' (HW'.out _ B.out) hlen').mono ?_
  rintro e w19 ⟨uRD2, rfl, hrow, b19⟩
  have t19 := b19.size
  replace RW := Lib.hid (RW.out.below b19)
  replace RM := Lib.hid (RM.out.below b19)
  replace RD := Lib.hid (RD.out.below b19)
  replace B := Lib.hid (belStep B.out b19)
  clear b19
  have RD2 := Lib.hid hrow
  clear hrow
  go_wp2_with fail
  refine (iSpaceLess_any _ _ _ l l' RD.out.strs RD2.out.strs HF.out HF'.out).mono ?_
  rintro e w20 ⟨uRH, rfl, hrow, b20⟩
  have t20 := b20.size
  replace RW := Lib.hid (RW.out.below b20)
  replace RM := Lib.hid (RM.out.below b20)
  replace RD := Lib.hid (RD.out.below b20)
  replace RD2 := Lib.hid (RD2.out.below b20)
  replace B := Lib.hid (belStep B.out b20)
  clear b20
  have RH := Lib.hid hrow
  clear hrow
  go_wp2_with fail
  refine (eqStringS_same _ _ _ _ _ (opR (fun x y => x && !y) l l') RH.out RW.out (by omega)).mono ?_
  rintro e w21 ⟨rfl, b21⟩
  have t21 := b21.size
  replace RW := Lib.hid (RW.out.below b21)
  replace RM := Lib.hid (RM.out.below b21)
  replace RD := Lib.hid (RD.out.below b21)
  replace RD2 := Lib.hid (RD2.out.below b21)
  replace RH := Lib.hid (RH.out.below b21)
  replace B := Lib.hid (belStep B.out b21)
  clear b21
  go_wp2_with fail
  refine (heldStringS_at _ _ 1 (opR (fun x y => x && !y) l l').length _ RM.out (by omega) (by omega)).mono ?_
  rintro e w22 ⟨rfl, b22⟩
  have t22 := b22.size
  replace RW := Lib.hid (RW.out.below b22)
  replace RM := Lib.hid (RM.out.below b22)
  replace RD := Lib.hid (RD.out.below b22)
  replace RD2 := Lib.hid (RD2.out.below b22)
  replace RH := Lib.hid (RH.out.below b22)
  replace B := Lib.hid (belStep B.out b22)
  clear b22
  go_wp2
  go_ret
  exact ⟨rfl, B.out⟩

set_option maxRecDepth 100000 in
theorem lifted_FnExactSpaceLess (os : Os) (started : os.Started) (H : Type) (enc : TypeId × Value → H) :
    ReturnsInHanded {} Try.checked os 7 .any (Rows.fnExactSpaceLessSpec.pre6 enc Try.prog Try.f7 Rows.fnExactSpaceLessRow.domain false) (Rows.fnExactSpaceLessSpec.post enc Try.prog Try.f7 false true false false) := by
  refine returnsInHanded_of_change (C := Try.checked) own started (by kernel_rfl) Try.func7
    (ChangeSpec.witness6 (enc := enc) (C := Try.checked) false ⟨#[], #[.slice none 0 0, .slice none 0 0], []⟩ 8 (by kernel_rfl) (by kernel_rfl) (by kernel_rfl) (by kernel_rfl)) ?_
  intro W base args ds gs before hval0 hW hcnd _
  have hval : ∀ (j : Nat) t v, Try.f7.params[j]? = some t → args[j]? = some v → Value.okWide Try.prog W .any base t v := hval0
  have hW' := hW
  obtain ⟨p, q, hA0, hV, rfl, hfz, hnd⟩ := hW
  have hA : DataW.TrodAll enc Try.prog W 0 (fun _ => true) true Try.f7.params.toList args.toList ds p := hA0
  rw [Try.params7] at hA hval
  obtain ⟨v0, vs0, d0, ds0, p0, q0, hargs, rfl, rfl, h0, r0⟩ := trodAll_cons hA
  obtain ⟨v1, vs1, d1, ds1, p1, q1, rfl, rfl, rfl, h1, r1⟩ := trodAll_cons r0
  obtain ⟨rfl, rfl, rfl⟩ := trodAll_nil r1
  obtain rfl : args = #[v0, v1] := by cases args; simp_all
  obtain ⟨rfl, rfl⟩ := trodVars_none hV
  have k0 := h0
  have lt0 : ∀ x ∈ p0, x.block < W.heap.size := by obtain ⟨m, hm⟩ := k0; exact DataW.trod_lt m _ _ _ hm
  have k1 := h1
  have lt1 : ∀ x ∈ p1, x.block < W.heap.size := by obtain ⟨m, hm⟩ := k1; exact DataW.trod_lt m _ _ _ hm
  obtain ⟨l0, w0, z0⟩ := strs_of h0 (okWide_slice Try.underlying22 (hval 0 22 v0 rfl rfl))
  obtain ⟨l1, w1, z1⟩ := strs_of h1 (okWide_slice Try.underlying22 (hval 1 22 v1 rfl rfl))
  clear hA0 hval0
  refine (walk_FnExactSpaceLess v0 l0 v1 l1 W w0 z0 w1 z1).mono fun e W' ⟨he, bel⟩ => ?_
  subst he
  exact ⟨_, rfl, _, _, _, [], _, [], hW', trodAll_mk1 (shut_bool Try.underlying4 _), (trodAll_cons_mk (Below.trod laidOut (by kernel_rfl) (of_decide_eq_true (by kernel_rfl)) k0 bel lt0) (trodAll_cons_mk (Below.trod laidOut (by kernel_rfl) (of_decide_eq_true (by kernel_rfl)) k1 bel lt1) (trodAll_mk0))), rfl, bel.frame _, fun h => by cases h⟩

theorem over_FnExactSpaceLess : Rows.fnExactSpaceLessRow.holds Try.pinned (OpenSpec.ofChange Rows.fnExactSpaceLessSpec) :=
  OpenClaim.holds_of_wide 7 Try.f7 rfl rfl rfl rfl rfl rfl rfl ⟨rfl, rfl, rfl, rfl, rfl⟩ rfl rfl rfl rfl rfl (by kernel_rfl) Try.func7 (by kernel_rfl)
    (of_decide_eq_true (by kernel_rfl)) (by unfold Func.isWrapper; first | (rw [if_pos (by decide +kernel)]; kernel_rfl) | (rw [if_neg (by decide +kernel)]; exact ⟨rfl, rfl⟩))
    (fun os started H enc _ => lifted_FnExactSpaceLess os started H enc)

theorem proved_FnExactSpaceLess : Rows.FnExactSpaceLessSaid := over_FnExactSpaceLess

end Go.Proofs.Ytoaollalalbefaa
