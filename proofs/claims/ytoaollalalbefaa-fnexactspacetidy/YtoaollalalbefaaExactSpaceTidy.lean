/-
  Proved: at every slice of texts the program's SpaceTidy returns what the model's does; what it returns is its own, no argument is written, and the same call answers the same again. No condition.
-/
import Derived.Test.YtoaollalalbefaaSpaceSpecE
import Derived.Test.YtoaollalalbefaaStrMark
namespace Go.Proofs.Ytoaollalalbefaa
open Go.ChangeShapes Go.WideShapes Go.ChangeAt Go.RowKit Go.Joins
open Go.ChangeMaps (open_string)
set_option linter.unusedVariables false

set_option maxRecDepth 100000 in
set_option maxHeartbeats 4000000 in
theorem walk_FnExactSpaceTidy (v : Value) (l : List ByteArray) (w : World) (hl : Strs w w.heap.size v l) (hz : ∀ s ∈ l, s.size ≤ maxLen) :
    Calls Try.prog 3 #[v] w fun e w' => e = .returned (.bool true) ∧ Below w.heap.size w w' := by
  have HW : Hid (∀ W, Below w.heap.size w W → Strs W W.heap.size v l) := fun W hb => (hl.below hb (Nat.le_refl _)).mono hb.size
  have HSZ := Lib.hid (szStringS_big w v l hl hz)
  have hrl : (tidyR l).length ≤ 64 := tidyR_len l
  clear hl hz
  go_enter Try.func3, Try.ntmps3
  go_wp2_with fail
  refine HSZ.out.mono ?_
  rintro e w1 ⟨rfl | ⟨r, rfl, hr, hsm⟩, b1⟩
  · go_wp2
    go_ret
    exact ⟨rfl, b1⟩
  have hr0 : ¬ ((r : Int) < 0) := by omega
  have HF : Hid (Fit6 l) := hsm.2
  have hlen := hsm.1
  have B := Lib.hid b1
  have sz := b1.size
  clear hsm b1 HSZ
  go_wp2_with fail
  refine (toStringS_any _ _ l (HW.out _ B.out) hlen).mono ?_
  rintro e w2 ⟨uRA, rfl, hrow, b2⟩
  have t2 := b2.size
  replace B := Lib.hid (belStep B.out b2)
  clear b2
  have RA := Lib.hid hrow
  clear hrow
  go_wp2_with fail
  refine (sSpaceTidy_any _ _ l RA.out.strs HF.out).mono ?_
  rintro e w3 ⟨uRW, rfl, hrow, b3⟩
  have t3 := b3.size
  replace RA := Lib.hid (RA.out.below b3)
  replace B := Lib.hid (belStep B.out b3)
  clear b3
  have RW := Lib.hid hrow
  clear hrow
  have FW : Hid (∀ k, uRW.ownBlock = some k → k < w3.heap.size) := fun k hk => (World.ownsRow.lt RW.out k hk).2
  clear RA
  go_wp2_with fail
  refine (toStringS_any _ _ l (HW.out _ B.out) hlen).mono ?_
  rintro e w4 ⟨uRX, rfl, hrow, b4⟩
  have t4 := b4.size
  replace RW := Lib.hid (RW.out.below b4)
  replace B := Lib.hid (belStep B.out b4)
  clear b4
  have RX := Lib.hid hrow
  clear hrow
  have FX : Hid (∀ k, uRX.ownBlock = some k → w3.heap.size ≤ k ∧ k < w4.heap.size) := fun k hk => World.ownsRow.lt RX.out k hk
  go_wp2_with fail
  refine (iSpaceTidy_any _ _ l RX.out.strs HF.out).mono ?_
  rintro e w5 ⟨uRG, rfl, hrow, b5⟩
  have t5 := b5.size
  replace RW := Lib.hid (RW.out.below b5)
  replace RX := Lib.hid (RX.out.below b5)
  replace B := Lib.hid (belStep B.out b5)
  clear b5
  have RG := Lib.hid hrow
  clear hrow
  have FG : Hid (∀ k, uRG.ownBlock = some k → w4.heap.size ≤ k) := fun k hk => (World.ownsRow.lt RG.out k hk).1
  go_wp2_with fail
  refine (eqStringS_same _ _ _ _ _ (tidyR l) RG.out RW.out (by omega)).mono ?_
  rintro e w6 ⟨rfl, b6⟩
  have t6 := b6.size
  replace RW := Lib.hid (RW.out.below b6)
  replace RX := Lib.hid (RX.out.below b6)
  replace RG := Lib.hid (RG.out.below b6)
  replace B := Lib.hid (belStep B.out b6)
  clear b6
  go_wp2_with fail
  refine (toStringS_any _ _ l (HW.out _ B.out) hlen).mono ?_
  rintro e w7 ⟨uRC, rfl, hrow, b7⟩
  have t7 := b7.size
  replace RW := Lib.hid (RW.out.below b7)
  replace RX := Lib.hid (RX.out.below b7)
  replace RG := Lib.hid (RG.out.below b7)
  replace B := Lib.hid (belStep B.out b7)
  clear b7
  have RC := Lib.hid hrow
  clear hrow
  go_wp2_with fail
  refine (eqStringS_same _ _ _ _ _ l RX.out RC.out (by omega)).mono ?_
  rintro e w8 ⟨rfl, b8⟩
  have t8 := b8.size
  replace RW := Lib.hid (RW.out.below b8)
  replace RX := Lib.hid (RX.out.below b8)
  replace RG := Lib.hid (RG.out.below b8)
  replace RC := Lib.hid (RC.out.below b8)
  replace B := Lib.hid (belStep B.out b8)
  clear b8
  clear RC
  go_wp2_with fail
  refine (markStringS_own _ _ 1 _ l RX.out (by omega) (by omega) (by omega)).mono ?_
  rintro e w9 ⟨rfl, hrow, b9, g9⟩
  have t9 := b9.size
  replace RW : Hid (StrRow w9 _ uRW _) := RW.out.apart g9 (fun k hk e => by have h1 := (FX.out k e).1; have h2 := FW.out k hk; omega)
  replace RG : Hid (StrRow w9 _ uRG _) := RG.out.apart g9 (fun k hk e => by have h1 := (FX.out k e).2; have h2 := FG.out k hk; omega)
  replace B : Hid (Below w.heap.size w w9) := B.out.trans (b9.mono (by omega))
  clear hrow b9 g9 RX
  have hk0 : ¬ ((1 + l.length : Nat) : Int) < 0 := by omega
  have hk1 : ¬ (1 + (l.length : Int)) < 0 := by omega
  go_wp2_with fail
  refine (eqStringS_same _ _ _ _ _ (tidyR l) RG.out RW.out (by omega)).mono ?_
  rintro e w10 ⟨rfl, b10⟩
  have t10 := b10.size
  replace RW := Lib.hid (RW.out.below b10)
  replace RG := Lib.hid (RG.out.below b10)
  replace B := Lib.hid (belStep B.out b10)
  clear b10
  go_wp2_with fail
  refine (markStringS_at _ _ 1 _ (tidyR l) RG.out (by omega) (by omega) (by omega)).mono ?_
  rintro e w11 ⟨rfl, hrow, b11⟩
  have t11 := b11.size
  replace RW : Hid (StrRow w11 _ uRW _) := RW.out.under b11 (fun k hk => by have h1 := FW.out k hk; omega)
  have RM := Lib.hid hrow
  replace B : Hid (Below w.heap.size w w11) := B.out.trans (b11.mono (by omega))
  clear hrow b11 RG
  have hp : ¬ ((1 + (tidyR l).length : Nat) : Int) < 0 := by omega
  have hp' : ¬ (1 + ((tidyR l).length : Int)) < 0 := by omega
  go_wp2_with fail
  refine (heldStringS_at _ _ 1 (tidyR l).length _ RM.out (by omega) (by omega)).mono ?_
  rintro e w12 ⟨rfl, b12⟩
  have t12 := b12.size
  replace RW := Lib.hid (RW.out.below b12)
  replace RM := Lib.hid (RM.out.below b12)
  replace B := Lib.hid (belStep B.out b12)
  clear b12
  go_wp2_with fail
  refine (toStringS_any _ _ l (HW.out _ B.out) hlen).mono ?_
  rintro e w13 ⟨uRD, rfl, hrow, b13⟩
  have t13 := b13.size
  replace RW := Lib.hid (RW.out.below b13)
  replace RM := Lib.hid (RM.out.below b13)
  replace B := Lib.hid (belStep B.out b13)
  clear b13
  have RD := Lib.hid hrow
  clear hrow
  go_wp2_with fail
  refine (iSpaceTidy_any _ _ l RD.out.strs HF.out).mono ?_
  rintro e w14 ⟨uRH, rfl, hrow, b14⟩
  have t14 := b14.size
  replace RW := Lib.hid (RW.out.below b14)
  replace RM := Lib.hid (RM.out.below b14)
  replace RD := Lib.hid (RD.out.below b14)
  replace B := Lib.hid (belStep B.out b14)
  clear b14
  have RH := Lib.hid hrow
  clear hrow
  go_wp2_with fail
  refine (eqStringS_same _ _ _ _ _ (tidyR l) RH.out RW.out (by omega)).mono ?_
  rintro e w15 ⟨rfl, b15⟩
  have t15 := b15.size
  replace RW := Lib.hid (RW.out.below b15)
  replace RM := Lib.hid (RM.out.below b15)
  replace RD := Lib.hid (RD.out.below b15)
  replace RH := Lib.hid (RH.out.below b15)
  replace B := Lib.hid (belStep B.out b15)
  clear b15
  go_wp2_with fail
  refine (heldStringS_at _ _ 1 (tidyR l).length _ RM.out (by omega) (by omega)).mono ?_
  rintro e w16 ⟨rfl, b16⟩
  have t16 := b16.size
  replace RW := Lib.hid (RW.out.below b16)
  replace RM := Lib.hid (RM.out.below b16)
  replace RD := Lib.hid (RD.out.below b16)
  replace RH := Lib.hid (RH.out.below b16)
  replace B := Lib.hid (belStep B.out b16)
  clear b16
  go_wp2
  go_ret
  exact ⟨rfl, B.out⟩

set_option maxRecDepth 100000 in
theorem lifted_FnExactSpaceTidy (os : Os) (started : os.Started) (H : Type) (enc : TypeId × Value → H) :
    ReturnsInHanded {} Try.checked os 3 .any (Rows.fnExactSpaceTidySpec.pre6 enc Try.prog Try.f3 Rows.fnExactSpaceTidyRow.domain false) (Rows.fnExactSpaceTidySpec.post enc Try.prog Try.f3 false true false false) := by
  refine returnsInHanded_of_change (C := Try.checked) own started (by kernel_rfl) Try.func3
    (ChangeSpec.witness6 (enc := enc) (C := Try.checked) false ⟨#[], #[.slice none 0 0], []⟩ 8 (by kernel_rfl) (by kernel_rfl) (by kernel_rfl) (by kernel_rfl)) ?_
  intro W base args ds gs before hval0 hW hcnd _
  have hval : ∀ (j : Nat) t v, Try.f3.params[j]? = some t → args[j]? = some v → Value.okWide Try.prog W .any base t v := hval0
  have hW' := hW
  obtain ⟨p, q, hA0, hV, rfl, hfz, hnd⟩ := hW
  have hA : DataW.TrodAll enc Try.prog W 0 (fun _ => true) true Try.f3.params.toList args.toList ds p := hA0
  rw [Try.params3] at hA hval
  obtain ⟨v0, vs0, d0, ds0, p0, q0, hargs, rfl, rfl, h0, r0⟩ := trodAll_cons hA
  obtain ⟨rfl, rfl, rfl⟩ := trodAll_nil r0
  obtain rfl : args = #[v0] := by cases args; simp_all
  obtain ⟨rfl, rfl⟩ := trodVars_none hV
  have k0 := h0
  have lt0 : ∀ x ∈ p0, x.block < W.heap.size := by obtain ⟨m, hm⟩ := k0; exact DataW.trod_lt m _ _ _ hm
  obtain ⟨l0, w0, z0⟩ := strs_of h0 (okWide_slice Try.underlying22 (hval 0 22 v0 rfl rfl))
  clear hA0 hval0
  refine (walk_FnExactSpaceTidy v0 l0 W w0 z0).mono fun e W' ⟨he, bel⟩ => ?_
  subst he
  exact ⟨_, rfl, _, _, _, [], _, [], hW', trodAll_mk1 (shut_bool Try.underlying4 _), (trodAll_cons_mk (Below.trod laidOut (by kernel_rfl) (of_decide_eq_true (by kernel_rfl)) k0 bel lt0) (trodAll_mk0)), rfl, bel.frame _, fun h => by cases h⟩

theorem over_FnExactSpaceTidy : Rows.fnExactSpaceTidyRow.holds Try.pinned (OpenSpec.ofChange Rows.fnExactSpaceTidySpec) :=
  OpenClaim.holds_of_wide 3 Try.f3 rfl rfl rfl rfl rfl rfl rfl ⟨rfl, rfl, rfl, rfl, rfl⟩ rfl rfl rfl rfl rfl (by kernel_rfl) Try.func3 (by kernel_rfl)
    (of_decide_eq_true (by kernel_rfl)) (by unfold Func.isWrapper; first | (rw [if_pos (by decide +kernel)]; kernel_rfl) | (rw [if_neg (by decide +kernel)]; exact ⟨rfl, rfl⟩))
    (fun os started H enc _ => lifted_FnExactSpaceTidy os started H enc)

theorem proved_FnExactSpaceTidy : Rows.FnExactSpaceTidySaid := over_FnExactSpaceTidy

end Go.Proofs.Ytoaollalalbefaa
