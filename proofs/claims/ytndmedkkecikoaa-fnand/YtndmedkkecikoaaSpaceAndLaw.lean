/-
  Proved: promise 21 (in both, a head is in what they have in common), at every code from which the spaces are drawn; the code reads on as it did. No condition.
-/
import Derived.Test.YtndmedkkecikoaaSpaceHasLx
namespace Go.Proofs.Ytndmedkkecikoaa
open Go.ChangeShapes Go.WideShapes Go.ChangeAt Go.RowKit Go.Joins
set_option linter.unusedVariables false

set_option maxRecDepth 100000 in
set_option maxHeartbeats 40000000 in
theorem walk_FnAnd (a : Option Addr) (len cap : Nat) (w : World) (hb : BytesIn w w.heap.size a len cap) :
    Calls Try.prog 7 #[.slice a len cap] w fun e w' => e = .returned (.bool true) ∧ Below w.heap.size w w' := by
  have HB := Lib.hid hb
  have hm : (len : Int) ≤ maxLen := by have := hb.1; have := hb.2.1; omega
  unfold maxLen at hm
  clear hb
  by_cases hlen : (1048576 : Int) < (len : Int)
  · go_enter Try.func7, Try.ntmps7
    go_wp2
    go_ret
    exact ⟨rfl, Below.refl _ _⟩
  go_enter Try.func7, Try.ntmps7
  go_wp2_with fail
  refine (drawSpaceAnd_any _ _ _ _ HB.out).mono ?_
  rintro e w1 ⟨v, l, v', l', rfl, hsh, hsh', hx, hx', b1⟩
  have HF : Hid (Fit6 l) := hsh.fit
  have HF' : Hid (Fit6 l') := hsh'.fit
  have HX : Hid (∀ W, Below w1.heap.size w1 W → Strs W W.heap.size v l) := fun W hb => (hx.below hb (Nat.le_refl _)).mono hb.size
  have HX' : Hid (∀ W, Below w1.heap.size w1 W → Strs W W.heap.size v' l') := fun W hb => (hx'.below hb (Nat.le_refl _)).mono hb.size
  have BW : Hid (∀ W, Below w1.heap.size w1 W → Below w.heap.size w W) := fun W hb => belStep b1 hb
  clear hsh hsh' hx hx' b1
  go_wp2_with fail
  refine (iSpaceAnd_any _ _ _ l l' (HX.out _ (Below.refl _ _)) (HX'.out _ (Below.refl _ _)) HF.out HF'.out).mono ?_
  rintro e w2 ⟨u, rfl, r2, B⟩
  have RU := Lib.hid r2
  replace B := Lib.hid B
  clear r2
  go_wp2_with fail
  refine (sSpaceAnd_any _ _ _ l l' (HX.out _ B.out) (HX'.out _ B.out) HF.out HF'.out).mono ?_
  rintro e w3 ⟨u3, rfl, r3, b3⟩
  replace RU := Lib.hid (RU.out.below b3)
  have R3 := Lib.hid r3
  replace B := Lib.hid (belStep B.out b3)
  clear r3 b3
  have hlen2 := opR_len (fun x y => x && y) l l'
  go_wp2_with fail
  refine (lxTexts_same _ _ _ _ _ _ RU.out R3.out (by omega)).mono ?_
  rintro e w4 ⟨rfl, b4⟩
  replace RU := Lib.hid (RU.out.below b4)
  replace B := Lib.hid (belStep B.out b4)
  clear b4 R3
  go_wp2_with fail
  refine (sSpaceOk_any _ _ l (HX.out _ B.out) HF.out).mono ?_
  rintro e w5 ⟨rfl, b5⟩
  replace RU := Lib.hid (RU.out.below b5)
  replace B := Lib.hid (belStep B.out b5)
  clear b5
  cases hk : okSp l
  · go_wp2_with fail
    refine (sSpaceAnd_any _ _ _ l l' (HX.out _ B.out) (HX'.out _ B.out) HF.out HF'.out).mono ?_
    rintro e w6 ⟨u6, rfl, r6, b6⟩
    replace RU := Lib.hid (RU.out.below b6)
    have R6 := Lib.hid r6
    replace B := Lib.hid (belStep B.out b6)
    clear r6 b6
    go_wp2_with fail
    refine (lxTexts_same _ _ _ _ _ _ RU.out R6.out (by omega)).mono ?_
    rintro e w7 ⟨rfl, b7⟩
    go_wp2
    go_ret
    exact ⟨rfl, BW.out _ (belStep B.out b7)⟩
  go_wp2_with fail
  refine (sSpaceOk_any _ _ l' (HX'.out _ B.out) HF'.out).mono ?_
  rintro e w6 ⟨rfl, b6⟩
  replace RU := Lib.hid (RU.out.below b6)
  replace B := Lib.hid (belStep B.out b6)
  clear b6
  cases hk' : okSp l'
  · go_wp2_with fail
    refine (sSpaceAnd_any _ _ _ l l' (HX.out _ B.out) (HX'.out _ B.out) HF.out HF'.out).mono ?_
    rintro e w6 ⟨u6, rfl, r6, b6⟩
    replace RU := Lib.hid (RU.out.below b6)
    have R6 := Lib.hid r6
    replace B := Lib.hid (belStep B.out b6)
    clear r6 b6
    go_wp2_with fail
    refine (lxTexts_same _ _ _ _ _ _ RU.out R6.out (by omega)).mono ?_
    rintro e w7 ⟨rfl, b7⟩
    go_wp2
    go_ret
    exact ⟨rfl, BW.out _ (belStep B.out b7)⟩
  have HKS := okSp_op (fun x y => x && y) hk hk'
  have HH0 : Hid (∀ (n : Nat) (W : World), Below w6.heap.size w6 W → Calls Try.prog 16 #[u, lxV n] W fun e w' => e = .returned (.bool (inSp (opR (fun x y => x && y) l l') (q6 n))) ∧ Below W.heap.size W w') := fun n W hW => has_lx n W _ _ ((RU.out.strs.below hW (Nat.le_refl _)).mono hW.size) (fit_op _ _ _) HKS
  have HH1 : Hid (∀ (n : Nat) (W : World), Below w6.heap.size w6 W → Calls Try.prog 16 #[v, lxV n] W fun e w' => e = .returned (.bool (inSp l (q6 n))) ∧ Below W.heap.size W w') := fun n W hW => has_lx n W _ _ (HX.out _ (belStep B.out hW)) HF.out hk
  have HH2 : Hid (∀ (n : Nat) (W : World), Below w6.heap.size w6 W → Calls Try.prog 16 #[v', lxV n] W fun e w' => e = .returned (.bool (inSp l' (q6 n))) ∧ Below W.heap.size W w') := fun n W hW => has_lx n W _ _ (HX'.out _ (belStep B.out hW)) HF'.out hk'
  have HPQ : Hid (∀ n, inSp (opR (fun x y => x && y) l l') (q6 n) = (fun x y => x && y) (inSp l (q6 n)) (inSp l' (q6 n))) := fun n => inSp_op _ hk hk' rfl
  unfold lxV at HH0 HH1 HH2
  have H06 := Lib.hid (Below.refl w6.heap.size w6)
  go_wp2
  go_loopw [6] (fun i wr => ∃ k : Nat, k ≤ 64 ∧ i = .int .i64 k ∧ Below w6.heap.size w6 wr) (fun i _ => 64 - (intOf i).toNat)
  case atStart => exact ⟨0, Nat.zero_le _, rfl, H06.out⟩
  case round =>
    obtain ⟨k, hk64, rfl, hbel⟩ := hrel
    have HBL := Lib.hid hbel
    clear hbel
    by_cases hlt : k < 64
    · have hkz : (k : Int) < 64 := by omega
      go_wp2_with fail
      refine (lxHead_at k (by omega) _).mono ?_
      rintro e w7 ⟨rfl, b7⟩
      have C0 := Lib.hid (HH0.out k)
      have C1 := Lib.hid (HH1.out k)
      have C2 := Lib.hid (HH2.out k)
      have hpq := HPQ.out k
      have B7 : Hid (Below w6.heap.size w6 (w7.alloc (.cells #[.int .i64 ((k : Int) / 16 % 4), .int .i64 ((k : Int) / 4 % 4), .int .i64 ((k : Int) % 4)] 25))) := (belStep HBL.out b7).alloc (Nat.le_trans HBL.out.size b7.size) _
      have HCL : Hid (∀ W, Below (w7.alloc (.cells #[.int .i64 ((k : Int) / 16 % 4), .int .i64 ((k : Int) / 4 % 4), .int .i64 ((k : Int) % 4)] 25)).heap.size (w7.alloc (.cells #[.int .i64 ((k : Int) / 16 % 4), .int .i64 ((k : Int) / 4 % 4), .int .i64 ((k : Int) % 4)] 25)) W →
          W.cell? ⟨w7.heap.size, 0, none⟩ = some (.int .i64 ((k : Int) / 16 % 4)) ∧ W.cell? ⟨w7.heap.size, 1, none⟩ = some (.int .i64 ((k : Int) / 4 % 4)) ∧ W.cell? ⟨w7.heap.size, 2, none⟩ = some (.int .i64 ((k : Int) % 4))) := fun W hW => trioCells ((hW.block _ (by simp)).trans (newBlockM w7 _))
      clear b7
      generalize ((k : Int) / 16 % 4) = x0 at *
      generalize ((k : Int) / 4 % 4) = x1 at *
      generalize ((k : Int) % 4) = x2 at *
      generalize inSp (opR (fun x y => x && y) l l') (q6 k) = p at *
      generalize inSp l (q6 k) = x at *
      generalize inSp l' (q6 k) = y at *
      go_wp2_with fail
      generalize (w7.alloc (.cells #[.int .i64 x0, .int .i64 x1, .int .i64 x2] 25)) = WB at *
      have D0 : Hid (Below WB.heap.size WB WB.drew) := (Below.refl _ _).drew
      cases x
      · simp at hpq
        subst hpq
        obtain ⟨c0, c1, c2⟩ := HCL.out _ D0.out
        first
          | go_region_with (first
                | (go_at_call 16; ((with_reducible refine (C0.out _ (belStep B7.out D0.out)).mono ?_); rintro e w8 ⟨rfl, b8⟩; have D1 : Hid (Below WB.heap.size WB w8) := belStep D0.out b8; obtain ⟨c0, c1, c2⟩ := HCL.out _ D1.out; clear b8))
                | (go_at_call 16; ((with_reducible refine (C1.out _ (belStep B7.out D1.out)).mono ?_); rintro e w9 ⟨rfl, b9⟩; have D2 : Hid (Below WB.heap.size WB w9) := belStep D1.out b9; obtain ⟨c0, c1, c2⟩ := HCL.out _ D2.out; clear b9)))
          | fail
        all_goals
          go_wp2
          go_roundw
          case rel => exact ⟨k + 1, by omega, by go_num, belStep B7.out D2.out⟩
          case measure => simp [intOf]; omega
      · cases y <;> simp at hpq <;> subst hpq
        all_goals
          go_region_held3 (fun W' => W'.cell? ⟨w7.heap.size, 0, none⟩ = some (.int .i64 x0) ∧ W'.cell? ⟨w7.heap.size, 1, none⟩ = some (.int .i64 x1) ∧ W'.cell? ⟨w7.heap.size, 2, none⟩ = some (.int .i64 x2))
              (first | exact HCL.out _ D0.out | exact HCL.out _ D3.out | exact HCL.out _ D2.out | exact HCL.out _ D1.out)
              (first
                | (go_at_call 16; ((with_reducible refine (C0.out _ (belStep B7.out D0.out)).mono ?_); rintro e w8 ⟨rfl, b8⟩; have D1 : Hid (Below WB.heap.size WB w8) := belStep D0.out b8; clear b8))
                | (go_at_call 16; ((with_reducible refine (C1.out _ (belStep B7.out D1.out)).mono ?_); rintro e w9 ⟨rfl, b9⟩; have D2 : Hid (Below WB.heap.size WB w9) := belStep D1.out b9; clear b9))
                | (go_at_call 16; ((with_reducible refine (C2.out _ (belStep B7.out D2.out)).mono ?_); rintro e w10 ⟨rfl, b10⟩; have D3 : Hid (Below WB.heap.size WB w10) := belStep D2.out b10; clear b10)))
          go_wp2
          go_roundw
          case rel => exact ⟨k + 1, by omega, by go_num, belStep B7.out D3.out⟩
          case measure => simp [intOf]; omega
    · obtain rfl : k = 64 := by omega
      clear HH0 HH1 HH2 HPQ H06
      replace RU := Lib.hid (RU.out.below HBL.out)
      replace B := Lib.hid (belStep B.out HBL.out)
      clear HBL
      go_wp2_with fail
      refine (iSpaceAnd_any _ _ _ l' l (HX'.out _ B.out) (HX.out _ B.out) HF'.out HF.out).mono ?_
      rintro e w21 ⟨u21, rfl, r21, b21⟩
      replace RU := Lib.hid (RU.out.below b21)
      replace B := Lib.hid (belStep B.out b21)
      clear b21
      rw [op_comm (fun x y => x && y) (by decide) hk' hk] at r21
      have P1 := Lib.hid r21
      clear r21
      go_wp2_with fail
      refine (lxTexts_any _ _ _ _ _ P1.out.strs RU.out.strs).mono ?_
      rintro e w22 ⟨rfl, b22⟩
      rw [sameT_refl]
      replace RU := Lib.hid (RU.out.below b22)
      replace P1 := Lib.hid (P1.out.below b22)
      replace B := Lib.hid (belStep B.out b22)
      clear b22
      clear P1
      have RA := Lib.hid (oneRow w22 ⟨#[120, 120, 120, 120, 120, 120]⟩ (Nat.zero_le _))
      have HFA : Hid (Fit6 [⟨#[120, 120, 120, 120, 120, 120]⟩]) := strs_max fun x hx => by simp at hx; subst hx; decide
      have b22 := below_alloc1 w22 (.cells #[.string ⟨#[120, 120, 120, 120, 120, 120]⟩] 9)
      replace RU := Lib.hid (RU.out.below b22)
      replace B := Lib.hid (belStep B.out b22)
      clear b22
      go_wp2_with fail
      refine (iSpaceAnd_any _ _ _ l [⟨#[120, 120, 120, 120, 120, 120]⟩] (HX.out _ B.out) RA.out.strs HF.out HFA.out).mono ?_
      rintro e w23 ⟨u23, rfl, r23, b23⟩
      replace RU := Lib.hid (RU.out.below b23)
      replace RA := Lib.hid (RA.out.below b23)
      replace B := Lib.hid (belStep B.out b23)
      clear b23
      rw [op_all hk] at r23
      have P1 := Lib.hid r23
      clear r23
      go_wp2_with fail
      refine (iSpaceTidy_any _ _ l (HX.out _ B.out) HF.out).mono ?_
      rintro e w24 ⟨u24, rfl, r24, b24⟩
      replace RU := Lib.hid (RU.out.below b24)
      replace RA := Lib.hid (RA.out.below b24)
      replace P1 := Lib.hid (P1.out.below b24)
      replace B := Lib.hid (belStep B.out b24)
      clear b24
      have P2 := Lib.hid r24
      clear r24
      go_wp2_with fail
      refine (lxTexts_any _ _ _ _ _ P1.out.strs P2.out.strs).mono ?_
      rintro e w25 ⟨rfl, b25⟩
      rw [sameT_refl]
      replace RU := Lib.hid (RU.out.below b25)
      replace RA := Lib.hid (RA.out.below b25)
      replace P1 := Lib.hid (P1.out.below b25)
      replace P2 := Lib.hid (P2.out.below b25)
      replace B := Lib.hid (belStep B.out b25)
      clear b25
      go_wp2
      go_ret
      exact ⟨rfl, BW.out _ B.out⟩

set_option maxRecDepth 100000 in
theorem lifted_FnAnd (os : Os) (started : os.Started) (H : Type) (enc : TypeId × Value → H) :
    ReturnsInHanded {} Try.checked os 7 .any (Rows.fnAndSpec.pre6 enc Try.prog Try.f7 Rows.fnAndRow.domain false) (Rows.fnAndSpec.post enc Try.prog Try.f7 false true false false) := by
  refine returnsInHanded_of_change (C := Try.checked) own started (by kernel_rfl) Try.func7
    (ChangeSpec.witness6 (enc := enc) (C := Try.checked) false ⟨#[], #[.slice none 0 0], []⟩ 8 (by kernel_rfl) (by kernel_rfl) (by kernel_rfl) (by kernel_rfl)) ?_
  intro W base args ds gs before hval0 hW hcnd _
  have hval : ∀ (j : Nat) t v, Try.f7.params[j]? = some t → args[j]? = some v → Value.okWide Try.prog W .any base t v := hval0
  have hW' := hW
  obtain ⟨p, q, hA0, hV, rfl, hfz, hnd⟩ := hW
  have hA : DataW.TrodAll enc Try.prog W 0 (fun _ => true) true Try.f7.params.toList args.toList ds p := hA0
  rw [Try.params7] at hA hval
  obtain ⟨v0, vs0, d0, ds0, p0, q0, hargs, rfl, rfl, h0, r0⟩ := trodAll_cons hA
  obtain ⟨rfl, rfl, rfl⟩ := trodAll_nil r0
  obtain rfl : args = #[v0] := by cases args; simp_all
  obtain ⟨rfl, rfl⟩ := trodVars_none hV
  have k0 := h0
  have lt0 : ∀ x ∈ p0, x.block < W.heap.size := by obtain ⟨m, hm⟩ := k0; exact DataW.trod_lt m _ _ _ hm
  obtain ⟨a0, len0, cap0, rfl⟩ := okWide_slice Try.underlying22 (hval 0 22 v0 rfl rfl)
  have w0 : BytesIn W W.heap.size a0 len0 cap0 := isRow_of h0
  clear hA0 hval0
  refine (walk_FnAnd a0 len0 cap0 W w0).mono fun e W' ⟨he, bel⟩ => ?_
  subst he
  exact ⟨_, rfl, _, _, _, [], _, [], hW', trodAll_mk1 (shut_bool Try.underlying4 _), (trodAll_cons_mk (Below.trod laidOut (by kernel_rfl) (of_decide_eq_true (by kernel_rfl)) k0 bel lt0) (trodAll_mk0)), rfl, bel.frame _, fun h => by cases h⟩

theorem over_FnAnd : Rows.fnAndRow.holds Try.pinned (OpenSpec.ofChange Rows.fnAndSpec) :=
  OpenClaim.holds_of_wide 7 Try.f7 rfl rfl rfl rfl rfl rfl rfl ⟨rfl, rfl, rfl, rfl, rfl⟩ rfl rfl rfl rfl rfl (by kernel_rfl) Try.func7 (by kernel_rfl)
    (of_decide_eq_true (by kernel_rfl)) (by unfold Func.isWrapper; first | (rw [if_pos (by decide +kernel)]; kernel_rfl) | (rw [if_neg (by decide +kernel)]; exact ⟨rfl, rfl⟩))
    (fun os started H enc _ => lifted_FnAnd os started H enc)

theorem proved_FnAnd : Rows.FnAndSaid := over_FnAnd

end Go.Proofs.Ytndmedkkecikoaa
