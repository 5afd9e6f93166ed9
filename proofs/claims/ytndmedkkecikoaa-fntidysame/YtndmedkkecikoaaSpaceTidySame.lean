/-
  Proved: promise 18 (tidied, a space has the same heads, each of one pattern; tidied once more, it stays), at every code from which the space is drawn; the code reads on as it did. No condition.
-/
import Derived.Test.YtndmedkkecikoaaSpaceHasLx
import Derived.Test.YtndmedkkecikoaaSpaceLx
namespace Go.Proofs.Ytndmedkkecikoaa
open Go.ChangeShapes Go.WideShapes Go.ChangeAt Go.RowKit Go.Joins
set_option linter.unusedVariables false

theorem cnt_cons (c : UInt8) (b : Bool) (l : List Bool) : ∀ L : List (List UInt8), (L.map (fun x => c :: x)).countP (fun x => fitB x (b :: l)) = (bif ((c == 120) || (c == (bif b then 49 else 48))) then L.countP (fun x => fitB x l) else 0)
  | [] => by simp
  | x :: L => by
    rw [List.map_cons, List.countP_cons, List.countP_cons, cnt_cons c b l L, fitB]
    cases ((c == 120) || (c == (bif b then 49 else 48))) <;> simp
theorem tidyB_cnt1 : ∀ (h : Nat) (m : List Bool) (l : List Bool), m.length = 2 ^ h → l.length = h → (tidyB h m).countP (fun x => fitB x l) = (bif atB h m l then 1 else 0)
  | 0, m, l, hm, hl => by
    match m, l, hm, hl with
    | [true], [], _, _ => rfl
    | [false], [], _, _ => rfl
  | h + 1, m, b :: l, hm, hl => by
    have hp : 2 ^ (h + 1) = 2 ^ h + 2 ^ h := by rw [Nat.pow_succ]; omega
    have i0 := tidyB_cnt1 h (m.take (2 ^ h)) l (by simp; omega) (by simpa using hl)
    have i1 := tidyB_cnt1 h (m.drop (2 ^ h)) l (by simp; omega) (by simpa using hl)
    rw [tidyB, atB]
    cases he : (m.take (2 ^ h) == m.drop (2 ^ h))
    · rw [cond_false, List.countP_append, cnt_cons, cnt_cons, i0, i1]
      cases b <;> simp
    · rw [cond_true, cnt_cons, i0]
      rw [beq_iff_eq] at he
      cases b
      · simp
      · rw [cond_true, ← he]; simp
/-- How many patterns a head is of. -/
def cntS (T : List ByteArray) (q : List Bool) : Nat := T.countP (fun s => hasM (cf s) (vf s) (bitF q))
theorem cnt_tidy {m : List Bool} (hm : m.length = 64) {l : List Bool} (hl : l.length = 6) : cntS (tidyT m) l = (bif atB 6 m l then 1 else 0) := by
  rw [← tidyB_cnt1 6 m l hm hl]
  unfold cntS tidyT
  rw [List.countP_map]
  refine List.countP_congr fun x hx => ?_
  have h6 := tidyB_len 6 m x hx
  have hs := tidyB_sgn 6 m x hx
  show hasM (cf (sText x)) (vf (sText x)) (bitF l) = true ↔ fitB x l = true
  rw [← txt_L h6 hs, hasM_txt (fun i _ h => vL_cL x i h), hasM_fit h6 hl hs]
theorem cnt_sp (l : List ByteArray) {q : List Bool} (hq : q.length = 6) : cntS (tidyT (spL l)) q = (bif inSp l q then 1 else 0) := by
  rw [cnt_tidy (spL_len l) hq, ← inSp_tidy (spL_len l) hq]
  have h : inSp (tidyT (spL l)) q = inSp l q := tabF_inj 6 (spL_tidy (spL_len l)) q hq
  rw [h]
theorem cnt_step {T : List ByteArray} {k : Nat} (hk : k < T.length) (q : List Bool) : cntS (T.take (k + 1)) q = cntS (T.take k) q + (bif hasM (cf (strAt T k)) (vf (strAt T k)) (bitF q) then 1 else 0) := by
  have e : T.take (k + 1) = T.take k ++ [strAt T k] := by
    rw [List.take_add_one, List.getElem?_eq_getElem hk, strAt, List.getD_eq_getElem?_getD, List.getElem?_eq_getElem hk]
    rfl
  rw [cntS, e, List.countP_append, List.countP_singleton, ← cntS]
  cases hasM (cf (strAt T k)) (vf (strAt T k)) (bitF q) <;> rfl
theorem cnt_le (T : List ByteArray) (q : List Bool) : cntS T q ≤ T.length := List.countP_le_length ..

theorem tidy_twice {l : List ByteArray} (hk : okSp l = true) : tidyR (tidyT (spL l)) = tidyT (spL l) := by
  unfold tidyR
  rw [okSp_tidy, cond_true, spL_tidy (spL_len l)]
theorem okSp_at5 {l : List ByteArray} (h : okSp l = true) {k : Nat} (hk : k < l.length) : okS (strAt l k) = true := by
  unfold okSp at h
  rw [Bool.and_eq_true, List.all_eq_true] at h
  refine h.2 _ ?_
  rw [strAt, List.getD_eq_getElem?_getD, List.getElem?_eq_getElem hk]
  exact List.getElem_mem hk

set_option maxRecDepth 100000 in
set_option maxHeartbeats 10000000 in
theorem walk_FnTidySame (a : Option Addr) (len cap : Nat) (w : World) (hb : BytesIn w w.heap.size a len cap) :
    Calls Try.prog 4 #[.slice a len cap] w fun e w' => e = .returned (.bool true) ∧ Below w.heap.size w w' := by
  have HB := Lib.hid hb
  have hm : (len : Int) ≤ maxLen := by have := hb.1; have := hb.2.1; omega
  unfold maxLen at hm
  clear hb
  by_cases hlen : (1048576 : Int) < (len : Int)
  · go_enter Try.func4, Try.ntmps4
    go_wp2
    go_ret
    exact ⟨rfl, Below.refl _ _⟩
  go_enter Try.func4, Try.ntmps4
  go_wp2_with fail
  refine (drawSpaceTidy_any _ _ _ _ HB.out).mono ?_
  rintro e w1 ⟨v, l, rfl, hsh, hx, b1⟩
  have HF : Hid (Fit6 l) := hsh.fit
  have HX : Hid (∀ W, Below w1.heap.size w1 W → Strs W W.heap.size v l) := fun W hb => (hx.below hb (Nat.le_refl _)).mono hb.size
  have BW : Hid (∀ W, Below w1.heap.size w1 W → Below w.heap.size w W) := fun W hb => belStep b1 hb
  clear hsh hx b1
  go_wp2_with fail
  refine (iSpaceTidy_any _ _ l (HX.out _ (Below.refl _ _)) HF.out).mono ?_
  rintro e w2 ⟨u, rfl, r2, B⟩
  have RU := Lib.hid r2
  replace B := Lib.hid B
  clear r2
  go_wp2_with fail
  refine (sSpaceTidy_any _ _ l (HX.out _ B.out) HF.out).mono ?_
  rintro e w3 ⟨u3, rfl, r3, b3⟩
  replace RU := Lib.hid (RU.out.below b3)
  have R3 := Lib.hid r3
  replace B := Lib.hid (belStep B.out b3)
  clear r3 b3
  have hlen2 := tidyR_len l
  go_wp2_with fail
  refine (lxTexts_same _ _ _ _ _ _ RU.out R3.out (by omega)).mono ?_
  rintro e w4 ⟨rfl, b4⟩
  replace RU := Lib.hid (RU.out.below b4)
  replace B := Lib.hid (belStep B.out b4)
  clear b4 R3
  go_wp2_with fail
  refine (sSpaceOk_any _ _ l (HX.out _ B.out) HF.out).mono ?_
  rintro e w5 ⟨rfl, b5⟩
  replace RU := Lib.hid (RU.out.below b5)
  replace B := Lib.hid (belStep B.out b5)
  clear b5
  cases hk : okSp l
  · go_wp2_with fail
    refine (sSpaceTidy_any _ _ l (HX.out _ B.out) HF.out).mono ?_
    rintro e w6 ⟨u6, rfl, r6, b6⟩
    replace RU := Lib.hid (RU.out.below b6)
    have R6 := Lib.hid r6
    replace B := Lib.hid (belStep B.out b6)
    clear r6 b6
    go_wp2_with fail
    refine (lxTexts_same _ _ _ _ _ _ RU.out R6.out (by omega)).mono ?_
    rintro e w7 ⟨rfl, b7⟩
    go_wp2
    go_ret
    exact ⟨rfl, BW.out _ (belStep B.out b7)⟩
  have HRT : Hid (tidyR l = tidyT (spL l)) := by show _ = _; simp [tidyR, hk]
  rw [HRT.out] at RU hlen2
  have HH1 : Hid (∀ (n : Nat) (W : World), Below w5.heap.size w5 W → Calls Try.prog 16 #[v, lxV n] W fun e w' => e = .returned (.bool (inSp l (q6 n))) ∧ Below W.heap.size W w') := fun n W hW => has_lx n W _ _ (HX.out _ (belStep B.out hW)) HF.out hk
  unfold lxV at HH1
  have HTW := Lib.hid (tidy_twice hk)
  have HFT : Hid (Fit6 (tidyT (spL l))) := fit_tidy _
  have HCNT : Hid (∀ n, cntS ((tidyT (spL l)).take (tidyT (spL l)).length) (q6 n) = (bif inSp l (q6 n) then 1 else 0)) := fun n => by rw [List.take_length]; exact cnt_sp l rfl
  have HSTP : Hid (∀ n j, j < (tidyT (spL l)).length → cntS ((tidyT (spL l)).take (j + 1)) (q6 n) = cntS ((tidyT (spL l)).take j) (q6 n) + (bif hasS (strAt (tidyT (spL l)) j) ((n : Int) / 16 % 4) ((n : Int) / 4 % 4) ((n : Int) % 4) then 1 else 0)) := fun n j hj => by
    rw [cnt_step hj, hasS_lx, okSp_at5 (okSp_tidy _) hj, Bool.true_and]
    rfl
  have HLE : Hid (∀ n j, cntS ((tidyT (spL l)).take j) (q6 n) ≤ 64) := fun n j => Nat.le_trans (cnt_le _ _) (by rw [List.length_take]; omega)
  generalize tidyT (spL l) = T at *
  obtain ⟨ua, uc, rfl, hc1, hc2, -⟩ := RU.out.at
  have HROW : Hid (∀ W, Below w5.heap.size w5 W → ∀ j, j < T.length → ∃ g, ua = some ⟨g, 0, none⟩ ∧ g < w5.heap.size ∧ W.cell? ⟨g, j, none⟩ = some (.string (strAt T j))) := fun W hW j hj => by
    obtain ⟨ua', uc', hv, -, -, h0 | ⟨g, rfl, hg, hcc⟩⟩ := RU.out.at
    · omega
    · obtain ⟨rfl, -⟩ := by simpa using hv
      exact ⟨g, rfl, hg, (belCell hW _ _ hg).trans (hcc.out j hj)⟩
  unfold maxLen at hc2
  have H05 := Lib.hid (Below.refl w5.heap.size w5)
  clear HRT
  go_wp2
  go_loopw [5] (fun i wr => ∃ k : Nat, k ≤ 64 ∧ i = .int .i64 k ∧ Below w5.heap.size w5 wr) (fun i _ => 64 - (intOf i).toNat)
  case atStart => exact ⟨0, Nat.zero_le _, rfl, H05.out⟩
  case round =>
    obtain ⟨k, hk64, rfl, hbel⟩ := hrel
    have HBL := Lib.hid hbel
    clear hbel
    by_cases hlt : k < 64
    · have hkz : (k : Int) < 64 := by omega
      go_wp2_with fail
      refine (lxHead_at k (by omega) _).mono ?_
      rintro e w7 ⟨rfl, b7⟩
      have C1 := Lib.hid (HH1.out k)
      have CN := Lib.hid (HCNT.out k)
      have ST := Lib.hid (HSTP.out k)
      have LE := Lib.hid (HLE.out k)
      have B7 : Hid (Below w5.heap.size w5 (w7.alloc (.cells #[.int .i64 ((k : Int) / 16 % 4), .int .i64 ((k : Int) / 4 % 4), .int .i64 ((k : Int) % 4)] 25))) := (belStep HBL.out b7).alloc (Nat.le_trans HBL.out.size b7.size) _
      have HCL : Hid (∀ W, Below (w7.alloc (.cells #[.int .i64 ((k : Int) / 16 % 4), .int .i64 ((k : Int) / 4 % 4), .int .i64 ((k : Int) % 4)] 25)).heap.size (w7.alloc (.cells #[.int .i64 ((k : Int) / 16 % 4), .int .i64 ((k : Int) / 4 % 4), .int .i64 ((k : Int) % 4)] 25)) W →
          W.cell? ⟨w7.heap.size, 0, none⟩ = some (.int .i64 ((k : Int) / 16 % 4)) ∧ W.cell? ⟨w7.heap.size, 1, none⟩ = some (.int .i64 ((k : Int) / 4 % 4)) ∧ W.cell? ⟨w7.heap.size, 2, none⟩ = some (.int .i64 ((k : Int) % 4))) := fun W hW => trioCells ((hW.block _ (by simp)).trans (newBlockM w7 _))
      clear b7
      generalize ((k : Int) / 16 % 4) = x0 at *
      generalize ((k : Int) / 4 % 4) = x1 at *
      generalize ((k : Int) % 4) = x2 at *
      generalize q6 k = q at *
      go_wp2
      generalize (w7.alloc (.cells #[.int .i64 x0, .int .i64 x1, .int .i64 x2] 25)) = WB at *
      go_loopw [7, 8] (fun n i wr => ∃ j : Nat, j ≤ T.length ∧ i = .int .i64 j ∧ n = .int .i64 (cntS (T.take j) q : Nat) ∧ Below WB.heap.size WB wr) (fun _ i _ => T.length - (intOf i).toNat)
      case atStart => exact ⟨0, Nat.zero_le _, rfl, rfl, Below.refl _ _⟩
      case round =>
        obtain ⟨j, hjT, rfl, rfl, hbj⟩ := hrel
        by_cases hjl : j < T.length
        · have hjz : (j : Int) < (T.length : Int) := by omega
          have hst := ST.out j hjl
          have hle := LE.out j
          have hsz := HFT.out j hjl
          obtain ⟨g, rfl, hg, c1⟩ := HROW.out _ (belStep B7.out hbj) j hjl
          obtain ⟨q0, q1, q2⟩ := HCL.out _ hbj
          generalize strAt T j = s at *
          generalize cntS (T.take j) q = n at *
          have HC2 : Hid (∀ W', Below wr.heap.size wr W' → W'.cell? ⟨w7.heap.size, 0, none⟩ = some (.int .i64 x0) ∧ W'.cell? ⟨w7.heap.size, 1, none⟩ = some (.int .i64 x1) ∧ W'.cell? ⟨w7.heap.size, 2, none⟩ = some (.int .i64 x2) ∧ W'.cell? ⟨g, j, none⟩ = some (.string s)) := fun W' hb =>
            have hq := HCL.out _ (belStep hbj hb)
            ⟨hq.1, hq.2.1, hq.2.2, (belCell hb _ _ (Nat.lt_of_lt_of_le hg (Nat.le_trans B7.out.size hbj.size))).trans c1⟩
          have HBJ := Lib.hid hbj
          have D0 := Lib.hid (Below.refl wr.heap.size wr)
          clear q0 q1 q2 c1 hbj
          go_wp2_with fail
          go_region_held3 (fun W' => W'.cell? ⟨w7.heap.size, 0, none⟩ = some (.int .i64 x0) ∧ W'.cell? ⟨w7.heap.size, 1, none⟩ = some (.int .i64 x1) ∧ W'.cell? ⟨w7.heap.size, 2, none⟩ = some (.int .i64 x2) ∧ W'.cell? ⟨g, j, none⟩ = some (.string s))
            (first | exact HC2.out _ D0.out.drew | exact HC2.out _ D0.out | exact HC2.out _ D1.out)
            (first | (go_at_call 20; ((with_reducible refine (iWildHas_any s hsz x0 x1 x2 _).mono ?_); rintro e w8 ⟨rfl, b8⟩; have D1 : Hid (Below wr.heap.size wr w8) := belStep D0.out.drew b8; clear b8)))
          have B8 := Lib.hid (belStep HBJ.out D1.out)
          clear HBJ D0 HC2
          cases hh : hasS s x0 x1 x2
          · rw [hh, cond_false, Nat.add_zero] at hst
            go_wp2
            go_roundw
            case rel => exact ⟨j + 1, by omega, by go_num, by rw [hst]; rfl, B8.out⟩
            case measure => simp [intOf]; omega
          · rw [hh, cond_true] at hst
            go_wp2
            go_roundw
            case rel => exact ⟨j + 1, by omega, by go_num, by rw [hst]; go_num, B8.out⟩
            case measure => simp [intOf]; omega
        · obtain rfl : j = T.length := by omega
          rw [CN.out]
          have CC := Lib.hid (C1.out wr (belStep B7.out hbj))
          obtain ⟨q0, q1, q2⟩ := HCL.out _ hbj
          generalize inSp l q = y at *
          go_wp2_with fail
          refine CC.out.mono ?_
          rintro e w8 ⟨rfl, b8⟩
          have B8 := Lib.hid (belStep (belStep B7.out hbj) b8)
          clear b8 q0 q1 q2
          cases y
          all_goals
            go_wp2
            go_roundw
            case rel => exact ⟨k + 1, by omega, by go_num, B8.out⟩
            case measure => simp [intOf]; omega
    · obtain rfl : k = 64 := by omega
      have RT := Lib.hid (RU.out.below HBL.out)
      go_wp2_with fail
      refine (iSpaceTidy_any _ _ T RT.out.strs HFT.out).mono ?_
      rintro e w8 ⟨u8, rfl, r8, b8⟩
      rw [HTW.out] at r8
      replace RT := Lib.hid (RT.out.below b8)
      have R8 := Lib.hid r8
      clear r8
      go_wp2_with fail
      refine (lxTexts_same _ _ _ _ _ _ R8.out RT.out (by omega)).mono ?_
      rintro e w9 ⟨rfl, b9⟩
      go_wp2
      go_ret
      exact ⟨rfl, BW.out _ (belStep (belStep (belStep B.out HBL.out) b8) b9)⟩

set_option maxRecDepth 100000 in
theorem lifted_FnTidySame (os : Os) (started : os.Started) (H : Type) (enc : TypeId × Value → H) :
    ReturnsInHanded {} Try.checked os 4 .any (Rows.fnTidySameSpec.pre6 enc Try.prog Try.f4 Rows.fnTidySameRow.domain false) (Rows.fnTidySameSpec.post enc Try.prog Try.f4 false true false false) := by
  refine returnsInHanded_of_change (C := Try.checked) own started (by kernel_rfl) Try.func4
    (ChangeSpec.witness6 (enc := enc) (C := Try.checked) false ⟨#[], #[.slice none 0 0], []⟩ 8 (by kernel_rfl) (by kernel_rfl) (by kernel_rfl) (by kernel_rfl)) ?_
  intro W base args ds gs before hval0 hW hcnd _
  have hval : ∀ (j : Nat) t v, Try.f4.params[j]? = some t → args[j]? = some v → Value.okWide Try.prog W .any base t v := hval0
  have hW' := hW
  obtain ⟨p, q, hA0, hV, rfl, hfz, hnd⟩ := hW
  have hA : DataW.TrodAll enc Try.prog W 0 (fun _ => true) true Try.f4.params.toList args.toList ds p := hA0
  rw [Try.params4] at hA hval
  obtain ⟨v0, vs0, d0, ds0, p0, q0, hargs, rfl, rfl, h0, r0⟩ := trodAll_cons hA
  obtain ⟨rfl, rfl, rfl⟩ := trodAll_nil r0
  obtain rfl : args = #[v0] := by cases args; simp_all
  obtain ⟨rfl, rfl⟩ := trodVars_none hV
  have k0 := h0
  have lt0 : ∀ x ∈ p0, x.block < W.heap.size := by obtain ⟨m, hm⟩ := k0; exact DataW.trod_lt m _ _ _ hm
  obtain ⟨a0, len0, cap0, rfl⟩ := okWide_slice Try.underlying22 (hval 0 22 v0 rfl rfl)
  have w0 : BytesIn W W.heap.size a0 len0 cap0 := isRow_of h0
  clear hA0 hval0
  refine (walk_FnTidySame a0 len0 cap0 W w0).mono fun e W' ⟨he, bel⟩ => ?_
  subst he
  exact ⟨_, rfl, _, _, _, [], _, [], hW', trodAll_mk1 (shut_bool Try.underlying4 _), (trodAll_cons_mk (Below.trod laidOut (by kernel_rfl) (of_decide_eq_true (by kernel_rfl)) k0 bel lt0) (trodAll_mk0)), rfl, bel.frame _, fun h => by cases h⟩

theorem over_FnTidySame : Rows.fnTidySameRow.holds Try.pinned (OpenSpec.ofChange Rows.fnTidySameSpec) :=
  OpenClaim.holds_of_wide 4 Try.f4 rfl rfl rfl rfl rfl rfl rfl ⟨rfl, rfl, rfl, rfl, rfl⟩ rfl rfl rfl rfl rfl (by kernel_rfl) Try.func4 (by kernel_rfl)
    (of_decide_eq_true (by kernel_rfl)) (by unfold Func.isWrapper; first | (rw [if_pos (by decide +kernel)]; kernel_rfl) | (rw [if_neg (by decide +kernel)]; exact ⟨rfl, rfl⟩))
    (fun os started H enc _ => lifted_FnTidySame os started H enc)

theorem proved_FnTidySame : Rows.FnTidySameSaid := over_FnTidySame

end Go.Proofs.Ytndmedkkecikoaa
