/-
  Proved: promise 17 (a head is in a space, if it is of any pattern), at every code from which the space and the head are drawn; the code reads on as it did. No condition.
-/
import Derived.Test.YtndmedkkecikoaaSpaceAlg
import Derived.Test.YtndmedkkecikoaaSpaceImplA
import Derived.Test.YtndmedkkecikoaaSpaceSp
namespace Go.Proofs.Ytndmedkkecikoaa
open Go.ChangeShapes Go.WideShapes Go.ChangeAt Go.RowKit Go.Joins
set_option linter.unusedVariables false

theorem belHead4 {n : Nat} {w v : World} (h : Below n w v) {r : Nat} (hr : n ≤ r) (a b c : Value) : Below n w (((v.setCell ⟨r, 0, none⟩ a).setCell ⟨r, 1, none⟩ b).setCell ⟨r, 2, none⟩ c) := ((h.setCell hr _).setCell hr _).setCell hr _
theorem gOwn {w v : World} {r : Nat} (h : w.grownBy v (some r)) (i : Nat) (u : Value) : w.grownBy (v.setCell ⟨r, i, none⟩ u) (some r) :=
  ⟨h.os, h.tape, h.output, by simpa [World.setCell] using h.size, fun k hk hne => (Below.heap_setCell v _ u k (by intro e; exact hne (by simp [e]))).trans (h.block k hk hne)⟩
theorem strs_set {w1 v : World} {r : Nat} {x : Value} {l : List ByteArray} (h : StrRow v w1.heap.size x l) (hr : r < w1.heap.size) (a b c : Value) :
    Strs (((v.setCell ⟨r, 0, none⟩ a).setCell ⟨r, 1, none⟩ b).setCell ⟨r, 2, none⟩ c) (((v.setCell ⟨r, 0, none⟩ a).setCell ⟨r, 1, none⟩ b).setCell ⟨r, 2, none⟩ c).heap.size x l :=
  (StrRow.apart2 (w := w1) h (gOwn (gOwn (gOwn (gRefl _ _) 0 a) 1 b) 2 c) hr).strs

set_option maxRecDepth 100000 in
set_option maxHeartbeats 4000000 in
theorem drawSpaceHas_any (w : World) (a : Option Addr) (len cap : Nat) (hb : BytesIn w w.heap.size a len cap) :
    Calls Try.prog 15 #[.slice a len cap] w fun e w' => ∃ (v : Value) (l : List ByteArray) (x y z : Int), e = .returned (.tuple #[v, .agg #[.int .i64 x, .int .i64 y, .int .i64 z]]) ∧ Short l ∧ Strs w' w'.heap.size v l ∧ Below w.heap.size w w' := by
  have HB := Lib.hid ((hb.keep (w' := w.alloc (.cells #[.int .i64 0, .int .i64 0, .int .i64 0] 25)) (fun k hk => Below.heap_alloc _ _ _ hk)).up (g' := w.heap.size + 1) (by omega))
  clear hb
  go_enter Try.func15, Try.ntmps15
  go_wp2_with fail
  refine (open_any _ _ _ _ (by simpa using HB.out)).mono ?_
  rintro e w1 ⟨rfl, hr, b1⟩
  have hr' : RdOk w1 (w.heap.size + 1) 0 := by simpa using hr
  have HR := Lib.hid hr'
  have s1 := HR.out.lt
  have R1 : Hid (w1.heap[w.heap.size]? = some (.cells #[.int .i64 0, .int .i64 0, .int .i64 0] 25)) := (b1.block _ (by simp)).trans (newBlock w _)
  have B1 : Hid (Below w.heap.size w w1) := (below_alloc1 _ _).trans (b1.mono (by simp))
  clear hr hr' b1
  simp only [World.size_alloc]
  go_wp2_with fail
  refine (l91Space_any _ _ _ HR.out (by omega)).mono ?_
  rintro e w2 ⟨v, l, rfl, hsh, hrow, hr2, g2⟩
  have HSH := Lib.hid hsh
  have HW2 := Lib.hid hrow
  have HR2 := Lib.hid hr2
  have s2 := g2.size
  have R2 : Hid (w2.heap[w.heap.size]? = some (.cells #[.int .i64 0, .int .i64 0, .int .i64 0] 25)) := (g2.block _ (by omega) (someNe (by omega))).trans R1.out
  have B2 : Hid (Below w.heap.size w w2) := B1.out.trans (gBel g2 (by omega) (by omega))
  clear hsh hrow hr2
  go_wp2_with fail
  refine (l91Head_any _ _ _ HR2.out (by omega)).mono ?_
  rintro e w3 ⟨x, y, z, hn, rfl, hr3, g3⟩
  have s3 := g3.size
  clear hr3 hn
  have R3 : Hid (w3.heap[w.heap.size]? = some (.cells #[.int .i64 0, .int .i64 0, .int .i64 0] 25)) := (g3.block _ (by omega) (someNe (by omega))).trans R2.out
  have B3 : Hid (Below w.heap.size w w3) := B2.out.trans (gBel g3 (by omega) (by omega))
  have HX3 : Hid (StrRow w3 w1.heap.size v l) := HW2.out.apart2 (w := w1) g3 s1
  clear g2 g3 R1 R2 B1 B2 HR HR2 HW2
  obtain ⟨ra, rb, rc, rf⟩ := trip_cells R3.out
  go_wp2
  exact bodyPost_ret (v := .tuple #[v, .agg #[.int .i64 x, .int .i64 y, .int .i64 z]]) (by simp [results, Try.results15, go_sem, ra, rb, rc]) rfl
    ⟨v, l, x, y, z, rfl, HSH.out, strs_set HX3.out (by omega) _ _ _, belHead4 B3.out (Nat.le_refl _) _ _ _⟩

theorem hasS_in {s : ByteArray} {x y z : Int} (ho : okB x y z = true) (hs : okS s = true) : hasS s x y z = hasM (cf s) (vf s) (bitF (f6 (hB x y z))) := by
  unfold hasS
  rw [ho, hs, Bool.true_and, Bool.true_and]
  rfl
theorem okSp_at4 {l : List ByteArray} (h : okSp l = true) {k : Nat} (hk : k < l.length) : okS (strAt l k) = true := by
  unfold okSp at h
  rw [Bool.and_eq_true, List.all_eq_true] at h
  refine h.2 _ ?_
  rw [strAt, List.getD_eq_getElem?_getD, List.getElem?_eq_getElem hk]
  exact List.getElem_mem hk

set_option maxRecDepth 100000 in
set_option maxHeartbeats 4000000 in
theorem walk_FnSpaceHas (a : Option Addr) (len cap : Nat) (w : World) (hb : BytesIn w w.heap.size a len cap) :
    Calls Try.prog 3 #[.slice a len cap] w fun e w' => e = .returned (.bool true) ∧ Below w.heap.size w w' := by
  have HB := Lib.hid hb
  have hm : (len : Int) ≤ maxLen := by have := hb.1; have := hb.2.1; omega
  unfold maxLen at hm
  clear hb
  by_cases hlen : (1048576 : Int) < (len : Int)
  · go_enter Try.func3, Try.ntmps3
    go_wp2
    go_ret
    exact ⟨rfl, Below.refl _ _⟩
  go_enter Try.func3, Try.ntmps3
  go_wp2_with fail
  refine (drawSpaceHas_any _ _ _ _ HB.out).mono ?_
  rintro e w1 ⟨v, l, x, y, z, rfl, hsh, hx, b1⟩
  have s1 := b1.size
  have hl66 := hsh.1
  have HF : Hid (Fit6 l) := hsh.fit
  have B1 : Hid (Below w.heap.size w (w1.alloc (.cells #[.int .i64 x, .int .i64 y, .int .i64 z] 25))) := b1.alloc s1 _
  have HX0 : Hid (Strs (w1.alloc (.cells #[.int .i64 x, .int .i64 y, .int .i64 z] 25)) (w1.alloc (.cells #[.int .i64 x, .int .i64 y, .int .i64 z] 25)).heap.size v l) := (hx.below (below_alloc1 _ _) (Nat.le_refl _)).mono (by simp)
  clear hsh hx
  go_wp2_with fail
  have C0 := Lib.hid (trip_cells (newBlock w1 (.cells #[.int .i64 x, .int .i64 y, .int .i64 z] 25)))
  have zW : w1.heap.size < (w1.alloc (.cells #[.int .i64 x, .int .i64 y, .int .i64 z] 25)).heap.size := by simp
  clear b1
  generalize w1.alloc (.cells #[.int .i64 x, .int .i64 y, .int .i64 z] 25) = W at *
  have HC := Lib.hid (cellsHeld C0.out zW)
  have HX : Hid (∀ W', Below W.heap.size W W' → Strs W' W'.heap.size v l) := fun W' hb => (HX0.out.below hb (Nat.le_refl _)).mono hb.size
  have BW : Hid (∀ W', Below W.heap.size W W' → Below w.heap.size w W') := fun W' hb => B1.out.trans (hb.mono B1.out.size)
  generalize w1.heap.size = h at *
  clear C0 HX0 B1
  refine (iSpaceHas_any _ v l x y z (HX.out _ (Below.refl _ _)) HF.out).mono ?_
  rintro e w2 ⟨rfl, b2⟩
  obtain ⟨q0, q1, q2⟩ := HC.out _ b2
  go_wp2_with fail
  refine (sSpaceHas_any _ v l x y z (HX.out _ b2) HF.out).mono ?_
  rintro e w3 ⟨rfl, b3⟩
  have b3' := belStep b2 b3
  clear q0 q1 q2 b2 b3
  obtain ⟨q0, q1, q2⟩ := HC.out _ b3'
  go_wp2_with fail
  refine (sSpaceOk_any _ v l (HX.out _ b3') HF.out).mono ?_
  rintro e w4 ⟨rfl, b4⟩
  have b4' := belStep b3' b4
  clear q0 q1 q2 b3' b4
  obtain ⟨q0, q1, q2⟩ := HC.out _ b4'
  cases hk : okSp l
  · go_wp2_with fail
    refine (sSpaceHas_any _ v l x y z (HX.out _ b4') HF.out).mono ?_
    rintro e w5 ⟨rfl, b5⟩
    go_wp2
    go_ret
    exact ⟨by simp, BW.out _ (belStep b4' b5)⟩
  go_wp2_with fail
  refine (sHeadOk_any x y z _).mono ?_
  rintro e w5 ⟨rfl, b5⟩
  have b5' := belStep b4' b5
  clear q0 q1 q2 b4' b5
  obtain ⟨q0, q1, q2⟩ := HC.out _ b5'
  cases ho : okB x y z
  · go_wp2_with fail
    refine (sSpaceHas_any _ v l x y z (HX.out _ b5') HF.out).mono ?_
    rintro e w6 ⟨rfl, b6⟩
    go_wp2
    go_ret
    exact ⟨by simp, BW.out _ (belStep b5' b6)⟩
  clear q0 q1 q2
  have HTK : Hid (inSp l (f6 (hB x y z)) = inSp (l.take l.length) (f6 (hB x y z))) := by show _ = _; rw [List.take_length]
  have HSTEP : Hid (∀ k, k < l.length → inSp (l.take (k + 1)) (f6 (hB x y z)) = (inSp (l.take k) (f6 (hB x y z)) || hasS (strAt l k) x y z)) := fun k hkl => by rw [inSp_take hkl, hasS_in ho (okSp_at4 hk hkl)]
  have HZ : Hid (inSp (l.take 0) (f6 (hB x y z)) = false) := by show _ = _; rw [List.take_zero]; rfl
  have HNIL : Hid (∀ W' : World, Calls Try.prog 16 #[.slice none 0 0, .agg #[.int .i64 x, .int .i64 y, .int .i64 z]] W' fun ex w' => ex = .returned (.bool false) ∧ Below W'.heap.size W' w') := fun W' => by
    have := iSpaceHas_any W' (.slice none 0 0) [] x y z (Strs.nil _ _) (fun i hi => absurd hi (Nat.not_lt_zero _))
    simpa [inSp] using this
  generalize f6 (hB x y z) = q at *
  obtain ⟨va, vc, rfl, hvc, hvm, -⟩ := HX.out _ b5'
  unfold maxLen at hvm
  go_wp2
  go_loopw [6, 7] (fun c i wr => ∃ k : Nat, k ≤ l.length ∧ i = .int .i64 k ∧ c = .bool (inSp (l.take k) q) ∧ Below W.heap.size W wr) (fun _ i _ => l.length - (intOf i).toNat)
  case atStart => exact ⟨0, Nat.zero_le _, rfl, by rw [HZ.out], b5'⟩
  case round =>
    obtain ⟨k, hkl, rfl, rfl, hbel⟩ := hrel
    by_cases hlt : k < l.length
    · have hkz : (k : Int) < (l.length : Int) := by omega
      have HS := Lib.hid (HSTEP.out k hlt)
      obtain ⟨va', vc', hv', -, -, hcell⟩ := HX.out _ hbel
      obtain ⟨rfl, -, rfl⟩ := by simpa using hv'
      rcases hcell with h0 | ⟨bb, off, rfl, hbb, hcell⟩
      · rw [h0] at hlt; exact absurd hlt (Nat.not_lt_zero _)
      have c1 := hcell k hlt
      have hsz := HF.out k hlt
      obtain ⟨q0, q1, q2⟩ := HC.out _ hbel
      generalize strAt l k = s at *
      cases hc : inSp (l.take k) q
      · rw [hc, Bool.false_or] at HS
        have HCL : Hid (∀ W', Below wr.heap.size wr W' → W'.cell? ⟨h, 0, none⟩ = some (.int .i64 x) ∧ W'.cell? ⟨h, 1, none⟩ = some (.int .i64 y) ∧ W'.cell? ⟨h, 2, none⟩ = some (.int .i64 z) ∧ W'.cell? ⟨bb, off + k, none⟩ = some (.string s)) := fun W' hb =>
          have hq := HC.out _ (belStep hbel hb)
          ⟨hq.1, hq.2.1, hq.2.2, (belCell hb _ _ hbb).trans c1⟩
        have D0 := Lib.hid (Below.refl wr.heap.size wr)
        have BL := Lib.hid hbel
        clear q0 q1 q2 c1 hcell hbel
        go_wp2_with fail
        go_region_held3 (fun W' => W'.cell? ⟨h, 0, none⟩ = some (.int .i64 x) ∧ W'.cell? ⟨h, 1, none⟩ = some (.int .i64 y) ∧ W'.cell? ⟨h, 2, none⟩ = some (.int .i64 z) ∧ W'.cell? ⟨bb, off + k, none⟩ = some (.string s))
          (first | exact HCL.out _ D0.out.drew | exact HCL.out _ D0.out | exact HCL.out _ D1.out)
          (first | (go_at_call 20; ((with_reducible refine (iWildHas_any s hsz x y z _).mono ?_); rintro e w6 ⟨rfl, b6⟩; have D1 : Hid (Below wr.heap.size wr w6) := belStep D0.out.drew b6; clear b6)))
        go_wp2
        go_roundw
        case rel => exact ⟨k + 1, by omega, by go_num, by rw [HS.out], belStep BL.out D1.out⟩
        case measure => simp [intOf]; omega
      · rw [hc, Bool.true_or] at HS
        go_wp2_with fail
        go_quiet (fail)
        go_wp2
        go_roundw
        case rel => exact ⟨k + 1, by omega, by go_num, by rw [HS.out], belDrewN hbel nq⟩
        case measure => simp [intOf]; omega
    · obtain rfl : k = l.length := by omega
      obtain ⟨q0, q1, q2⟩ := HC.out _ hbel
      rw [← HTK.out]
      go_wp2_with fail
      refine (HNIL.out _).mono ?_
      rintro e w6 ⟨rfl, b6⟩
      go_wp2
      go_ret
      exact ⟨by simp, BW.out _ (belStep hbel b6)⟩

set_option maxRecDepth 100000 in
theorem lifted_FnSpaceHas (os : Os) (started : os.Started) (H : Type) (enc : TypeId × Value → H) :
    ReturnsInHanded {} Try.checked os 3 .any (Rows.fnSpaceHasSpec.pre6 enc Try.prog Try.f3 Rows.fnSpaceHasRow.domain false) (Rows.fnSpaceHasSpec.post enc Try.prog Try.f3 false true false false) := by
  refine returnsInHanded_of_change (C := Try.checked) own started (by kernel_rfl) Try.func3
    (ChangeSpec.witness6 (enc := enc) (C := Try.checked) false ⟨#[], #[.slice none 0 0], []⟩ 8 (by kernel_rfl) (by kernel_rfl) (by kernel_rfl) (by kernel_rfl)) ?_
  intro W base args ds gs before hval0 hW hcnd _
  have hval : ∀ (j : Nat) t v, Try.f3.params[j]? = some t → args[j]? = some v → Value.okWide Try.prog W .any base t v := hval0
  have hW' := hW
  obtain ⟨p, q, hA0, hV, rfl, hfz, hnd⟩ := hW
  have hA : DataW.TrodAll enc Try.prog W 0 (fun _ => true) true Try.f3.params.toList args.toList ds p := hA0
  rw [Try.params3] at hA hval
  obtain ⟨v0, vs0, d0, ds0, p0, q0, hargs, rfl, rfl, h0, r0⟩ := trodAll_cons hA
  obtain ⟨rfl, rfl, rfl⟩ := trodAll_nil r0
  obtain rfl : args = #[v0] := by cases args; simp_all
  obtain ⟨rfl, rfl⟩ := trodVars_none hV
  have k0 := h0
  have lt0 : ∀ x ∈ p0, x.block < W.heap.size := by obtain ⟨m, hm⟩ := k0; exact DataW.trod_lt m _ _ _ hm
  obtain ⟨a0, len0, cap0, rfl⟩ := okWide_slice Try.underlying22 (hval 0 22 v0 rfl rfl)
  have w0 : BytesIn W W.heap.size a0 len0 cap0 := isRow_of h0
  clear hA0 hval0
  refine (walk_FnSpaceHas a0 len0 cap0 W w0).mono fun e W' ⟨he, bel⟩ => ?_
  subst he
  exact ⟨_, rfl, _, _, _, [], _, [], hW', trodAll_mk1 (shut_bool Try.underlying4 _), (trodAll_cons_mk (Below.trod laidOut (by kernel_rfl) (of_decide_eq_true (by kernel_rfl)) k0 bel lt0) (trodAll_mk0)), rfl, bel.frame _, fun h => by cases h⟩

theorem over_FnSpaceHas : Rows.fnSpaceHasRow.holds Try.pinned (OpenSpec.ofChange Rows.fnSpaceHasSpec) :=
  OpenClaim.holds_of_wide 3 Try.f3 rfl rfl rfl rfl rfl rfl rfl ⟨rfl, rfl, rfl, rfl, rfl⟩ rfl rfl rfl rfl rfl (by kernel_rfl) Try.func3 (by kernel_rfl)
    (of_decide_eq_true (by kernel_rfl)) (by unfold Func.isWrapper; first | (rw [if_pos (by decide +kernel)]; kernel_rfl) | (rw [if_neg (by decide +kernel)]; exact ⟨rfl, rfl⟩))
    (fun os started H enc _ => lifted_FnSpaceHas os started H enc)

theorem proved_FnSpaceHas : Rows.FnSpaceHasSaid := over_FnSpaceHas

end Go.Proofs.Ytndmedkkecikoaa
