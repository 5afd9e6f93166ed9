/-
  What the tables that the statements draw are: rules of the call's own, not too many; the reader's place goes on, and nothing else that was there changes.
  A table and a head are drawn.
  A table and a rule are drawn: the table's memory is the call's own.
-/
import Derived.Test.YtennaeboemlnoaaDoorTabPutS
import Derived.Test.YtennaeboemlnoaaDoorRuleDraw
import Derived.Test.YtennaeboemlnoaaDoorWildF
import Derived.Test.YtennaeboemlnoaaDoorDrawHead

namespace Go.Proofs.YtennaeboemlnoaaDoor
open Go.ChangeShapes Go.WideShapes Go.ChangeAt Go.RowKit Go.Joins
set_option linter.unusedVariables false

theorem RulRow.grow {w w' : World} {base g : Nat} {v : Value} {l : List R4} (h : RulRow w base v l) (hg : w.grownBy w' (some g)) (hb : g < base) : RulRow w' base v l := by
  refine World.ownsRow.kept h hg ?_
  cases hv : v.ownBlock with
  | none => exact .inl rfl
  | some k =>
    have := (World.ownsRow.lt h k hv).1
    exact .inr (fun e => by have := Option.some.inj e; omega)
theorem okB_numD (n : Nat) (hn : n < 64) : okB ((n : Int) / 16) ((n : Int) / 4 % 4) ((n : Int) % 4) = true := by
  unfold okB
  rw [fldB_mk (by omega) (by omega), fldB_mk (by omega) (by omega), fldB_mk (by omega) (by omega)]
  rfl
theorem okS_bits (f : Nat → Bool) : okS (mk6 (fun i => bitV (f i))) = true := by
  unfold okS
  rw [mk6_size, show all6 (fun i => sgn (byA (mk6 (fun i => bitV (f i))) i)) = true from all6_iff.2 fun i hi => by rw [mk6_byA _ hi]; cases f i <;> rfl]
  rfl
/-- A table is drawn by the reader at block g. -/
def TabDrawn (g B : Nat) (w : World) (e : Ending) (w' : World) : Prop :=
  ∃ (u : Value) (l : List R4), e = .returned u ∧ RulRow w' w.heap.size u l ∧ l.length ≤ 100 ∧ RdOk w' g (B + 200) ∧ w.grownBy w' (some g)

set_option maxRecDepth 100000 in
set_option maxHeartbeats 4000000 in
theorem l91Table_any (w : World) (g B : Nat) (hr : RdOk w g B) (hBB : B ≤ 1000000) :
    Calls Tryd.prog 63 #[.pointer (some ⟨g, 0, none⟩)] w (TabDrawn g B w) := by
  have hlt := hr.lt
  have HR := Lib.hid (hr.alloc (.cells #[] 56))
  have HT0 : Hid (RulRow (w.alloc (.cells #[] 56)) w.heap.size (.slice (some ⟨w.heap.size, 0, none⟩) 0 0) []) := World.ownsRow_made (base := w.heap.size) (e := 56) (size := 4) w #[] 0 (Nat.le_refl _) (by unfold maxLen; omega) rfl
  have G0 := Lib.hid (gAlloc (gRefl w (some g)) (.cells #[] 56))
  clear hr
  go_enter Tryd.func63, Tryd.ntmps63
  go_wp2_with fail
  refine (pick_any _ _ _ _ HR.out (by omega) (by omega)).mono ?_
  rintro e w1 ⟨n1, a1, c1, rfl, hr1, g1⟩
  have HR1 := Lib.hid hr1
  have HT1 := Lib.hid (HT0.out.grow g1 hlt)
  have G1 := Lib.hid (gTrans G0.out g1)
  clear hr1 g1 HT0 G0 HR
  go_wp2
  go_loopw [3, 4] (fun x n wr => ∃ (k : Int) (l : List R4) (C : Nat), 0 ≤ k ∧ k ≤ 7 ∧ n = .int .i64 k ∧ RulRow wr w.heap.size x l ∧ (∀ q ∈ l, okR q = true) ∧ (l.length : Int) + k ≤ 8 ∧ (C : Int) + 13 * k ≤ B + 100 ∧ RdOk wr g C ∧ w.grownBy wr (some g)) (fun _ n _ => (intOf n).toNat)
  case atStart => exact ⟨n1, [], B + 1, a1, by omega, rfl, HT1.out, by simp, by simp; omega, by omega, HR1.out, G1.out⟩
  case round =>
    obtain ⟨k, l, C, hk0, hk7, rfl, hrow, hok, hlen, hC, hrd, hgr⟩ := hrel
    have HRow := Lib.hid hrow
    have HOK := Lib.hid hok
    have HRd := Lib.hid hrd
    have HG := Lib.hid hgr
    have hsz := hgr.size
    clear hrow hok hrd hgr
    by_cases hpos : 0 < k
    · go_wp2_with fail
      refine (l91Rule_any _ _ _ HRd.out (by omega)).mono ?_
      rintro e w2 ⟨p, s, o, t, hsm, rfl, hr2, g2⟩
      have hss : s.size ≤ 1048576 := by have := hsm.2.1; omega
      have HRow2 := Lib.hid (HRow.out.grow g2 hlt)
      have s2 := g2.size
      have G2 := Lib.hid (gTrans HG.out g2)
      have HRd2 := Lib.hid hr2
      clear hr2 g2 hsm
      go_wp2_with fail
      refine (sRuleOk_any p s hss o t _).mono ?_
      rintro e w3 ⟨rfl, b3⟩
      have s3 := b3.size
      simp at s3
      have HA := Lib.hid (below_alloc1 w2 (.cells #[.int .i64 p, .string s, .int .i64 o, .int .i64 t] 56))
      have HB3 : Hid (Below w2.heap.size w2 w3) := HA.out.trans (b3.mono (by simp))
      obtain ⟨x0, x1, x2, x3⟩ := fourKept b3
      have HRow3 := Lib.hid (HRow2.out.below HB3.out)
      have G3 := Lib.hid (gBelow G2.out HB3.out (by omega))
      have HRd3 := Lib.hid (HRd2.out.below HB3.out (by omega))
      clear b3 HA HB3 HRow2 G2 HRd2 HRow HG HRd
      cases hko : rOk p s o t
      · go_wp2
        go_roundw
        case rel => exact ⟨k - 1, l, C + 13, by omega, by omega, by go_num, HRow3.out, HOK.out, by omega, by omega, HRd3.out, G3.out⟩
        case measure => simp [intOf]; omega
      · go_wp2_with fail
        refine (l12Put_any _ _ l ⟨p, s, o, t, hss⟩ HRow3.out.rls (by omega) hko HOK.out).mono ?_
        rintro e w4 ⟨u, rfl, hrow4, b4⟩
        have HRow4 := Lib.hid (hrow4.mono (show w.heap.size ≤ w3.heap.size by omega))
        have HL4 := Lib.hid (putF_len ⟨p, s, o, t, hss⟩ l)
        have HO4 := Lib.hid (putF_ok ⟨p, s, o, t, hss⟩ l hko HOK.out)
        have G4 := Lib.hid (gBelow G3.out b4 (by omega))
        have HRd4 := Lib.hid (HRd3.out.below b4 (by omega))
        clear b4 hrow4
        go_wp2
        go_roundw
        case rel => exact ⟨k - 1, putF ⟨p, s, o, t, hss⟩ l, C + 13, by omega, by omega, by go_num, HRow4.out, HO4.out, by have := HL4.out; omega, by omega, HRd4.out, G4.out⟩
        case measure => simp [intOf]; omega
    · obtain rfl : k = 0 := by omega
      go_wp2_with fail
      refine (pick_any _ _ _ _ HRd.out (by omega) (by omega)).mono ?_
      rintro e w2 ⟨n2, a2, c2, rfl, hr2, g2⟩
      have HRow2 := Lib.hid (HRow.out.grow g2 hlt)
      have s2 := g2.size
      have G2 := Lib.hid (gTrans HG.out g2)
      have HRd2 := Lib.hid hr2
      clear hr2 g2 HRow HG HRd HR1 HT1 G1 hk0 hk7
      have hl8 : l.length ≤ 8 := by omega
      obtain ⟨ad, cap, rfl, hcap, hmx, -⟩ := HRow2.out.rls
      unfold maxLen at hmx
      by_cases h0 : n2 = 0
      · subst h0
        go_wp2_with fail
        refine (l91Rule_any _ _ _ HRd2.out (by omega)).mono ?_
        rintro e w3 ⟨p, s, o, t, hsm, rfl, hr3, g3⟩
        have hss : s.size ≤ 1048576 := by have := hsm.2.1; omega
        have HRow3 := Lib.hid (HRow2.out.grow g3 hlt)
        have s3 := g3.size
        have G3 := Lib.hid (gTrans G2.out g3)
        have HRd3 := Lib.hid hr3
        clear hr3 g3 hsm HRow2 G2 HRd2
        go_wp2_with (at_builtin; refine app_rule rfl _ _ rfl w.heap.size _ _ rfl (HRow3.out.below (below_alloc1 _ _)) _ ⟨p, s, o, t, hss⟩ rfl (newFour _ ⟨p, s, o, t, hss⟩) (by omega) (by simp; omega) ?_; rintro v' w4 hrow4 hb4 hs4 ⟨g', cap', rfl⟩; have HRow4 := Lib.hid hrow4; have HB4 := Lib.hid (((below_alloc1 w3 (.cells #[.int .i64 p, .string s, .int .i64 o, .int .i64 t] 56)).mono (by omega)).trans hb4); clear hrow4 hb4 hs4)
        go_ret
        exact ⟨_, _, rfl, HRow4.out, by simp; omega, (HRd3.out.below HB4.out hlt).le (by omega), gBelow G3.out HB4.out (Nat.le_refl _)⟩
      by_cases h1 : n2 = 1
      · subst h1
        by_cases h2 : 1 < l.length
        · have hz : (1 : Int) < (l.length : Int) := by omega
          rcases HRow2.out.form with ⟨e1, e2⟩ | ⟨gg, cap', e1, hgb, hgl, hc', hm'⟩
          · rw [e2] at h2; simp at h2
          obtain ⟨rfl, -, rfl⟩ : ad = some ⟨gg, 0, none⟩ ∧ l.length = l.length ∧ cap = cap' := by simpa using e1
          obtain ⟨hc1, hf1, hgl'⟩ := HRow2.out.cells rfl
          obtain ⟨a0, a1, a2, a3⟩ := hc1 0 (by omega)
          obtain ⟨b0, b1, b2, b3⟩ := hc1 1 h2
          simp only [Nat.zero_mul, Nat.zero_add, Nat.one_mul] at a0 a1 a2 a3 b0 b1 b2 b3
          clear hc1 e1
          generalize ruAt l 0 = x at *
          generalize ruAt l 1 = y at *
          have P1 := HRow2.out.put (i := 0) (r := y) rfl (by omega) rfl
          have P2 := Lib.hid (P1.put (i := 1) (r := x) (by simp) (by omega) rfl)
          clear P1
          go_wp2
          go_ret
          exact ⟨_, _, rfl, P2.out.below (below_alloc1 _ _), by simp; omega, (((((((((HRd2.out.setCell (by exact Nat.lt_of_lt_of_le hlt hgb) _).setCell (by exact Nat.lt_of_lt_of_le hlt hgb) _).setCell (by exact Nat.lt_of_lt_of_le hlt hgb) _).setCell (by exact Nat.lt_of_lt_of_le hlt hgb) _).setCell (by exact Nat.lt_of_lt_of_le hlt hgb) _).setCell (by exact Nat.lt_of_lt_of_le hlt hgb) _).setCell (by exact Nat.lt_of_lt_of_le hlt hgb) _).setCell (by exact Nat.lt_of_lt_of_le hlt hgb) _).alloc _).le (by omega), gAlloc (gSet (gSet (gSet (gSet (gSet (gSet (gSet (gSet G2.out (by exact hgb) _) (by exact hgb) _) (by exact hgb) _) (by exact hgb) _) (by exact hgb) _) (by exact hgb) _) (by exact hgb) _) (by exact hgb) _) _⟩
        · have hz : ¬ (1 : Int) < (l.length : Int) := by omega
          go_wp2
          go_ret
          exact ⟨_, _, rfl, HRow2.out, by omega, HRd2.out.le (by omega), G2.out⟩
      by_cases h2 : n2 = 2
      · subst h2
        go_wp2
        go_loopw [3, 7] (fun x n wr => ∃ (k : Nat) (l : List R4), k ≤ 64 ∧ n = .int .i64 k ∧ RulRow wr w.heap.size x l ∧ (∀ q ∈ l, okR q = true) ∧ l.length ≤ 48 ∧ RdOk wr g (C + 1) ∧ w.grownBy wr (some g)) (fun _ n _ => 64 - (intOf n).toNat)
        case atStart => exact ⟨0, l, Nat.zero_le _, rfl, HRow2.out, HOK.out, by omega, HRd2.out, G2.out⟩
        case round =>
          clear HRow2 HOK HRd2 G2
          obtain ⟨k, l, hk, rfl, hrow, hok, hlen, hrd, hgr⟩ := hrel
          have HRow := Lib.hid hrow
          have HOK := Lib.hid hok
          have HRd := Lib.hid hrd
          have HG := Lib.hid hgr
          have hsz := hgr.size
          clear hrow hok hrd hgr
          obtain ⟨ad, cap, rfl, hcap, hmx, -⟩ := HRow.out.rls
          unfold maxLen at hmx
          by_cases hl48 : l.length < 48
          · have hz : (l.length : Int) < 48 := by omega
            by_cases hk64 : k < 64
            · have hkz : (k : Int) < 64 := by omega
              have hnum : (k : Int) = ofB (hB ((k : Int) / 16) ((k : Int) / 4 % 4) ((k : Int) % 4)) := by
                rw [← num_ofB (okB_numD k hk64)]
                omega
              have HL2 := Lib.hid (fun w => l2Of_any (hB ((k : Int) / 16) ((k : Int) / 4 % 4) ((k : Int) % 4)) w)
              rw [← hnum] at HL2
              clear hnum
              obtain ⟨sp, hsp⟩ : ∃ sp, mk6 (fun i => bitV (hB ((k : Int) / 16) ((k : Int) / 4 % 4) ((k : Int) % 4) i)) = sp := ⟨_, rfl⟩
              have hos : okS sp = true := by rw [← hsp]; exact okS_bits _
              rw [hsp] at HL2
              clear hsp
              have hss : sp.size ≤ 1048576 := by rw [okS_size hos]; omega
              have hko : okR ⟨1, sp, 1, -1, hss⟩ = true := (show rOk 1 sp 1 (-1) = true from rOk_mk (by decide) (by decide) hos (by decide) (by decide) (by decide) (by decide))
              have HKO := Lib.hid hko
              clear hko hos
              go_wp2_with fail
              refine (HL2.out _).mono ?_
              rintro e w3 ⟨rfl, b3⟩
              have s3 := b3.size
              have HRow3 := Lib.hid (HRow.out.below b3)
              have G3 := Lib.hid (gBelow HG.out b3 hsz)
              have HRd3 := Lib.hid (HRd.out.below b3 (by omega))
              clear b3
              go_wp2_with fail
              refine (l12Put_any _ _ l ⟨1, sp, 1, -1, hss⟩ HRow3.out.rls (by omega) HKO.out HOK.out).mono ?_
              rintro e w4 ⟨u, rfl, hrow4, b4⟩
              have HRow4 := Lib.hid (hrow4.mono (show w.heap.size ≤ w3.heap.size by omega))
              have HL4 := Lib.hid (putF_len ⟨1, sp, 1, -1, hss⟩ l)
              have HO4 := Lib.hid (putF_ok ⟨1, sp, 1, -1, hss⟩ l HKO.out HOK.out)
              have G4 := Lib.hid (gBelow G3.out b4 (by omega))
              have HRd4 := Lib.hid (HRd3.out.below b4 (by omega))
              clear b4 hrow4
              go_wp2
              go_roundw
              case rel => exact ⟨k + 1, putF ⟨1, sp, 1, -1, hss⟩ l, by omega, by go_num, HRow4.out, HO4.out, by have := HL4.out; omega, HRd4.out, G4.out⟩
              case measure => simp [intOf]; omega
            · have hkz : ¬ (k : Int) < 64 := by omega
              go_wp2
              go_ret
              exact ⟨_, _, rfl, HRow.out, by omega, HRd.out.le (by omega), HG.out⟩
          · have hz : ¬ (l.length : Int) < 48 := by omega
            go_wp2
            go_ret
            exact ⟨_, _, rfl, HRow.out, by omega, HRd.out.le (by omega), HG.out⟩
      go_wp2
      go_ret
      exact ⟨_, _, rfl, HRow2.out, by omega, HRd2.out.le (by omega), G2.out⟩

end Go.Proofs.YtennaeboemlnoaaDoor

namespace Go.Proofs.YtennaeboemlnoaaDoor
open Go.ChangeShapes Go.WideShapes Go.ChangeAt Go.RowKit Go.Joins
set_option linter.unusedVariables false

theorem gOwnT {w v : World} {r : Nat} (h : w.grownBy v (some r)) (i : Nat) (u : Value) : w.grownBy (v.setCell ⟨r, i, none⟩ u) (some r) :=
  ⟨h.os, h.tape, h.output, by simpa [World.setCell] using h.size, fun k hk hne => (Below.heap_setCell v _ u k (by intro e; exact hne (by simp [e]))).trans (h.block k hk hne)⟩
/-- A table and a head were drawn. -/
def TabHead (w : World) (e : Ending) (w' : World) : Prop :=
  ∃ (v : Value) (l : List R4) (x y z : Int), e = .returned (.tuple #[v, .agg #[.int .i64 x, .int .i64 y, .int .i64 z]]) ∧ l.length ≤ 100 ∧ Rls w' w'.heap.size v l ∧ Below w.heap.size w w'

end Go.Proofs.YtennaeboemlnoaaDoor

namespace Go.Proofs.YtennaeboemlnoaaDoor
open Go.ChangeShapes Go.WideShapes Go.ChangeAt Go.RowKit Go.Joins
set_option linter.unusedVariables false

/-- A table and a rule were drawn. -/
def TabRuleR (w : World) (e : Ending) (w' : World) : Prop :=
  ∃ (v : Value) (l : List R4) (r : R4), e = .returned (.tuple #[v, .agg #[.int .i64 r.p, .string r.s, .int .i64 r.o, .int .i64 r.t]]) ∧ l.length ≤ 100 ∧ RulRow w' w.heap.size v l ∧ Below w.heap.size w w'

end Go.Proofs.YtennaeboemlnoaaDoor
