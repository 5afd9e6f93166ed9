/-
  Two spaces, drawn often of the same heads: one tidied, one in another order, or one more.
-/
import Derived.Test.YtndmedkkecikoaaSpaceLx
import Derived.Test.YtndmedkkecikoaaStrMark
import Derived.Test.YtndmedkkecikoaaDrawSpace
import Derived.Laws.AppendOwnNone
namespace Go.Proofs.Ytndmedkkecikoaa
open Go.ChangeShapes Go.WideShapes Go.ChangeAt Go.RowKit Go.Joins
set_option linter.unusedVariables false

theorem tidyR_short (l : List ByteArray) : Short (tidyR l) := by
  refine ⟨Nat.le_trans (tidyR_len l) (by omega), fun s hs => ?_⟩
  unfold tidyR at hs
  cases hk : okSp l
  · rw [hk] at hs
    cases hs
  · rw [hk] at hs
    obtain ⟨x, hx, rfl⟩ := List.mem_map.1 hs
    rw [sText_size, tidyB_len 6 _ x hx]
    omega

theorem set_short {l : List ByteArray} {x : ByteArray} {k : Nat} (h : ∀ s ∈ l, s.size ≤ 8) (hx : x.size ≤ 8) : ∀ s ∈ l.set k x, s.size ≤ 8 := fun s hs => by
  rcases List.mem_or_eq_of_mem_set hs with h1 | rfl
  · exact h s h1
  · exact hx
theorem strAt_short {l : List ByteArray} {k : Nat} (h : ∀ s ∈ l, s.size ≤ 8) (hk : k < l.length) : (strAt l k).size ≤ 8 := by
  refine h _ ?_
  rw [strAt, List.getD_eq_getElem?_getD, List.getElem?_eq_getElem hk]
  exact List.getElem_mem hk

set_option maxRecDepth 100000 in
set_option maxHeartbeats 4000000 in
theorem drawSpaceSame_any (w : World) (a : Option Addr) (len cap : Nat) (hb : BytesIn w w.heap.size a len cap) :
    Calls Try.prog 26 #[.slice a len cap] w (SpacesFrom w) := by
  have HB := Lib.hid hb
  clear hb
  obtain ⟨i0, hi, hz0, hz1, hz2⟩ := info_parts infoStr
  have HI := Lib.hid hi
  have HQ0 := Lib.hid hz0
  have HQ1 := Lib.hid hz1
  have HQ2 := Lib.hid hz2
  clear hi hz0 hz1 hz2
  go_enter Try.func26, Try.ntmps26
  go_wp2_with fail
  refine (open_any _ _ _ _ HB.out).mono ?_
  rintro e w1 ⟨rfl, hr, b1⟩
  have HR := Lib.hid hr
  have s1 := hr.lt
  have z1 := b1.size
  clear hr
  go_wp2_with fail
  refine (l91Space_any _ _ _ HR.out (by omega)).mono ?_
  rintro e w2 ⟨v, l, rfl, hsh, hrow, hr2, g2⟩
  have HSH := Lib.hid hsh
  have HW2 := Lib.hid hrow
  have HR2 := Lib.hid hr2
  have G2 := Lib.hid g2
  have s2 := g2.size
  clear hsh hrow hr2 g2
  go_wp2_with fail
  refine (pick_any _ _ _ _ HR2.out (by omega) (by omega)).mono ?_
  rintro e w3 ⟨p, p0, p1, rfl, hr3, g3⟩
  have HR3 := Lib.hid hr3
  have s3 := g3.size
  have HW3 : Hid (StrRow w3 w1.heap.size v l) := HW2.out.apart2 (w := w1) g3 s1
  have G3 := Lib.hid (gTrans G2.out g3)
  have B3 : Hid (Below w.heap.size w w3) := b1.trans ((gBel G3.out (Nat.le_refl _) z1).mono (Nat.le_refl _))
  have hs3 := B3.out.size
  clear hr3 g3 G2 HW2 HR2 HR
  obtain rfl | rfl | rfl : p = 0 ∨ p = 1 ∨ p = 2 := by omega
  · go_wp2_with fail
    refine (sSpaceTidy_any _ v l HW3.out.strs HSH.out.fit).mono ?_
    rintro e w4 ⟨u, rfl, r4, b4⟩
    have X4 : Hid (Strs w4 w4.heap.size v l) := (HW3.out.below b4).strs
    have Y4 : Hid (Strs w4 w4.heap.size u (tidyR l)) := r4.strs
    have B4 := Lib.hid (belStep B3.out b4)
    clear r4 b4
    go_wp2
    go_ret2
    exact ⟨v, l, u, tidyR l, rfl, HSH.out, tidyR_short l, X4.out, Y4.out, B4.out⟩
  · have HE : Hid (StrRow (w3.alloc (.cells #[] 9)) w3.heap.size (.slice (some ⟨w3.heap.size, 0, none⟩) 0 0) []) := World.ownsRow_made w3 #[] 0 (Nat.le_refl _) (Nat.zero_le _) rfl
    have HA : Hid (StrRow (w3.alloc (.cells #[] 9)) w1.heap.size v l) := HW3.out.below (below_alloc1 _ _)
    rcases HA.out.form with ⟨rfl, rfl⟩ | ⟨ga, capa, rfl, hba, hga, hca, hma, hcell, hfr⟩
    · go_wp2_with (at_builtin; refine wpList_append_own_none rfl _ _ 23 rfl w3.heap.size 9 i0 1 Try.underlying23 HI.out _ _ _ rfl HE.out rfl ?_)
      go_wp2_with fail
      refine wp_loop_rounds 1 ?_
      rw [rounds_succ]
      go_wp2
      go_ret2
      exact ⟨_, [], _, [], rfl, HSH.out, HSH.out, HA.out.strs, HE.out.strs, B3.out.trans ((below_alloc1 _ _).mono (by omega))⟩
    · have h66 := HSH.out.1
      have HCE := Lib.hid hcell
      have HSM : Hid (∀ s ∈ l, s.size ≤ 8) := HSH.out.2
      clear hcell hfr
      go_wp2_with (at_builtin; refine wpList_append_own _ rfl _ _ 23 rfl w3.heap.size 9 i0 (.string ⟨#[]⟩) 1 16 Try.underlying23 HI.out HQ0.out HQ1.out HQ2.out rfl (by decide) _ _ _ rfl HE.out ⟨ga, 0, none⟩ l.length capa (l.map Value.string) rfl (by simp) ?c1 ?c2 ?c3 ?c4 ?c5 ?_)
      case c1 =>
        intro j u hj
        rw [List.getElem?_map] at hj
        cases hx : l[j]? with
        | none => rw [hx] at hj; cases hj
        | some x =>
          rw [hx] at hj
          cases hj
          have hjl : j < l.length := by
            rcases Nat.lt_or_ge j l.length with h | h
            · exact h
            · rw [List.getElem?_eq_none h] at hx; cases hx
          have := HCE.out j hjl
          rw [strAt, List.getD_eq_getElem?_getD, hx] at this
          rcases j with _ | j <;> simpa [Addr.add] using this
      case c2 =>
        intro u hu
        obtain ⟨x, _, rfl⟩ := List.mem_map.1 hu
        rfl
      case c3 => unfold maxLen; simp; omega
      case c4 => simp; omega
      case c5 => simp
      intro v' w4 hown4 hg4 hnn
      have HB4 : Hid (Below w3.heap.size w3 w4) := (below_alloc1 _ _).trans (grownBelow HE.out hg4 (by simp))
      have HV4 : Hid (StrRow w4 w3.heap.size v' l) := by
        show w4.ownsRow _ _ _ _ _ _
        simpa using hown4
      clear hown4 hg4 HE HCE
      have HA4 : Hid (∀ W, Below w3.heap.size w3 W → StrRow W w1.heap.size (.slice (some ⟨ga, 0, none⟩) l.length capa) l) := fun W hb => HW3.out.under hb (fun k hk => (World.ownsRow.lt HW3.out k hk).2)
      have BW : Hid (∀ W, Below w3.heap.size w3 W → Below w.heap.size w W) := fun W hb => B3.out.trans (hb.mono (by omega))
      clear HA HW3 B3 HR3 G3 b1
      rcases HV4.out.form with ⟨rfl, rfl⟩ | ⟨gb, capb, rfl, hbb, hgb, hcb, hmb, -, -⟩
      · exfalso
        simp at hnn
      · unfold maxLen at hmb
        have HSL : Hid (Short l) := HSH.out
        clear HSH
        obtain ⟨N, hN⟩ : ∃ N, N = l.length := ⟨_, rfl⟩
        have HN := Lib.hid hN
        have HST : Hid (StrRow w4 w3.heap.size (.slice (some ⟨gb, 0, none⟩) N capb) l) := by show StrRow _ _ _ _; rw [HN.out]; exact HV4.out
        rw [← hN] at h66 hcb hca ⊢
        clear hN HV4 hgb hca hma hnn
        go_wp2
        go_loopw [7] (fun i wr => ∃ (k : Nat) (lb : List ByteArray), i = .int .i64 k ∧ lb.length = N ∧ k ≤ N ∧ (∀ s ∈ lb, s.size ≤ 8) ∧ StrRow wr w3.heap.size (.slice (some ⟨gb, 0, none⟩) N capb) lb ∧ Below w3.heap.size w3 wr) (fun i _ => N - (intOf i).toNat)
        case atStart => exact ⟨0, l, rfl, HN.out.symm, Nat.zero_le _, HSM.out, HST.out, HB4.out⟩
        case round =>
          clear HST HB4
          obtain ⟨k, lb, rfl, hlb, hkN, hsm, hrow, hbel⟩ := hrel
          have HRW := Lib.hid hrow
          have HLB := Lib.hid hlb
          have HSB := Lib.hid hsm
          have HBL := Lib.hid hbel
          by_cases hlt : k + 1 < N
          · have hkz : (k : Int) < (N : Int) - 1 := by omega
            obtain ⟨hc, hf, hgl⟩ := hrow.cells hlb
            have c0 := hc k (by omega)
            have c1 := hc (k + 1) hlt
            have X0 := Lib.hid (strAt_short hsm (k := k) (by omega))
            have X1 := Lib.hid (strAt_short hsm (k := k + 1) (by omega))
            clear hc hrow hlb hsm hbel
            generalize strAt lb k = t0 at *
            generalize strAt lb (k + 1) = t1 at *
            have HQ : Hid (StrRow ((wr.setCell ⟨gb, k, none⟩ (.string t1)).setCell ⟨gb, k + 1, none⟩ (.string t0)) w3.heap.size (.slice (some ⟨gb, 0, none⟩) N capb) ((lb.set k t1).set (k + 1) t0)) := by
              have q1 := HRW.out.put (j := k) (x := t1) HLB.out rfl
              exact q1.put (j := k + 1) (x := t0) (by simpa using HLB.out) rfl
            have HD : Hid (Below w3.heap.size w3 ((wr.setCell ⟨gb, k, none⟩ (.string t1)).setCell ⟨gb, k + 1, none⟩ (.string t0))) := (HBL.out.setCell (p := ⟨gb, k, none⟩) hbb _).setCell (p := ⟨gb, k + 1, none⟩) hbb _
            have HSZ : Hid (∀ s ∈ (lb.set k t1).set (k + 1) t0, s.size ≤ 8) := fun s hs => by
              rcases List.mem_or_eq_of_mem_set hs with h | rfl
              · rcases List.mem_or_eq_of_mem_set h with h | rfl
                · exact HSB.out s h
                · exact X1.out
              · exact X0.out
            go_wp2
            go_roundw
            case rel => exact ⟨k + 1, (lb.set k t1).set (k + 1) t0, by go_num, by simp [HLB.out], by omega, HSZ.out, HQ.out, HD.out⟩
            case measure => simp [intOf]; omega
          · have hkz : ¬ (k : Int) < (N : Int) - 1 := by omega
            have HSL' : Hid (Short lb) := ⟨by rw [HLB.out]; exact h66, HSB.out⟩
            have HA5 : Hid (StrRow wr w1.heap.size (.slice (some ⟨ga, 0, none⟩) N capa) l) := by
              show StrRow _ _ _ _
              rw [HN.out]
              exact HA4.out _ HBL.out
            clear hrow hlb hsm hbel
            go_wp2
            go_ret2
            exact ⟨_, l, _, lb, rfl, HSL.out, HSL'.out, HA5.out.strs, HRW.out.strs, BW.out _ HBL.out⟩
  · go_wp2_with fail
    refine (l91Space_any _ _ _ HR3.out (by omega)).mono ?_
    rintro e w4 ⟨v', l', rfl, hsh', hrow', hr4, g4⟩
    have s4 := g4.size
    have HSH' := Lib.hid hsh'
    have HX : Hid (Strs w4 w4.heap.size v l) := (HW3.out.apart2 (w := w1) g4 s1).strs
    have HX' : Hid (Strs w4 w4.heap.size v' l') := hrow'.strs
    have B4 : Hid (Below w.heap.size w w4) := b1.trans ((gBel (gTrans G3.out g4) (Nat.le_refl _) z1).mono (Nat.le_refl _))
    clear hsh' hrow' hr4 g4
    go_wp2
    go_ret2
    exact ⟨v, l, v', l', rfl, HSH.out, HSH'.out, HX.out, HX'.out, B4.out⟩

end Go.Proofs.Ytndmedkkecikoaa
