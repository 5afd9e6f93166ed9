/-
  Proved: promise 54 (what is sent to a port is all parts of its rules), at every code from which the table and the port are drawn; the code reads on as it did. No condition but the card's own: the listed variables of the library stand as its text lays them.
-/
import Derived.Test.YtehgpehhpijkjaaGreatDoorRuleCard
import Derived.Test.YtehgpehhpijkjaaGreatDoorOwnB
import Derived.Test.YtehgpehhpijkjaaGreatDoorTabPartF
import Derived.Test.YtehgpehhpijkjaaGreatDoorTabDrawC
import Derived.Test.YtehgpehhpijkjaaGreatDoorTabToT
namespace Go.Proofs.YtehgpehhpijkjaaGreatDoor
open Go.ChangeShapes Go.WideShapes Go.ChangeAt Go.RowKit Go.Joins
set_option linter.unusedVariables false

/-- The heads that are sent to a port by the first k rules, or by none. -/
def toK (l : List R4) (q : Int) (k : Nat) : List Bool := tabF 6 (fun b => decide (outF b l = q) && decide (atF b l < (k : Int)))
theorem toK_len (l : List R4) (q : Int) (k : Nat) : (toK l q k).length = 64 := tabF_len 6 _
theorem outF_at {l : List R4} {b : List Bool} {k : Nat} (h : atF b l = (k : Int)) : outF b l = (ruAt l k).o := by
  unfold atF at h
  unfold outF
  cases hx : l.findIdx? (hasR b) with
  | none => rw [hx] at h; have h' : (-1 : Int) = (k : Int) := h; omega
  | some i =>
    rw [hx] at h
    have h' : (i : Int) = (k : Int) := h
    obtain rfl : i = k := by omega
    rfl
theorem outF_none {l : List R4} {b : List Bool} (h : atF b l = -1) : outF b l = 0 := by
  unfold atF at h
  unfold outF
  cases hx : l.findIdx? (hasR b) with
  | none => rfl
  | some i =>
    rw [hx] at h
    have h' : (i : Int) = -1 := h
    omega
theorem toK_zero (l : List R4) : toK l 0 0 = areaM l (-1) := tabF_congr 6 fun b _ => by
  have := atF_low l b
  by_cases h : atF b l = -1
  · simp [outF_none h, h]
  · have h2 : ¬ atF b l < 0 := by omega
    simp [h, h2]
theorem toK_none (l : List R4) {q : Int} (hq : ¬ q = 0) : tidyT (toK l q 0) = [] := by
  have e : toK l q 0 = tabF 6 (fun _ => false) := tabF_congr 6 fun b _ => by
    have := atF_low l b
    by_cases h : atF b l = -1
    · have h0 : ¬ (0 : Int) = q := fun e => hq e.symm
      simp [outF_none h, h0]
    · have h2 : ¬ atF b l < 0 := by omega
      simp [h2]
  rw [e]
  rfl
theorem toK_yes {l : List R4} {q : Int} {k : Nat} (h : (ruAt l k).o = q) : toK l q (k + 1) = List.zipWith (fun x y => x || y) (toK l q k) (areaM l (k : Int)) := by
  unfold toK areaM
  rw [tabF_zip]
  refine tabF_congr 6 fun b _ => ?_
  rcases Int.lt_trichotomy (atF b l) (k : Int) with hk | hk | hk
  · have h1 : atF b l < ((k + 1 : Nat) : Int) := by omega
    have h2 : ¬ atF b l = (k : Int) := by omega
    simp only [decide_eq_true h1, decide_eq_true hk, decide_eq_false h2, Bool.and_true, Bool.or_false]
  · have h1 : atF b l < ((k + 1 : Nat) : Int) := by omega
    have h2 : outF b l = q := by rw [outF_at hk]; exact h
    simp only [decide_eq_true h1, decide_eq_true h2, decide_eq_true hk, Bool.and_true, Bool.or_true]
  · have h1 : ¬ atF b l < ((k + 1 : Nat) : Int) := by omega
    have h2 : ¬ atF b l = (k : Int) := by omega
    have h3 : ¬ atF b l < (k : Int) := by omega
    simp only [decide_eq_false h1, decide_eq_false h2, decide_eq_false h3, Bool.and_false, Bool.or_false]
theorem toK_no {l : List R4} {q : Int} {k : Nat} (h : ¬ (ruAt l k).o = q) : toK l q (k + 1) = toK l q k := by
  refine tabF_congr 6 fun b _ => ?_
  rcases Int.lt_trichotomy (atF b l) (k : Int) with hk | hk | hk
  · have h1 : atF b l < ((k + 1 : Nat) : Int) := by omega
    simp only [decide_eq_true h1, decide_eq_true hk]
  · have h2 : ¬ outF b l = q := by rw [outF_at hk]; exact h
    simp only [decide_eq_false h2, Bool.false_and]
  · have h1 : ¬ atF b l < ((k + 1 : Nat) : Int) := by omega
    have h3 : ¬ atF b l < (k : Int) := by omega
    simp only [decide_eq_false h1, decide_eq_false h3]
theorem toK_all (l : List R4) (q : Int) : toK l q l.length = toM l q := tabF_congr 6 fun b _ => by
  simp only [decide_eq_true (atF_high l b), Bool.and_true]
theorem op_tidy (f : Bool → Bool → Bool) {m m' : List Bool} (h : m.length = 64) (h' : m'.length = 64) : opR f (tidyT m) (tidyT m') = tidyT (List.zipWith f m m') := by
  unfold opR
  rw [okSp_tidy, okSp_tidy, spL_tidy h, spL_tidy h']
  rfl

set_option maxRecDepth 100000 in
set_option maxHeartbeats 8000000 in
theorem walk_FnToArea (a : Option Addr) (len cap : Nat) (w : World) (hb : BytesIn w w.heap.size a len cap) (hE : EtOk w) :
    Calls Tryz.prog 4 #[.slice a len cap] w fun e w' => e = .returned (.bool true) ∧ Below w.heap.size w w' := by
  have HB := Lib.hid hb
  have HE := Lib.hid hE
  have hm : (len : Int) ≤ maxLen := by have := hb.1; have := hb.2.1; omega
  unfold maxLen at hm
  clear hb hE
  by_cases hlen : (1048576 : Int) < (len : Int)
  · go_enter Tryz.func4, Tryz.ntmps4
    go_wp2
    go_ret
    exact ⟨rfl, Below.refl _ _⟩
  go_enter Tryz.func4, Tryz.ntmps4
  go_wp2_with fail
  refine (drawTableTo_any _ _ _ _ HB.out).mono ?_
  rintro e w1 ⟨v, l, q, rfl, hl, hq1, hq2, hx, b1⟩
  have hn : l.length ≤ 1048576 := by omega
  have HL : Hid (∀ W, Below w1.heap.size w1 W → Rls W W.heap.size v l) := fun W hb => (hx.rls.below hb (Nat.le_refl _)).mono hb.size
  have HEW : Hid (∀ W, Below w1.heap.size w1 W → EtOk W) := fun W hb => (HE.out.below b1).below hb
  have BW : Hid (∀ W, Below w1.heap.size w1 W → Below w.heap.size w W) := fun W hb => belStep b1 hb
  have HI := Lib.hid (fun W q h => iTableTo_any W v l h hn q)
  have HS := Lib.hid (fun W h => sTableTo_any W v l h hn q)
  have HT := Lib.hid (fun W h => sTableOk_any W v l h hn)
  have HAL : Hid (∀ z : Int, (toT l z).length ≤ 64) := fun z => toT_len l z
  obtain ⟨va, vc, rfl⟩ : ∃ va vc, v = .slice va l.length vc := by
    obtain ⟨va, vc, rfl, -⟩ := hx.rls
    exact ⟨va, vc, rfl⟩
  clear hx b1
  go_wp2_with fail
  refine (HI.out _ q (HL.out _ (Below.refl _ _)) (HEW.out _ (Below.refl _ _))).mono ?_
  rintro e w2 ⟨s, rfl, hrow, b2⟩
  have HR := Lib.hid hrow
  have B2 := Lib.hid b2
  clear hrow b2
  go_wp2_with fail
  refine (HS.out _ (HL.out _ B2.out)).mono ?_
  rintro e w3 ⟨u, rfl, hrow, b3⟩
  have HU := Lib.hid hrow
  replace HR := Lib.hid (HR.out.below b3)
  have B3 := Lib.hid (belStep B2.out b3)
  clear hrow b3 B2
  go_wp2_with fail
  refine (lxTexts_same _ _ _ _ _ _ HR.out HU.out (by have := HAL.out q; omega)).mono ?_
  rintro e w4 ⟨rfl, b4⟩
  replace HR := Lib.hid (HR.out.below b4)
  have B4 := Lib.hid (belStep B3.out b4)
  clear b4 B3 HU
  go_wp2_with fail
  refine (HT.out _ (HL.out _ B4.out)).mono ?_
  rintro e w5 ⟨rfl, b5⟩
  replace HR := Lib.hid (HR.out.below b5)
  have B5 := Lib.hid (belStep B4.out b5)
  clear b5 B4
  cases ht : tOk l
  · rw [ht] at HT
    go_wp2_with fail
    refine (HS.out _ (HL.out _ B5.out)).mono ?_
    rintro e w6 ⟨u, rfl, hrow, b6⟩
    have HU := Lib.hid hrow
    replace HR := Lib.hid (HR.out.below b6)
    have B6 := Lib.hid (belStep B5.out b6)
    clear hrow b6
    go_wp2_with fail
    refine (lxTexts_same _ _ _ _ _ _ HR.out HU.out (by have := HAL.out q; omega)).mono ?_
    rintro e w7 ⟨rfl, b7⟩
    have B7 := Lib.hid (belStep B6.out b7)
    clear b7
    go_wp2
    go_ret
    exact ⟨rfl, BW.out _ B7.out⟩
  by_cases hlo : q < 0
  · clear HT ht
    go_wp2_with fail
    refine (HS.out _ (HL.out _ B5.out)).mono ?_
    rintro e w6 ⟨u, rfl, hrow, b6⟩
    have HU := Lib.hid hrow
    replace HR := Lib.hid (HR.out.below b6)
    have B6 := Lib.hid (belStep B5.out b6)
    clear hrow b6
    go_wp2_with fail
    refine (lxTexts_same _ _ _ _ _ _ HR.out HU.out (by have := HAL.out q; omega)).mono ?_
    rintro e w7 ⟨rfl, b7⟩
    have B7 := Lib.hid (belStep B6.out b7)
    clear b7
    go_wp2
    go_ret
    exact ⟨rfl, BW.out _ B7.out⟩
  by_cases hhi : (5 : Int) ≤ q
  · clear HT ht
    go_wp2_with fail
    refine (HS.out _ (HL.out _ B5.out)).mono ?_
    rintro e w6 ⟨u, rfl, hrow, b6⟩
    have HU := Lib.hid hrow
    replace HR := Lib.hid (HR.out.below b6)
    have B6 := Lib.hid (belStep B5.out b6)
    clear hrow b6
    go_wp2_with fail
    refine (lxTexts_same _ _ _ _ _ _ HR.out HU.out (by have := HAL.out q; omega)).mono ?_
    rintro e w7 ⟨rfl, b7⟩
    have B7 := Lib.hid (belStep B6.out b7)
    clear b7
    go_wp2
    go_ret
    exact ⟨rfl, BW.out _ B7.out⟩
  have hq3 : 0 ≤ q := by omega
  have hq4 : q < 5 := by omega
  obtain ⟨D, hD⟩ : ∃ D : Nat → List ByteArray, D = fun k => tidyT (toK l q k) := ⟨_, rfl⟩
  have HDY : Hid (∀ k : Nat, k < l.length → (ruAt l k).o = q → opR (fun x y => x || y) (D k) (areaT l (k : Int)) = D (k + 1)) := fun k hk h => by
    rw [hD, areaT_yes ht (by omega) (by omega)]
    show opR _ (tidyT (toK l q k)) _ = tidyT (toK l q (k + 1))
    rw [toK_yes h, op_tidy _ (toK_len l q k) (areaM_len l _)]
  have HDN : Hid (∀ k : Nat, k < l.length → ¬ (ruAt l k).o = q → D (k + 1) = D k) := fun k hk h => by
    rw [hD]
    show tidyT (toK l q (k + 1)) = tidyT (toK l q k)
    rw [toK_no h]
  have HD0 : Hid (q = 0 → areaT l (-1) = D 0) := fun h => by
    rw [hD, areaT_yes ht (by omega) (by omega)]
    show _ = tidyT (toK l q 0)
    rw [h, toK_zero]
  have HD1 : Hid (¬ q = 0 → [] = D 0) := fun h => by
    rw [hD]
    exact (toK_none l h).symm
  have HDA : Hid (D l.length = toT l q) := by
    show D l.length = _
    rw [hD, toT_yes ht hq3 hq4]
    show tidyT (toK l q l.length) = _
    rw [toK_all]
  have HFD : Hid (∀ k, Fit6 (D k)) := fun k => by rw [hD]; exact fit_tidy _
  have HFA : Hid (∀ k : Nat, k < l.length → Fit6 (areaT l (k : Int))) := fun k hk => by rw [areaT_yes ht (by omega) (by omega)]; exact fit_tidy _
  have HIA := Lib.hid (fun W z h => iTableArea_any W (.slice va l.length vc) l h hn z)
  have hnz : l.length = 0 ∨ ∃ b off, va = some ⟨b, off, none⟩ ∧ b < w5.heap.size ∧ Hid (∀ i, i < l.length → Four w5 b (off + i * 4) (ruAt l i)) := by
    obtain ⟨va', vc', hve, hvc, hvm, hvx⟩ := HL.out _ B5.out
    obtain ⟨rfl, rfl⟩ : va = va' ∧ vc = vc' := by simpa using hve
    rcases hvx with h | ⟨b, off, h1, h2, h3⟩
    · exact .inl (by rw [h]; rfl)
    · exact .inr ⟨b, off, h1, h2, h3⟩
  have hvb : l.length ≤ vc ∧ vc ≤ maxLen := by
    obtain ⟨va', vc', hve, hvc, hvm, hvx⟩ := HL.out _ B5.out
    obtain ⟨rfl, rfl⟩ : va = va' ∧ vc = vc' := by simpa using hve
    exact ⟨hvc, hvm⟩
  unfold maxLen at hvb
  obtain ⟨hvc, hvm⟩ := hvb
  have HAL2 := Lib.hid (HAL.out q)
  clear ht HT HS HI hq1 hq2 hlo hhi hD HAL
  by_cases hq0 : q = 0
  · subst hq0
    have HD00 := Lib.hid (HD0.out rfl)
    clear HD0 HD1 hq3 hq4
    have BA : Hid (Below w5.heap.size w5 (w5.alloc (.cells #[] 9))) := (Below.refl _ _).alloc (Nat.le_refl _) _
    go_wp2_with fail
    refine (HIA.out _ (-1) (HL.out _ (belStep B5.out BA.out)) (HEW.out _ (belStep B5.out BA.out))).mono ?_
    rintro e w6 ⟨y, rfl, hrow, b6⟩
    rw [HD00.out] at hrow
    have HY0 := Lib.hid (hrow.mono BA.out.size)
    have BS := Lib.hid (belStep BA.out b6)
    clear hrow b6 BA
    go_wp2
    go_loopw [6, 7] (fun y i wr => ∃ k : Nat, k ≤ l.length ∧ i = .int .i64 k ∧ StrRow wr w5.heap.size y (D k) ∧ Below w5.heap.size w5 wr) (fun _ i _ => l.length - (intOf i).toNat)
    case atStart => exact ⟨0, Nat.zero_le _, rfl, HY0.out, BS.out⟩
    case round =>
      obtain ⟨k, hk, rfl, hrow, hbel⟩ := hrel
      have HBL := Lib.hid hbel
      have HRW := Lib.hid hrow
      clear hrow
      by_cases hlt : k < l.length
      · have hkz : (k : Int) < (l.length : Int) := by omega
        rcases hnz with h0 | ⟨b, off, rfl, hb, HC⟩
        · omega
        obtain ⟨c0, c1, c2, c3⟩ := (HC.out k hlt).below hbel hb
        have HYK := Lib.hid (HDY.out k hlt)
        have HNK := Lib.hid (HDN.out k hlt)
        have HFK := Lib.hid (HFD.out k)
        have HFB := Lib.hid (HFA.out k hlt)
        have HIK := Lib.hid (fun W h => HIA.out W (k : Int) h)
        clear hbel HC HDY HDN HFD HFA HIA
        generalize areaT l (k : Int) = A at *
        generalize ruAt l k = r at *
        by_cases ho : r.o = 0
        · have HDD := Lib.hid (HYK.out ho)
          clear HYK HNK
          go_wp2_with fail
          refine (HIK.out _ (HL.out _ (B5.out.trans (HBL.out.mono B5.out.size))) (HEW.out _ (B5.out.trans (HBL.out.mono B5.out.size)))).mono ?_
          rintro e w8 ⟨z, rfl, hrow, b8⟩
          have HZ := Lib.hid hrow
          have HRW8 := Lib.hid (HRW.out.below b8)
          have B8 := Lib.hid (belStep HBL.out b8)
          clear hrow b8 c0 c1 c2 c3
          go_wp2_with fail
          refine (iSpaceOr_any _ _ _ _ _ HRW8.out.strs HZ.out.strs HFK.out HFB.out).mono ?_
          rintro e w9 ⟨u, rfl, hrow, b9⟩
          rw [HDD.out] at hrow
          have HU := Lib.hid (hrow.mono B8.out.size)
          have B9 := Lib.hid (belStep B8.out b9)
          clear hrow b9 HZ HRW8
          go_wp2
          go_roundw
          case rel => exact ⟨k + 1, by omega, by go_num, HU.out, B9.out⟩
          case measure => simp [intOf]; omega
        · have HDD := Lib.hid (HNK.out ho)
          clear HYK HNK
          have hrw1 := HRW.out
          rw [← HDD.out] at hrw1
          have HRW1 := Lib.hid hrw1
          clear hrw1
          go_wp2
          go_roundw
          case rel => exact ⟨k + 1, by omega, by go_num, HRW1.out, HBL.out⟩
          case measure => simp [intOf]; omega
      · obtain rfl : k = l.length := by omega
        rw [HDA.out] at HRW
        clear hbel HDY HDN HFD HFA HIA hnz
        go_wp2_with fail
        refine (lxTexts_same _ _ _ _ _ _ (HR.out.below HBL.out) HRW.out (by have := HAL2.out; omega)).mono ?_
        rintro e w8 ⟨rfl, b8⟩
        have B8 := Lib.hid (belStep HBL.out b8)
        clear b8
        go_wp2
        go_ret
        exact ⟨rfl, BW.out _ (B5.out.trans (B8.out.mono B5.out.size))⟩
  · have HD00 := Lib.hid (HD1.out hq0)
    clear HD0 HD1
    have BS : Hid (Below w5.heap.size w5 (w5.alloc (.cells #[] 9))) := (Below.refl _ _).alloc (Nat.le_refl _) _
    have HY0 : Hid (StrRow (w5.alloc (.cells #[] 9)) w5.heap.size (.slice (some ⟨w5.heap.size, 0, none⟩) 0 0) (D 0)) := by show StrRow _ _ _ _; rw [← HD00.out]; exact emptyS w5 (Nat.le_refl _)
    go_wp2
    rw [show (q == 0) = false from by simpa using hq0]
    go_loopw [6, 7] (fun y i wr => ∃ k : Nat, k ≤ l.length ∧ i = .int .i64 k ∧ StrRow wr w5.heap.size y (D k) ∧ Below w5.heap.size w5 wr) (fun _ i _ => l.length - (intOf i).toNat)
    case atStart => exact ⟨0, Nat.zero_le _, rfl, HY0.out, BS.out⟩
    case round =>
      obtain ⟨k, hk, rfl, hrow, hbel⟩ := hrel
      have HBL := Lib.hid hbel
      have HRW := Lib.hid hrow
      clear hrow
      by_cases hlt : k < l.length
      · have hkz : (k : Int) < (l.length : Int) := by omega
        rcases hnz with h0 | ⟨b, off, rfl, hb, HC⟩
        · omega
        obtain ⟨c0, c1, c2, c3⟩ := (HC.out k hlt).below hbel hb
        have HYK := Lib.hid (HDY.out k hlt)
        have HNK := Lib.hid (HDN.out k hlt)
        have HFK := Lib.hid (HFD.out k)
        have HFB := Lib.hid (HFA.out k hlt)
        have HIK := Lib.hid (fun W h => HIA.out W (k : Int) h)
        clear hbel HC HDY HDN HFD HFA HIA
        generalize areaT l (k : Int) = A at *
        generalize ruAt l k = r at *
        by_cases ho : r.o = q
        · have HDD := Lib.hid (HYK.out ho)
          clear HYK HNK
          subst ho
          go_wp2_with fail
          refine (HIK.out _ (HL.out _ (B5.out.trans (HBL.out.mono B5.out.size))) (HEW.out _ (B5.out.trans (HBL.out.mono B5.out.size)))).mono ?_
          rintro e w8 ⟨z, rfl, hrow, b8⟩
          have HZ := Lib.hid hrow
          have HRW8 := Lib.hid (HRW.out.below b8)
          have B8 := Lib.hid (belStep HBL.out b8)
          clear hrow b8 c0 c1 c2 c3
          go_wp2_with fail
          refine (iSpaceOr_any _ _ _ _ _ HRW8.out.strs HZ.out.strs HFK.out HFB.out).mono ?_
          rintro e w9 ⟨u, rfl, hrow, b9⟩
          rw [HDD.out] at hrow
          have HU := Lib.hid (hrow.mono B8.out.size)
          have B9 := Lib.hid (belStep B8.out b9)
          clear hrow b9 HZ HRW8
          go_wp2
          go_roundw
          case rel => exact ⟨k + 1, by omega, by go_num, HU.out, B9.out⟩
          case measure => simp [intOf]; omega
        · have HDD := Lib.hid (HNK.out ho)
          clear HYK HNK
          have hrw1 := HRW.out
          rw [← HDD.out] at hrw1
          have HRW1 := Lib.hid hrw1
          clear hrw1
          go_wp2
          go_roundw
          case rel => exact ⟨k + 1, by omega, by go_num, HRW1.out, HBL.out⟩
          case measure => simp [intOf]; omega
      · obtain rfl : k = l.length := by omega
        rw [HDA.out] at HRW
        clear hbel HDY HDN HFD HFA HIA hnz
        go_wp2_with fail
        refine (lxTexts_same _ _ _ _ _ _ (HR.out.below HBL.out) HRW.out (by have := HAL2.out; omega)).mono ?_
        rintro e w8 ⟨rfl, b8⟩
        have B8 := Lib.hid (belStep HBL.out b8)
        clear b8
        go_wp2
        go_ret
        exact ⟨rfl, BW.out _ (B5.out.trans (B8.out.mono B5.out.size))⟩

set_option maxRecDepth 100000 in
theorem contract_FnToArea (H : Type) (enc : TypeId × Value → H) (W : World) (base : Nat) (args : Array Value) (ds gs : List (DataW H)) (before : List MemPlace)
    (hval : ∀ (j : Nat) t v, Tryz.f4.params[j]? = some t → args[j]? = some v → Value.okWide Tryz.prog W .any base t v)
    (hW : DataW.Whole enc Tryz.prog Tryz.f4.params.toList Rows.fnToAreaSpec.vars false W args.toList ds gs before) (hE : EtOk W) :
    Calls Tryz.prog 4 args W fun e W' => ∃ v, e = .returned v ∧ Rows.fnToAreaSpec.post enc Tryz.prog Tryz.f4 false true false false W args v W' := by
  have hW' := hW
  obtain ⟨p, q, hA0, hV, rfl, hfz, hnd⟩ := hW
  have hA : DataW.TrodAll enc Tryz.prog W 0 (fun _ => true) true Tryz.f4.params.toList args.toList ds p := hA0
  rw [Tryz.params4] at hA hval
  obtain ⟨v0, vs0, d0, ds0, p0, q0, hargs, rfl, rfl, h0, r0⟩ := trodAll_cons hA
  obtain ⟨rfl, rfl, rfl⟩ := trodAll_nil r0
  obtain rfl : args = #[v0] := by cases args; simp_all
  obtain ⟨rfl, rfl⟩ := trodVars_none hV
  have k0 := h0
  have lt0 : ∀ x ∈ p0, x.block < W.heap.size := by obtain ⟨m, hm⟩ := k0; exact DataW.trod_lt m _ _ _ hm
  obtain ⟨a0, len0, cap0, rfl⟩ := okWide_slice Tryz.underlying22 (hval 0 22 v0 rfl rfl)
  have w0 : BytesIn W W.heap.size a0 len0 cap0 := isRow_of h0
  clear hA0
  refine (walk_FnToArea a0 len0 cap0 W w0 hE).mono fun e W' ⟨he, bel⟩ => ?_
  subst he
  exact ⟨_, rfl, _, _, _, [], _, [], hW', trodAll_mk1 (shut_bool Tryz.underlying4 _), (trodAll_cons_mk (Below.trod laidOut (by kernel_rfl) (of_decide_eq_true (by kernel_rfl)) k0 bel lt0) (trodAll_mk0)), rfl, bel.frame _, fun h => by cases h⟩

/-- A world for the witness: the settled one, with the listed variables as the text lays them. -/
noncomputable def laidWorld_FnToArea (os : Os) : World :=
  { World.holding Tryz.prog os ⟨#[], #[], []⟩ with heap := (((((World.holding Tryz.prog os ⟨#[], #[], []⟩).heap).modify 3 (fun | .cells _ t frozen => .cells #[.int .u8 0, .int .u8 1, .int .u8 28, .int .u8 2, .int .u8 29, .int .u8 14, .int .u8 24, .int .u8 3, .int .u8 30, .int .u8 22, .int .u8 20, .int .u8 15, .int .u8 25, .int .u8 17, .int .u8 4, .int .u8 8, .int .u8 31, .int .u8 27, .int .u8 13, .int .u8 23, .int .u8 21, .int .u8 19, .int .u8 16, .int .u8 7, .int .u8 26, .int .u8 12, .int .u8 18, .int .u8 6, .int .u8 11, .int .u8 5, .int .u8 10, .int .u8 9] t frozen | o => o)).modify 4 (fun | .cells _ t frozen => .cells #[.int .u8 0, .int .u8 1, .int .u8 56, .int .u8 2, .int .u8 57, .int .u8 49, .int .u8 28, .int .u8 3, .int .u8 61, .int .u8 58, .int .u8 42, .int .u8 50, .int .u8 38, .int .u8 29, .int .u8 17, .int .u8 4, .int .u8 62, .int .u8 47, .int .u8 59, .int .u8 36, .int .u8 45, .int .u8 43, .int .u8 51, .int .u8 22, .int .u8 53, .int .u8 39, .int .u8 33, .int .u8 30, .int .u8 24, .int .u8 18, .int .u8 12, .int .u8 5, .int .u8 63, .int .u8 55, .int .u8 48, .int .u8 27, .int .u8 60, .int .u8 41, .int .u8 37, .int .u8 16, .int .u8 46, .int .u8 35, .int .u8 44, .int .u8 21, .int .u8 52, .int .u8 32, .int .u8 23, .int .u8 11, .int .u8 54, .int .u8 26, .int .u8 40, .int .u8 15, .int .u8 34, .int .u8 20, .int .u8 31, .int .u8 10, .int .u8 25, .int .u8 14, .int .u8 19, .int .u8 9, .int .u8 13, .int .u8 8, .int .u8 7, .int .u8 6] t frozen | o => o)).modify 2 (fun | .cells _ t frozen => .cells #[.int .u64 1, .int .u64 10, .int .u64 100, .int .u64 1000, .int .u64 10000, .int .u64 100000, .int .u64 1000000, .int .u64 10000000, .int .u64 100000000, .int .u64 1000000000, .int .u64 10000000000, .int .u64 100000000000, .int .u64 1000000000000, .int .u64 10000000000000, .int .u64 100000000000000, .int .u64 1000000000000000, .int .u64 10000000000000000, .int .u64 100000000000000000, .int .u64 1000000000000000000, .int .u64 10000000000000000000] t frozen | o => o)).modify 0 (fun | .cells _ t frozen => .cells #[.iface 176 (.agg #[.pointer (some ⟨5, 131, none⟩)])] t frozen | o => o) }

theorem laidMet_FnToArea (os : Os) : laidMetH Tryz.prog Rows.fnToAreaRow.laid ((laidWorld_FnToArea os).forCall (fun _ _ => 0) ⟨#[], #[.slice none 0 0], []⟩).memory :=
  laidMetH_of_parts (laidMet_of_run' 8 (by kernel_rfl) (by kernel_rfl)) (by kernel_rfl)

theorem reads_FnToArea (os : Os) {H : Type} (enc : TypeId × Value → H) : ∃ places, DataW.whole enc Tryz.prog ((laidWorld_FnToArea os).forCall (fun _ _ => 0) ⟨#[], #[.slice none 0 0], []⟩).memory Tryz.f4.params.toList Rows.fnToAreaSpec.vars false (#[.slice none 0 0] : Array Value).toList 8 = some ([.nil], [], places) :=
  ⟨[], by kernel_rfl⟩

set_option maxRecDepth 100000 in
theorem lifted_FnToArea (os : Os) (started : os.Started) (H : Type) (enc : TypeId × Value → H) (F : Stop.Interp) :
    ReturnsInHanded {} Tryz.checked os 4 .any ((OpenSpec.ofChange Rows.fnToAreaSpec).preRow enc Tryz.prog Tryz.f4 Rows.fnToAreaRow.domain false Rows.fnToAreaRow.laid) (((OpenSpec.ofChange Rows.fnToAreaSpec).at F).post enc Tryz.prog Tryz.f4 false true false false) := by
  obtain ⟨places, hx⟩ := reads_FnToArea os enc
  refine returnsInHanded_of_row (C := Tryz.checked) (s := OpenSpec.ofChange Rows.fnToAreaSpec) own started (by kernel_rfl) Tryz.func4
    (witness_row_at (enc := enc) (C := Tryz.checked) false (laidWorld_FnToArea os) #[.slice none 0 0] rfl (by kernel_rfl) (by kernel_rfl) (by kernel_rfl)
      (OpenSpec.preRow_of_cond 8 hx (by kernel_rfl) (fun k hk => by cases hk) (by kernel_rfl) (laidMet_FnToArea os))) ?_
  intro W base args ds gs before hval hW _ _ _ hL _ _
  exact contract_FnToArea H enc W base args ds gs before hval hW (etOk_of hL (by simp [Rows.fnToAreaRow]))

theorem said_FnToArea : Rows.FnToAreaSaid :=
  OpenClaim.holds_of_cond 4 Tryz.f4 rfl rfl rfl rfl rfl rfl rfl ⟨rfl, rfl, rfl, rfl, rfl⟩ rfl rfl rfl rfl rfl (by kernel_rfl) Tryz.func4 (by kernel_rfl)
    (of_decide_eq_true (by kernel_rfl)) (by unfold Func.isWrapper; first | (rw [if_pos (by decide +kernel)]; kernel_rfl) | (rw [if_neg (by decide +kernel)]; exact ⟨rfl, rfl⟩))
    (fun os started H enc _ F => by rw [OpenClaim.pre_eq_preRow]; exact lifted_FnToArea os started H enc F)

theorem plain_FnToArea (f : FuncId) (fn : Func) (hf : Tryz.pinned.checked.prog.funcNamed "loop.example/crossbuck/laws.FnToArea" = some f) (hfn : Tryz.pinned.checked.prog.funcs[f]? = some fn) :
    true = Tryz.pinned.checked.prog.looks [] ∧ ∀ (j : Nat) t, fn.params[j]? = some t → Tryz.pinned.checked.prog.wantsStandIn t = false := by
  obtain rfl : f = 4 := Option.some.inj ((show Tryz.prog.funcNamed "loop.example/crossbuck/laws.FnToArea" = some 4 by kernel_rfl).symm.trans hf) |>.symm
  obtain rfl : fn = Tryz.f4 := (Option.some.inj (Tryz.func4.symm.trans hfn)).symm
  refine ⟨by kernel_rfl, fun j t ht => ?_⟩
  rw [Tryz.params4] at ht
  obtain rfl : t = 22 := by simpa using Array.mem_of_getElem? ht
  exact (show Tryz.prog.wantsStandIn 22 = false by kernel_rfl)

theorem proved_FnToArea : Rows.FnToAreaCardSaid :=
  Claim7.holds_tied_plain_at .later [] _ _ _ _ said_FnToArea (fun _ h => by cases h) (by kernel_rfl) (fun _ h => by cases h) fnToArea_row_tie rfl ⟨rfl, rfl⟩ (by kernel_rfl) rfl plain_FnToArea (by kernel_rfl)

end Go.Proofs.YtehgpehhpijkjaaGreatDoor
