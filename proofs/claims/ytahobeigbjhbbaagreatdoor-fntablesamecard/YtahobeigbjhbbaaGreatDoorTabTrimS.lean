/-
  The model's TableTrim, TableTo.
-/
import Derived.Test.YtahobeigbjhbbaaGreatDoorTabAreaS
import Derived.Test.YtahobeigbjhbbaaGreatDoorTabDoS
import Derived.Test.YtahobeigbjhbbaaGreatDoorTabPD
namespace Go.Proofs.YtahobeigbjhbbaaGreatDoor
open Go.ChangeShapes Go.WideShapes Go.ChangeAt Go.RowKit Go.Joins
set_option linter.unusedVariables false

/-- Of the first k rules those that are the first of a head. -/
def trimK (l : List R4) (k : Nat) : List R4 := ((List.range k).filter (fun (j : Nat) => !allNo (areaM l (j : Int)))).map (ruAt l)
def trimF (l : List R4) : List R4 := trimK l l.length
def trimT (l : List R4) : List R4 := bif tOk l then trimF l else []
theorem trimK_step (l : List R4) (k : Nat) : trimK l (k + 1) = bif allNo (areaM l (k : Int)) then trimK l k else trimK l k ++ [ruAt l k] := by
  unfold trimK
  rw [List.range_succ, List.filter_append]
  cases h : allNo (areaM l (k : Int)) <;> simp [h]
theorem trimK_len (l : List R4) (k : Nat) : (trimK l k).length ≤ k := by
  unfold trimK
  have := List.length_filter_le (fun (j : Nat) => !allNo (areaM l (j : Int))) (List.range k)
  simp only [List.length_map]
  simp only [List.length_range] at this
  exact this
theorem trimT_len (l : List R4) : (trimT l).length ≤ 48 := by
  unfold trimT
  cases ht : tOk l
  · exact Nat.zero_le _
  · have := tOk_len ht
    have := trimK_len l l.length
    rw [cond_true]
    unfold trimF
    omega

set_option maxRecDepth 100000 in
set_option maxHeartbeats 4000000 in
theorem sTableTrim_any (w : World) (v : Value) (l : List R4) (h : Rls w w.heap.size v l) (hn : l.length ≤ 1048576) :
    Calls Tryz.prog 44 #[v] w fun e w' => ∃ u, e = .returned u ∧ RulRow w' w.heap.size u (trimT l) ∧ Below w.heap.size w w' := by
  have HB0 := Lib.hid (below_alloc1 w (.cells #[] 25))
  have HL : Hid (∀ W, Below w.heap.size w W → Rls W W.heap.size v l) := fun W hb => (h.below hb (Nat.le_refl _)).mono hb.size
  have HM0 := Lib.hid (emptyRowR w w.heap.size (Nat.le_refl _))
  obtain ⟨a, cap, rfl, hc, hm, hh⟩ := h
  have hnz : l.length = 0 ∨ ∃ b off, a = some ⟨b, off, none⟩ ∧ b < w.heap.size ∧ Hid (∀ i, i < l.length → Four w b (off + i * 4) (ruAt l i)) := by
    rcases hh with h | ⟨b, off, h1, h2, h3⟩
    · exact .inl (by rw [h]; rfl)
    · exact .inr ⟨b, off, h1, h2, h3⟩
  clear hh
  unfold maxLen at hm
  cases ht : tOk l
  · have HT : Hid (trimT l = []) := by show _ = _; simp [trimT, ht]
    rw [HT.out]
    go_enter Tryz.func44, Tryz.ntmps44
    go_wp2_with fail
    refine (sTableOk_any _ _ l (HL.out _ HB0.out) hn).mono ?_
    rintro e w1 ⟨rfl, b1⟩
    rw [ht]
    have HM := Lib.hid (HM0.out.below b1)
    have B1 := Lib.hid (belStep HB0.out b1)
    clear b1
    go_wp2
    go_ret
    exact ⟨_, rfl, HM.out, B1.out⟩
  have h48 := tOk_len ht
  have HOK := Lib.hid (tOk_at ht)
  have HT : Hid (trimT l = trimK l l.length) := by show _ = _; simp [trimT, trimF, ht]
  rw [HT.out]
  have HTS := Lib.hid (trimK_step l)
  have HTL := Lib.hid (trimK_len l)
  have HA := Lib.hid (fun W q h => l12Area_any W (.slice a l.length cap) l h hn HOK.out q)
  go_enter Tryz.func44, Tryz.ntmps44
  go_wp2_with fail
  refine (sTableOk_any _ _ l (HL.out _ HB0.out) hn).mono ?_
  rintro e w1 ⟨rfl, b1⟩
  rw [ht]
  have HM := Lib.hid (HM0.out.below b1)
  have B1 := Lib.hid (belStep HB0.out b1)
  clear b1 HM0 HB0
  generalize hN : l.length = n at *
  go_wp2
  go_loopw [3, 4] (fun x i wr => ∃ k : Nat, k ≤ n ∧ i = .int .i64 k ∧ RulRow wr w.heap.size x (trimK l k) ∧ Below w.heap.size w wr) (fun _ i _ => n - (intOf i).toNat)
  case atStart => exact ⟨0, Nat.zero_le _, rfl, (show RulRow _ _ _ (trimK l 0) from HM.out), B1.out⟩
  case round =>
    clear HM B1
    obtain ⟨k, hk, rfl, hrow, hbel⟩ := hrel
    have HR := Lib.hid hrow
    have HBL := Lib.hid hbel
    clear hrow
    by_cases hlt : k < n
    · have hkz : (k : Int) < (n : Int) := by omega
      rcases hnz with h0 | ⟨b, off, rfl, hb, HC⟩
      · omega
      have HF4 : Hid (∀ W, Below w.heap.size w W → Four W b (off + k * 4) (ruAt l k)) := fun W hW => (HC.out k hlt).below hW hb
      have HS := Lib.hid (HTS.out k)
      have HLN := Lib.hid (HTL.out k)
      go_wp2_with fail
      refine (HA.out _ _ (HL.out _ hbel)).mono ?_
      rintro e w2 ⟨rfl, hb2, b2⟩
      have HB2 := Lib.hid hb2
      have BB2 := Lib.hid (belStep HBL.out b2)
      have HR2 := Lib.hid (HR.out.below b2)
      clear b2 hb2 hbel HBL HR
      go_wp2_with fail
      refine (l3All_any _ _ _ HB2.out.bools).mono ?_
      rintro e w3 ⟨rfl, b3⟩
      have BB3 := Lib.hid (belStep BB2.out b3)
      have HR3 := Lib.hid (HR2.out.below b3)
      have s3 := BB3.out.size
      obtain ⟨y0, y1, y2, y3⟩ := HF4.out _ BB3.out
      clear b3 HR2 BB2 HB2 HC
      generalize allNo (areaM l (k : Int)) = m at *
      generalize trimK l k = L at *
      generalize ruAt l k = y at *
      cases m
      · rw [cond_false] at HS
        go_wp2_with (at_builtin; refine app_rule rfl _ _ rfl w.heap.size _ _ rfl (HR3.out.below (below_alloc1 _ _)) _ y rfl (newFour _ _) (by have := HLN.out; omega) (by simp; omega) ?_; rintro v' w4 hrow4 hb4 hs4 ⟨g', cap', rfl⟩; have HR4 := Lib.hid hrow4; have HB4 := Lib.hid (((below_alloc1 _ _).mono (by omega)).trans hb4); clear hrow4 hb4 hs4)
        go_wp2
        go_roundw
        case rel => exact ⟨k + 1, by omega, by go_num, by rw [HS.out]; exact HR4.out, BB3.out.trans HB4.out⟩
        case measure => simp [intOf]; omega
      · rw [cond_true] at HS
        go_wp2
        go_roundw
        case rel => exact ⟨k + 1, by omega, by go_num, by rw [HS.out]; exact HR3.out, BB3.out⟩
        case measure => simp [intOf]; omega
    · obtain rfl : k = n := by omega
      go_wp2
      go_ret
      exact ⟨_, rfl, by rw [hN]; exact HR.out, HBL.out⟩

/-! ### TableTo -/

/-- The port to which a head is sent. -/
def outF (b : List Bool) (l : List R4) : Int := match l.findIdx? (hasR b) with | none => 0 | some i => (ruAt l i).o
def toM (l : List R4) (q : Int) : List Bool := tabF 6 (fun b => decide (outF b l = q))
theorem toM_len (l : List R4) (q : Int) : (toM l q).length = 64 := tabF_len 6 _
theorem toM_get (l : List R4) (q : Int) {n : Nat} (hn : n < 64) : (toM l q).getD n false = decide (outF (kb6 n) l = q) := by
  rw [List.getD_eq_getElem?_getD, toM, tab6_get _ hn]
  rfl
theorem doI_kb {l : List R4} (hok : ∀ i, i < l.length → okR (ruAt l i) = true) {n : Nat} (hn : n < 64) : (doI ((n : Int) / 16) ((n : Int) / 4 % 4) ((n : Int) % 4) l).2 = outF (kb6 n) l := by
  unfold doI outF
  rw [mR_kb hok hn]
  cases l.findIdx? (hasR (kb6 n)) <;> rfl
/-- What TableTo returns. -/
def toT (l : List R4) (q : Int) : List ByteArray := bif tOk l && inB q 0 4 then tidyT (toM l q) else []
theorem toT_len (l : List R4) (q : Int) : (toT l q).length ≤ 64 := by
  unfold toT
  cases tOk l && inB q 0 4
  · exact Nat.zero_le _
  · exact tidyT_len _

set_option maxRecDepth 100000 in
set_option maxHeartbeats 4000000 in
theorem sTableTo_any (w : World) (v : Value) (l : List R4) (h : Rls w w.heap.size v l) (hn : l.length ≤ 1048576) (q : Int) :
    Calls Tryz.prog 47 #[v, .int .i64 q] w fun e w' => ∃ u, e = .returned u ∧ StrRow w' w.heap.size u (toT l q) ∧ Below w.heap.size w w' := by
  have HL : Hid (∀ W, Below w.heap.size w W → Rls W W.heap.size v l) := fun W hb => (h.below hb (Nat.le_refl _)).mono hb.size
  obtain ⟨a, cap, rfl, hc, hm, -⟩ := h
  unfold maxLen at hm
  cases ht : tOk l
  · have HT : Hid (toT l q = []) := by show _ = _; simp [toT, ht]
    rw [HT.out]
    go_enter Tryz.func47, Tryz.ntmps47
    go_wp2_with fail
    refine (sTableOk_any _ _ l (HL.out _ (Below.refl _ _)) hn).mono ?_
    rintro e w1 ⟨rfl, b1⟩
    rw [ht]
    have HM := Lib.hid (emptyS w1 b1.size)
    have B1 := Lib.hid b1
    clear b1
    go_wp2
    go_ret
    exact ⟨_, rfl, HM.out, B1.out.alloc B1.out.size _⟩
  have HOK := Lib.hid (tOk_at ht)
  have HQ : Hid (toT l q = bif inB q 0 4 then tidyT (toM l q) else []) := by show _ = _; simp [toT, ht]
  rw [HQ.out]
  have HIN := Lib.hid (fun W => l6In_any q 0 4 W)
  have HDO : Hid (∀ n : Nat, n < 64 → ∀ W, Rls W W.heap.size (.slice a l.length cap) l → Calls Tryz.prog 73 #[.slice a l.length cap, .agg #[.int .i64 ((n : Int) / 16), .int .i64 ((n : Int) / 4 % 4), .int .i64 ((n : Int) % 4)]] W fun e w' => (∃ x y z, e = .returned (.tuple #[.agg #[.int .i64 x, .int .i64 y, .int .i64 z], .int .i64 (outF (kb6 n) l)])) ∧ Below W.heap.size W w') := fun n hlt W hW => by
    have := l12Do_any W _ l hW hn HOK.out _ _ _ (okB_numA n hlt)
    rw [doI_kb HOK.out hlt] at this
    exact this.mono fun e w' ⟨he, hb⟩ => ⟨⟨_, _, _, he⟩, hb⟩
  have HM := Lib.hid (toM_len l q)
  have HG : Hid (∀ n, n < 64 → (toM l q).getD n false = decide (outF (kb6 n) l = q)) := fun n hn => toM_get l q hn
  obtain ⟨i0, hi, hz0, hz1, hz2⟩ := info_parts infoB
  have HI := Lib.hid hi
  have HZ0 := Lib.hid hz0
  have HZ1 := Lib.hid hz1
  have HZ2 := Lib.hid hz2
  clear hi hz0 hz1 hz2
  generalize toM l q = m at *
  generalize inB q 0 4 = qq at *
  go_enter Tryz.func47, Tryz.ntmps47
  go_wp2_with fail
  refine (sTableOk_any _ _ l (HL.out _ (Below.refl _ _)) hn).mono ?_
  rintro e w1 ⟨rfl, b1⟩
  rw [ht]
  have B1 := Lib.hid b1
  clear b1
  go_wp2_with fail
  refine (HIN.out _).mono ?_
  rintro e w2 ⟨rfl, rfl⟩
  cases qq
  · have HM := Lib.hid (emptyS w1 B1.out.size)
    go_wp2
    go_ret
    exact ⟨_, rfl, HM.out, B1.out.alloc B1.out.size _⟩
  go_wp2_with (at_make; refine wpList_make_full _ rfl _ _ 97 rfl w1.heap.size 4 i0 (.bool false) 1 Tryz.underlying97 HI.out HZ0.out HZ1.out .i64 .i64 _ _ 64 rfl rfl rfl rfl ?b2 ?b3 (Nat.le_refl _) ?_)
  case b2 => rw [HZ2.out]; omega
  case b3 => unfold maxLen; omega
  intro w2 hown hg1
  have HB1 : Hid (Below w1.heap.size w1 w2) := ⟨hg1.os, hg1.tape, hg1.output, hg1.size, fun k hk => hg1.block k hk (by simp)⟩
  have HR1 : Hid (BoolRow w2 w1.heap.size (fillB m 0)) := by
    refine ⟨?_, fillB_len HM.out (Nat.zero_le _)⟩
    have := hown
    rw [made_one] at this
    rw [fillB_zero, List.map_replicate]
    exact this
  clear hown hg1
  go_wp2
  go_loopw [6] (fun x wr => ∃ n : Nat, n ≤ 64 ∧ x = .int .i64 n ∧ BoolRow wr w1.heap.size (fillB m n) ∧ Below w1.heap.size w1 wr) (fun x _ => 64 - (intOf x).toNat)
  case atStart => exact ⟨0, Nat.zero_le _, rfl, HR1.out, HB1.out⟩
  case round =>
    obtain ⟨n, hn', rfl, hrow, hbel⟩ := hrel
    have HR := Lib.hid hrow
    have HB := Lib.hid hbel
    have s0 := hbel.size
    clear hrow hbel HR1 HB1
    by_cases hlt : n < 64
    · have hnz64 : (n : Int) < 64 := by omega
      have HA := Lib.hid (HDO.out n hlt)
      have HS := Lib.hid (fillB_step HM.out hlt)
      rw [HG.out n hlt] at HS
      go_wp2_with fail
      refine (l1Of_any _ (by omega) (by omega) _).mono ?_
      rintro e w3 ⟨rfl, b3⟩
      have B3 := Lib.hid (belStep HB.out b3)
      have HR3 := Lib.hid (HR.out.below b3)
      clear b3 HR HB
      go_wp2_with fail
      refine (HA.out _ (HL.out _ (B1.out.trans (B3.out.mono B1.out.size)))).mono ?_
      rintro e w4 ⟨⟨x, y, z, rfl⟩, b4⟩
      have HR4 := Lib.hid (HR3.out.below b4)
      have B4 := Lib.hid (belStep B3.out b4)
      have hgt4 := HR4.out.cells.1 n hlt
      have hfr4 := HR4.out.cells.2.1
      have hgl4 := HR4.out.cells.2.2
      generalize (fillB m n).getD n false = oo at *
      generalize outF (kb6 n) l = zz at *
      clear b4 HR3 B3
      go_wp2
      go_roundw
      case rel => exact ⟨n + 1, by omega, by go_num, by rw [HS.out]; exact (HR4.out.put n (decide (zz = q))).below (below_alloc1 _ _), (B4.out.setCell (by exact Nat.le_refl _) _).alloc (by have := B4.out.size; simp; omega) _⟩
      case measure => simp [intOf]; omega
    · obtain rfl : n = 64 := by omega
      have HR2 : Hid (BoolRow wr w1.heap.size m) := by have := HR.out; rw [fillB_all HM.out] at this; exact this
      go_wp2_with fail
      refine (l3Tidy_any 6 (Nat.le_refl _) _ _ _ HM.out HR2.out.bools).mono ?_
      rintro e w4 ⟨u, rfl, hrow, b4⟩
      have B4 := Lib.hid (B1.out.trans ((belStep HB.out b4).mono B1.out.size))
      have HS := Lib.hid (hrow.mono (Nat.le_trans B1.out.size s0))
      clear b4 hrow
      go_wp2
      go_ret
      exact ⟨_, rfl, HS.out, B4.out⟩

end Go.Proofs.YtahobeigbjhbbaaGreatDoor
