/-
  The model's TableArea: head by head.
-/
import Derived.Test.YtahobeigbjhbbaaGreatDoorTabAreaM
import Derived.Test.YtahobeigbjhbbaaGreatDoorTabAtS
import Derived.Test.YtahobeigbjhbbaaGreatDoorSpaceSp
namespace Go.Proofs.YtahobeigbjhbbaaGreatDoor
open Go.ChangeShapes Go.WideShapes Go.ChangeAt Go.RowKit Go.Joins
set_option linter.unusedVariables false

theorem emptyS (w : World) {base : Nat} (hb : base ≤ w.heap.size) : StrRow (w.alloc (.cells #[] 9)) base (.slice (some ⟨w.heap.size, 0, none⟩) 0 0) [] :=
  World.ownsRow.mono (World.ownsRow_made w #[] 0 (Nat.le_refl _) (Nat.zero_le _) rfl) hb
theorem okB_numA (n : Nat) (hn : n < 64) : okB ((n : Int) / 16) ((n : Int) / 4 % 4) ((n : Int) % 4) = true := by
  unfold okB
  rw [fldB_mk (by omega) (by omega), fldB_mk (by omega) (by omega), fldB_mk (by omega) (by omega)]
  rfl
theorem num_hB {n : Nat} (hn : n < 64) : (n : Int) = ofB (hB ((n : Int) / 16) ((n : Int) / 4 % 4) ((n : Int) % 4)) := by
  rw [← num_ofB (okB_numA n hn)]
  omega
theorem kb6_hB {n : Nat} (hn : n < 64) : kb6 n = f6 (hB ((n : Int) / 16) ((n : Int) / 4 % 4) ((n : Int) % 4)) := by
  have h := kb6_back (hB ((n : Int) / 16) ((n : Int) / 4 % 4) ((n : Int) % 4))
  rw [← num_hB hn] at h
  exact h
theorem bitF_f6 (c v f : Nat → Bool) : hasM c v (bitF (f6 f)) = hasM c v f := all6_congr fun i hi => by
  match i, hi with
  | 0, _ => rfl
  | 1, _ => rfl
  | 2, _ => rfl
  | 3, _ => rfl
  | 4, _ => rfl
  | 5, _ => rfl
theorem findIdx_congr {p q : R4 → Bool} : ∀ {l : List R4}, (∀ x ∈ l, p x = q x) → l.findIdx? p = l.findIdx? q
  | [], _ => rfl
  | x :: l, h => by
    rw [List.findIdx?_cons, List.findIdx?_cons, h x (List.mem_cons_self ..), findIdx_congr (fun y hy => h y (List.mem_cons_of_mem _ hy))]
theorem mR_kb {l : List R4} (hok : ∀ i, i < l.length → okR (ruAt l i) = true) {n : Nat} (hn : n < 64) : l.findIdx? (mR ((n : Int) / 16) ((n : Int) / 4 % 4) ((n : Int) % 4)) = l.findIdx? (hasR (kb6 n)) := findIdx_congr fun x hx => by
  obtain ⟨i, hi, rfl⟩ := mem_ruAt hx
  rw [mR_has (okB_numA n hn) (hok i hi), hasR, kb6_hB hn, bitF_f6, (rOk_true (hok i hi)).2.1]
  rfl
theorem atI_kb {l : List R4} (hok : ∀ i, i < l.length → okR (ruAt l i) = true) {n : Nat} (hn : n < 64) : atI ((n : Int) / 16) ((n : Int) / 4 % 4) ((n : Int) % 4) l = atF (kb6 n) l := by
  unfold atI atF
  rw [mR_kb hok hn]
  cases l.findIdx? (hasR (kb6 n)) <;> rfl
theorem areaM_get (l : List R4) (i : Int) {n : Nat} (hn : n < 64) : (areaM l i).getD n false = decide (atF (kb6 n) l = i) := by
  rw [List.getD_eq_getElem?_getD, areaM, tab6_get _ hn]
  rfl

/-- A row of bools that is filled from its first place on. -/
def fillB (m : List Bool) (k : Nat) : List Bool := m.take k ++ List.replicate (64 - k) false
theorem fillB_zero (m : List Bool) : fillB m 0 = List.replicate 64 false := rfl
theorem fillB_all {m : List Bool} (h : m.length = 64) : fillB m 64 = m := by
  unfold fillB
  rw [Nat.sub_self, List.take_of_length_le (by omega)]
  simp
theorem fillB_len {m : List Bool} (h : m.length = 64) {k : Nat} (hk : k ≤ 64) : (fillB m k).length = 64 := by simp [fillB]; omega
theorem fillB_step {m : List Bool} (h : m.length = 64) {k : Nat} (hk : k < 64) : fillB m (k + 1) = (fillB m k).set k (m.getD k false) := by
  unfold fillB
  have hl : (m.take k).length = k := by simp; omega
  rw [List.set_append_right _ _ (by omega), hl, Nat.sub_self, show 64 - k = (64 - (k + 1)) + 1 from by omega, List.replicate_succ, List.set_cons_zero, List.take_add_one, List.getElem?_eq_getElem (show k < m.length by omega), List.getD_eq_getElem?_getD, List.getElem?_eq_getElem (show k < m.length by omega), List.append_assoc]
  rfl

set_option maxRecDepth 100000 in
set_option maxHeartbeats 4000000 in
theorem l12Area_any (w : World) (v : Value) (l : List R4) (h : Rls w w.heap.size v l) (hn : l.length ≤ 1048576) (hok : ∀ i, i < l.length → okR (ruAt l i) = true) (q : Int) :
    Calls Tryz.prog 84 #[v, .int .i64 q] w fun ex w' => ex = .returned (.slice (some ⟨w.heap.size, 0, none⟩) 64 64) ∧ BoolRow w' w.heap.size (areaM l q) ∧ Below w.heap.size w w' := by
  have HL : Hid (∀ W, Below w.heap.size w W → Rls W W.heap.size v l) := fun W hb => (h.below hb (Nat.le_refl _)).mono hb.size
  have HAT : Hid (∀ n : Nat, n < 64 → ∀ W, Rls W W.heap.size v l → Calls Tryz.prog 112 #[v, .int .i64 (n : Int)] W fun e w' => e = .returned (.int .i64 (atF (kb6 n) l)) ∧ Below W.heap.size W w') := fun n hlt W hW => by
    have := l12At_any W v l hW hn hok _ _ _ (okB_numA n hlt)
    rw [← num_hB hlt, atI_kb hok hlt] at this
    exact this
  obtain ⟨i0, hi, hz0, hz1, hz2⟩ := info_parts infoB
  have HI := Lib.hid hi
  have HZ0 := Lib.hid hz0
  have HZ1 := Lib.hid hz1
  have HZ2 := Lib.hid hz2
  have HM := Lib.hid (areaM_len l q)
  have HG : Hid (∀ n, n < 64 → (areaM l q).getD n false = decide (atF (kb6 n) l = q)) := fun n hn => areaM_get l q hn
  clear hi hz0 hz1 hz2 h hok
  generalize areaM l q = m at *
  go_enter Tryz.func84, Tryz.ntmps84
  go_wp2_with (at_make; refine wpList_make_full _ rfl _ _ 97 rfl w.heap.size 4 i0 (.bool false) 1 Tryz.underlying97 HI.out HZ0.out HZ1.out .i64 .i64 _ _ 64 rfl rfl rfl rfl ?b2 ?b3 (Nat.le_refl _) ?_)
  case b2 => rw [HZ2.out]; omega
  case b3 => unfold maxLen; omega
  intro w1 hown hg1
  have HB1 : Hid (Below w.heap.size w w1) := ⟨hg1.os, hg1.tape, hg1.output, hg1.size, fun k hk => hg1.block k hk (by simp)⟩
  have HR1 : Hid (BoolRow w1 w.heap.size (fillB m 0)) := by
    refine ⟨?_, fillB_len HM.out (Nat.zero_le _)⟩
    have := hown
    rw [made_one] at this
    rw [fillB_zero, List.map_replicate]
    exact this
  clear hown hg1
  go_wp2
  go_loopw [6] (fun x wr => ∃ n : Nat, n ≤ 64 ∧ x = .int .i64 n ∧ BoolRow wr w.heap.size (fillB m n) ∧ Below w.heap.size w wr) (fun x _ => 64 - (intOf x).toNat)
  case atStart => exact ⟨0, Nat.zero_le _, rfl, HR1.out, HB1.out⟩
  case round =>
    obtain ⟨n, hn', rfl, hrow, hbel⟩ := hrel
    have HR := Lib.hid hrow
    have HB := Lib.hid hbel
    clear hrow hbel HR1 HB1
    by_cases hlt : n < 64
    · have hnz64 : (n : Int) < 64 := by omega
      have HA := Lib.hid (HAT.out n hlt)
      have HS := Lib.hid (fillB_step HM.out hlt)
      rw [HG.out n hlt] at HS
      go_wp2_with fail
      refine (HA.out _ (HL.out _ HB.out)).mono ?_
      rintro e w3 ⟨rfl, b3⟩
      have HR3 := Lib.hid (HR.out.below b3)
      have B3 := Lib.hid (belStep HB.out b3)
      have hgt3 := HR3.out.cells.1 n hlt
      have hfr3 := HR3.out.cells.2.1
      have hgl3 := HR3.out.cells.2.2
      generalize (fillB m n).getD n false = oo at *
      generalize atF (kb6 n) l = z at *
      clear b3 HR HB
      go_wp2
      go_roundw
      case rel => exact ⟨n + 1, by omega, by go_num, by rw [HS.out]; exact HR3.out.put n (decide (z = q)), B3.out.setCell (by exact Nat.le_refl _) _⟩
      case measure => simp [intOf]; omega
    · obtain rfl : n = 64 := by omega
      go_wp2
      go_ret
      exact ⟨rfl, by have := HR.out; rw [fillB_all HM.out] at this; exact this, HB.out⟩

/-- What TableArea returns. -/
def areaT (l : List R4) (q : Int) : List ByteArray := bif tOk l && inB q (-1) ((l.length : Int) - 1) then tidyT (areaM l q) else []
theorem areaT_len (l : List R4) (q : Int) : (areaT l q).length ≤ 64 := by
  unfold areaT
  cases tOk l && inB q (-1) ((l.length : Int) - 1)
  · exact Nat.zero_le _
  · exact tidyT_len _

set_option maxRecDepth 100000 in
set_option maxHeartbeats 4000000 in
theorem sTableArea_any (w : World) (v : Value) (l : List R4) (h : Rls w w.heap.size v l) (hn : l.length ≤ 1048576) (q : Int) :
    Calls Tryz.prog 36 #[v, .int .i64 q] w fun e w' => ∃ u, e = .returned u ∧ StrRow w' w.heap.size u (areaT l q) ∧ Below w.heap.size w w' := by
  have HL : Hid (∀ W, Below w.heap.size w W → Rls W W.heap.size v l) := fun W hb => (h.below hb (Nat.le_refl _)).mono hb.size
  obtain ⟨a, cap, rfl, hc, hm, -⟩ := h
  unfold maxLen at hm
  cases ht : tOk l
  · have HT : Hid (areaT l q = []) := by show _ = _; simp [areaT, ht]
    rw [HT.out]
    go_enter Tryz.func36, Tryz.ntmps36
    go_wp2_with fail
    refine (sTableOk_any _ _ l (HL.out _ (Below.refl _ _)) hn).mono ?_
    rintro e w1 ⟨rfl, b1⟩
    rw [ht]
    have HM := Lib.hid (emptyS w1 b1.size)
    have B1 := Lib.hid b1
    clear b1
    go_wp2
    go_ret
    exact ⟨_, rfl, HM.out, B1.out.alloc B1.out.size _⟩
  have HOK := Lib.hid (tOk_at ht)
  have HQ : Hid (areaT l q = bif inB q (-1) ((l.length : Int) - 1) then tidyT (areaM l q) else []) := by show _ = _; simp [areaT, ht]
  rw [HQ.out]
  have HIN := Lib.hid (fun W => l6In_any q (-1) ((l.length : Int) - 1) W)
  generalize inB q (-1) ((l.length : Int) - 1) = qq at *
  go_enter Tryz.func36, Tryz.ntmps36
  go_wp2_with fail
  refine (sTableOk_any _ _ l (HL.out _ (Below.refl _ _)) hn).mono ?_
  rintro e w1 ⟨rfl, b1⟩
  rw [ht]
  have B1 := Lib.hid b1
  clear b1
  go_wp2_with fail
  refine (HIN.out _).mono ?_
  rintro e w2 ⟨rfl, rfl⟩
  cases qq
  · have HM := Lib.hid (emptyS w1 B1.out.size)
    go_wp2
    go_ret
    exact ⟨_, rfl, HM.out, B1.out.alloc B1.out.size _⟩
  · go_wp2_with fail
    refine (l12Area_any _ _ l (HL.out _ B1.out) hn HOK.out q).mono ?_
    rintro e w3 ⟨rfl, hrow, b3⟩
    have HR := Lib.hid hrow
    have B3 := Lib.hid (belStep B1.out b3)
    clear b3 hrow
    go_wp2_with fail
    refine (l3Tidy_any 6 (Nat.le_refl _) _ _ _ (areaM_len l q) HR.out.bools).mono ?_
    rintro e w4 ⟨u, rfl, hrow, b4⟩
    have B4 := Lib.hid (belStep B3.out b4)
    have HS := Lib.hid (hrow.mono B3.out.size)
    clear b4 hrow
    go_wp2
    go_ret
    exact ⟨_, rfl, HS.out, B4.out⟩

end Go.Proofs.YtahobeigbjhbbaaGreatDoor
