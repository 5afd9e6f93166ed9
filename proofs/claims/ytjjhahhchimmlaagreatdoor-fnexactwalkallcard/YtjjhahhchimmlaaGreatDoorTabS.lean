/-
  Slices of rules: what the statements' own helpers do with them: their sizes, a copy, whether two are the same.
-/
import Derived.Test.YtjjhahhchimmlaaGreatDoorTabMath
import Derived.Test.YtjjhahhchimmlaaGreatDoorExtReg
namespace Go.Proofs.YtjjhahhchimmlaaGreatDoor
open Go.ChangeShapes Go.WideShapes Go.ChangeAt Go.RowKit Go.Joins
set_option linter.unusedVariables false

set_option maxHeartbeats 2000000 in
theorem szRuleS_any (w : World) (v : Value) (m n : Nat) (f : Nat → Int × ByteArray × Int × Int) (h : Raws w w.heap.size v m f) (hs : ∀ i, i < m → (f i).2.1.size ≤ maxLen) (hn : n ≤ 1048576) :
    Calls Tryz.prog 25 #[v, .int .i64 n] w fun e w' => (e = .returned (.int .i64 (-1)) ∨ ∃ r : Nat, e = .returned (.int .i64 r) ∧ r ≤ n ∧ m ≤ n ∧ ∀ i, i < m → (f i).2.1.size ≤ n) ∧ Below w.heap.size w w' := by
  obtain ⟨a, cap, rfl, hc, hm, hh⟩ := h
  have HS := Lib.hid hs
  have HH := Lib.hid hh
  clear hs hh
  unfold maxLen at hm
  by_cases h0 : n < m
  · have hz : (n : Int) - (m : Int) < 0 := by omega
    go_enter Tryz.func25, Tryz.ntmps25
    go_wp2
    go_ret
    exact ⟨.inl rfl, Below.refl _ _⟩
  · have hz : ¬ (n : Int) - (m : Int) < 0 := by omega
    go_enter Tryz.func25, Tryz.ntmps25
    go_wp2
    go_loopw [1, 5] (fun x i wr => ∃ k q : Nat, k ≤ m ∧ q ≤ n ∧ i = .int .i64 k ∧ x = .int .i64 q ∧ (∀ j, j < k → (f j).2.1.size ≤ n) ∧ Below w.heap.size w wr) (fun _ i _ => m - (intOf i).toNat)
    case atStart => exact ⟨0, n - m, Nat.zero_le _, by omega, rfl, by simp only [Value.int.injEq, true_and]; omega, fun j hj => absurd hj (Nat.not_lt_zero _), Below.refl _ _⟩
    case round =>
      obtain ⟨k, q, hk, hq, rfl, rfl, hsm, hbel⟩ := hrel
      have HSM := Lib.hid hsm
      clear hsm
      by_cases hlt : k < m
      · have hkz : (k : Int) < (m : Int) := by omega
        rcases HH.out with h1 | ⟨b, off, rfl, hb, hcell⟩
        · omega
        obtain ⟨c0, c1, c2, c3⟩ := hcell k hlt
        have d0 := (belCell hbel _ _ hb).trans c0
        have d1 := (belCell hbel _ _ hb).trans c1
        have d2 := (belCell hbel _ _ hb).trans c2
        have d3 := (belCell hbel _ _ hb).trans c3
        clear c0 c1 c2 c3
        have hsz := HS.out k hlt
        clear hcell
        have HX : Hid (∀ j, j < k + 1 → (f k).2.1.size ≤ q → (f j).2.1.size ≤ n) := fun j hj hle => by
          by_cases e : j = k
          · subst e; omega
          · exact HSM.out j (by omega)
        have HZ := Lib.hid (szRule_any (f k).1 (f k).2.1 hsz (f k).2.2.1 (f k).2.2.2 q (by omega) (by omega))
        have HBL := Lib.hid hbel
        clear hbel hsz
        obtain ⟨⟨x0, s, x2, x3⟩, hfk⟩ : ∃ z, f k = z := ⟨_, rfl⟩
        rw [hfk] at d0 d1 d2 d3 HX HZ
        clear hfk
        dsimp only at d0 d1 d2 d3 HX HZ
        go_wp2_with fail
        refine (HZ.out _).mono ?_
        rintro e w1 ⟨rfl, b1⟩
        have B1 := Lib.hid (belStep HBL.out b1)
        clear b1 HBL
        by_cases hle : (q : Int) < s.size
        · rw [if_pos hle]
          go_wp2
          go_ret
          exact ⟨.inl rfl, B1.out⟩
        · rw [if_neg hle]
          have h3 : ¬ (q : Int) - (s.size : Int) < 0 := by omega
          go_wp2
          go_roundw
          case rel => exact ⟨k + 1, q - s.size, by omega, by omega, by go_num, by simp only [Value.int.injEq, true_and]; omega, fun j hj => HX.out j hj (by omega), B1.out⟩
          case measure => simp [intOf]; omega
      · obtain rfl : k = m := by omega
        go_wp2
        go_ret
        exact ⟨.inr ⟨q, rfl, hq, by omega, HSM.out⟩, hbel⟩

/-- The first k of a list, and nothing behind them. -/
def fillR (l : List R4) (k : Nat) : List R4 := l.take k ++ List.replicate (l.length - k) zR
theorem fillR_len (l : List R4) {k : Nat} (hk : k ≤ l.length) : (fillR l k).length = l.length := by simp [fillR]; omega
theorem fillR_zero (l : List R4) : fillR l 0 = List.replicate l.length zR := by simp [fillR]
theorem fillR_all (l : List R4) : fillR l l.length = l := by simp [fillR]
theorem fillR_step (l : List R4) {k : Nat} (hk : k < l.length) : fillR l (k + 1) = (fillR l k).set k (ruAt l k) := by
  have ht : (l.take k).length = k := by simp; omega
  have e : l.take (k + 1) = l.take k ++ [ruAt l k] := by
    rw [List.take_add_one, List.getElem?_eq_getElem hk, ruAt_lt hk]
    rfl
  unfold fillR
  rw [List.set_append_right _ _ (by omega), ht, Nat.sub_self]
  obtain ⟨n, hn⟩ : ∃ n, l.length - k = n + 1 := ⟨l.length - k - 1, by omega⟩
  rw [hn, List.replicate_succ, List.set_cons_zero, e, show l.length - (k + 1) = n from by omega, List.append_assoc]
  rfl
theorem fl_zero (n : Nat) : (List.replicate n zR).flatMap R4.cs = (madeCells (Value.agg #[.int .i64 0, .string ⟨#[]⟩, .int .i64 0, .int .i64 0]).cells (n * 4)).toList := by
  apply List.ext_getElem?
  intro j
  by_cases hj : j < n * 4
  · have e : j = (j / 4) * 4 + j % 4 := by omega
    have hq : j / 4 < n := by omega
    have h1 : (madeCells (Value.agg #[.int .i64 0, .string ⟨#[]⟩, .int .i64 0, .int .i64 0]).cells (n * 4)).toList[j]? = (R4.cs zR)[j % 4]? := by
      simp only [madeCells, Array.toList_map, Array.toList_range, List.getElem?_map, List.getElem?_range hj, Option.map_some]
      have hm : j % 4 < 4 := Nat.mod_lt _ (by decide)
      have : j % 4 = 0 ∨ j % 4 = 1 ∨ j % 4 = 2 ∨ j % 4 = 3 := by omega
      rcases this with h | h | h | h <;> (simp [Value.cells, h]; rfl)
    rw [h1]
    conv => lhs; rw [e]
    rw [fl_at _ _ _ (by simpa using hq) (Nat.mod_lt _ (by decide))]
    rw [show ruAt (List.replicate n zR) (j / 4) = zR from by rw [ruAt_lt (by simpa using hq)]; simp]
  · rw [List.getElem?_eq_none (by rw [fl_len]; simp; omega), List.getElem?_eq_none (by rw [Array.length_toList, size_madeCells]; omega)]
theorem infoR : (Tryz.prog.info? 99).map (fun i => (i.zero, i.size, i.bytes)) = some (some (.agg #[.int .i64 0, .string ⟨#[]⟩, .int .i64 0, .int .i64 0]), 4, 40) := by kernel_rfl

set_option maxRecDepth 100000 in
set_option maxHeartbeats 2000000 in
theorem toRuleS_any (w : World) (v : Value) (l : List R4) (h : Rls w w.heap.size v l) (hn : l.length ≤ 1048576) :
    Calls Tryz.prog 31 #[v] w fun e w' => ∃ u, e = .returned u ∧ RulRow w' w.heap.size u l ∧ Below w.heap.size w w' := by
  obtain ⟨a, cap, rfl, hc, hm, hh⟩ := h
  obtain ⟨i0, hi, hz0, hz1, hz2⟩ := info_parts infoR
  have HI := Lib.hid hi
  have HZ0 := Lib.hid hz0
  have HZ1 := Lib.hid hz1
  have HZ2 := Lib.hid hz2
  clear hi hz0 hz1 hz2
  have HZ : Hid (fillR l 0 = List.replicate l.length zR) := fillR_zero l
  have HA : Hid (fillR l l.length = l) := fillR_all l
  have HL : Hid (∀ k, k ≤ l.length → (fillR l k).length = l.length) := fun k hk => fillR_len l hk
  have HST : Hid (∀ k, k < l.length → fillR l (k + 1) = (fillR l k).set k (ruAt l k)) := fun k hk => fillR_step l hk
  have hnz : l.length = 0 ∨ ∃ b off, a = some ⟨b, off, none⟩ ∧ b < w.heap.size ∧ Hid (∀ i, i < l.length → Four w b (off + i * 4) (ruAt l i)) := by
    rcases hh with h | ⟨b, off, h1, h2, h3⟩
    · exact .inl (by rw [h]; rfl)
    · exact .inr ⟨b, off, h1, h2, h3⟩
  clear hh
  unfold maxLen at hm
  have HFZ := Lib.hid (fl_zero l.length)
  generalize hN : l.length = n at *
  go_enter Tryz.func31, Tryz.ntmps31
  go_wp2_with (at_make; refine wpList_make_full _ rfl _ _ 61 rfl w.heap.size 99 i0 (.agg #[.int .i64 0, .string ⟨#[]⟩, .int .i64 0, .int .i64 0]) 4 Tryz.underlying61 HI.out HZ0.out HZ1.out .i64 .i64 _ _ n rfl rfl rfl rfl ?b2 ?b3 (Nat.le_refl _) ?_)
  case b2 => rw [HZ2.out]; omega
  case b3 => unfold maxLen; omega
  intro w1 hown hg1
  have HB1 : Hid (Below w.heap.size w w1) := ⟨hg1.os, hg1.tape, hg1.output, hg1.size, fun k hk => hg1.block k hk (by simp)⟩
  have HR1 : Hid (RulRow w1 w.heap.size (.slice (some ⟨w.heap.size, 0, none⟩) n n) (fillR l 0)) := by
    show w1.ownsRow _ _ _ _ _ _
    rw [HZ.out, List.length_replicate, HFZ.out]
    exact hown
  clear hown hg1 HFZ
  go_wp2
  go_loopw [4] (fun i wr => ∃ k : Nat, k ≤ n ∧ i = .int .i64 k ∧ RulRow wr w.heap.size (.slice (some ⟨w.heap.size, 0, none⟩) n n) (fillR l k) ∧ Below w.heap.size w wr) (fun i _ => n - (intOf i).toNat)
  case atStart => exact ⟨0, Nat.zero_le _, rfl, HR1.out, HB1.out⟩
  case round =>
    obtain ⟨k, hk, rfl, hrow, hbel⟩ := hrel
    have HR := Lib.hid hrow
    by_cases hlt : k < n
    · have hkz : (k : Int) < (n : Int) := by omega
      rcases hnz with h0 | ⟨b, off, rfl, hb, HC⟩
      · omega
      obtain ⟨c0, c1, c2, c3⟩ := (HC.out k hlt).below hbel hb
      have HBL := Lib.hid hbel
      have hsb := hbel.size
      clear hrow hbel
      have HS := Lib.hid (HST.out k hlt)
      generalize ruAt l k = x at *
      go_wp2_with fail
      refine (toRule_any _ _ _ _ _).mono ?_
      rintro e w2 ⟨rfl, b2⟩
      have HR2 := Lib.hid (HR.out.below b2)
      have B2 := Lib.hid (belStep HBL.out b2)
      obtain ⟨hc1, hf1, hgl⟩ := HR2.out.cells (HL.out k hk)
      obtain ⟨d0, d1, d2, d3⟩ := hc1 k hlt
      clear hc1 b2 c0 c1 c2 c3 HR HBL
      generalize ruAt (fillR l k) k = y at *
      go_wp2
      go_roundw
      case rel => exact ⟨k + 1, by omega, by go_num, HR2.out.put (HL.out k hk) hlt HS.out, (((B2.out.setCell (by exact Nat.le_refl _) _).setCell (by exact Nat.le_refl _) _).setCell (by exact Nat.le_refl _) _).setCell (by exact Nat.le_refl _) _⟩
      case measure => simp [intOf]; omega
    · obtain rfl : k = n := by omega
      go_wp2
      go_ret
      exact ⟨_, rfl, by have := HR.out; rw [HA.out] at this; exact this, hbel⟩

set_option maxRecDepth 100000 in
set_option maxHeartbeats 2000000 in
theorem eqRuleS_same (w : World) (v v' : Value) (l : List R4) (h : Rls w w.heap.size v l) (h' : Rls w w.heap.size v' l) (hn : l.length ≤ 1048576) :
    Calls Tryz.prog 38 #[v, v'] w fun e w' => e = .returned (.bool true) ∧ Below w.heap.size w w' := by
  obtain ⟨a, cap, rfl, hc, hm, hh⟩ := h
  obtain ⟨a', cap', rfl, hc', hm', hh'⟩ := h'
  have HH := Lib.hid hh
  have HH' := Lib.hid hh'
  clear hh hh'
  unfold maxLen at hm hm'
  generalize hN : l.length = n at *
  go_enter Tryz.func38, Tryz.ntmps38
  go_wp2
  go_loopw [5] (fun i wr => ∃ k : Nat, k ≤ n ∧ i = .int .i64 k ∧ Below w.heap.size w wr) (fun i _ => n - (intOf i).toNat)
  case atStart => exact ⟨0, Nat.zero_le _, rfl, Below.refl _ _⟩
  case round =>
    obtain ⟨k, hk, rfl, hbel⟩ := hrel
    by_cases hlt : k < n
    · have hz : (k : Int) < (n : Int) := by omega
      rcases HH.out with h1 | ⟨b, off, rfl, hb, hcell⟩
      · rw [h1] at hN; simp at hN; omega
      rcases HH'.out with h1 | ⟨b', off', rfl, hb', hcell'⟩
      · rw [h1] at hN; simp at hN; omega
      obtain ⟨c0, c1, c2, c3⟩ := (hcell k hlt).below hbel hb
      obtain ⟨d0, d1, d2, d3⟩ := (hcell' k hlt).below hbel hb'
      clear hcell hcell'
      have HBL := Lib.hid hbel
      clear hbel
      generalize ruAt l k = x at *
      have hbr : b < wr.heap.size := Nat.lt_of_lt_of_le hb HBL.out.size
      have hbr' : b' < wr.heap.size := Nat.lt_of_lt_of_le hb' HBL.out.size
      have q0 := fun m : Ext wr => m.cell hbr c0
      have q1 := fun m : Ext wr => m.cell hbr c1
      have q2 := fun m : Ext wr => m.cell hbr c2
      have q3 := fun m : Ext wr => m.cell hbr c3
      have q4 := fun m : Ext wr => m.cell hbr' d0
      have q5 := fun m : Ext wr => m.cell hbr' d1
      have q6 := fun m : Ext wr => m.cell hbr' d2
      have q7 := fun m : Ext wr => m.cell hbr' d3
      clear c0 c1 c2 c3 d0 d1 d2 d3
      go_wp2
      refine wp_region_ext (w0 := wr) (by kernel_rfl) (by kernel_rfl) (Below.refl _ _) ?_
      repeat (go_big_quiet_step (first | (go_at_call 58; exact ext_of (eqRule_same _ _ _ _ _))))
      refine wpQuiet_nil ?_
      rintro _ ⟨⟨w1, b1⟩, rfl⟩
      go_wp2
      go_roundw
      case rel => exact ⟨k + 1, by omega, by go_num, belStep HBL.out b1⟩
      case measure => simp [intOf]; omega
    · obtain rfl : k = n := by omega
      go_wp2
      go_ret
      exact ⟨rfl, hbel⟩

end Go.Proofs.YtjjhahhchimmlaaGreatDoor
