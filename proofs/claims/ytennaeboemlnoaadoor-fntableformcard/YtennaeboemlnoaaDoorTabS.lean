/-
  Slices of rules: what the statements' own helpers do with them: their sizes, a copy, whether two are the same.
-/
import Derived.Test.YtennaeboemlnoaaDoorTabMath
import Derived.Test.YtennaeboemlnoaaDoorExtReg
namespace Go.Proofs.YtennaeboemlnoaaDoor
open Go.ChangeShapes Go.WideShapes Go.ChangeAt Go.RowKit Go.Joins
set_option linter.unusedVariables false

/-- The first k of a list, and nothing behind them. -/
def fillR (l : List R4) (k : Nat) : List R4 := l.take k ++ List.replicate (l.length - k) zR
theorem fillR_len (l : List R4) {k : Nat} (hk : k ≤ l.length) : (fillR l k).length = l.length := by simp [fillR]; omega
theorem fillR_zero (l : List R4) : fillR l 0 = List.replicate l.length zR := by simp [fillR]
theorem fillR_all (l : List R4) : fillR l l.length = l := by simp [fillR]
theorem fillR_step (l : List R4) {k : Nat} (hk : k < l.length) : fillR l (k + 1) = (fillR l k).set k (ruAt l k) := by
  have ht : (l.take k).length = k := by simp; omega
  have e : l.take (k + 1) = l.take k ++ [ruAt l k] := by
    rw [List.take_add_one, List.getElem?_eq_getElem hk, ruAt_lt hk]
    rfl
  unfold fillR
  rw [List.set_append_right _ _ (by omega), ht, Nat.sub_self]
  obtain ⟨n, hn⟩ : ∃ n, l.length - k = n + 1 := ⟨l.length - k - 1, by omega⟩
  rw [hn, List.replicate_succ, List.set_cons_zero, e, show l.length - (k + 1) = n from by omega, List.append_assoc]
  rfl
theorem fl_zero (n : Nat) : (List.replicate n zR).flatMap R4.cs = (madeCells (Value.agg #[.int .i64 0, .string ⟨#[]⟩, .int .i64 0, .int .i64 0]).cells (n * 4)).toList := by
  apply List.ext_getElem?
  intro j
  by_cases hj : j < n * 4
  · have e : j = (j / 4) * 4 + j % 4 := by omega
    have hq : j / 4 < n := by omega
    have h1 : (madeCells (Value.agg #[.int .i64 0, .string ⟨#[]⟩, .int .i64 0, .int .i64 0]).cells (n * 4)).toList[j]? = (R4.cs zR)[j % 4]? := by
      simp only [madeCells, Array.toList_map, Array.toList_range, List.getElem?_map, List.getElem?_range hj, Option.map_some]
      have hm : j % 4 < 4 := Nat.mod_lt _ (by decide)
      have : j % 4 = 0 ∨ j % 4 = 1 ∨ j % 4 = 2 ∨ j % 4 = 3 := by omega
      rcases this with h | h | h | h <;> (simp [Value.cells, h]; rfl)
    rw [h1]
    conv => lhs; rw [e]
    rw [fl_at _ _ _ (by simpa using hq) (Nat.mod_lt _ (by decide))]
    rw [show ruAt (List.replicate n zR) (j / 4) = zR from by rw [ruAt_lt (by simpa using hq)]; simp]
  · rw [List.getElem?_eq_none (by rw [fl_len]; simp; omega), List.getElem?_eq_none (by rw [Array.length_toList, size_madeCells]; omega)]
theorem infoR : (Tryd.prog.info? 56).map (fun i => (i.zero, i.size, i.bytes)) = some (some (.agg #[.int .i64 0, .string ⟨#[]⟩, .int .i64 0, .int .i64 0]), 4, 40) := by kernel_rfl

set_option maxRecDepth 100000 in
set_option maxHeartbeats 2000000 in
theorem eqRuleS_same (w : World) (v v' : Value) (l : List R4) (h : Rls w w.heap.size v l) (h' : Rls w w.heap.size v' l) (hn : l.length ≤ 1048576) :
    Calls Tryd.prog 23 #[v, v'] w fun e w' => e = .returned (.bool true) ∧ Below w.heap.size w w' := by
  obtain ⟨a, cap, rfl, hc, hm, hh⟩ := h
  obtain ⟨a', cap', rfl, hc', hm', hh'⟩ := h'
  have HH := Lib.hid hh
  have HH' := Lib.hid hh'
  clear hh hh'
  unfold maxLen at hm hm'
  generalize hN : l.length = n at *
  go_enter Tryd.func23, Tryd.ntmps23
  go_wp2
  go_loopw [5] (fun i wr => ∃ k : Nat, k ≤ n ∧ i = .int .i64 k ∧ Below w.heap.size w wr) (fun i _ => n - (intOf i).toNat)
  case atStart => exact ⟨0, Nat.zero_le _, rfl, Below.refl _ _⟩
  case round =>
    obtain ⟨k, hk, rfl, hbel⟩ := hrel
    by_cases hlt : k < n
    · have hz : (k : Int) < (n : Int) := by omega
      rcases HH.out with h1 | ⟨b, off, rfl, hb, hcell⟩
      · rw [h1] at hN; simp at hN; omega
      rcases HH'.out with h1 | ⟨b', off', rfl, hb', hcell'⟩
      · rw [h1] at hN; simp at hN; omega
      obtain ⟨c0, c1, c2, c3⟩ := (hcell k hlt).below hbel hb
      obtain ⟨d0, d1, d2, d3⟩ := (hcell' k hlt).below hbel hb'
      clear hcell hcell'
      have HBL := Lib.hid hbel
      clear hbel
      generalize ruAt l k = x at *
      have hbr : b < wr.heap.size := Nat.lt_of_lt_of_le hb HBL.out.size
      have hbr' : b' < wr.heap.size := Nat.lt_of_lt_of_le hb' HBL.out.size
      have q0 := fun m : Ext wr => m.cell hbr c0
      have q1 := fun m : Ext wr => m.cell hbr c1
      have q2 := fun m : Ext wr => m.cell hbr c2
      have q3 := fun m : Ext wr => m.cell hbr c3
      have q4 := fun m : Ext wr => m.cell hbr' d0
      have q5 := fun m : Ext wr => m.cell hbr' d1
      have q6 := fun m : Ext wr => m.cell hbr' d2
      have q7 := fun m : Ext wr => m.cell hbr' d3
      clear c0 c1 c2 c3 d0 d1 d2 d3
      go_wp2
      refine wp_region_ext (w0 := wr) (by kernel_rfl) (by kernel_rfl) (Below.refl _ _) ?_
      repeat (go_big_quiet_step (first | (go_at_call 49; exact ext_of (eqRule_same _ _ _ _ _))))
      refine wpQuiet_nil ?_
      rintro _ ⟨⟨w1, b1⟩, rfl⟩
      go_wp2
      go_roundw
      case rel => exact ⟨k + 1, by omega, by go_num, belStep HBL.out b1⟩
      case measure => simp [intOf]; omega
    · obtain rfl : k = n := by omega
      go_wp2
      go_ret
      exact ⟨rfl, hbel⟩

end Go.Proofs.YtennaeboemlnoaaDoor
