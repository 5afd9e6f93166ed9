/-
  Slices of strings: the statements' own copy; whether two are the same, in general.
-/
import Derived.Test.YtcbnecpcmellhaaStrIn
import Derived.Laws.OwnMore
namespace Go.Proofs.Ytcbnecpcmellhaa
open Go.ChangeShapes Go.WideShapes Go.ChangeAt Go.RowKit Go.Joins
set_option linter.unusedVariables false

theorem made_one (z : Value) (n : Nat) : (madeCells #[z] n).toList = List.replicate n z := by
  simp only [madeCells, Array.toList_map, Array.toList_range]
  apply List.ext_getElem
  · simp
  · intro i h1 h2
    simp [Nat.mod_one]
theorem infoS : (Try.prog.info? 9).map (fun i => (i.zero, i.size, i.bytes)) = some (some (.string ⟨#[]⟩), 1, 16) := by kernel_rfl

/-- The first k of a list, and nothing behind them. -/
def fill (l : List ByteArray) (k : Nat) : List ByteArray := l.take k ++ List.replicate (l.length - k) ⟨#[]⟩
theorem fill_len (l : List ByteArray) {k : Nat} (hk : k ≤ l.length) : (fill l k).length = l.length := by simp [fill]; omega
theorem fill_zero (l : List ByteArray) : fill l 0 = List.replicate l.length ⟨#[]⟩ := by simp [fill]
theorem fill_all (l : List ByteArray) : fill l l.length = l := by simp [fill]
theorem fill_step (l : List ByteArray) {k : Nat} (hk : k < l.length) : fill l (k + 1) = (fill l k).set k (strAt l k) := by
  have ht : (l.take k).length = k := by simp; omega
  have e : l.take (k + 1) = l.take k ++ [strAt l k] := by
    rw [List.take_add_one, List.getElem?_eq_getElem hk, strAt, List.getD_eq_getElem?_getD, List.getElem?_eq_getElem hk]
    rfl
  unfold fill
  rw [List.set_append_right _ _ (by omega), ht, Nat.sub_self]
  obtain ⟨n, hn⟩ : ∃ n, l.length - k = n + 1 := ⟨l.length - k - 1, by omega⟩
  rw [hn, List.replicate_succ, List.set_cons_zero, e, show l.length - (k + 1) = n from by omega, List.append_assoc]
  rfl

set_option maxRecDepth 100000 in
set_option maxHeartbeats 2000000 in
theorem toStringS_any (w : World) (v : Value) (l : List ByteArray) (h : Strs w w.heap.size v l) (hn : l.length ≤ 1048576) :
    Calls Try.prog 17 #[v] w fun e w' => ∃ u, e = .returned u ∧ StrRow w' w.heap.size u l ∧ Below w.heap.size w w' := by
  obtain ⟨a, cap, rfl, hc, hm, hh⟩ := h
  obtain ⟨i0, hi, hz0, hz1, hz2⟩ := info_parts infoS
  have HI := Lib.hid hi
  have HZ0 := Lib.hid hz0
  have HZ1 := Lib.hid hz1
  have HZ2 := Lib.hid hz2
  clear hi hz0 hz1 hz2
  have HZ : Hid (fill l 0 = List.replicate l.length ⟨#[]⟩) := fill_zero l
  have HA : Hid (fill l l.length = l) := fill_all l
  have HL : Hid (∀ k, k ≤ l.length → (fill l k).length = l.length) := fun k hk => fill_len l hk
  have HST : Hid (∀ k, k < l.length → fill l (k + 1) = (fill l k).set k (strAt l k)) := fun k hk => fill_step l hk
  have hnz : l.length = 0 ∨ ∃ b off, a = some ⟨b, off, none⟩ ∧ b < w.heap.size ∧ Hid (∀ i, i < l.length → w.cell? ⟨b, off + i, none⟩ = some (.string (strAt l i))) := by
    rcases hh with h | ⟨b, off, h1, h2, h3⟩
    · exact .inl (by rw [h]; rfl)
    · exact .inr ⟨b, off, h1, h2, h3⟩
  clear hh
  unfold maxLen at hm
  generalize hN : l.length = n at *
  go_enter Try.func17, Try.ntmps17
  go_wp2_with (at_make; refine wpList_make_full _ rfl _ _ 22 rfl w.heap.size 9 i0 (.string ⟨#[]⟩) 1 Try.underlying22 HI.out HZ0.out HZ1.out .i64 .i64 _ _ n rfl rfl rfl rfl ?b2 ?b3 (Nat.le_refl _) ?_)
  case b2 => rw [HZ2.out]; omega
  case b3 => unfold maxLen; omega
  intro w1 hown hg1
  have HB1 : Hid (Below w.heap.size w w1) := ⟨hg1.os, hg1.tape, hg1.output, hg1.size, fun k hk => hg1.block k hk (by simp)⟩
  have HR1 : Hid (StrRow w1 w.heap.size (.slice (some ⟨w.heap.size, 0, none⟩) n n) (fill l 0)) := by
    show w1.ownsRow _ _ _ _ _ _
    have := hown
    rw [made_one] at this
    rw [HZ.out, List.length_replicate, List.map_replicate]
    exact this
  clear hown hg1
  go_wp2
  go_loopw [4] (fun i wr => ∃ k : Nat, k ≤ n ∧ i = .int .i64 k ∧ StrRow wr w.heap.size (.slice (some ⟨w.heap.size, 0, none⟩) n n) (fill l k) ∧ Below w.heap.size w wr) (fun i _ => n - (intOf i).toNat)
  case atStart => exact ⟨0, Nat.zero_le _, rfl, HR1.out, HB1.out⟩
  case round =>
    obtain ⟨k, hk, rfl, hrow, hbel⟩ := hrel
    have HR := Lib.hid hrow
    by_cases hlt : k < n
    · have hkz : (k : Int) < (n : Int) := by omega
      rcases hnz with h0 | ⟨b, off, rfl, hb, HC⟩
      · omega
      have c1 : wr.cell? ⟨b, off + k, none⟩ = some (.string (strAt l k)) := (belCell hbel _ _ hb).trans (HC.out k hlt)
      obtain ⟨hc1, hf1, hgl⟩ := hrow.cells (HL.out k hk)
      have c2 := hc1 k hlt
      clear hc1 hrow
      have HS := Lib.hid (HST.out k hlt)
      generalize strAt l k = x at *
      generalize strAt (fill l k) k = y at *
      go_wp2
      go_roundw
      case rel => exact ⟨k + 1, by omega, by go_num, HR.out.put (HL.out k hk) HS.out, hbel.setCell (by exact Nat.le_refl _) _⟩
      case measure => simp [intOf]; omega
    · obtain rfl : k = n := by omega
      go_wp2
      go_ret
      exact ⟨_, rfl, by have := HR.out; rw [HA.out] at this; exact this, hbel⟩

theorem strs_max {l : List ByteArray} {n : Nat} (h : ∀ s ∈ l, s.size ≤ n) : ∀ i, i < l.length → (strAt l i).size ≤ n := fun i hi => h _ (by rw [strAt, List.getD_eq_getElem?_getD, List.getElem?_eq_getElem hi]; exact List.getElem_mem hi)
/-- Two slices of strings, whatever they hold. -/
theorem beqL_step {l l' : List ByteArray} (hl : l.length = l'.length) (h : ∀ j, j < l.length → strAt l j = strAt l' j) : l = l' := by
  apply List.ext_getElem hl
  intro i h1 h2
  have := h i h1
  rwa [strAt, strAt, List.getD_eq_getElem?_getD, List.getD_eq_getElem?_getD, List.getElem?_eq_getElem h1, List.getElem?_eq_getElem h2] at this

end Go.Proofs.Ytcbnecpcmellhaa
