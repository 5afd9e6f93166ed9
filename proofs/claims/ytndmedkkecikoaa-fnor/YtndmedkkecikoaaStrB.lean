/-
  Slices of strings that a call has made: what the statements' own helpers do with them (compare two, write marks into one, look whether the marks are there).
  Slices of strings that a call is handed: where they lie, what the statements' own helpers do with them (their sizes, a copy, whether two are the same).
  Slices of strings: the statements' own copy; whether two are the same, in general.
-/
import Derived.Test.YtndmedkkecikoaaHeadB
import Derived.Deep.Onto
import Derived.Deep.RegionHeld3
import Derived.OwnWalk
import Derived.Deep.QuietTactic
import Derived.BigQuiet
import Derived.SliceStrings
import Derived.Laws.OwnMore

namespace Go.Proofs.Ytndmedkkecikoaa
open Go.ChangeShapes Go.WideShapes Go.ChangeAt Go.RowKit Go.Joins
set_option linter.unusedVariables false

/-- A value is a slice of its own with these strings; its block is numbered from base on. -/
def StrRow (w : World) (base : Nat) (v : Value) (l : List ByteArray) : Prop := w.ownsRow base 9 1 v l.length (l.map Value.string)
/-- The string at a place of a list. -/
def strAt (l : List ByteArray) (j : Nat) : ByteArray := l.getD j ⟨#[]⟩
/-- Its form: nil, or a block. -/
theorem StrRow.form {w : World} {base : Nat} {v : Value} {l : List ByteArray} (h : StrRow w base v l) :
    (v = .slice none 0 0 ∧ l = []) ∨ ∃ g cap, v = .slice (some ⟨g, 0, none⟩) l.length cap ∧ base ≤ g ∧ g < w.heap.size ∧ l.length ≤ cap ∧ cap ≤ maxLen ∧ (∀ j, j < l.length → w.cell? ⟨g, j, none⟩ = some (.string (strAt l j))) ∧ ∀ j, w.frozen? ⟨g, j, none⟩ = false := by
  have h0 := h
  obtain ⟨hl, h1 | ⟨g, cap, cur, rfl, hb, hg, hc, hm, hs, ht⟩⟩ := h
  · exact .inl ⟨h1.1, List.eq_nil_of_length_eq_zero h1.2⟩
  · refine .inr ⟨g, cap, rfl, hb, (World.ownsRow.lt h0 g rfl).2, hc, hm, fun j hj => ?_, fun j => World.ownsRow.frozenAt h0 j⟩
    rw [World.ownsRow.cellAt h0 j (by omega)]
    simp [hj, strAt]
theorem StrRow.below {w w' : World} {base : Nat} {v : Value} {l : List ByteArray} (h : StrRow w base v l) (hb : Below w.heap.size w w') : StrRow w' base v l :=
  World.ownsRow.kept h (row := none) ⟨hb.os, hb.tape, hb.output, hb.size, fun k hk _ => hb.block k hk⟩ (by cases v.ownBlock <;> simp)
theorem StrRow.mono {w : World} {base base' : Nat} {v : Value} {l : List ByteArray} (h : StrRow w base v l) (hb : base' ≤ base) : StrRow w base' v l := World.ownsRow.mono h hb
/-- One that lies below what has turned. -/
theorem StrRow.under {w w' : World} {base n : Nat} {v : Value} {l : List ByteArray} (h : StrRow w base v l) (hb : Below n w w') (hv : ∀ k, v.ownBlock = some k → k < n) : StrRow w' base v l := by
  obtain ⟨hl, h1 | ⟨g, cap, cur, rfl, hb0, hg, hc⟩⟩ := h
  · exact ⟨hl, .inl h1⟩
  · exact ⟨hl, .inr ⟨g, cap, cur, rfl, hb0, (hb.block g (hv g rfl)).trans hg, hc⟩⟩

/-! ### Two are the same -/

/-! ### Marks -/

def digF : Nat → Nat → ByteArray → ByteArray
  | 0, _, acc => acc
  | f + 1, n, acc => if n = 0 then acc else digF f (n / 10) (⟨#[48 + UInt8.ofNat (n % 10)]⟩ ++ acc)
theorem digF_zero (f : Nat) (acc : ByteArray) : digF f 0 acc = acc := by cases f <;> simp [digF]
theorem digF_step {f n : Nat} (acc : ByteArray) (hn : 0 < n) (hf : n ≤ f) : digF f n acc = digF (f - 1) (n / 10) (⟨#[48 + UInt8.ofNat (n % 10)]⟩ ++ acc) := by
  cases f with
  | zero => omega
  | succ f => simp only [digF]; rw [if_neg (by omega)]; rfl
/-- The mark of a number. -/
def markB (n : Nat) : ByteArray := ⟨#[109]⟩ ++ digF n n ⟨#[]⟩

/-- The marks from a number on. -/
def marks (k : Nat) : Nat → List ByteArray | 0 => [] | n + 1 => marks k n ++ [markB (k + n)]
theorem marks_len (k : Nat) : ∀ n, (marks k n).length = n
  | 0 => rfl
  | n + 1 => by simp [marks, marks_len k n]
theorem marks_at (k : Nat) : ∀ {n j : Nat}, j < n → strAt (marks k n) j = markB (k + j)
  | 0, j, h => by omega
  | n + 1, j, h => by
    simp only [marks, strAt, List.getD_eq_getElem?_getD]
    by_cases e : j < n
    · rw [List.getElem?_append_left (by rw [marks_len]; exact e), ← List.getD_eq_getElem?_getD]
      exact marks_at k e
    · obtain rfl : j = n := by omega
      rw [List.getElem?_append_right (by rw [marks_len]; omega), marks_len]
      simp

/-- One string of a row is exchanged. -/
theorem StrRow.put {w : World} {base g cap j n : Nat} {x : ByteArray} {l m : List ByteArray} (h : StrRow w base (.slice (some ⟨g, 0, none⟩) n cap) l) (hn : l.length = n) (hm : m = l.set j x) :
    StrRow (w.setCell ⟨g, j, none⟩ (.string x)) base (.slice (some ⟨g, 0, none⟩) n cap) m := by
  subst hm hn
  have := (World.ownsRow.stored h j (.string x)).1
  unfold StrRow
  simpa [List.map_set] using this
theorem StrRow.cells {w : World} {base g cap n : Nat} {l : List ByteArray} (h : StrRow w base (.slice (some ⟨g, 0, none⟩) n cap) l) (hn : l.length = n) : (∀ j, j < n → w.cell? ⟨g, j, none⟩ = some (.string (strAt l j))) ∧ (∀ j, w.frozen? ⟨g, j, none⟩ = false) ∧ g < w.heap.size := by
  subst hn
  refine ⟨fun j hj => ?_, fun j => World.ownsRow.frozenAt h j, (World.ownsRow.lt h g rfl).2⟩
  rw [World.ownsRow.cellAt h j (by omega)]
  simp [hj, strAt]
def mixed (k : Nat) (l : List ByteArray) (j : Nat) : List ByteArray := marks k j ++ l.drop j
theorem mixed_len (k : Nat) (l : List ByteArray) {j : Nat} (h : j ≤ l.length) : (mixed k l j).length = l.length := by simp [mixed, marks_len]; omega
theorem mixed_zero (k : Nat) (l : List ByteArray) : mixed k l 0 = l := rfl
theorem mixed_all (k : Nat) (l : List ByteArray) : mixed k l l.length = marks k l.length := by simp [mixed]
theorem mixed_step (k : Nat) (l : List ByteArray) {j : Nat} (h : j < l.length) : mixed k l (j + 1) = (mixed k l j).set j (markB (k + j)) := by
  unfold mixed
  rw [List.set_append_right _ _ (by rw [marks_len]; exact Nat.le_refl _), marks_len, Nat.sub_self]
  have : l.drop j = (l[j]'h) :: l.drop (j + 1) := List.drop_eq_getElem_cons h
  rw [this, List.set_cons_zero, marks, List.append_assoc]
  rfl

end Go.Proofs.Ytndmedkkecikoaa

namespace Go.Proofs.Ytndmedkkecikoaa
open Go.ChangeShapes Go.WideShapes Go.ChangeAt Go.RowKit Go.Joins
set_option linter.unusedVariables false

/-- A value is a slice with these strings, in a block below g (or it has none). -/
def Strs (w : World) (g : Nat) (v : Value) (l : List ByteArray) : Prop :=
  ∃ (a : Option Addr) (cap : Nat), v = .slice a l.length cap ∧ l.length ≤ cap ∧ cap ≤ maxLen ∧
    (l = [] ∨ ∃ b off, a = some ⟨b, off, none⟩ ∧ b < g ∧ ∀ i, i < l.length → w.cell? ⟨b, off + i, none⟩ = some (.string (strAt l i)))
theorem Strs.below {w w' : World} {g n : Nat} {v : Value} {l : List ByteArray} (h : Strs w g v l) (hb : Below n w w') (hg : g ≤ n) : Strs w' g v l := by
  obtain ⟨a, cap, hv, hc, hm, h | ⟨b, off, ha, hbg, hcell⟩⟩ := h
  · exact ⟨a, cap, hv, hc, hm, .inl h⟩
  · exact ⟨a, cap, hv, hc, hm, .inr ⟨b, off, ha, hbg, fun i hi => (hb.cell (p := ⟨b, off + i, none⟩) (Nat.lt_of_lt_of_le hbg hg)).trans (hcell i hi)⟩⟩
theorem Strs.mono {w : World} {g g' : Nat} {v : Value} {l : List ByteArray} (h : Strs w g v l) (hg : g ≤ g') : Strs w g' v l := by
  obtain ⟨a, cap, hv, hc, hm, h | ⟨b, off, ha, hbg, hcell⟩⟩ := h
  · exact ⟨a, cap, hv, hc, hm, .inl h⟩
  · exact ⟨a, cap, hv, hc, hm, .inr ⟨b, off, ha, Nat.lt_of_lt_of_le hbg hg, hcell⟩⟩
theorem StrRow.strs {w : World} {base : Nat} {v : Value} {l : List ByteArray} (h : StrRow w base v l) : Strs w w.heap.size v l := by
  rcases h.form with ⟨rfl, rfl⟩ | ⟨g, cap, rfl, hb, hg, hc, hm, hcell, hfr⟩
  · exact ⟨none, 0, rfl, Nat.le_refl _, by unfold maxLen; omega, .inl rfl⟩
  · exact ⟨_, cap, rfl, hc, hm, .inr ⟨g, 0, rfl, hg, fun i hi => by rw [Nat.zero_add]; exact hcell i hi⟩⟩
theorem Strs.nil (w : World) (g : Nat) : Strs w g (.slice none 0 0) [] := ⟨none, 0, rfl, Nat.le_refl _, by unfold maxLen; omega, .inl rfl⟩

/-- One that came in. -/
theorem strs_of {H : Type} {enc : TypeId × Value → H} {w : World} {v : Value} {d : DataW H} {ps : List MemPlace}
    (h : DataW.Trod enc Try.prog w 0 (fun _ => true) true 23 v d ps) (hv : ∃ a len cap, v = .slice a len cap) : ∃ l, Strs w w.heap.size v l ∧ ∀ s ∈ l, s.size ≤ maxLen := by
  obtain ⟨a, len, cap, rfl⟩ := hv
  obtain ⟨fuel, hf⟩ := h
  rcases open_strings Try.underlying23 Try.underlying9 (by kernel_rfl) hf with ⟨hcs, _⟩ | ⟨x, l, c, zs, hcs, _, hl, hm, hz, _, hcell, hwz⟩
  · simp [Value.cells] at hcs
    obtain ⟨rfl, rfl, rfl⟩ := hcs
    exact ⟨[], Strs.nil _ _, by simp⟩
  · simp [Value.cells] at hcs
    obtain ⟨rfl, rfl, rfl⟩ := hcs
    have hzl : zs.length = cap := by simpa using hz
    have hl' : (zs.take len).length = len := by simp; omega
    refine ⟨zs.take len, ⟨some x, cap, by rw [hl'], by omega, hm, ?_⟩, fun s hs => hwz s (List.mem_of_mem_take hs)⟩
    by_cases h0 : len = 0
    · exact .inl (by simp [h0])
    right
    obtain ⟨b, off, spot⟩ := x
    have h1 := hcell 0 (by omega)
    have hsp : spot = none := by
      cases spot with
      | none => rfl
      | some s =>
        simp [Addr.add, World.cell?] at h1
        split at h1 <;> simp at h1
    subst hsp
    refine ⟨b, off, rfl, ?_, fun i hi => ?_⟩
    · have := hcell 0 (by omega)
      simp [Addr.add, World.cell?] at this
      cases hb : w.heap[b]? with
      | none => rw [hb] at this; simp at this
      | some o => exact (Array.getElem?_eq_some_iff.1 hb).1
    · rw [hl'] at hi
      have hc := hcell i (by omega)
      have e1 : (Addr.add ⟨b, off, none⟩ i) = ⟨b, off + i, none⟩ := by
        unfold Addr.add
        split
        · rename_i hh; subst hh; rfl
        · rfl
      rw [e1] at hc
      rw [hc, strAt, List.getD_eq_getElem?_getD, List.getD_eq_getElem?_getD, List.getElem?_take_of_lt hi]
      rfl

/-- No more than so many, none of them longer. -/
def Small (n : Nat) (l : List ByteArray) : Prop := l.length ≤ n ∧ ∀ i, i < l.length → (strAt l i).size ≤ n

end Go.Proofs.Ytndmedkkecikoaa

namespace Go.Proofs.Ytndmedkkecikoaa
open Go.ChangeShapes Go.WideShapes Go.ChangeAt Go.RowKit Go.Joins
set_option linter.unusedVariables false

theorem made_one (z : Value) (n : Nat) : (madeCells #[z] n).toList = List.replicate n z := by
  simp only [madeCells, Array.toList_map, Array.toList_range]
  apply List.ext_getElem
  · simp
  · intro i h1 h2
    simp [Nat.mod_one]
theorem infoS : (Try.prog.info? 9).map (fun i => (i.zero, i.size, i.bytes)) = some (some (.string ⟨#[]⟩), 1, 16) := by kernel_rfl

/-- The first k of a list, and nothing behind them. -/
def fill (l : List ByteArray) (k : Nat) : List ByteArray := l.take k ++ List.replicate (l.length - k) ⟨#[]⟩
theorem fill_len (l : List ByteArray) {k : Nat} (hk : k ≤ l.length) : (fill l k).length = l.length := by simp [fill]; omega
theorem fill_zero (l : List ByteArray) : fill l 0 = List.replicate l.length ⟨#[]⟩ := by simp [fill]
theorem fill_all (l : List ByteArray) : fill l l.length = l := by simp [fill]
theorem fill_step (l : List ByteArray) {k : Nat} (hk : k < l.length) : fill l (k + 1) = (fill l k).set k (strAt l k) := by
  have ht : (l.take k).length = k := by simp; omega
  have e : l.take (k + 1) = l.take k ++ [strAt l k] := by
    rw [List.take_add_one, List.getElem?_eq_getElem hk, strAt, List.getD_eq_getElem?_getD, List.getElem?_eq_getElem hk]
    rfl
  unfold fill
  rw [List.set_append_right _ _ (by omega), ht, Nat.sub_self]
  obtain ⟨n, hn⟩ : ∃ n, l.length - k = n + 1 := ⟨l.length - k - 1, by omega⟩
  rw [hn, List.replicate_succ, List.set_cons_zero, e, show l.length - (k + 1) = n from by omega, List.append_assoc]
  rfl

theorem strs_max {l : List ByteArray} {n : Nat} (h : ∀ s ∈ l, s.size ≤ n) : ∀ i, i < l.length → (strAt l i).size ≤ n := fun i hi => h _ (by rw [strAt, List.getD_eq_getElem?_getD, List.getElem?_eq_getElem hi]; exact List.getElem_mem hi)
/-- Two slices of strings, whatever they hold. -/
theorem beqL_step {l l' : List ByteArray} (hl : l.length = l'.length) (h : ∀ j, j < l.length → strAt l j = strAt l' j) : l = l' := by
  apply List.ext_getElem hl
  intro i h1 h2
  have := h i h1
  rwa [strAt, strAt, List.getD_eq_getElem?_getD, List.getD_eq_getElem?_getD, List.getElem?_eq_getElem h1, List.getElem?_eq_getElem h2] at this

end Go.Proofs.Ytndmedkkecikoaa
