/-
  Rows of numbers of a call's own: what the statements' own helpers do with them.
-/
import Derived.Test.YtjjhahhchimmlaaGreatDoorExtReg
import Derived.Deep.Onto
import Derived.OwnWalk
import Derived.Laws.OwnMore
namespace Go.Proofs.YtjjhahhchimmlaaGreatDoor
open Go.ChangeShapes Go.WideShapes Go.ChangeAt Go.RowKit Go.Joins
set_option linter.unusedVariables false

/-- A value is a slice of its own with these numbers; its block is numbered from base on. -/
def IntRow (w : World) (base : Nat) (v : Value) (l : List Int) : Prop := w.ownsRow base 3 1 v l.length (l.map (Value.int .i64))
def inAt (l : List Int) (j : Nat) : Int := l.getD j 0
theorem IntRow.form {w : World} {base : Nat} {v : Value} {l : List Int} (h : IntRow w base v l) :
    (v = .slice none 0 0 ∧ l = []) ∨ ∃ g cap, v = .slice (some ⟨g, 0, none⟩) l.length cap ∧ base ≤ g ∧ g < w.heap.size ∧ l.length ≤ cap ∧ cap ≤ maxLen ∧ (∀ j, j < l.length → w.cell? ⟨g, j, none⟩ = some (.int .i64 (inAt l j))) ∧ ∀ j, w.frozen? ⟨g, j, none⟩ = false := by
  have h0 := h
  obtain ⟨hl, h1 | ⟨g, cap, cur, rfl, hb, hg, hc, hm, hs, ht⟩⟩ := h
  · exact .inl ⟨h1.1, List.eq_nil_of_length_eq_zero h1.2⟩
  · refine .inr ⟨g, cap, rfl, hb, (World.ownsRow.lt h0 g rfl).2, hc, hm, fun j hj => ?_, fun j => World.ownsRow.frozenAt h0 j⟩
    rw [World.ownsRow.cellAt h0 j (by omega)]
    simp [hj, inAt]
theorem IntRow.below {w w' : World} {base : Nat} {v : Value} {l : List Int} (h : IntRow w base v l) (hb : Below w.heap.size w w') : IntRow w' base v l :=
  World.ownsRow.kept h (row := none) ⟨hb.os, hb.tape, hb.output, hb.size, fun k hk _ => hb.block k hk⟩ (by cases v.ownBlock <;> simp)
theorem IntRow.mono {w : World} {base base' : Nat} {v : Value} {l : List Int} (h : IntRow w base v l) (hb : base' ≤ base) : IntRow w base' v l := World.ownsRow.mono h hb
/-- One that lies below what has turned. -/
theorem IntRow.under {w w' : World} {base n : Nat} {v : Value} {l : List Int} (h : IntRow w base v l) (hb : Below n w w') (hv : ∀ k, v.ownBlock = some k → k < n) : IntRow w' base v l := by
  obtain ⟨hl, h1 | ⟨g, cap, cur, rfl, hb0, hg, hc⟩⟩ := h
  · exact ⟨hl, .inl h1⟩
  · exact ⟨hl, .inr ⟨g, cap, cur, rfl, hb0, (hb.block g (hv g rfl)).trans hg, hc⟩⟩
theorem IntRow.put {w : World} {base g cap j n : Nat} {x : Int} {l m : List Int} (h : IntRow w base (.slice (some ⟨g, 0, none⟩) n cap) l) (hn : l.length = n) (hm : m = l.set j x) :
    IntRow (w.setCell ⟨g, j, none⟩ (.int .i64 x)) base (.slice (some ⟨g, 0, none⟩) n cap) m := by
  subst hm hn
  have := (World.ownsRow.stored h j (.int .i64 x)).1
  unfold IntRow
  simpa [List.map_set] using this
theorem IntRow.cells {w : World} {base g cap n : Nat} {l : List Int} (h : IntRow w base (.slice (some ⟨g, 0, none⟩) n cap) l) (hn : l.length = n) : (∀ j, j < n → w.cell? ⟨g, j, none⟩ = some (.int .i64 (inAt l j))) ∧ (∀ j, w.frozen? ⟨g, j, none⟩ = false) ∧ g < w.heap.size := by
  subst hn
  refine ⟨fun j hj => ?_, fun j => World.ownsRow.frozenAt h j, (World.ownsRow.lt h g rfl).2⟩
  rw [World.ownsRow.cellAt h j (by omega)]
  simp [hj, inAt]

/-- The numbers that are written as marks. -/
def marksI (k n : Nat) : List Int := (List.range n).map (fun i => ((k + i : Nat) : Int))
theorem marksI_len (k n : Nat) : (marksI k n).length = n := by simp [marksI]
theorem marksI_at (k : Nat) {n j : Nat} (h : j < n) : inAt (marksI k n) j = ((k + j : Nat) : Int) := by simp [inAt, marksI, h]
def mixedI (k : Nat) (l : List Int) (j : Nat) : List Int := marksI k j ++ l.drop j
theorem mixedI_len (k : Nat) (l : List Int) {j : Nat} (h : j ≤ l.length) : (mixedI k l j).length = l.length := by simp [mixedI, marksI_len]; omega
theorem mixedI_zero (k : Nat) (l : List Int) : mixedI k l 0 = l := rfl
theorem mixedI_all (k : Nat) (l : List Int) : mixedI k l l.length = marksI k l.length := by simp [mixedI]
theorem mixedI_step (k : Nat) (l : List Int) {j : Nat} (h : j < l.length) : mixedI k l (j + 1) = (mixedI k l j).set j (((k + j : Nat) : Int)) := by
  unfold mixedI
  rw [List.set_append_right _ _ (by rw [marksI_len]; exact Nat.le_refl _), marksI_len, Nat.sub_self]
  have : l.drop j = (l[j]'h) :: l.drop (j + 1) := List.drop_eq_getElem_cons h
  rw [this, List.set_cons_zero, marksI, marksI, List.range_succ, List.map_append, List.append_assoc]
  rfl

end Go.Proofs.YtjjhahhchimmlaaGreatDoor
