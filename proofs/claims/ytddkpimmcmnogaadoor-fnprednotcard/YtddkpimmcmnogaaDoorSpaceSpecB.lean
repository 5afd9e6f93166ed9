/-
  Chapter 3, the model's masks: the set of a space, as a slice of bools; whether two are the same; what the model's SpaceHas and SpaceSame return.
-/
import Derived.Test.YtddkpimmcmnogaaDoorSpaceSpecA
import Derived.Test.YtddkpimmcmnogaaDoorStrCopy
import Derived.Test.YtddkpimmcmnogaaDoorSpaceImplA
namespace Go.Proofs.YtddkpimmcmnogaaDoor
open Go.ChangeShapes Go.WideShapes Go.ChangeAt Go.RowKit Go.Joins
set_option linter.unusedVariables false

theorem infoB : (Tryd.prog.info? 4).map (fun i => (i.zero, i.size, i.bytes)) = some (some (.bool false), 1, 1) := by kernel_rfl

/-- A value is a slice with these bools, in a block below g. -/
def Bools (w : World) (g : Nat) (v : Value) (m : List Bool) : Prop :=
  ∃ (b off cap : Nat), v = .slice (some ⟨b, off, none⟩) m.length cap ∧ m.length ≤ cap ∧ cap ≤ 64 ∧ b < g ∧ ∀ i, i < m.length → w.cell? ⟨b, off + i, none⟩ = some (.bool (m.getD i false))
theorem Bools.below {w w' : World} {g n : Nat} {v : Value} {m : List Bool} (h : Bools w g v m) (hb : Below n w w') (hg : g ≤ n) : Bools w' g v m := by
  obtain ⟨b, off, cap, hv, hc, hm, hbg, hcell⟩ := h
  exact ⟨b, off, cap, hv, hc, hm, hbg, fun i hi => (hb.cell (p := ⟨b, off + i, none⟩) (Nat.lt_of_lt_of_le hbg hg)).trans (hcell i hi)⟩
theorem Bools.mono {w : World} {g g' : Nat} {v : Value} {m : List Bool} (h : Bools w g v m) (hg : g ≤ g') : Bools w g' v m := by
  obtain ⟨b, off, cap, hv, hc, hm, hbg, hcell⟩ := h
  exact ⟨b, off, cap, hv, hc, hm, Nat.lt_of_lt_of_le hbg hg, hcell⟩
/-- A slice of 64 bools of a call's own. -/
def BoolRow (w : World) (g : Nat) (m : List Bool) : Prop := w.ownsRow g 4 1 (.slice (some ⟨g, 0, none⟩) 64 64) 64 (m.map Value.bool) ∧ m.length = 64
theorem BoolRow.bools {w : World} {g : Nat} {m : List Bool} (h : BoolRow w g m) : Bools w w.heap.size (.slice (some ⟨g, 0, none⟩) 64 64) m := by
  refine ⟨g, 0, 64, by rw [h.2], by rw [h.2]; omega, by omega, (World.ownsRow.lt h.1 g rfl).2, fun i hi => ?_⟩
  rw [Nat.zero_add, World.ownsRow.cellAt h.1 i (by rw [h.2] at hi; omega)]
  simp [hi]
theorem BoolRow.cells {w : World} {g : Nat} {m : List Bool} (h : BoolRow w g m) : (∀ j, j < 64 → w.cell? ⟨g, j, none⟩ = some (.bool (m.getD j false))) ∧ (∀ j, w.frozen? ⟨g, j, none⟩ = false) ∧ g < w.heap.size := by
  refine ⟨fun j hj => ?_, fun j => World.ownsRow.frozenAt h.1 j, (World.ownsRow.lt h.1 g rfl).2⟩
  rw [World.ownsRow.cellAt h.1 j (by omega)]
  have : j < m.length := by rw [h.2]; exact hj
  simp [this]
theorem BoolRow.put {w : World} {g : Nat} {m : List Bool} (h : BoolRow w g m) (j : Nat) (x : Bool) : BoolRow (w.setCell ⟨g, j, none⟩ (.bool x)) g (m.set j x) := by
  have := (World.ownsRow.stored h.1 j (.bool x)).1
  exact ⟨by simpa [List.map_set] using this, by simp [h.2]⟩
theorem BoolRow.below {w w' : World} {g : Nat} {m : List Bool} (h : BoolRow w g m) (hb : Below w.heap.size w w') : BoolRow w' g m :=
  ⟨World.ownsRow.kept h.1 (row := none) ⟨hb.os, hb.tape, hb.output, hb.size, fun k hk _ => hb.block k hk⟩ (by cases (Value.slice (some ⟨g, 0, none⟩) 64 64).ownBlock <;> simp), h.2⟩

/-- The mask while it is filled: at n the first i texts are in. -/
def mixM (l : List ByteArray) (n i : Nat) : List Bool := (List.range 64).map fun j => bif decide (j < n) then inSp l (kb6 j) else (bif decide (j = n) then inSp (l.take i) (kb6 j) else false)
theorem mixM_len (l : List ByteArray) (n i : Nat) : (mixM l n i).length = 64 := by simp [mixM]
theorem mixM_get (l : List ByteArray) {n : Nat} (i : Nat) (hn : n < 64) : (mixM l n i).getD n false = inSp (l.take i) (kb6 n) := by
  simp [mixM, List.getD_eq_getElem?_getD, List.getElem?_range hn]
theorem mixM_start (l : List ByteArray) : mixM l 0 0 = List.replicate 64 false := by
  refine List.eq_replicate_iff.2 ⟨mixM_len _ _ _, fun b hb => ?_⟩
  obtain ⟨j, _, rfl⟩ := List.mem_map.1 hb
  simp [inSp]
theorem mixM_next (l : List ByteArray) (n : Nat) : mixM l n l.length = mixM l (n + 1) 0 := by
  unfold mixM
  apply List.map_congr_left
  intro j _
  by_cases h : j < n
  · simp [h, show j < n + 1 by omega]
  · by_cases e : j = n
    · subst e; simp
    · simp [h, e, show ¬ j < n + 1 by omega, inSp]
theorem mixM_end (l : List ByteArray) : mixM l 64 0 = spL l := by
  unfold mixM spL
  rw [tab6]
  apply List.map_congr_left
  intro j hj
  have := List.mem_range.1 hj
  simp [this]
theorem inSp_take {l : List ByteArray} {k : Nat} (hk : k < l.length) (q : List Bool) : inSp (l.take (k + 1)) q = (inSp (l.take k) q || hasM (cf (strAt l k)) (vf (strAt l k)) (bitF q)) := by
  have e : l.take (k + 1) = l.take k ++ [strAt l k] := by
    rw [List.take_add_one, List.getElem?_eq_getElem hk, strAt, List.getD_eq_getElem?_getD, List.getElem?_eq_getElem hk]
    rfl
  rw [e]
  simp [inSp]
theorem mixM_step (l : List ByteArray) {n i : Nat} (hn : n < 64) : mixM l n (i + 1) = (mixM l n i).set n (inSp (l.take (i + 1)) (kb6 n)) := by
  apply List.ext_getElem
  · simp [mixM]
  · intro j h1 h2
    rw [List.getElem_set]
    by_cases e : n = j
    · subst e
      simp [mixM]
    · have e' : ¬ j = n := fun h => e h.symm
      simp [mixM, e, e']

end Go.Proofs.YtddkpimmcmnogaaDoor
