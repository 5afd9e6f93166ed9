/-
  What the patterns that the statements draw are: short texts; the reader's place goes on, and nothing else that was there changes.
-/
import Derived.Test.YtddkpimmcmnogabDoorWildSpecB
import Derived.Test.YtddkpimmcmnogabDoorDrawHead
import Derived.Deep.RegionHeld3
namespace Go.Proofs.YtddkpimmcmnogabDoor
open Go.ChangeShapes Go.WideShapes Go.ChangeAt Go.RowKit Go.Joins
set_option linter.unusedVariables false

/-- One of a list of strings is picked. -/
def OfSome (P : ByteArray → Prop) (g B : Nat) (w : World) (e : Ending) (w' : World) : Prop :=
  ∃ s, P s ∧ e = .returned (.string s) ∧ RdOk w' g (B + 1) ∧ w.grownBy w' (some g)

set_option maxHeartbeats 400000 in
theorem of_some (w : World) (g B j k : Nat) (P : ByteArray → Prop) (hr : RdOk w g B) (hB : B ≤ 1000000000) (hk : 1 ≤ k) (hk2 : k ≤ 1000) (hne : j ≠ g) (hj : j < w.heap.size)
    (hc : ∀ i, i < k → ∃ s, P s ∧ w.cell? ⟨j, i, none⟩ = some (.string s)) :
    Calls Tryd.prog 33 #[.pointer (some ⟨g, 0, none⟩), .slice (some ⟨j, 0, none⟩) k k] w (OfSome P g B w) := by
  have HR := Lib.hid hr
  have HC := Lib.hid hc
  clear hr hc
  go_enter Tryd.func33, Tryd.ntmps33
  go_wp2_with fail
  refine (pick_any _ _ _ _ HR.out hB (by omega)).mono ?_
  rintro e w1 ⟨v, v0, v1, rfl, hr1, g1⟩
  have HR1 := Lib.hid hr1
  clear hr1
  obtain ⟨s, hs, hcs⟩ := HC.out v.toNat (by omega)
  have hcell : w1.cell? ⟨j, v.toNat, none⟩ = some (.string s) := (gCell g1 _ hj hne).trans hcs
  have HS := Lib.hid hs
  clear hs
  go_wp2
  go_ret
  exact ⟨s, HS.out, rfl, HR1.out, g1⟩

theorem rdDrew {w : World} {g B : Nat} (h : RdOk w g B) : RdOk w.drew g B := h.keep fun _ _ => rfl

/-- Four strings in a block. -/
theorem fourCells {w : World} {j : Nat} {t : TypeId} {s0 s1 s2 s3 : ByteArray} (P : ByteArray → Prop) (h : w.heap[j]? = some (.cells #[.string s0, .string s1, .string s2, .string s3] t))
    (h0 : P s0) (h1 : P s1) (h2 : P s2) (h3 : P s3) : ∀ i, i < 4 → ∃ s, P s ∧ w.cell? ⟨j, i, none⟩ = some (.string s) := by
  intro i hi
  rw [cell_of_block h]
  obtain rfl | rfl | rfl | rfl : i = 0 ∨ i = 1 ∨ i = 2 ∨ i = 3 := by omega
  · exact ⟨_, h0, rfl⟩
  · exact ⟨_, h1, rfl⟩
  · exact ⟨_, h2, rfl⟩
  · exact ⟨_, h3, rfl⟩
theorem threeCells {w : World} {j : Nat} {t : TypeId} {s0 s1 s2 : ByteArray} (P : ByteArray → Prop) (h : w.heap[j]? = some (.cells #[.string s0, .string s1, .string s2] t))
    (h0 : P s0) (h1 : P s1) (h2 : P s2) : ∀ i, i < 3 → ∃ s, P s ∧ w.cell? ⟨j, i, none⟩ = some (.string s) := by
  intro i hi
  rw [cell_of_block h]
  obtain rfl | rfl | rfl : i = 0 ∨ i = 1 ∨ i = 2 := by omega
  · exact ⟨_, h0, rfl⟩
  · exact ⟨_, h1, rfl⟩
  · exact ⟨_, h2, rfl⟩

/-- A text of at most seven bytes is drawn by the reader at block g. -/
def WildDrawn (g B : Nat) (w : World) (e : Ending) (w' : World) : Prop :=
  ∃ s : ByteArray, s.size ≤ 7 ∧ e = .returned (.string s) ∧ RdOk w' g (B + 8) ∧ w.grownBy w' (some g)

/-- A short text is drawn from a code; two of them; one, and a head. -/
def TextDrawn (w : World) (e : Ending) (w' : World) : Prop := ∃ s : ByteArray, s.size ≤ 8 ∧ e = .returned (.string s) ∧ Below w.heap.size w w'
def TwoDrawn (w : World) (e : Ending) (w' : World) : Prop := ∃ s t : ByteArray, s.size ≤ 8 ∧ t.size ≤ 8 ∧ e = .returned (.tuple #[.string s, .string t]) ∧ Below w.heap.size w w'
def TextHeadDrawn (w : World) (e : Ending) (w' : World) : Prop := ∃ (s : ByteArray) (x y z : Int), s.size ≤ 8 ∧ e = .returned (.tuple #[.string s, .agg #[.int .i64 x, .int .i64 y, .int .i64 z]]) ∧ Below w.heap.size w w'

end Go.Proofs.YtddkpimmcmnogabDoor
