/-
  Marks that are written into a slice of strings: no other block turns.
-/
import Derived.Test.YtndmedkkecikoaaStrB
namespace Go.Proofs.Ytndmedkkecikoaa
open Go.ChangeShapes Go.WideShapes Go.ChangeAt Go.RowKit Go.Joins
set_option linter.unusedVariables false

theorem growRefl (a : World) (row : Option Nat) : a.grownBy a row := ⟨rfl, rfl, rfl, Nat.le_refl _, fun _ _ _ => rfl⟩
theorem growSet {a w w1 : World} {g : Nat} (h : a.grownBy w (some g)) (b : Below w.heap.size w w1) (j : Nat) (u : Value) : a.grownBy (w1.setCell ⟨g, j, none⟩ u) (some g) :=
  ⟨b.os.trans h.os, b.tape.trans h.tape, b.output.trans h.output, by simp only [World.setCell, Array.size_modify]; exact Nat.le_trans h.size b.size, fun i hi hne =>
    (Below.heap_setCell _ _ _ _ (fun e => hne (by rw [e]))).trans ((b.block i (Nat.lt_of_lt_of_le hi h.size)).trans (h.block i hi hne))⟩
/-- A row stays where another block turns. -/
theorem StrRow.apart {w w' : World} {base : Nat} {v : Value} {l : List ByteArray} {row : Option Nat} (h : StrRow w base v l) (hg : w.grownBy w' row) (hne : ∀ k, v.ownBlock = some k → row ≠ some k) : StrRow w' base v l :=
  World.ownsRow.kept h hg (by
    cases hv : v.ownBlock with
    | none => exact .inl rfl
    | some k => exact .inr (fun e => hne k hv e.symm))


end Go.Proofs.Ytndmedkkecikoaa
