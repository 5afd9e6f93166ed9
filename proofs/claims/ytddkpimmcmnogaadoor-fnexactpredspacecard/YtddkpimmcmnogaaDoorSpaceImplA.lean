/-
  Chapter 3, what the program's SpaceOk, SpaceHas, SpaceSame return.
-/
import Derived.Test.YtddkpimmcmnogaaDoorSpaceSet
namespace Go.Proofs.YtddkpimmcmnogaaDoor
open Go.ChangeShapes Go.WideShapes Go.ChangeAt Go.RowKit Go.Joins
set_option linter.unusedVariables false

/-- No text is too long. -/
def Fit6 (l : List ByteArray) : Prop := ∀ i, i < l.length → (strAt l i).size ≤ 1048576

/-- The sets of two spaces in one diagram. -/
def Good2 (w w' : World) (b e : Nat) (p q : Option Addr) (m m' : List Bool) : Prop :=
  ∃ E', Dg w' b e E' ∧ Rep E' e 6 p m ∧ Rep E' e 6 q m' ∧ w.grownBy w' (some b)

end Go.Proofs.YtddkpimmcmnogaaDoor
