/-
  What the rules are that the statements draw from a code.
-/
import Derived.Test.YtahobeigbjhbbaaGreatDoorRuleDraw
namespace Go.Proofs.YtahobeigbjhbbaaGreatDoor
open Go.ChangeShapes Go.WideShapes Go.ChangeAt Go.RowKit Go.Joins
set_option linter.unusedVariables false

/-- A rule is drawn from a code. -/
def RuleCoded (w : World) (e : Ending) (w' : World) : Prop := ∃ (p : Int) (s : ByteArray) (o t : Int), SmallR p s o t ∧ e = .returned (.agg #[.int .i64 p, .string s, .int .i64 o, .int .i64 t]) ∧ Below w.heap.size w w'

end Go.Proofs.YtahobeigbjhbbaaGreatDoor
