/-
  Nets: whether links are one, the program's and the model's answer.
-/
import Derived.Test.YtjjhahhchimmlaaGreatDoorNetSpec
namespace Go.Proofs.YtjjhahhchimmlaaGreatDoor
open Go.ChangeShapes Go.WideShapes Go.ChangeAt Go.RowKit Go.Joins
set_option linter.unusedVariables false

end Go.Proofs.YtjjhahhchimmlaaGreatDoor
