/-
  The program's TableOk.
-/
import Derived.Test.YtehgpehhpijkjaaGreatDoorTabL
namespace Go.Proofs.YtehgpehhpijkjaaGreatDoor
open Go.ChangeShapes Go.WideShapes Go.ChangeAt Go.RowKit Go.Joins
set_option linter.unusedVariables false

end Go.Proofs.YtehgpehhpijkjaaGreatDoor
