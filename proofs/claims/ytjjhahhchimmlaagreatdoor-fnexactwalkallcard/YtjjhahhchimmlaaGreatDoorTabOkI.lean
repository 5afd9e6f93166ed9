/-
  The program's TableOk.
-/
import Derived.Test.YtjjhahhchimmlaaGreatDoorTabL
namespace Go.Proofs.YtjjhahhchimmlaaGreatDoor
open Go.ChangeShapes Go.WideShapes Go.ChangeAt Go.RowKit Go.Joins
set_option linter.unusedVariables false

end Go.Proofs.YtjjhahhchimmlaaGreatDoor
