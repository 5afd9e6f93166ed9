/-
  The program's TableOk.
-/
import Derived.Test.YtdncnoloffafbaaGreatDoorTabL
namespace Go.Proofs.YtdncnoloffafbaaGreatDoor
open Go.ChangeShapes Go.WideShapes Go.ChangeAt Go.RowKit Go.Joins
set_option linter.unusedVariables false

end Go.Proofs.YtdncnoloffafbaaGreatDoor
