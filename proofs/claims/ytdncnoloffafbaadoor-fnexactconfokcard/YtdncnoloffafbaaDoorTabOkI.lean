/-
  The program's TableOk.
-/
import Derived.Test.YtdncnoloffafbaaDoorTabL
namespace Go.Proofs.YtdncnoloffafbaaDoor
open Go.ChangeShapes Go.WideShapes Go.ChangeAt Go.RowKit Go.Joins
set_option linter.unusedVariables false

end Go.Proofs.YtdncnoloffafbaaDoor
