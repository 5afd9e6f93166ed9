/-
  Clauses: the program's ClausesOk.
-/
import Derived.Test.YtcipidcnkllanaaDoorClaRead
namespace Go.Proofs.YtcipidcnkllanaaDoor
open Go.ChangeShapes Go.WideShapes Go.ChangeAt Go.RowKit Go.Joins
set_option linter.unusedVariables false

end Go.Proofs.YtcipidcnkllanaaDoor
