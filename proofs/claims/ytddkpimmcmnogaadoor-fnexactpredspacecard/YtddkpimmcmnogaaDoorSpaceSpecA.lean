/-
  Chapter 3, what the model's SpaceOk returns.
-/
import Derived.Test.YtddkpimmcmnogaaDoorSpaceRead
import Derived.Test.YtddkpimmcmnogaaDoorWildSpec
namespace Go.Proofs.YtddkpimmcmnogaaDoor
open Go.ChangeShapes Go.WideShapes Go.ChangeAt Go.RowKit Go.Joins
set_option linter.unusedVariables false

end Go.Proofs.YtddkpimmcmnogaaDoor
