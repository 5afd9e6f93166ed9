/-
  Two closed facts on the program that a law's step wants, where no type of heads is in the translation.
-/
import Derived.Test.YtennaeboemlnoaaDoorRows
import Derived.WalkKit
import Derived.ProofKit
namespace Go.Proofs.YtennaeboemlnoaaDoor
open Go.RowKit

end Go.Proofs.YtennaeboemlnoaaDoor
