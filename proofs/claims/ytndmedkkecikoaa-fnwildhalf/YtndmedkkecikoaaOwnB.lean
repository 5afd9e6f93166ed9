/-
  Two closed facts on the program that a law's step wants, where no type of heads is in the translation.
-/
import Derived.Test.YtndmedkkecikoaaRows
import Derived.WalkKit
import Derived.ProofKit
namespace Go.Proofs.Ytndmedkkecikoaa
open Go.RowKit

end Go.Proofs.Ytndmedkkecikoaa
