/-
  Two closed facts on the program that a law's step wants, where no type of heads is in the translation.
-/
import Derived.Test.YtcipidcnkllanaaDoorRows
import Derived.WalkKit
import Derived.ProofKit
namespace Go.Proofs.YtcipidcnkllanaaDoor
open Go.RowKit

end Go.Proofs.YtcipidcnkllanaaDoor
