/-
  Two closed facts on the program that a law's step wants, where no type of heads is in the translation.
-/
import Derived.Test.YtehgpehhpijkjaaGreatDoorRows
import Derived.WalkKit
import Derived.ProofKit
namespace Go.Proofs.YtehgpehhpijkjaaGreatDoor
open Go.RowKit

end Go.Proofs.YtehgpehhpijkjaaGreatDoor
