/-
  Two closed facts on the program that a law's step wants, where no type of heads is in the translation.
-/
import Derived.Test.YthjceopaelagfaaDoorRows
import Derived.WalkKit
import Derived.ProofKit
namespace Go.Proofs.YthjceopaelagfaaDoor
open Go.RowKit

theorem own : ownKnob Tryd.prog.godebug = none := by kernel_rfl
theorem laidOut : laidOutB Tryd.prog = true := by kernel_rfl

end Go.Proofs.YthjceopaelagfaaDoor
