/-
  Two closed facts on the program that a law's step wants, where no type of heads is in the translation.
-/
import Derived.Test.YtbjndcfdcjpkmaaRows
import Derived.WalkKit
import Derived.ProofKit
namespace Go.Proofs.Ytbjndcfdcjpkmaa
open Go.RowKit

theorem own : ownKnob Try.prog.godebug = none := by kernel_rfl
theorem laidOut : laidOutB Try.prog = true := by kernel_rfl

end Go.Proofs.Ytbjndcfdcjpkmaa
