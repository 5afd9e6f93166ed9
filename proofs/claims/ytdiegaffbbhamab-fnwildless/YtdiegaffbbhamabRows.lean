/-
  No cell of these rows narrows 'for every input' (looked for: loops, veiled, ifaces, maps, wideKeys, modest, calm, conditions, laid).
  DERIVED. THE GIVEN ROWS OF THIS SEAT. 5 by the template 'for every input the law returns true; each argument reads behind the call as it read before'; 0 by the template 'total and deterministic' (their statements: YtdiegaffbbhamabTotals.lean).
  GIVEN WITH THE SEED: the statements are not yours to turn. If you find one false, say at which input.
  Laid BY PROGRAM, IN A SANDBOX (cutbox-rows.mjs): the forced cells as the released guide's own fill.sh prints them over the translation 057bb4d034463707… (all of the seat's roots in one cut). By AI agents, Wed Nov 11 2026. No macro, syntax, notation, axiom, sorry.
-/
import Derived.Test.YtdiegaffbbhamabChecked
import GoSem.Claim
import GoSem.ClaimJoined
import GoSem.ClaimMapViews
import Derived.JoinedTies
import Derived.KernelRfl
namespace Go.Proofs.Ytdiegaffbbhamab
/- THE CELL 'sum', in the pinned program and in every row, IS THE sha256 OF THE DUMP (.gsa) THAT YtdiegaffbbhamabProg.lean LOADS. Nothing in Lean hashes anything: it is a label: what it is worth is what the hold of that sum in a sandbox is worth. -/
noncomputable def Try.pinned : Pinned := { name := "ytdiegaffbbhamab", sum := "057bb4d0344637072cd0e9ce9ec316382291554c53b579a8043737f432aca208", checked := Try.checked }
namespace Rows
def none {H : Type} : Left H := { results := [], args := [] }

/-- 'laws.FnWildAll': WHATEVER THE INPUT: true; the input reads as it did. -/
def fnWildAllSpec : ChangeSpec := { name := "fnWildAll", fn := fun _ => fun
  | [d] => { results := [.lit (.bool true)], args := [d] }
  | _ => none }
def fnWildAllRow : OpenClaim := { program := "ytdiegaffbbhamab", sum := "057bb4d0344637072cd0e9ce9ec316382291554c53b579a8043737f432aca208", func := "loop.example/crossbuck/laws.FnWildAll", spec := "fnWildAll", unfollowed := true, recurses := true, apart := false }
def FnWildAllSaid : Prop := fnWildAllRow.holds Try.pinned (OpenSpec.ofChange fnWildAllSpec)

/-- ITS FALSE NEIGHBOUR: 'it returns false'. Refute it at one input. -/
def fnWildAllWrong : ChangeSpec := { name := "fnWildAll", fn := fun _ => fun
  | [d] => { results := [.lit (.bool false)], args := [d] }
  | _ => none }
def FnWildAllWrongFalsely : Prop := fnWildAllRow.holds Try.pinned (OpenSpec.ofChange fnWildAllWrong)

/-- 'laws.FnWildThree': WHATEVER THE INPUT: true; the input reads as it did. -/
def fnWildThreeSpec : ChangeSpec := { name := "fnWildThree", fn := fun _ => fun
  | [d1, d2] => { results := [.lit (.bool true)], args := [d1, d2] }
  | _ => none }
def fnWildThreeRow : OpenClaim := { program := "ytdiegaffbbhamab", sum := "057bb4d0344637072cd0e9ce9ec316382291554c53b579a8043737f432aca208", func := "loop.example/crossbuck/laws.FnWildThree", spec := "fnWildThree", unfollowed := true, recurses := true, apart := false }
def FnWildThreeSaid : Prop := fnWildThreeRow.holds Try.pinned (OpenSpec.ofChange fnWildThreeSpec)

/-- ITS FALSE NEIGHBOUR: 'it returns false'. Refute it at one input. -/
def fnWildThreeWrong : ChangeSpec := { name := "fnWildThree", fn := fun _ => fun
  | [d1, d2] => { results := [.lit (.bool false)], args := [d1, d2] }
  | _ => none }
def FnWildThreeWrongFalsely : Prop := fnWildThreeRow.holds Try.pinned (OpenSpec.ofChange fnWildThreeWrong)

/-- 'laws.FnWildIn': WHATEVER THE INPUT: true; the input reads as it did. -/
def fnWildInSpec : ChangeSpec := { name := "fnWildIn", fn := fun _ => fun
  | [d] => { results := [.lit (.bool true)], args := [d] }
  | _ => none }
def fnWildInRow : OpenClaim := { program := "ytdiegaffbbhamab", sum := "057bb4d0344637072cd0e9ce9ec316382291554c53b579a8043737f432aca208", func := "loop.example/crossbuck/laws.FnWildIn", spec := "fnWildIn", unfollowed := true, recurses := true, apart := false }
def FnWildInSaid : Prop := fnWildInRow.holds Try.pinned (OpenSpec.ofChange fnWildInSpec)

/-- ITS FALSE NEIGHBOUR: 'it returns false'. Refute it at one input. -/
def fnWildInWrong : ChangeSpec := { name := "fnWildIn", fn := fun _ => fun
  | [d] => { results := [.lit (.bool false)], args := [d] }
  | _ => none }
def FnWildInWrongFalsely : Prop := fnWildInRow.holds Try.pinned (OpenSpec.ofChange fnWildInWrong)

/-- 'laws.FnWildLess': WHATEVER THE INPUT: true; the input reads as it did. -/
def fnWildLessSpec : ChangeSpec := { name := "fnWildLess", fn := fun _ => fun
  | [d] => { results := [.lit (.bool true)], args := [d] }
  | _ => none }
def fnWildLessRow : OpenClaim := { program := "ytdiegaffbbhamab", sum := "057bb4d0344637072cd0e9ce9ec316382291554c53b579a8043737f432aca208", func := "loop.example/crossbuck/laws.FnWildLess", spec := "fnWildLess", unfollowed := true, recurses := true, apart := false }
def FnWildLessSaid : Prop := fnWildLessRow.holds Try.pinned (OpenSpec.ofChange fnWildLessSpec)

/-- ITS FALSE NEIGHBOUR: 'it returns false'. Refute it at one input. -/
def fnWildLessWrong : ChangeSpec := { name := "fnWildLess", fn := fun _ => fun
  | [d] => { results := [.lit (.bool false)], args := [d] }
  | _ => none }
def FnWildLessWrongFalsely : Prop := fnWildLessRow.holds Try.pinned (OpenSpec.ofChange fnWildLessWrong)

/-- 'laws.FnLessMany': WHATEVER THE INPUT: true; the input reads as it did. -/
def fnLessManySpec : ChangeSpec := { name := "fnLessMany", fn := fun _ => fun
  | [d] => { results := [.lit (.bool true)], args := [d] }
  | _ => none }
def fnLessManyRow : OpenClaim := { program := "ytdiegaffbbhamab", sum := "057bb4d0344637072cd0e9ce9ec316382291554c53b579a8043737f432aca208", func := "loop.example/crossbuck/laws.FnLessMany", spec := "fnLessMany", unfollowed := true, recurses := true, apart := false }
def FnLessManySaid : Prop := fnLessManyRow.holds Try.pinned (OpenSpec.ofChange fnLessManySpec)

/-- ITS FALSE NEIGHBOUR: 'it returns false'. Refute it at one input. -/
def fnLessManyWrong : ChangeSpec := { name := "fnLessMany", fn := fun _ => fun
  | [d] => { results := [.lit (.bool false)], args := [d] }
  | _ => none }
def FnLessManyWrongFalsely : Prop := fnLessManyRow.holds Try.pinned (OpenSpec.ofChange fnLessManyWrong)

/- THE SECOND FORM. 'bulk': how many values and letters a reading holds, each counted each time it is reached (what is shared counts as often as it is met; a slice's spare places count too). A statement '..UptoSaid' is the law's where the arguments, and the package variables that the reading takes, are together of bulk at most 1048576: NARROWER than '..Said'. Prove '..Said' where nothing that the law and all that it calls make is longer than what came in: it says more and counts as full. Else prove '..UptoSaid'. A law counts once. -/
mutual
def uptoBulk {H : Type} : DataW H → Nat
  | .lit (.string bytes) => bytes.length + 1
  | .lit _ => 1
  | .nil => 1
  | .ptr d => uptoBulk d + 1
  | .slice elems spare => uptoBulkAll elems + uptoBulkAll spare + 1
  | .agg parts => uptoBulkAll parts + 1
  | .iface _ d => uptoBulk d + 1
  | .map entries => uptoBulkEntries entries + 1
  | .held _ => 1
def uptoBulkAll {H : Type} : List (DataW H) → Nat
  | [] => 0
  | d :: r => uptoBulk d + uptoBulkAll r
def uptoBulkEntries {H : Type} : List (Lit × DataW H) → Nat
  | [] => 0
  | x :: r => uptoBulkEntry x + uptoBulkEntries r
def uptoBulkEntry {H : Type} : Lit × DataW H → Nat
  | (.string bytes, d) => bytes.length + uptoBulk d + 1
  | (_, d) => uptoBulk d + 1
 end
def uptoSmall : (H : Type) → List (DataW H) → Bool := fun _ ds => decide (uptoBulkAll ds ≤ 1048576)
def OpenSpec.upto (s : _root_.Go.ChangeSpec) : _root_.Go.OpenSpec := { _root_.Go.OpenSpec.ofChange s with cond := some uptoSmall }

/-- 'laws.FnWildAll', WHERE WHAT IT READS IS OF BULK AT MOST 1048576: true; the input reads as it did. -/
def fnWildAllUptoRow : OpenClaim := { program := "ytdiegaffbbhamab", sum := "057bb4d0344637072cd0e9ce9ec316382291554c53b579a8043737f432aca208", func := "loop.example/crossbuck/laws.FnWildAll", spec := "fnWildAll", unfollowed := true, recurses := true, apart := false, narrowed := true }
def FnWildAllUptoSaid : Prop := fnWildAllUptoRow.holds Try.pinned (OpenSpec.upto fnWildAllSpec)

/-- 'laws.FnWildThree', WHERE WHAT IT READS IS OF BULK AT MOST 1048576: true; the input reads as it did. -/
def fnWildThreeUptoRow : OpenClaim := { program := "ytdiegaffbbhamab", sum := "057bb4d0344637072cd0e9ce9ec316382291554c53b579a8043737f432aca208", func := "loop.example/crossbuck/laws.FnWildThree", spec := "fnWildThree", unfollowed := true, recurses := true, apart := false, narrowed := true }
def FnWildThreeUptoSaid : Prop := fnWildThreeUptoRow.holds Try.pinned (OpenSpec.upto fnWildThreeSpec)

/-- 'laws.FnWildIn', WHERE WHAT IT READS IS OF BULK AT MOST 1048576: true; the input reads as it did. -/
def fnWildInUptoRow : OpenClaim := { program := "ytdiegaffbbhamab", sum := "057bb4d0344637072cd0e9ce9ec316382291554c53b579a8043737f432aca208", func := "loop.example/crossbuck/laws.FnWildIn", spec := "fnWildIn", unfollowed := true, recurses := true, apart := false, narrowed := true }
def FnWildInUptoSaid : Prop := fnWildInUptoRow.holds Try.pinned (OpenSpec.upto fnWildInSpec)

/-- 'laws.FnWildLess', WHERE WHAT IT READS IS OF BULK AT MOST 1048576: true; the input reads as it did. -/
def fnWildLessUptoRow : OpenClaim := { program := "ytdiegaffbbhamab", sum := "057bb4d0344637072cd0e9ce9ec316382291554c53b579a8043737f432aca208", func := "loop.example/crossbuck/laws.FnWildLess", spec := "fnWildLess", unfollowed := true, recurses := true, apart := false, narrowed := true }
def FnWildLessUptoSaid : Prop := fnWildLessUptoRow.holds Try.pinned (OpenSpec.upto fnWildLessSpec)

/-- 'laws.FnLessMany', WHERE WHAT IT READS IS OF BULK AT MOST 1048576: true; the input reads as it did. -/
def fnLessManyUptoRow : OpenClaim := { program := "ytdiegaffbbhamab", sum := "057bb4d0344637072cd0e9ce9ec316382291554c53b579a8043737f432aca208", func := "loop.example/crossbuck/laws.FnLessMany", spec := "fnLessMany", unfollowed := true, recurses := true, apart := false, narrowed := true }
def FnLessManyUptoSaid : Prop := fnLessManyUptoRow.holds Try.pinned (OpenSpec.upto fnLessManySpec)

end Rows
end Go.Proofs.Ytdiegaffbbhamab
