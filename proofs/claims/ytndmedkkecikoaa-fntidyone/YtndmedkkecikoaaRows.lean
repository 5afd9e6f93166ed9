/-
  No cell of these rows narrows 'for every input' (looked for: loops, veiled, ifaces, maps, wideKeys, modest, calm, conditions, laid).
  DERIVED. THE GIVEN ROWS OF THIS SEAT. 12 by the template 'for every input the law returns true; each argument reads behind the call as it read before'; 0 by the template 'total and deterministic' (their statements: YtndmedkkecikoaaTotals.lean).
  GIVEN WITH THE SEED: the statements are not yours to turn. If you find one false, say at which input.
  Laid BY PROGRAM, IN A SANDBOX (cutbox-rows.mjs): the forced cells as the released guide's own fill.sh prints them over the translation 002b7af9b9057d80… (all of the seat's roots in one cut). By AI agents, Wed Nov 11 2026. No macro, syntax, notation, axiom, sorry.
-/
import Derived.Test.YtndmedkkecikoaaChecked
import GoSem.Claim
import GoSem.ClaimJoined
import GoSem.ClaimMapViews
import Derived.JoinedTies
import Derived.KernelRfl
namespace Go.Proofs.Ytndmedkkecikoaa
/- THE CELL 'sum', in the pinned program and in every row, IS THE sha256 OF THE DUMP (.gsa) THAT YtndmedkkecikoaaProg.lean LOADS. Nothing in Lean hashes anything: it is a label: what it is worth is what the hold of that sum in a sandbox is worth. -/
noncomputable def Try.pinned : Pinned := { name := "ytndmedkkecikoaa", sum := "002b7af9b9057d8001cf960a313f2ee62eebb3719a8dca748a48bd37fd3abde5", checked := Try.checked }
namespace Rows
def none {H : Type} : Left H := { results := [], args := [] }

/-- 'laws.FnSpaceHas': WHATEVER THE INPUT: true; the input reads as it did. -/
def fnSpaceHasSpec : ChangeSpec := { name := "fnSpaceHas", fn := fun _ => fun
  | [d] => { results := [.lit (.bool true)], args := [d] }
  | _ => none }
def fnSpaceHasRow : OpenClaim := { program := "ytndmedkkecikoaa", sum := "002b7af9b9057d8001cf960a313f2ee62eebb3719a8dca748a48bd37fd3abde5", func := "loop.example/crossbuck/laws.FnSpaceHas", spec := "fnSpaceHas", unfollowed := true, recurses := true, plainKeys := false, apart := false }
def FnSpaceHasSaid : Prop := fnSpaceHasRow.holds Try.pinned (OpenSpec.ofChange fnSpaceHasSpec)

/-- ITS FALSE NEIGHBOUR: 'it returns false'. Refute it at one input. -/
def fnSpaceHasWrong : ChangeSpec := { name := "fnSpaceHas", fn := fun _ => fun
  | [d] => { results := [.lit (.bool false)], args := [d] }
  | _ => none }
def FnSpaceHasWrongFalsely : Prop := fnSpaceHasRow.holds Try.pinned (OpenSpec.ofChange fnSpaceHasWrong)

/-- 'laws.FnTidySame': WHATEVER THE INPUT: true; the input reads as it did. -/
def fnTidySameSpec : ChangeSpec := { name := "fnTidySame", fn := fun _ => fun
  | [d] => { results := [.lit (.bool true)], args := [d] }
  | _ => none }
def fnTidySameRow : OpenClaim := { program := "ytndmedkkecikoaa", sum := "002b7af9b9057d8001cf960a313f2ee62eebb3719a8dca748a48bd37fd3abde5", func := "loop.example/crossbuck/laws.FnTidySame", spec := "fnTidySame", unfollowed := true, recurses := true, plainKeys := false, apart := false }
def FnTidySameSaid : Prop := fnTidySameRow.holds Try.pinned (OpenSpec.ofChange fnTidySameSpec)

/-- ITS FALSE NEIGHBOUR: 'it returns false'. Refute it at one input. -/
def fnTidySameWrong : ChangeSpec := { name := "fnTidySame", fn := fun _ => fun
  | [d] => { results := [.lit (.bool false)], args := [d] }
  | _ => none }
def FnTidySameWrongFalsely : Prop := fnTidySameRow.holds Try.pinned (OpenSpec.ofChange fnTidySameWrong)

/-- 'laws.FnTidyOne': WHATEVER THE INPUT: true; the input reads as it did. -/
def fnTidyOneSpec : ChangeSpec := { name := "fnTidyOne", fn := fun _ => fun
  | [d] => { results := [.lit (.bool true)], args := [d] }
  | _ => none }
def fnTidyOneRow : OpenClaim := { program := "ytndmedkkecikoaa", sum := "002b7af9b9057d8001cf960a313f2ee62eebb3719a8dca748a48bd37fd3abde5", func := "loop.example/crossbuck/laws.FnTidyOne", spec := "fnTidyOne", unfollowed := true, recurses := true, plainKeys := false, apart := false }
def FnTidyOneSaid : Prop := fnTidyOneRow.holds Try.pinned (OpenSpec.ofChange fnTidyOneSpec)

/-- ITS FALSE NEIGHBOUR: 'it returns false'. Refute it at one input. -/
def fnTidyOneWrong : ChangeSpec := { name := "fnTidyOne", fn := fun _ => fun
  | [d] => { results := [.lit (.bool false)], args := [d] }
  | _ => none }
def FnTidyOneWrongFalsely : Prop := fnTidyOneRow.holds Try.pinned (OpenSpec.ofChange fnTidyOneWrong)

/-- 'laws.FnOr': WHATEVER THE INPUT: true; the input reads as it did. -/
def fnOrSpec : ChangeSpec := { name := "fnOr", fn := fun _ => fun
  | [d] => { results := [.lit (.bool true)], args := [d] }
  | _ => none }
def fnOrRow : OpenClaim := { program := "ytndmedkkecikoaa", sum := "002b7af9b9057d8001cf960a313f2ee62eebb3719a8dca748a48bd37fd3abde5", func := "loop.example/crossbuck/laws.FnOr", spec := "fnOr", unfollowed := true, recurses := true, plainKeys := false, apart := false }
def FnOrSaid : Prop := fnOrRow.holds Try.pinned (OpenSpec.ofChange fnOrSpec)

/-- ITS FALSE NEIGHBOUR: 'it returns false'. Refute it at one input. -/
def fnOrWrong : ChangeSpec := { name := "fnOr", fn := fun _ => fun
  | [d] => { results := [.lit (.bool false)], args := [d] }
  | _ => none }
def FnOrWrongFalsely : Prop := fnOrRow.holds Try.pinned (OpenSpec.ofChange fnOrWrong)

/-- 'laws.FnAnd': WHATEVER THE INPUT: true; the input reads as it did. -/
def fnAndSpec : ChangeSpec := { name := "fnAnd", fn := fun _ => fun
  | [d] => { results := [.lit (.bool true)], args := [d] }
  | _ => none }
def fnAndRow : OpenClaim := { program := "ytndmedkkecikoaa", sum := "002b7af9b9057d8001cf960a313f2ee62eebb3719a8dca748a48bd37fd3abde5", func := "loop.example/crossbuck/laws.FnAnd", spec := "fnAnd", unfollowed := true, recurses := true, plainKeys := false, apart := false }
def FnAndSaid : Prop := fnAndRow.holds Try.pinned (OpenSpec.ofChange fnAndSpec)

/-- ITS FALSE NEIGHBOUR: 'it returns false'. Refute it at one input. -/
def fnAndWrong : ChangeSpec := { name := "fnAnd", fn := fun _ => fun
  | [d] => { results := [.lit (.bool false)], args := [d] }
  | _ => none }
def FnAndWrongFalsely : Prop := fnAndRow.holds Try.pinned (OpenSpec.ofChange fnAndWrong)

/-- 'laws.FnLess': WHATEVER THE INPUT: true; the input reads as it did. -/
def fnLessSpec : ChangeSpec := { name := "fnLess", fn := fun _ => fun
  | [d] => { results := [.lit (.bool true)], args := [d] }
  | _ => none }
def fnLessRow : OpenClaim := { program := "ytndmedkkecikoaa", sum := "002b7af9b9057d8001cf960a313f2ee62eebb3719a8dca748a48bd37fd3abde5", func := "loop.example/crossbuck/laws.FnLess", spec := "fnLess", unfollowed := true, recurses := true, plainKeys := false, apart := false }
def FnLessSaid : Prop := fnLessRow.holds Try.pinned (OpenSpec.ofChange fnLessSpec)

/-- ITS FALSE NEIGHBOUR: 'it returns false'. Refute it at one input. -/
def fnLessWrong : ChangeSpec := { name := "fnLess", fn := fun _ => fun
  | [d] => { results := [.lit (.bool false)], args := [d] }
  | _ => none }
def FnLessWrongFalsely : Prop := fnLessRow.holds Try.pinned (OpenSpec.ofChange fnLessWrong)

/-- 'laws.FnOrAnd': WHATEVER THE INPUT: true; the input reads as it did. -/
def fnOrAndSpec : ChangeSpec := { name := "fnOrAnd", fn := fun _ => fun
  | [d1, d2] => { results := [.lit (.bool true)], args := [d1, d2] }
  | _ => none }
def fnOrAndRow : OpenClaim := { program := "ytndmedkkecikoaa", sum := "002b7af9b9057d8001cf960a313f2ee62eebb3719a8dca748a48bd37fd3abde5", func := "loop.example/crossbuck/laws.FnOrAnd", spec := "fnOrAnd", unfollowed := true, recurses := true, plainKeys := false, apart := false }
def FnOrAndSaid : Prop := fnOrAndRow.holds Try.pinned (OpenSpec.ofChange fnOrAndSpec)

/-- ITS FALSE NEIGHBOUR: 'it returns false'. Refute it at one input. -/
def fnOrAndWrong : ChangeSpec := { name := "fnOrAnd", fn := fun _ => fun
  | [d1, d2] => { results := [.lit (.bool false)], args := [d1, d2] }
  | _ => none }
def FnOrAndWrongFalsely : Prop := fnOrAndRow.holds Try.pinned (OpenSpec.ofChange fnOrAndWrong)

/-- 'laws.FnSpaceMany': WHATEVER THE INPUT: true; the input reads as it did. -/
def fnSpaceManySpec : ChangeSpec := { name := "fnSpaceMany", fn := fun _ => fun
  | [d1, d2] => { results := [.lit (.bool true)], args := [d1, d2] }
  | _ => none }
def fnSpaceManyRow : OpenClaim := { program := "ytndmedkkecikoaa", sum := "002b7af9b9057d8001cf960a313f2ee62eebb3719a8dca748a48bd37fd3abde5", func := "loop.example/crossbuck/laws.FnSpaceMany", spec := "fnSpaceMany", unfollowed := true, recurses := true, plainKeys := false, apart := false }
def FnSpaceManySaid : Prop := fnSpaceManyRow.holds Try.pinned (OpenSpec.ofChange fnSpaceManySpec)

/-- ITS FALSE NEIGHBOUR: 'it returns false'. Refute it at one input. -/
def fnSpaceManyWrong : ChangeSpec := { name := "fnSpaceMany", fn := fun _ => fun
  | [d1, d2] => { results := [.lit (.bool false)], args := [d1, d2] }
  | _ => none }
def FnSpaceManyWrongFalsely : Prop := fnSpaceManyRow.holds Try.pinned (OpenSpec.ofChange fnSpaceManyWrong)

/-- 'laws.FnLessWild': WHATEVER THE INPUT: true; the input reads as it did. -/
def fnLessWildSpec : ChangeSpec := { name := "fnLessWild", fn := fun _ => fun
  | [d] => { results := [.lit (.bool true)], args := [d] }
  | _ => none }
def fnLessWildRow : OpenClaim := { program := "ytndmedkkecikoaa", sum := "002b7af9b9057d8001cf960a313f2ee62eebb3719a8dca748a48bd37fd3abde5", func := "loop.example/crossbuck/laws.FnLessWild", spec := "fnLessWild", unfollowed := true, recurses := true, plainKeys := false, apart := false }
def FnLessWildSaid : Prop := fnLessWildRow.holds Try.pinned (OpenSpec.ofChange fnLessWildSpec)

/-- ITS FALSE NEIGHBOUR: 'it returns false'. Refute it at one input. -/
def fnLessWildWrong : ChangeSpec := { name := "fnLessWild", fn := fun _ => fun
  | [d] => { results := [.lit (.bool false)], args := [d] }
  | _ => none }
def FnLessWildWrongFalsely : Prop := fnLessWildRow.holds Try.pinned (OpenSpec.ofChange fnLessWildWrong)

/-- 'laws.FnWildHalf': WHATEVER THE INPUT: true; the input reads as it did. -/
def fnWildHalfSpec : ChangeSpec := { name := "fnWildHalf", fn := fun _ => fun
  | [d1, d2] => { results := [.lit (.bool true)], args := [d1, d2] }
  | _ => none }
def fnWildHalfRow : OpenClaim := { program := "ytndmedkkecikoaa", sum := "002b7af9b9057d8001cf960a313f2ee62eebb3719a8dca748a48bd37fd3abde5", func := "loop.example/crossbuck/laws.FnWildHalf", spec := "fnWildHalf", unfollowed := true, recurses := true, plainKeys := false, apart := false }
def FnWildHalfSaid : Prop := fnWildHalfRow.holds Try.pinned (OpenSpec.ofChange fnWildHalfSpec)

/-- ITS FALSE NEIGHBOUR: 'it returns false'. Refute it at one input. -/
def fnWildHalfWrong : ChangeSpec := { name := "fnWildHalf", fn := fun _ => fun
  | [d1, d2] => { results := [.lit (.bool false)], args := [d1, d2] }
  | _ => none }
def FnWildHalfWrongFalsely : Prop := fnWildHalfRow.holds Try.pinned (OpenSpec.ofChange fnWildHalfWrong)

/-- 'laws.FnSubset': WHATEVER THE INPUT: true; the input reads as it did. -/
def fnSubsetSpec : ChangeSpec := { name := "fnSubset", fn := fun _ => fun
  | [d] => { results := [.lit (.bool true)], args := [d] }
  | _ => none }
def fnSubsetRow : OpenClaim := { program := "ytndmedkkecikoaa", sum := "002b7af9b9057d8001cf960a313f2ee62eebb3719a8dca748a48bd37fd3abde5", func := "loop.example/crossbuck/laws.FnSubset", spec := "fnSubset", unfollowed := true, recurses := true, plainKeys := false, apart := false }
def FnSubsetSaid : Prop := fnSubsetRow.holds Try.pinned (OpenSpec.ofChange fnSubsetSpec)

/-- ITS FALSE NEIGHBOUR: 'it returns false'. Refute it at one input. -/
def fnSubsetWrong : ChangeSpec := { name := "fnSubset", fn := fun _ => fun
  | [d] => { results := [.lit (.bool false)], args := [d] }
  | _ => none }
def FnSubsetWrongFalsely : Prop := fnSubsetRow.holds Try.pinned (OpenSpec.ofChange fnSubsetWrong)

/-- 'laws.FnOrThree': WHATEVER THE INPUT: true; the input reads as it did. -/
def fnOrThreeSpec : ChangeSpec := { name := "fnOrThree", fn := fun _ => fun
  | [d1, d2] => { results := [.lit (.bool true)], args := [d1, d2] }
  | _ => none }
def fnOrThreeRow : OpenClaim := { program := "ytndmedkkecikoaa", sum := "002b7af9b9057d8001cf960a313f2ee62eebb3719a8dca748a48bd37fd3abde5", func := "loop.example/crossbuck/laws.FnOrThree", spec := "fnOrThree", unfollowed := true, recurses := true, plainKeys := false, apart := false }
def FnOrThreeSaid : Prop := fnOrThreeRow.holds Try.pinned (OpenSpec.ofChange fnOrThreeSpec)

/-- ITS FALSE NEIGHBOUR: 'it returns false'. Refute it at one input. -/
def fnOrThreeWrong : ChangeSpec := { name := "fnOrThree", fn := fun _ => fun
  | [d1, d2] => { results := [.lit (.bool false)], args := [d1, d2] }
  | _ => none }
def FnOrThreeWrongFalsely : Prop := fnOrThreeRow.holds Try.pinned (OpenSpec.ofChange fnOrThreeWrong)

/- THE SECOND FORM. 'bulk': how many values and letters a reading holds, each counted each time it is reached (what is shared counts as often as it is met; a slice's spare places count too). A statement '..UptoSaid' is the law's where the arguments, and the package variables that the reading takes, are together of bulk at most 1048576: NARROWER than '..Said'. Prove '..Said' where nothing that the law and all that it calls make is longer than what came in: it says more and counts as full. Else prove '..UptoSaid'. A law counts once. -/
mutual
def uptoBulk {H : Type} : DataW H → Nat
  | .lit (.string bytes) => bytes.length + 1
  | .lit _ => 1
  | .nil => 1
  | .ptr d => uptoBulk d + 1
  | .slice elems spare => uptoBulkAll elems + uptoBulkAll spare + 1
  | .agg parts => uptoBulkAll parts + 1
  | .iface _ d => uptoBulk d + 1
  | .map entries => uptoBulkEntries entries + 1
  | .held _ => 1
def uptoBulkAll {H : Type} : List (DataW H) → Nat
  | [] => 0
  | d :: r => uptoBulk d + uptoBulkAll r
def uptoBulkEntries {H : Type} : List (Lit × DataW H) → Nat
  | [] => 0
  | x :: r => uptoBulkEntry x + uptoBulkEntries r
def uptoBulkEntry {H : Type} : Lit × DataW H → Nat
  | (.string bytes, d) => bytes.length + uptoBulk d + 1
  | (_, d) => uptoBulk d + 1
 end
def uptoSmall : (H : Type) → List (DataW H) → Bool := fun _ ds => decide (uptoBulkAll ds ≤ 1048576)
def OpenSpec.upto (s : _root_.Go.ChangeSpec) : _root_.Go.OpenSpec := { _root_.Go.OpenSpec.ofChange s with cond := some uptoSmall }

/-- 'laws.FnSpaceHas', WHERE WHAT IT READS IS OF BULK AT MOST 1048576: true; the input reads as it did. -/
def fnSpaceHasUptoRow : OpenClaim := { program := "ytndmedkkecikoaa", sum := "002b7af9b9057d8001cf960a313f2ee62eebb3719a8dca748a48bd37fd3abde5", func := "loop.example/crossbuck/laws.FnSpaceHas", spec := "fnSpaceHas", unfollowed := true, recurses := true, plainKeys := false, apart := false, narrowed := true }
def FnSpaceHasUptoSaid : Prop := fnSpaceHasUptoRow.holds Try.pinned (OpenSpec.upto fnSpaceHasSpec)

/-- 'laws.FnTidySame', WHERE WHAT IT READS IS OF BULK AT MOST 1048576: true; the input reads as it did. -/
def fnTidySameUptoRow : OpenClaim := { program := "ytndmedkkecikoaa", sum := "002b7af9b9057d8001cf960a313f2ee62eebb3719a8dca748a48bd37fd3abde5", func := "loop.example/crossbuck/laws.FnTidySame", spec := "fnTidySame", unfollowed := true, recurses := true, plainKeys := false, apart := false, narrowed := true }
def FnTidySameUptoSaid : Prop := fnTidySameUptoRow.holds Try.pinned (OpenSpec.upto fnTidySameSpec)

/-- 'laws.FnTidyOne', WHERE WHAT IT READS IS OF BULK AT MOST 1048576: true; the input reads as it did. -/
def fnTidyOneUptoRow : OpenClaim := { program := "ytndmedkkecikoaa", sum := "002b7af9b9057d8001cf960a313f2ee62eebb3719a8dca748a48bd37fd3abde5", func := "loop.example/crossbuck/laws.FnTidyOne", spec := "fnTidyOne", unfollowed := true, recurses := true, plainKeys := false, apart := false, narrowed := true }
def FnTidyOneUptoSaid : Prop := fnTidyOneUptoRow.holds Try.pinned (OpenSpec.upto fnTidyOneSpec)

/-- 'laws.FnOr', WHERE WHAT IT READS IS OF BULK AT MOST 1048576: true; the input reads as it did. -/
def fnOrUptoRow : OpenClaim := { program := "ytndmedkkecikoaa", sum := "002b7af9b9057d8001cf960a313f2ee62eebb3719a8dca748a48bd37fd3abde5", func := "loop.example/crossbuck/laws.FnOr", spec := "fnOr", unfollowed := true, recurses := true, plainKeys := false, apart := false, narrowed := true }
def FnOrUptoSaid : Prop := fnOrUptoRow.holds Try.pinned (OpenSpec.upto fnOrSpec)

/-- 'laws.FnAnd', WHERE WHAT IT READS IS OF BULK AT MOST 1048576: true; the input reads as it did. -/
def fnAndUptoRow : OpenClaim := { program := "ytndmedkkecikoaa", sum := "002b7af9b9057d8001cf960a313f2ee62eebb3719a8dca748a48bd37fd3abde5", func := "loop.example/crossbuck/laws.FnAnd", spec := "fnAnd", unfollowed := true, recurses := true, plainKeys := false, apart := false, narrowed := true }
def FnAndUptoSaid : Prop := fnAndUptoRow.holds Try.pinned (OpenSpec.upto fnAndSpec)

/-- 'laws.FnLess', WHERE WHAT IT READS IS OF BULK AT MOST 1048576: true; the input reads as it did. -/
def fnLessUptoRow : OpenClaim := { program := "ytndmedkkecikoaa", sum := "002b7af9b9057d8001cf960a313f2ee62eebb3719a8dca748a48bd37fd3abde5", func := "loop.example/crossbuck/laws.FnLess", spec := "fnLess", unfollowed := true, recurses := true, plainKeys := false, apart := false, narrowed := true }
def FnLessUptoSaid : Prop := fnLessUptoRow.holds Try.pinned (OpenSpec.upto fnLessSpec)

/-- 'laws.FnOrAnd', WHERE WHAT IT READS IS OF BULK AT MOST 1048576: true; the input reads as it did. -/
def fnOrAndUptoRow : OpenClaim := { program := "ytndmedkkecikoaa", sum := "002b7af9b9057d8001cf960a313f2ee62eebb3719a8dca748a48bd37fd3abde5", func := "loop.example/crossbuck/laws.FnOrAnd", spec := "fnOrAnd", unfollowed := true, recurses := true, plainKeys := false, apart := false, narrowed := true }
def FnOrAndUptoSaid : Prop := fnOrAndUptoRow.holds Try.pinned (OpenSpec.upto fnOrAndSpec)

/-- 'laws.FnSpaceMany', WHERE WHAT IT READS IS OF BULK AT MOST 1048576: true; the input reads as it did. -/
def fnSpaceManyUptoRow : OpenClaim := { program := "ytndmedkkecikoaa", sum := "002b7af9b9057d8001cf960a313f2ee62eebb3719a8dca748a48bd37fd3abde5", func := "loop.example/crossbuck/laws.FnSpaceMany", spec := "fnSpaceMany", unfollowed := true, recurses := true, plainKeys := false, apart := false, narrowed := true }
def FnSpaceManyUptoSaid : Prop := fnSpaceManyUptoRow.holds Try.pinned (OpenSpec.upto fnSpaceManySpec)

/-- 'laws.FnLessWild', WHERE WHAT IT READS IS OF BULK AT MOST 1048576: true; the input reads as it did. -/
def fnLessWildUptoRow : OpenClaim := { program := "ytndmedkkecikoaa", sum := "002b7af9b9057d8001cf960a313f2ee62eebb3719a8dca748a48bd37fd3abde5", func := "loop.example/crossbuck/laws.FnLessWild", spec := "fnLessWild", unfollowed := true, recurses := true, plainKeys := false, apart := false, narrowed := true }
def FnLessWildUptoSaid : Prop := fnLessWildUptoRow.holds Try.pinned (OpenSpec.upto fnLessWildSpec)

/-- 'laws.FnWildHalf', WHERE WHAT IT READS IS OF BULK AT MOST 1048576: true; the input reads as it did. -/
def fnWildHalfUptoRow : OpenClaim := { program := "ytndmedkkecikoaa", sum := "002b7af9b9057d8001cf960a313f2ee62eebb3719a8dca748a48bd37fd3abde5", func := "loop.example/crossbuck/laws.FnWildHalf", spec := "fnWildHalf", unfollowed := true, recurses := true, plainKeys := false, apart := false, narrowed := true }
def FnWildHalfUptoSaid : Prop := fnWildHalfUptoRow.holds Try.pinned (OpenSpec.upto fnWildHalfSpec)

/-- 'laws.FnSubset', WHERE WHAT IT READS IS OF BULK AT MOST 1048576: true; the input reads as it did. -/
def fnSubsetUptoRow : OpenClaim := { program := "ytndmedkkecikoaa", sum := "002b7af9b9057d8001cf960a313f2ee62eebb3719a8dca748a48bd37fd3abde5", func := "loop.example/crossbuck/laws.FnSubset", spec := "fnSubset", unfollowed := true, recurses := true, plainKeys := false, apart := false, narrowed := true }
def FnSubsetUptoSaid : Prop := fnSubsetUptoRow.holds Try.pinned (OpenSpec.upto fnSubsetSpec)

/-- 'laws.FnOrThree', WHERE WHAT IT READS IS OF BULK AT MOST 1048576: true; the input reads as it did. -/
def fnOrThreeUptoRow : OpenClaim := { program := "ytndmedkkecikoaa", sum := "002b7af9b9057d8001cf960a313f2ee62eebb3719a8dca748a48bd37fd3abde5", func := "loop.example/crossbuck/laws.FnOrThree", spec := "fnOrThree", unfollowed := true, recurses := true, plainKeys := false, apart := false, narrowed := true }
def FnOrThreeUptoSaid : Prop := fnOrThreeUptoRow.holds Try.pinned (OpenSpec.upto fnOrThreeSpec)

end Rows
end Go.Proofs.Ytndmedkkecikoaa
