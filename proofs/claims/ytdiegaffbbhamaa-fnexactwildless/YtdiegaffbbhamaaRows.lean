/-
  No cell of these rows narrows 'for every input' (looked for: loops, veiled, ifaces, maps, wideKeys, modest, calm, conditions, laid).
  DERIVED. THE GIVEN ROWS OF THIS SEAT. 12 by the template 'for every input the law returns true; each argument reads behind the call as it read before'; 0 by the template 'total and deterministic' (their statements: YtdiegaffbbhamaaTotals.lean).
  GIVEN WITH THE SEED: the statements are not yours to turn. If you find one false, say at which input.
  Laid BY PROGRAM, IN A SANDBOX (cutbox-rows.mjs): the forced cells as the released guide's own fill.sh prints them over the translation 01f9d0f03ebd2cdf… (all of the seat's roots in one cut). By AI agents, Wed Nov 11 2026. No macro, syntax, notation, axiom, sorry.
-/
import Derived.Test.YtdiegaffbbhamaaChecked
import GoSem.Claim
import GoSem.ClaimJoined
import GoSem.ClaimMapViews
import Derived.JoinedTies
import Derived.KernelRfl
namespace Go.Proofs.Ytdiegaffbbhamaa
/- THE CELL 'sum', in the pinned program and in every row, IS THE sha256 OF THE DUMP (.gsa) THAT YtdiegaffbbhamaaProg.lean LOADS. Nothing in Lean hashes anything: it is a label: what it is worth is what the hold of that sum in a sandbox is worth. -/
noncomputable def Try.pinned : Pinned := { name := "ytdiegaffbbhamaa", sum := "01f9d0f03ebd2cdf87ee28dac339f12e683388a8fa0f47747cd5c7f4606ed985", checked := Try.checked }
namespace Rows
def none {H : Type} : Left H := { results := [], args := [] }

/-- 'laws.FnExactWildOk': WHATEVER THE INPUT: true; the input reads as it did. -/
def fnExactWildOkSpec : ChangeSpec := { name := "fnExactWildOk", fn := fun _ => fun
  | [d] => { results := [.lit (.bool true)], args := [d] }
  | _ => none }
def fnExactWildOkRow : OpenClaim := { program := "ytdiegaffbbhamaa", sum := "01f9d0f03ebd2cdf87ee28dac339f12e683388a8fa0f47747cd5c7f4606ed985", func := "loop.example/crossbuck/laws.FnExactWildOk", spec := "fnExactWildOk", apart := false }
def FnExactWildOkSaid : Prop := fnExactWildOkRow.holds Try.pinned (OpenSpec.ofChange fnExactWildOkSpec)

/-- ITS FALSE NEIGHBOUR: 'it returns false'. Refute it at one input. -/
def fnExactWildOkWrong : ChangeSpec := { name := "fnExactWildOk", fn := fun _ => fun
  | [d] => { results := [.lit (.bool false)], args := [d] }
  | _ => none }
def FnExactWildOkWrongFalsely : Prop := fnExactWildOkRow.holds Try.pinned (OpenSpec.ofChange fnExactWildOkWrong)

/-- 'laws.FnExactWildHas': WHATEVER THE INPUT: true; the input reads as it did. -/
def fnExactWildHasSpec : ChangeSpec := { name := "fnExactWildHas", fn := fun _ => fun
  | [d1, d2] => { results := [.lit (.bool true)], args := [d1, d2] }
  | _ => none }
def fnExactWildHasRow : OpenClaim := { program := "ytdiegaffbbhamaa", sum := "01f9d0f03ebd2cdf87ee28dac339f12e683388a8fa0f47747cd5c7f4606ed985", func := "loop.example/crossbuck/laws.FnExactWildHas", spec := "fnExactWildHas", unfollowed := true, recurses := true, apart := false }
def FnExactWildHasSaid : Prop := fnExactWildHasRow.holds Try.pinned (OpenSpec.ofChange fnExactWildHasSpec)

/-- ITS FALSE NEIGHBOUR: 'it returns false'. Refute it at one input. -/
def fnExactWildHasWrong : ChangeSpec := { name := "fnExactWildHas", fn := fun _ => fun
  | [d1, d2] => { results := [.lit (.bool false)], args := [d1, d2] }
  | _ => none }
def FnExactWildHasWrongFalsely : Prop := fnExactWildHasRow.holds Try.pinned (OpenSpec.ofChange fnExactWildHasWrong)

/-- 'laws.FnExactWildAnd': WHATEVER THE INPUT: true; the input reads as it did. -/
def fnExactWildAndSpec : ChangeSpec := { name := "fnExactWildAnd", fn := fun _ => fun
  | [d1, d2] => { results := [.lit (.bool true)], args := [d1, d2] }
  | _ => none }
def fnExactWildAndRow : OpenClaim := { program := "ytdiegaffbbhamaa", sum := "01f9d0f03ebd2cdf87ee28dac339f12e683388a8fa0f47747cd5c7f4606ed985", func := "loop.example/crossbuck/laws.FnExactWildAnd", spec := "fnExactWildAnd", unfollowed := true, recurses := true, apart := false }
def FnExactWildAndSaid : Prop := fnExactWildAndRow.holds Try.pinned (OpenSpec.ofChange fnExactWildAndSpec)

/-- ITS FALSE NEIGHBOUR: 'it returns false'. Refute it at one input. -/
def fnExactWildAndWrong : ChangeSpec := { name := "fnExactWildAnd", fn := fun _ => fun
  | [d1, d2] => { results := [.lit (.bool false)], args := [d1, d2] }
  | _ => none }
def FnExactWildAndWrongFalsely : Prop := fnExactWildAndRow.holds Try.pinned (OpenSpec.ofChange fnExactWildAndWrong)

/-- 'laws.FnExactWildIn': WHATEVER THE INPUT: true; the input reads as it did. -/
def fnExactWildInSpec : ChangeSpec := { name := "fnExactWildIn", fn := fun _ => fun
  | [d1, d2] => { results := [.lit (.bool true)], args := [d1, d2] }
  | _ => none }
def fnExactWildInRow : OpenClaim := { program := "ytdiegaffbbhamaa", sum := "01f9d0f03ebd2cdf87ee28dac339f12e683388a8fa0f47747cd5c7f4606ed985", func := "loop.example/crossbuck/laws.FnExactWildIn", spec := "fnExactWildIn", apart := false }
def FnExactWildInSaid : Prop := fnExactWildInRow.holds Try.pinned (OpenSpec.ofChange fnExactWildInSpec)

/-- ITS FALSE NEIGHBOUR: 'it returns false'. Refute it at one input. -/
def fnExactWildInWrong : ChangeSpec := { name := "fnExactWildIn", fn := fun _ => fun
  | [d1, d2] => { results := [.lit (.bool false)], args := [d1, d2] }
  | _ => none }
def FnExactWildInWrongFalsely : Prop := fnExactWildInRow.holds Try.pinned (OpenSpec.ofChange fnExactWildInWrong)

/-- 'laws.FnExactWildMany': WHATEVER THE INPUT: true; the input reads as it did. -/
def fnExactWildManySpec : ChangeSpec := { name := "fnExactWildMany", fn := fun _ => fun
  | [d] => { results := [.lit (.bool true)], args := [d] }
  | _ => none }
def fnExactWildManyRow : OpenClaim := { program := "ytdiegaffbbhamaa", sum := "01f9d0f03ebd2cdf87ee28dac339f12e683388a8fa0f47747cd5c7f4606ed985", func := "loop.example/crossbuck/laws.FnExactWildMany", spec := "fnExactWildMany", unfollowed := true, recurses := true, apart := false }
def FnExactWildManySaid : Prop := fnExactWildManyRow.holds Try.pinned (OpenSpec.ofChange fnExactWildManySpec)

/-- ITS FALSE NEIGHBOUR: 'it returns false'. Refute it at one input. -/
def fnExactWildManyWrong : ChangeSpec := { name := "fnExactWildMany", fn := fun _ => fun
  | [d] => { results := [.lit (.bool false)], args := [d] }
  | _ => none }
def FnExactWildManyWrongFalsely : Prop := fnExactWildManyRow.holds Try.pinned (OpenSpec.ofChange fnExactWildManyWrong)

/-- 'laws.FnExactWildOf': WHATEVER THE INPUT: true; the input reads as it did. -/
def fnExactWildOfSpec : ChangeSpec := { name := "fnExactWildOf", fn := fun _ => fun
  | [d] => { results := [.lit (.bool true)], args := [d] }
  | _ => none }
def fnExactWildOfRow : OpenClaim := { program := "ytdiegaffbbhamaa", sum := "01f9d0f03ebd2cdf87ee28dac339f12e683388a8fa0f47747cd5c7f4606ed985", func := "loop.example/crossbuck/laws.FnExactWildOf", spec := "fnExactWildOf", apart := false }
def FnExactWildOfSaid : Prop := fnExactWildOfRow.holds Try.pinned (OpenSpec.ofChange fnExactWildOfSpec)

/-- ITS FALSE NEIGHBOUR: 'it returns false'. Refute it at one input. -/
def fnExactWildOfWrong : ChangeSpec := { name := "fnExactWildOf", fn := fun _ => fun
  | [d] => { results := [.lit (.bool false)], args := [d] }
  | _ => none }
def FnExactWildOfWrongFalsely : Prop := fnExactWildOfRow.holds Try.pinned (OpenSpec.ofChange fnExactWildOfWrong)

/-- 'laws.FnExactWildLess': WHATEVER THE INPUT: true; the input reads as it did. -/
def fnExactWildLessSpec : ChangeSpec := { name := "fnExactWildLess", fn := fun _ => fun
  | [d1, d2] => { results := [.lit (.bool true)], args := [d1, d2] }
  | _ => none }
def fnExactWildLessRow : OpenClaim := { program := "ytdiegaffbbhamaa", sum := "01f9d0f03ebd2cdf87ee28dac339f12e683388a8fa0f47747cd5c7f4606ed985", func := "loop.example/crossbuck/laws.FnExactWildLess", spec := "fnExactWildLess", apart := false }
def FnExactWildLessSaid : Prop := fnExactWildLessRow.holds Try.pinned (OpenSpec.ofChange fnExactWildLessSpec)

/-- ITS FALSE NEIGHBOUR: 'it returns false'. Refute it at one input. -/
def fnExactWildLessWrong : ChangeSpec := { name := "fnExactWildLess", fn := fun _ => fun
  | [d1, d2] => { results := [.lit (.bool false)], args := [d1, d2] }
  | _ => none }
def FnExactWildLessWrongFalsely : Prop := fnExactWildLessRow.holds Try.pinned (OpenSpec.ofChange fnExactWildLessWrong)

/-- 'laws.FnWildHas': WHATEVER THE INPUT: true; the input reads as it did. -/
def fnWildHasSpec : ChangeSpec := { name := "fnWildHas", fn := fun _ => fun
  | [d] => { results := [.lit (.bool true)], args := [d] }
  | _ => none }
def fnWildHasRow : OpenClaim := { program := "ytdiegaffbbhamaa", sum := "01f9d0f03ebd2cdf87ee28dac339f12e683388a8fa0f47747cd5c7f4606ed985", func := "loop.example/crossbuck/laws.FnWildHas", spec := "fnWildHas", unfollowed := true, recurses := true, apart := false }
def FnWildHasSaid : Prop := fnWildHasRow.holds Try.pinned (OpenSpec.ofChange fnWildHasSpec)

/-- ITS FALSE NEIGHBOUR: 'it returns false'. Refute it at one input. -/
def fnWildHasWrong : ChangeSpec := { name := "fnWildHas", fn := fun _ => fun
  | [d] => { results := [.lit (.bool false)], args := [d] }
  | _ => none }
def FnWildHasWrongFalsely : Prop := fnWildHasRow.holds Try.pinned (OpenSpec.ofChange fnWildHasWrong)

/-- 'laws.FnWildOf': WHATEVER THE INPUT: true; the input reads as it did. -/
def fnWildOfSpec : ChangeSpec := { name := "fnWildOf", fn := fun _ => fun
  | [d1, d2] => { results := [.lit (.bool true)], args := [d1, d2] }
  | _ => none }
def fnWildOfRow : OpenClaim := { program := "ytdiegaffbbhamaa", sum := "01f9d0f03ebd2cdf87ee28dac339f12e683388a8fa0f47747cd5c7f4606ed985", func := "loop.example/crossbuck/laws.FnWildOf", spec := "fnWildOf", unfollowed := true, recurses := true, apart := false }
def FnWildOfSaid : Prop := fnWildOfRow.holds Try.pinned (OpenSpec.ofChange fnWildOfSpec)

/-- ITS FALSE NEIGHBOUR: 'it returns false'. Refute it at one input. -/
def fnWildOfWrong : ChangeSpec := { name := "fnWildOf", fn := fun _ => fun
  | [d1, d2] => { results := [.lit (.bool false)], args := [d1, d2] }
  | _ => none }
def FnWildOfWrongFalsely : Prop := fnWildOfRow.holds Try.pinned (OpenSpec.ofChange fnWildOfWrong)

/-- 'laws.FnWildMany': WHATEVER THE INPUT: true; the input reads as it did. -/
def fnWildManySpec : ChangeSpec := { name := "fnWildMany", fn := fun _ => fun
  | [d] => { results := [.lit (.bool true)], args := [d] }
  | _ => none }
def fnWildManyRow : OpenClaim := { program := "ytdiegaffbbhamaa", sum := "01f9d0f03ebd2cdf87ee28dac339f12e683388a8fa0f47747cd5c7f4606ed985", func := "loop.example/crossbuck/laws.FnWildMany", spec := "fnWildMany", unfollowed := true, recurses := true, apart := false }
def FnWildManySaid : Prop := fnWildManyRow.holds Try.pinned (OpenSpec.ofChange fnWildManySpec)

/-- ITS FALSE NEIGHBOUR: 'it returns false'. Refute it at one input. -/
def fnWildManyWrong : ChangeSpec := { name := "fnWildMany", fn := fun _ => fun
  | [d] => { results := [.lit (.bool false)], args := [d] }
  | _ => none }
def FnWildManyWrongFalsely : Prop := fnWildManyRow.holds Try.pinned (OpenSpec.ofChange fnWildManyWrong)

/-- 'laws.FnWildForm': WHATEVER THE INPUT: true; the input reads as it did. -/
def fnWildFormSpec : ChangeSpec := { name := "fnWildForm", fn := fun _ => fun
  | [d1, d2] => { results := [.lit (.bool true)], args := [d1, d2] }
  | _ => none }
def fnWildFormRow : OpenClaim := { program := "ytdiegaffbbhamaa", sum := "01f9d0f03ebd2cdf87ee28dac339f12e683388a8fa0f47747cd5c7f4606ed985", func := "loop.example/crossbuck/laws.FnWildForm", spec := "fnWildForm", apart := false }
def FnWildFormSaid : Prop := fnWildFormRow.holds Try.pinned (OpenSpec.ofChange fnWildFormSpec)

/-- ITS FALSE NEIGHBOUR: 'it returns false'. Refute it at one input. -/
def fnWildFormWrong : ChangeSpec := { name := "fnWildForm", fn := fun _ => fun
  | [d1, d2] => { results := [.lit (.bool false)], args := [d1, d2] }
  | _ => none }
def FnWildFormWrongFalsely : Prop := fnWildFormRow.holds Try.pinned (OpenSpec.ofChange fnWildFormWrong)

/-- 'laws.FnWildAnd': WHATEVER THE INPUT: true; the input reads as it did. -/
def fnWildAndSpec : ChangeSpec := { name := "fnWildAnd", fn := fun _ => fun
  | [d1, d2] => { results := [.lit (.bool true)], args := [d1, d2] }
  | _ => none }
def fnWildAndRow : OpenClaim := { program := "ytdiegaffbbhamaa", sum := "01f9d0f03ebd2cdf87ee28dac339f12e683388a8fa0f47747cd5c7f4606ed985", func := "loop.example/crossbuck/laws.FnWildAnd", spec := "fnWildAnd", unfollowed := true, recurses := true, apart := false }
def FnWildAndSaid : Prop := fnWildAndRow.holds Try.pinned (OpenSpec.ofChange fnWildAndSpec)

/-- ITS FALSE NEIGHBOUR: 'it returns false'. Refute it at one input. -/
def fnWildAndWrong : ChangeSpec := { name := "fnWildAnd", fn := fun _ => fun
  | [d1, d2] => { results := [.lit (.bool false)], args := [d1, d2] }
  | _ => none }
def FnWildAndWrongFalsely : Prop := fnWildAndRow.holds Try.pinned (OpenSpec.ofChange fnWildAndWrong)

/- THE SECOND FORM. 'bulk': how many values and letters a reading holds, each counted each time it is reached (what is shared counts as often as it is met; a slice's spare places count too). A statement '..UptoSaid' is the law's where the arguments, and the package variables that the reading takes, are together of bulk at most 1048576: NARROWER than '..Said'. Prove '..Said' where nothing that the law and all that it calls make is longer than what came in: it says more and counts as full. Else prove '..UptoSaid'. A law counts once. -/
mutual
def uptoBulk {H : Type} : DataW H → Nat
  | .lit (.string bytes) => bytes.length + 1
  | .lit _ => 1
  | .nil => 1
  | .ptr d => uptoBulk d + 1
  | .slice elems spare => uptoBulkAll elems + uptoBulkAll spare + 1
  | .agg parts => uptoBulkAll parts + 1
  | .iface _ d => uptoBulk d + 1
  | .map entries => uptoBulkEntries entries + 1
  | .held _ => 1
def uptoBulkAll {H : Type} : List (DataW H) → Nat
  | [] => 0
  | d :: r => uptoBulk d + uptoBulkAll r
def uptoBulkEntries {H : Type} : List (Lit × DataW H) → Nat
  | [] => 0
  | x :: r => uptoBulkEntry x + uptoBulkEntries r
def uptoBulkEntry {H : Type} : Lit × DataW H → Nat
  | (.string bytes, d) => bytes.length + uptoBulk d + 1
  | (_, d) => uptoBulk d + 1
 end
def uptoSmall : (H : Type) → List (DataW H) → Bool := fun _ ds => decide (uptoBulkAll ds ≤ 1048576)
def OpenSpec.upto (s : _root_.Go.ChangeSpec) : _root_.Go.OpenSpec := { _root_.Go.OpenSpec.ofChange s with cond := some uptoSmall }

/-- 'laws.FnExactWildOk', WHERE WHAT IT READS IS OF BULK AT MOST 1048576: true; the input reads as it did. -/
def fnExactWildOkUptoRow : OpenClaim := { program := "ytdiegaffbbhamaa", sum := "01f9d0f03ebd2cdf87ee28dac339f12e683388a8fa0f47747cd5c7f4606ed985", func := "loop.example/crossbuck/laws.FnExactWildOk", spec := "fnExactWildOk", apart := false, narrowed := true }
def FnExactWildOkUptoSaid : Prop := fnExactWildOkUptoRow.holds Try.pinned (OpenSpec.upto fnExactWildOkSpec)

/-- 'laws.FnExactWildHas', WHERE WHAT IT READS IS OF BULK AT MOST 1048576: true; the input reads as it did. -/
def fnExactWildHasUptoRow : OpenClaim := { program := "ytdiegaffbbhamaa", sum := "01f9d0f03ebd2cdf87ee28dac339f12e683388a8fa0f47747cd5c7f4606ed985", func := "loop.example/crossbuck/laws.FnExactWildHas", spec := "fnExactWildHas", unfollowed := true, recurses := true, apart := false, narrowed := true }
def FnExactWildHasUptoSaid : Prop := fnExactWildHasUptoRow.holds Try.pinned (OpenSpec.upto fnExactWildHasSpec)

/-- 'laws.FnExactWildAnd', WHERE WHAT IT READS IS OF BULK AT MOST 1048576: true; the input reads as it did. -/
def fnExactWildAndUptoRow : OpenClaim := { program := "ytdiegaffbbhamaa", sum := "01f9d0f03ebd2cdf87ee28dac339f12e683388a8fa0f47747cd5c7f4606ed985", func := "loop.example/crossbuck/laws.FnExactWildAnd", spec := "fnExactWildAnd", unfollowed := true, recurses := true, apart := false, narrowed := true }
def FnExactWildAndUptoSaid : Prop := fnExactWildAndUptoRow.holds Try.pinned (OpenSpec.upto fnExactWildAndSpec)

/-- 'laws.FnExactWildIn', WHERE WHAT IT READS IS OF BULK AT MOST 1048576: true; the input reads as it did. -/
def fnExactWildInUptoRow : OpenClaim := { program := "ytdiegaffbbhamaa", sum := "01f9d0f03ebd2cdf87ee28dac339f12e683388a8fa0f47747cd5c7f4606ed985", func := "loop.example/crossbuck/laws.FnExactWildIn", spec := "fnExactWildIn", apart := false, narrowed := true }
def FnExactWildInUptoSaid : Prop := fnExactWildInUptoRow.holds Try.pinned (OpenSpec.upto fnExactWildInSpec)

/-- 'laws.FnExactWildMany', WHERE WHAT IT READS IS OF BULK AT MOST 1048576: true; the input reads as it did. -/
def fnExactWildManyUptoRow : OpenClaim := { program := "ytdiegaffbbhamaa", sum := "01f9d0f03ebd2cdf87ee28dac339f12e683388a8fa0f47747cd5c7f4606ed985", func := "loop.example/crossbuck/laws.FnExactWildMany", spec := "fnExactWildMany", unfollowed := true, recurses := true, apart := false, narrowed := true }
def FnExactWildManyUptoSaid : Prop := fnExactWildManyUptoRow.holds Try.pinned (OpenSpec.upto fnExactWildManySpec)

/-- 'laws.FnExactWildOf', WHERE WHAT IT READS IS OF BULK AT MOST 1048576: true; the input reads as it did. -/
def fnExactWildOfUptoRow : OpenClaim := { program := "ytdiegaffbbhamaa", sum := "01f9d0f03ebd2cdf87ee28dac339f12e683388a8fa0f47747cd5c7f4606ed985", func := "loop.example/crossbuck/laws.FnExactWildOf", spec := "fnExactWildOf", apart := false, narrowed := true }
def FnExactWildOfUptoSaid : Prop := fnExactWildOfUptoRow.holds Try.pinned (OpenSpec.upto fnExactWildOfSpec)

/-- 'laws.FnExactWildLess', WHERE WHAT IT READS IS OF BULK AT MOST 1048576: true; the input reads as it did. -/
def fnExactWildLessUptoRow : OpenClaim := { program := "ytdiegaffbbhamaa", sum := "01f9d0f03ebd2cdf87ee28dac339f12e683388a8fa0f47747cd5c7f4606ed985", func := "loop.example/crossbuck/laws.FnExactWildLess", spec := "fnExactWildLess", apart := false, narrowed := true }
def FnExactWildLessUptoSaid : Prop := fnExactWildLessUptoRow.holds Try.pinned (OpenSpec.upto fnExactWildLessSpec)

/-- 'laws.FnWildHas', WHERE WHAT IT READS IS OF BULK AT MOST 1048576: true; the input reads as it did. -/
def fnWildHasUptoRow : OpenClaim := { program := "ytdiegaffbbhamaa", sum := "01f9d0f03ebd2cdf87ee28dac339f12e683388a8fa0f47747cd5c7f4606ed985", func := "loop.example/crossbuck/laws.FnWildHas", spec := "fnWildHas", unfollowed := true, recurses := true, apart := false, narrowed := true }
def FnWildHasUptoSaid : Prop := fnWildHasUptoRow.holds Try.pinned (OpenSpec.upto fnWildHasSpec)

/-- 'laws.FnWildOf', WHERE WHAT IT READS IS OF BULK AT MOST 1048576: true; the input reads as it did. -/
def fnWildOfUptoRow : OpenClaim := { program := "ytdiegaffbbhamaa", sum := "01f9d0f03ebd2cdf87ee28dac339f12e683388a8fa0f47747cd5c7f4606ed985", func := "loop.example/crossbuck/laws.FnWildOf", spec := "fnWildOf", unfollowed := true, recurses := true, apart := false, narrowed := true }
def FnWildOfUptoSaid : Prop := fnWildOfUptoRow.holds Try.pinned (OpenSpec.upto fnWildOfSpec)

/-- 'laws.FnWildMany', WHERE WHAT IT READS IS OF BULK AT MOST 1048576: true; the input reads as it did. -/
def fnWildManyUptoRow : OpenClaim := { program := "ytdiegaffbbhamaa", sum := "01f9d0f03ebd2cdf87ee28dac339f12e683388a8fa0f47747cd5c7f4606ed985", func := "loop.example/crossbuck/laws.FnWildMany", spec := "fnWildMany", unfollowed := true, recurses := true, apart := false, narrowed := true }
def FnWildManyUptoSaid : Prop := fnWildManyUptoRow.holds Try.pinned (OpenSpec.upto fnWildManySpec)

/-- 'laws.FnWildForm', WHERE WHAT IT READS IS OF BULK AT MOST 1048576: true; the input reads as it did. -/
def fnWildFormUptoRow : OpenClaim := { program := "ytdiegaffbbhamaa", sum := "01f9d0f03ebd2cdf87ee28dac339f12e683388a8fa0f47747cd5c7f4606ed985", func := "loop.example/crossbuck/laws.FnWildForm", spec := "fnWildForm", apart := false, narrowed := true }
def FnWildFormUptoSaid : Prop := fnWildFormUptoRow.holds Try.pinned (OpenSpec.upto fnWildFormSpec)

/-- 'laws.FnWildAnd', WHERE WHAT IT READS IS OF BULK AT MOST 1048576: true; the input reads as it did. -/
def fnWildAndUptoRow : OpenClaim := { program := "ytdiegaffbbhamaa", sum := "01f9d0f03ebd2cdf87ee28dac339f12e683388a8fa0f47747cd5c7f4606ed985", func := "loop.example/crossbuck/laws.FnWildAnd", spec := "fnWildAnd", unfollowed := true, recurses := true, apart := false, narrowed := true }
def FnWildAndUptoSaid : Prop := fnWildAndUptoRow.holds Try.pinned (OpenSpec.upto fnWildAndSpec)

end Rows
end Go.Proofs.Ytdiegaffbbhamaa
