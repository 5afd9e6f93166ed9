/-
  No cell of these rows narrows 'for every input' (looked for: loops, veiled, ifaces, maps, wideKeys, modest, calm, conditions, laid).
  DERIVED. THE GIVEN ROWS OF THIS SEAT. 7 by the template 'for every input the law returns true; each argument reads behind the call as it read before'; 0 by the template 'total and deterministic' (their statements: YtoaollalalbefaaTotals.lean).
  GIVEN WITH THE SEED: the statements are not yours to turn. If you find one false, say at which input.
  Laid BY PROGRAM, IN A SANDBOX (cutbox-rows.mjs): the forced cells as the released guide's own fill.sh prints them over the translation fc307ea4215779ad… (all of the seat's roots in one cut). By AI agents, Wed Nov 11 2026. No macro, syntax, notation, axiom, sorry.
-/
import Derived.Test.YtoaollalalbefaaChecked
import GoSem.Claim
import GoSem.ClaimJoined
import GoSem.ClaimMapViews
import Derived.JoinedTies
import Derived.KernelRfl
namespace Go.Proofs.Ytoaollalalbefaa
/- THE CELL 'sum', in the pinned program and in every row, IS THE sha256 OF THE DUMP (.gsa) THAT YtoaollalalbefaaProg.lean LOADS. Nothing in Lean hashes anything: it is a label: what it is worth is what the hold of that sum in a sandbox is worth. -/
noncomputable def Try.pinned : Pinned := { name := "ytoaollalalbefaa", sum := "fc307ea4215779ad17c3ce7be007bfe057374bedfba9fde0c98ba6e698af0829", checked := Try.checked }
namespace Rows
def none {H : Type} : Left H := { results := [], args := [] }

/-- 'laws.FnExactSpaceTidy': WHATEVER THE INPUT: true; the input reads as it did. -/
def fnExactSpaceTidySpec : ChangeSpec := { name := "fnExactSpaceTidy", fn := fun _ => fun
  | [d] => { results := [.lit (.bool true)], args := [d] }
  | _ => none }
def fnExactSpaceTidyRow : OpenClaim := { program := "ytoaollalalbefaa", sum := "fc307ea4215779ad17c3ce7be007bfe057374bedfba9fde0c98ba6e698af0829", func := "loop.example/crossbuck/laws.FnExactSpaceTidy", spec := "fnExactSpaceTidy", unfollowed := true, recurses := true, plainKeys := false, apart := false }
def FnExactSpaceTidySaid : Prop := fnExactSpaceTidyRow.holds Try.pinned (OpenSpec.ofChange fnExactSpaceTidySpec)

/-- ITS FALSE NEIGHBOUR: 'it returns false'. Refute it at one input. -/
def fnExactSpaceTidyWrong : ChangeSpec := { name := "fnExactSpaceTidy", fn := fun _ => fun
  | [d] => { results := [.lit (.bool false)], args := [d] }
  | _ => none }
def FnExactSpaceTidyWrongFalsely : Prop := fnExactSpaceTidyRow.holds Try.pinned (OpenSpec.ofChange fnExactSpaceTidyWrong)

/-- 'laws.FnExactSpaceHas': WHATEVER THE INPUT: true; the input reads as it did. -/
def fnExactSpaceHasSpec : ChangeSpec := { name := "fnExactSpaceHas", fn := fun _ => fun
  | [d1, d2] => { results := [.lit (.bool true)], args := [d1, d2] }
  | _ => none }
def fnExactSpaceHasRow : OpenClaim := { program := "ytoaollalalbefaa", sum := "fc307ea4215779ad17c3ce7be007bfe057374bedfba9fde0c98ba6e698af0829", func := "loop.example/crossbuck/laws.FnExactSpaceHas", spec := "fnExactSpaceHas", recurses := true, plainKeys := false, apart := false }
def FnExactSpaceHasSaid : Prop := fnExactSpaceHasRow.holds Try.pinned (OpenSpec.ofChange fnExactSpaceHasSpec)

/-- ITS FALSE NEIGHBOUR: 'it returns false'. Refute it at one input. -/
def fnExactSpaceHasWrong : ChangeSpec := { name := "fnExactSpaceHas", fn := fun _ => fun
  | [d1, d2] => { results := [.lit (.bool false)], args := [d1, d2] }
  | _ => none }
def FnExactSpaceHasWrongFalsely : Prop := fnExactSpaceHasRow.holds Try.pinned (OpenSpec.ofChange fnExactSpaceHasWrong)

/-- 'laws.FnExactSpaceOr': WHATEVER THE INPUT: true; the input reads as it did. -/
def fnExactSpaceOrSpec : ChangeSpec := { name := "fnExactSpaceOr", fn := fun _ => fun
  | [d1, d2] => { results := [.lit (.bool true)], args := [d1, d2] }
  | _ => none }
def fnExactSpaceOrRow : OpenClaim := { program := "ytoaollalalbefaa", sum := "fc307ea4215779ad17c3ce7be007bfe057374bedfba9fde0c98ba6e698af0829", func := "loop.example/crossbuck/laws.FnExactSpaceOr", spec := "fnExactSpaceOr", unfollowed := true, recurses := true, plainKeys := false, apart := false }
def FnExactSpaceOrSaid : Prop := fnExactSpaceOrRow.holds Try.pinned (OpenSpec.ofChange fnExactSpaceOrSpec)

/-- ITS FALSE NEIGHBOUR: 'it returns false'. Refute it at one input. -/
def fnExactSpaceOrWrong : ChangeSpec := { name := "fnExactSpaceOr", fn := fun _ => fun
  | [d1, d2] => { results := [.lit (.bool false)], args := [d1, d2] }
  | _ => none }
def FnExactSpaceOrWrongFalsely : Prop := fnExactSpaceOrRow.holds Try.pinned (OpenSpec.ofChange fnExactSpaceOrWrong)

/-- 'laws.FnExactSpaceAnd': WHATEVER THE INPUT: true; the input reads as it did. -/
def fnExactSpaceAndSpec : ChangeSpec := { name := "fnExactSpaceAnd", fn := fun _ => fun
  | [d1, d2] => { results := [.lit (.bool true)], args := [d1, d2] }
  | _ => none }
def fnExactSpaceAndRow : OpenClaim := { program := "ytoaollalalbefaa", sum := "fc307ea4215779ad17c3ce7be007bfe057374bedfba9fde0c98ba6e698af0829", func := "loop.example/crossbuck/laws.FnExactSpaceAnd", spec := "fnExactSpaceAnd", unfollowed := true, recurses := true, plainKeys := false, apart := false }
def FnExactSpaceAndSaid : Prop := fnExactSpaceAndRow.holds Try.pinned (OpenSpec.ofChange fnExactSpaceAndSpec)

/-- ITS FALSE NEIGHBOUR: 'it returns false'. Refute it at one input. -/
def fnExactSpaceAndWrong : ChangeSpec := { name := "fnExactSpaceAnd", fn := fun _ => fun
  | [d1, d2] => { results := [.lit (.bool false)], args := [d1, d2] }
  | _ => none }
def FnExactSpaceAndWrongFalsely : Prop := fnExactSpaceAndRow.holds Try.pinned (OpenSpec.ofChange fnExactSpaceAndWrong)

/-- 'laws.FnExactSpaceLess': WHATEVER THE INPUT: true; the input reads as it did. -/
def fnExactSpaceLessSpec : ChangeSpec := { name := "fnExactSpaceLess", fn := fun _ => fun
  | [d1, d2] => { results := [.lit (.bool true)], args := [d1, d2] }
  | _ => none }
def fnExactSpaceLessRow : OpenClaim := { program := "ytoaollalalbefaa", sum := "fc307ea4215779ad17c3ce7be007bfe057374bedfba9fde0c98ba6e698af0829", func := "loop.example/crossbuck/laws.FnExactSpaceLess", spec := "fnExactSpaceLess", unfollowed := true, recurses := true, plainKeys := false, apart := false }
def FnExactSpaceLessSaid : Prop := fnExactSpaceLessRow.holds Try.pinned (OpenSpec.ofChange fnExactSpaceLessSpec)

/-- ITS FALSE NEIGHBOUR: 'it returns false'. Refute it at one input. -/
def fnExactSpaceLessWrong : ChangeSpec := { name := "fnExactSpaceLess", fn := fun _ => fun
  | [d1, d2] => { results := [.lit (.bool false)], args := [d1, d2] }
  | _ => none }
def FnExactSpaceLessWrongFalsely : Prop := fnExactSpaceLessRow.holds Try.pinned (OpenSpec.ofChange fnExactSpaceLessWrong)

/-- 'laws.FnExactSpaceSame': WHATEVER THE INPUT: true; the input reads as it did. -/
def fnExactSpaceSameSpec : ChangeSpec := { name := "fnExactSpaceSame", fn := fun _ => fun
  | [d1, d2] => { results := [.lit (.bool true)], args := [d1, d2] }
  | _ => none }
def fnExactSpaceSameRow : OpenClaim := { program := "ytoaollalalbefaa", sum := "fc307ea4215779ad17c3ce7be007bfe057374bedfba9fde0c98ba6e698af0829", func := "loop.example/crossbuck/laws.FnExactSpaceSame", spec := "fnExactSpaceSame", recurses := true, plainKeys := false, apart := false }
def FnExactSpaceSameSaid : Prop := fnExactSpaceSameRow.holds Try.pinned (OpenSpec.ofChange fnExactSpaceSameSpec)

/-- ITS FALSE NEIGHBOUR: 'it returns false'. Refute it at one input. -/
def fnExactSpaceSameWrong : ChangeSpec := { name := "fnExactSpaceSame", fn := fun _ => fun
  | [d1, d2] => { results := [.lit (.bool false)], args := [d1, d2] }
  | _ => none }
def FnExactSpaceSameWrongFalsely : Prop := fnExactSpaceSameRow.holds Try.pinned (OpenSpec.ofChange fnExactSpaceSameWrong)

/-- 'laws.FnExactSpaceMany': WHATEVER THE INPUT: true; the input reads as it did. -/
def fnExactSpaceManySpec : ChangeSpec := { name := "fnExactSpaceMany", fn := fun _ => fun
  | [d] => { results := [.lit (.bool true)], args := [d] }
  | _ => none }
def fnExactSpaceManyRow : OpenClaim := { program := "ytoaollalalbefaa", sum := "fc307ea4215779ad17c3ce7be007bfe057374bedfba9fde0c98ba6e698af0829", func := "loop.example/crossbuck/laws.FnExactSpaceMany", spec := "fnExactSpaceMany", unfollowed := true, recurses := true, plainKeys := false, apart := false }
def FnExactSpaceManySaid : Prop := fnExactSpaceManyRow.holds Try.pinned (OpenSpec.ofChange fnExactSpaceManySpec)

/-- ITS FALSE NEIGHBOUR: 'it returns false'. Refute it at one input. -/
def fnExactSpaceManyWrong : ChangeSpec := { name := "fnExactSpaceMany", fn := fun _ => fun
  | [d] => { results := [.lit (.bool false)], args := [d] }
  | _ => none }
def FnExactSpaceManyWrongFalsely : Prop := fnExactSpaceManyRow.holds Try.pinned (OpenSpec.ofChange fnExactSpaceManyWrong)

/- THE SECOND FORM. 'bulk': how many values and letters a reading holds, each counted each time it is reached (what is shared counts as often as it is met; a slice's spare places count too). A statement '..UptoSaid' is the law's where the arguments, and the package variables that the reading takes, are together of bulk at most 1048576: NARROWER than '..Said'. Prove '..Said' where nothing that the law and all that it calls make is longer than what came in: it says more and counts as full. Else prove '..UptoSaid'. A law counts once. -/
mutual
def uptoBulk {H : Type} : DataW H → Nat
  | .lit (.string bytes) => bytes.length + 1
  | .lit _ => 1
  | .nil => 1
  | .ptr d => uptoBulk d + 1
  | .slice elems spare => uptoBulkAll elems + uptoBulkAll spare + 1
  | .agg parts => uptoBulkAll parts + 1
  | .iface _ d => uptoBulk d + 1
  | .map entries => uptoBulkEntries entries + 1
  | .held _ => 1
def uptoBulkAll {H : Type} : List (DataW H) → Nat
  | [] => 0
  | d :: r => uptoBulk d + uptoBulkAll r
def uptoBulkEntries {H : Type} : List (Lit × DataW H) → Nat
  | [] => 0
  | x :: r => uptoBulkEntry x + uptoBulkEntries r
def uptoBulkEntry {H : Type} : Lit × DataW H → Nat
  | (.string bytes, d) => bytes.length + uptoBulk d + 1
  | (_, d) => uptoBulk d + 1
 end
def uptoSmall : (H : Type) → List (DataW H) → Bool := fun _ ds => decide (uptoBulkAll ds ≤ 1048576)
def OpenSpec.upto (s : _root_.Go.ChangeSpec) : _root_.Go.OpenSpec := { _root_.Go.OpenSpec.ofChange s with cond := some uptoSmall }

/-- 'laws.FnExactSpaceTidy', WHERE WHAT IT READS IS OF BULK AT MOST 1048576: true; the input reads as it did. -/
def fnExactSpaceTidyUptoRow : OpenClaim := { program := "ytoaollalalbefaa", sum := "fc307ea4215779ad17c3ce7be007bfe057374bedfba9fde0c98ba6e698af0829", func := "loop.example/crossbuck/laws.FnExactSpaceTidy", spec := "fnExactSpaceTidy", unfollowed := true, recurses := true, plainKeys := false, apart := false, narrowed := true }
def FnExactSpaceTidyUptoSaid : Prop := fnExactSpaceTidyUptoRow.holds Try.pinned (OpenSpec.upto fnExactSpaceTidySpec)

/-- 'laws.FnExactSpaceHas', WHERE WHAT IT READS IS OF BULK AT MOST 1048576: true; the input reads as it did. -/
def fnExactSpaceHasUptoRow : OpenClaim := { program := "ytoaollalalbefaa", sum := "fc307ea4215779ad17c3ce7be007bfe057374bedfba9fde0c98ba6e698af0829", func := "loop.example/crossbuck/laws.FnExactSpaceHas", spec := "fnExactSpaceHas", recurses := true, plainKeys := false, apart := false, narrowed := true }
def FnExactSpaceHasUptoSaid : Prop := fnExactSpaceHasUptoRow.holds Try.pinned (OpenSpec.upto fnExactSpaceHasSpec)

/-- 'laws.FnExactSpaceOr', WHERE WHAT IT READS IS OF BULK AT MOST 1048576: true; the input reads as it did. -/
def fnExactSpaceOrUptoRow : OpenClaim := { program := "ytoaollalalbefaa", sum := "fc307ea4215779ad17c3ce7be007bfe057374bedfba9fde0c98ba6e698af0829", func := "loop.example/crossbuck/laws.FnExactSpaceOr", spec := "fnExactSpaceOr", unfollowed := true, recurses := true, plainKeys := false, apart := false, narrowed := true }
def FnExactSpaceOrUptoSaid : Prop := fnExactSpaceOrUptoRow.holds Try.pinned (OpenSpec.upto fnExactSpaceOrSpec)

/-- 'laws.FnExactSpaceAnd', WHERE WHAT IT READS IS OF BULK AT MOST 1048576: true; the input reads as it did. -/
def fnExactSpaceAndUptoRow : OpenClaim := { program := "ytoaollalalbefaa", sum := "fc307ea4215779ad17c3ce7be007bfe057374bedfba9fde0c98ba6e698af0829", func := "loop.example/crossbuck/laws.FnExactSpaceAnd", spec := "fnExactSpaceAnd", unfollowed := true, recurses := true, plainKeys := false, apart := false, narrowed := true }
def FnExactSpaceAndUptoSaid : Prop := fnExactSpaceAndUptoRow.holds Try.pinned (OpenSpec.upto fnExactSpaceAndSpec)

/-- 'laws.FnExactSpaceLess', WHERE WHAT IT READS IS OF BULK AT MOST 1048576: true; the input reads as it did. -/
def fnExactSpaceLessUptoRow : OpenClaim := { program := "ytoaollalalbefaa", sum := "fc307ea4215779ad17c3ce7be007bfe057374bedfba9fde0c98ba6e698af0829", func := "loop.example/crossbuck/laws.FnExactSpaceLess", spec := "fnExactSpaceLess", unfollowed := true, recurses := true, plainKeys := false, apart := false, narrowed := true }
def FnExactSpaceLessUptoSaid : Prop := fnExactSpaceLessUptoRow.holds Try.pinned (OpenSpec.upto fnExactSpaceLessSpec)

/-- 'laws.FnExactSpaceSame', WHERE WHAT IT READS IS OF BULK AT MOST 1048576: true; the input reads as it did. -/
def fnExactSpaceSameUptoRow : OpenClaim := { program := "ytoaollalalbefaa", sum := "fc307ea4215779ad17c3ce7be007bfe057374bedfba9fde0c98ba6e698af0829", func := "loop.example/crossbuck/laws.FnExactSpaceSame", spec := "fnExactSpaceSame", recurses := true, plainKeys := false, apart := false, narrowed := true }
def FnExactSpaceSameUptoSaid : Prop := fnExactSpaceSameUptoRow.holds Try.pinned (OpenSpec.upto fnExactSpaceSameSpec)

/-- 'laws.FnExactSpaceMany', WHERE WHAT IT READS IS OF BULK AT MOST 1048576: true; the input reads as it did. -/
def fnExactSpaceManyUptoRow : OpenClaim := { program := "ytoaollalalbefaa", sum := "fc307ea4215779ad17c3ce7be007bfe057374bedfba9fde0c98ba6e698af0829", func := "loop.example/crossbuck/laws.FnExactSpaceMany", spec := "fnExactSpaceMany", unfollowed := true, recurses := true, plainKeys := false, apart := false, narrowed := true }
def FnExactSpaceManyUptoSaid : Prop := fnExactSpaceManyUptoRow.holds Try.pinned (OpenSpec.upto fnExactSpaceManySpec)

end Rows
end Go.Proofs.Ytoaollalalbefaa
