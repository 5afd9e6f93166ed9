/-
  No cell of these rows narrows 'for every input' (looked for: loops, veiled, ifaces, maps, wideKeys, modest, calm, conditions, laid).
  DERIVED. THE GIVEN ROWS OF THIS SEAT. 8 by the template 'for every input the law returns true; each argument reads behind the call as it read before'; 0 by the template 'total and deterministic' (their statements: YtmgjnjodjobagaaTotals.lean).
  GIVEN WITH THE SEED: the statements are not yours to turn. If you find one false, say at which input.
  Laid BY PROGRAM, IN A SANDBOX (cutbox-rows.mjs): the forced cells as the released guide's own fill.sh prints them over the translation 13eca8b54a6f5fda… (all of the seat's roots in one cut). By AI agents, Wed Nov 11 2026. No macro, syntax, notation, axiom, sorry.
-/
import Derived.Test.YtmgjnjodjobagaaChecked
import GoSem.Claim
import GoSem.ClaimJoined
import GoSem.ClaimMapViews
import Derived.JoinedTies
import Derived.KernelRfl
namespace Go.Proofs.Ytmgjnjodjobagaa
/- THE CELL 'sum', in the pinned program and in every row, IS THE sha256 OF THE DUMP (.gsa) THAT YtmgjnjodjobagaaProg.lean LOADS. Nothing in Lean hashes anything: it is a label: what it is worth is what the hold of that sum in a sandbox is worth. -/
noncomputable def Try.pinned : Pinned := { name := "ytmgjnjodjobagaa", sum := "13eca8b54a6f5fda35da0ab6577b0034d9ef425ff6ba5df7fece6bc52d806869", checked := Try.checked }
namespace Rows
def none {H : Type} : Left H := { results := [], args := [] }

/-- 'laws.FnHeadNum': WHATEVER THE INPUT: true; the input reads as it did. -/
def fnHeadNumSpec : ChangeSpec := { name := "fnHeadNum", fn := fun _ => fun
  | [d] => { results := [.lit (.bool true)], args := [d] }
  | _ => none }
def fnHeadNumRow : OpenClaim := { program := "ytmgjnjodjobagaa", sum := "13eca8b54a6f5fda35da0ab6577b0034d9ef425ff6ba5df7fece6bc52d806869", func := "loop.example/crossbuck/laws.FnHeadNum", spec := "fnHeadNum", apart := false }
def FnHeadNumSaid : Prop := fnHeadNumRow.holds Try.pinned (OpenSpec.ofChange fnHeadNumSpec)

/-- ITS FALSE NEIGHBOUR: 'it returns false'. Refute it at one input. -/
def fnHeadNumWrong : ChangeSpec := { name := "fnHeadNum", fn := fun _ => fun
  | [d] => { results := [.lit (.bool false)], args := [d] }
  | _ => none }
def FnHeadNumWrongFalsely : Prop := fnHeadNumRow.holds Try.pinned (OpenSpec.ofChange fnHeadNumWrong)

/-- 'laws.FnHeadTwo': WHATEVER THE INPUT: true; the input reads as it did. -/
def fnHeadTwoSpec : ChangeSpec := { name := "fnHeadTwo", fn := fun _ => fun
  | [d1, d2] => { results := [.lit (.bool true)], args := [d1, d2] }
  | _ => none }
def fnHeadTwoRow : OpenClaim := { program := "ytmgjnjodjobagaa", sum := "13eca8b54a6f5fda35da0ab6577b0034d9ef425ff6ba5df7fece6bc52d806869", func := "loop.example/crossbuck/laws.FnHeadTwo", spec := "fnHeadTwo", apart := false }
def FnHeadTwoSaid : Prop := fnHeadTwoRow.holds Try.pinned (OpenSpec.ofChange fnHeadTwoSpec)

/-- ITS FALSE NEIGHBOUR: 'it returns false'. Refute it at one input. -/
def fnHeadTwoWrong : ChangeSpec := { name := "fnHeadTwo", fn := fun _ => fun
  | [d1, d2] => { results := [.lit (.bool false)], args := [d1, d2] }
  | _ => none }
def FnHeadTwoWrongFalsely : Prop := fnHeadTwoRow.holds Try.pinned (OpenSpec.ofChange fnHeadTwoWrong)

/-- 'laws.FnHeadTag': WHATEVER THE INPUT: true; the input reads as it did. -/
def fnHeadTagSpec : ChangeSpec := { name := "fnHeadTag", fn := fun _ => fun
  | [d1, d2] => { results := [.lit (.bool true)], args := [d1, d2] }
  | _ => none }
def fnHeadTagRow : OpenClaim := { program := "ytmgjnjodjobagaa", sum := "13eca8b54a6f5fda35da0ab6577b0034d9ef425ff6ba5df7fece6bc52d806869", func := "loop.example/crossbuck/laws.FnHeadTag", spec := "fnHeadTag", apart := false }
def FnHeadTagSaid : Prop := fnHeadTagRow.holds Try.pinned (OpenSpec.ofChange fnHeadTagSpec)

/-- ITS FALSE NEIGHBOUR: 'it returns false'. Refute it at one input. -/
def fnHeadTagWrong : ChangeSpec := { name := "fnHeadTag", fn := fun _ => fun
  | [d1, d2] => { results := [.lit (.bool false)], args := [d1, d2] }
  | _ => none }
def FnHeadTagWrongFalsely : Prop := fnHeadTagRow.holds Try.pinned (OpenSpec.ofChange fnHeadTagWrong)

/-- 'laws.FnExactHeadOk': WHATEVER THE INPUT: true; the input reads as it did. -/
def fnExactHeadOkSpec : ChangeSpec := { name := "fnExactHeadOk", fn := fun _ => fun
  | [d] => { results := [.lit (.bool true)], args := [d] }
  | _ => none }
def fnExactHeadOkRow : OpenClaim := { program := "ytmgjnjodjobagaa", sum := "13eca8b54a6f5fda35da0ab6577b0034d9ef425ff6ba5df7fece6bc52d806869", func := "loop.example/crossbuck/laws.FnExactHeadOk", spec := "fnExactHeadOk", apart := false }
def FnExactHeadOkSaid : Prop := fnExactHeadOkRow.holds Try.pinned (OpenSpec.ofChange fnExactHeadOkSpec)

/-- ITS FALSE NEIGHBOUR: 'it returns false'. Refute it at one input. -/
def fnExactHeadOkWrong : ChangeSpec := { name := "fnExactHeadOk", fn := fun _ => fun
  | [d] => { results := [.lit (.bool false)], args := [d] }
  | _ => none }
def FnExactHeadOkWrongFalsely : Prop := fnExactHeadOkRow.holds Try.pinned (OpenSpec.ofChange fnExactHeadOkWrong)

/-- 'laws.FnExactHeadNum': WHATEVER THE INPUT: true; the input reads as it did. -/
def fnExactHeadNumSpec : ChangeSpec := { name := "fnExactHeadNum", fn := fun _ => fun
  | [d] => { results := [.lit (.bool true)], args := [d] }
  | _ => none }
def fnExactHeadNumRow : OpenClaim := { program := "ytmgjnjodjobagaa", sum := "13eca8b54a6f5fda35da0ab6577b0034d9ef425ff6ba5df7fece6bc52d806869", func := "loop.example/crossbuck/laws.FnExactHeadNum", spec := "fnExactHeadNum", apart := false }
def FnExactHeadNumSaid : Prop := fnExactHeadNumRow.holds Try.pinned (OpenSpec.ofChange fnExactHeadNumSpec)

/-- ITS FALSE NEIGHBOUR: 'it returns false'. Refute it at one input. -/
def fnExactHeadNumWrong : ChangeSpec := { name := "fnExactHeadNum", fn := fun _ => fun
  | [d] => { results := [.lit (.bool false)], args := [d] }
  | _ => none }
def FnExactHeadNumWrongFalsely : Prop := fnExactHeadNumRow.holds Try.pinned (OpenSpec.ofChange fnExactHeadNumWrong)

/-- 'laws.FnExactHeadOf': WHATEVER THE INPUT: true; the input reads as it did. -/
def fnExactHeadOfSpec : ChangeSpec := { name := "fnExactHeadOf", fn := fun _ => fun
  | [d] => { results := [.lit (.bool true)], args := [d] }
  | _ => none }
def fnExactHeadOfRow : OpenClaim := { program := "ytmgjnjodjobagaa", sum := "13eca8b54a6f5fda35da0ab6577b0034d9ef425ff6ba5df7fece6bc52d806869", func := "loop.example/crossbuck/laws.FnExactHeadOf", spec := "fnExactHeadOf", apart := false }
def FnExactHeadOfSaid : Prop := fnExactHeadOfRow.holds Try.pinned (OpenSpec.ofChange fnExactHeadOfSpec)

/-- ITS FALSE NEIGHBOUR: 'it returns false'. Refute it at one input. -/
def fnExactHeadOfWrong : ChangeSpec := { name := "fnExactHeadOf", fn := fun _ => fun
  | [d] => { results := [.lit (.bool false)], args := [d] }
  | _ => none }
def FnExactHeadOfWrongFalsely : Prop := fnExactHeadOfRow.holds Try.pinned (OpenSpec.ofChange fnExactHeadOfWrong)

/-- 'laws.FnExactHeadRead': WHATEVER THE INPUT: true; the input reads as it did. -/
def fnExactHeadReadSpec : ChangeSpec := { name := "fnExactHeadRead", fn := fun _ => fun
  | [d] => { results := [.lit (.bool true)], args := [d] }
  | _ => none }
def fnExactHeadReadRow : OpenClaim := { program := "ytmgjnjodjobagaa", sum := "13eca8b54a6f5fda35da0ab6577b0034d9ef425ff6ba5df7fece6bc52d806869", func := "loop.example/crossbuck/laws.FnExactHeadRead", spec := "fnExactHeadRead", recurses := true, apart := false }
def FnExactHeadReadSaid : Prop := fnExactHeadReadRow.holds Try.pinned (OpenSpec.ofChange fnExactHeadReadSpec)

/-- ITS FALSE NEIGHBOUR: 'it returns false'. Refute it at one input. -/
def fnExactHeadReadWrong : ChangeSpec := { name := "fnExactHeadRead", fn := fun _ => fun
  | [d] => { results := [.lit (.bool false)], args := [d] }
  | _ => none }
def FnExactHeadReadWrongFalsely : Prop := fnExactHeadReadRow.holds Try.pinned (OpenSpec.ofChange fnExactHeadReadWrong)

/-- 'laws.FnExactHeadTag': WHATEVER THE INPUT: true; the input reads as it did. -/
def fnExactHeadTagSpec : ChangeSpec := { name := "fnExactHeadTag", fn := fun _ => fun
  | [d1, d2] => { results := [.lit (.bool true)], args := [d1, d2] }
  | _ => none }
def fnExactHeadTagRow : OpenClaim := { program := "ytmgjnjodjobagaa", sum := "13eca8b54a6f5fda35da0ab6577b0034d9ef425ff6ba5df7fece6bc52d806869", func := "loop.example/crossbuck/laws.FnExactHeadTag", spec := "fnExactHeadTag", apart := false }
def FnExactHeadTagSaid : Prop := fnExactHeadTagRow.holds Try.pinned (OpenSpec.ofChange fnExactHeadTagSpec)

/-- ITS FALSE NEIGHBOUR: 'it returns false'. Refute it at one input. -/
def fnExactHeadTagWrong : ChangeSpec := { name := "fnExactHeadTag", fn := fun _ => fun
  | [d1, d2] => { results := [.lit (.bool false)], args := [d1, d2] }
  | _ => none }
def FnExactHeadTagWrongFalsely : Prop := fnExactHeadTagRow.holds Try.pinned (OpenSpec.ofChange fnExactHeadTagWrong)

/- THE SECOND FORM. 'bulk': how many values and letters a reading holds, each counted each time it is reached (what is shared counts as often as it is met; a slice's spare places count too). A statement '..UptoSaid' is the law's where the arguments, and the package variables that the reading takes, are together of bulk at most 1048576: NARROWER than '..Said'. Prove '..Said' where nothing that the law and all that it calls make is longer than what came in: it says more and counts as full. Else prove '..UptoSaid'. A law counts once. -/
mutual
def uptoBulk {H : Type} : DataW H → Nat
  | .lit (.string bytes) => bytes.length + 1
  | .lit _ => 1
  | .nil => 1
  | .ptr d => uptoBulk d + 1
  | .slice elems spare => uptoBulkAll elems + uptoBulkAll spare + 1
  | .agg parts => uptoBulkAll parts + 1
  | .iface _ d => uptoBulk d + 1
  | .map entries => uptoBulkEntries entries + 1
  | .held _ => 1
def uptoBulkAll {H : Type} : List (DataW H) → Nat
  | [] => 0
  | d :: r => uptoBulk d + uptoBulkAll r
def uptoBulkEntries {H : Type} : List (Lit × DataW H) → Nat
  | [] => 0
  | x :: r => uptoBulkEntry x + uptoBulkEntries r
def uptoBulkEntry {H : Type} : Lit × DataW H → Nat
  | (.string bytes, d) => bytes.length + uptoBulk d + 1
  | (_, d) => uptoBulk d + 1
 end
def uptoSmall : (H : Type) → List (DataW H) → Bool := fun _ ds => decide (uptoBulkAll ds ≤ 1048576)
def OpenSpec.upto (s : _root_.Go.ChangeSpec) : _root_.Go.OpenSpec := { _root_.Go.OpenSpec.ofChange s with cond := some uptoSmall }

/-- 'laws.FnHeadNum', WHERE WHAT IT READS IS OF BULK AT MOST 1048576: true; the input reads as it did. -/
def fnHeadNumUptoRow : OpenClaim := { program := "ytmgjnjodjobagaa", sum := "13eca8b54a6f5fda35da0ab6577b0034d9ef425ff6ba5df7fece6bc52d806869", func := "loop.example/crossbuck/laws.FnHeadNum", spec := "fnHeadNum", apart := false, narrowed := true }
def FnHeadNumUptoSaid : Prop := fnHeadNumUptoRow.holds Try.pinned (OpenSpec.upto fnHeadNumSpec)

/-- 'laws.FnHeadTwo', WHERE WHAT IT READS IS OF BULK AT MOST 1048576: true; the input reads as it did. -/
def fnHeadTwoUptoRow : OpenClaim := { program := "ytmgjnjodjobagaa", sum := "13eca8b54a6f5fda35da0ab6577b0034d9ef425ff6ba5df7fece6bc52d806869", func := "loop.example/crossbuck/laws.FnHeadTwo", spec := "fnHeadTwo", apart := false, narrowed := true }
def FnHeadTwoUptoSaid : Prop := fnHeadTwoUptoRow.holds Try.pinned (OpenSpec.upto fnHeadTwoSpec)

/-- 'laws.FnHeadTag', WHERE WHAT IT READS IS OF BULK AT MOST 1048576: true; the input reads as it did. -/
def fnHeadTagUptoRow : OpenClaim := { program := "ytmgjnjodjobagaa", sum := "13eca8b54a6f5fda35da0ab6577b0034d9ef425ff6ba5df7fece6bc52d806869", func := "loop.example/crossbuck/laws.FnHeadTag", spec := "fnHeadTag", apart := false, narrowed := true }
def FnHeadTagUptoSaid : Prop := fnHeadTagUptoRow.holds Try.pinned (OpenSpec.upto fnHeadTagSpec)

/-- 'laws.FnExactHeadOk', WHERE WHAT IT READS IS OF BULK AT MOST 1048576: true; the input reads as it did. -/
def fnExactHeadOkUptoRow : OpenClaim := { program := "ytmgjnjodjobagaa", sum := "13eca8b54a6f5fda35da0ab6577b0034d9ef425ff6ba5df7fece6bc52d806869", func := "loop.example/crossbuck/laws.FnExactHeadOk", spec := "fnExactHeadOk", apart := false, narrowed := true }
def FnExactHeadOkUptoSaid : Prop := fnExactHeadOkUptoRow.holds Try.pinned (OpenSpec.upto fnExactHeadOkSpec)

/-- 'laws.FnExactHeadNum', WHERE WHAT IT READS IS OF BULK AT MOST 1048576: true; the input reads as it did. -/
def fnExactHeadNumUptoRow : OpenClaim := { program := "ytmgjnjodjobagaa", sum := "13eca8b54a6f5fda35da0ab6577b0034d9ef425ff6ba5df7fece6bc52d806869", func := "loop.example/crossbuck/laws.FnExactHeadNum", spec := "fnExactHeadNum", apart := false, narrowed := true }
def FnExactHeadNumUptoSaid : Prop := fnExactHeadNumUptoRow.holds Try.pinned (OpenSpec.upto fnExactHeadNumSpec)

/-- 'laws.FnExactHeadOf', WHERE WHAT IT READS IS OF BULK AT MOST 1048576: true; the input reads as it did. -/
def fnExactHeadOfUptoRow : OpenClaim := { program := "ytmgjnjodjobagaa", sum := "13eca8b54a6f5fda35da0ab6577b0034d9ef425ff6ba5df7fece6bc52d806869", func := "loop.example/crossbuck/laws.FnExactHeadOf", spec := "fnExactHeadOf", apart := false, narrowed := true }
def FnExactHeadOfUptoSaid : Prop := fnExactHeadOfUptoRow.holds Try.pinned (OpenSpec.upto fnExactHeadOfSpec)

/-- 'laws.FnExactHeadRead', WHERE WHAT IT READS IS OF BULK AT MOST 1048576: true; the input reads as it did. -/
def fnExactHeadReadUptoRow : OpenClaim := { program := "ytmgjnjodjobagaa", sum := "13eca8b54a6f5fda35da0ab6577b0034d9ef425ff6ba5df7fece6bc52d806869", func := "loop.example/crossbuck/laws.FnExactHeadRead", spec := "fnExactHeadRead", recurses := true, apart := false, narrowed := true }
def FnExactHeadReadUptoSaid : Prop := fnExactHeadReadUptoRow.holds Try.pinned (OpenSpec.upto fnExactHeadReadSpec)

/-- 'laws.FnExactHeadTag', WHERE WHAT IT READS IS OF BULK AT MOST 1048576: true; the input reads as it did. -/
def fnExactHeadTagUptoRow : OpenClaim := { program := "ytmgjnjodjobagaa", sum := "13eca8b54a6f5fda35da0ab6577b0034d9ef425ff6ba5df7fece6bc52d806869", func := "loop.example/crossbuck/laws.FnExactHeadTag", spec := "fnExactHeadTag", apart := false, narrowed := true }
def FnExactHeadTagUptoSaid : Prop := fnExactHeadTagUptoRow.holds Try.pinned (OpenSpec.upto fnExactHeadTagSpec)

end Rows
end Go.Proofs.Ytmgjnjodjobagaa
