/-
  No cell of these rows narrows 'for every input' (looked for: loops, veiled, ifaces, maps, wideKeys, modest, calm, conditions, laid).
  DERIVED. THE GIVEN ROWS OF THIS SEAT. 3 by the template 'for every input the law returns true; each argument reads behind the call as it read before'; 0 by the template 'total and deterministic' (their statements: YtddkpimmcmnogabTotals.lean).
  GIVEN WITH THE SEED: the statements are not yours to turn. If you find one false, say at which input.
  Laid BY PROGRAM, IN A SANDBOX (cutbox-rows.mjs): the forced cells as the released guide's own fill.sh prints them over the translation 756ee2e4ee048d7d… (all of the seat's roots in one cut). By AI agents, Wed Nov 11 2026. No macro, syntax, notation, axiom, sorry.
-/
import Derived.Test.YtddkpimmcmnogabChecked
import GoSem.Claim
import GoSem.ClaimJoined
import GoSem.ClaimMapViews
import Derived.JoinedTies
import Derived.KernelRfl
namespace Go.Proofs.Ytddkpimmcmnogab
/- THE CELL 'sum', in the pinned program and in every row, IS THE sha256 OF THE DUMP (.gsa) THAT YtddkpimmcmnogabProg.lean LOADS. Nothing in Lean hashes anything: it is a label: what it is worth is what the hold of that sum in a sandbox is worth. -/
noncomputable def Try.pinned : Pinned := { name := "ytddkpimmcmnogab", sum := "756ee2e4ee048d7de08a72be262658f53276a8a17afef5843650949578cbf3c9", checked := Try.checked }
namespace Rows
def none {H : Type} : Left H := { results := [], args := [] }

/-- 'laws.FnTidyOne': WHATEVER THE INPUT: true; the input reads as it did. -/
def fnTidyOneSpec : ChangeSpec := { name := "fnTidyOne", fn := fun _ => fun
  | [d] => { results := [.lit (.bool true)], args := [d] }
  | _ => none }
def fnTidyOneRow : OpenClaim := { program := "ytddkpimmcmnogab", sum := "756ee2e4ee048d7de08a72be262658f53276a8a17afef5843650949578cbf3c9", func := "loop.example/crossbuck/laws.FnTidyOne", spec := "fnTidyOne", unfollowed := true, recurses := true, plainKeys := false, apart := false }
def FnTidyOneSaid : Prop := fnTidyOneRow.holds Try.pinned (OpenSpec.ofChange fnTidyOneSpec)

/-- ITS FALSE NEIGHBOUR: 'it returns false'. Refute it at one input. -/
def fnTidyOneWrong : ChangeSpec := { name := "fnTidyOne", fn := fun _ => fun
  | [d] => { results := [.lit (.bool false)], args := [d] }
  | _ => none }
def FnTidyOneWrongFalsely : Prop := fnTidyOneRow.holds Try.pinned (OpenSpec.ofChange fnTidyOneWrong)

/-- 'laws.FnSpaceForm': WHATEVER THE INPUT: true; the input reads as it did. -/
def fnSpaceFormSpec : ChangeSpec := { name := "fnSpaceForm", fn := fun _ => fun
  | [d1, d2] => { results := [.lit (.bool true)], args := [d1, d2] }
  | _ => none }
def fnSpaceFormRow : OpenClaim := { program := "ytddkpimmcmnogab", sum := "756ee2e4ee048d7de08a72be262658f53276a8a17afef5843650949578cbf3c9", func := "loop.example/crossbuck/laws.FnSpaceForm", spec := "fnSpaceForm", plainKeys := false, apart := false }
def FnSpaceFormSaid : Prop := fnSpaceFormRow.holds Try.pinned (OpenSpec.ofChange fnSpaceFormSpec)

/-- ITS FALSE NEIGHBOUR: 'it returns false'. Refute it at one input. -/
def fnSpaceFormWrong : ChangeSpec := { name := "fnSpaceForm", fn := fun _ => fun
  | [d1, d2] => { results := [.lit (.bool false)], args := [d1, d2] }
  | _ => none }
def FnSpaceFormWrongFalsely : Prop := fnSpaceFormRow.holds Try.pinned (OpenSpec.ofChange fnSpaceFormWrong)

/-- 'laws.FnWildHalf': WHATEVER THE INPUT: true; the input reads as it did. -/
def fnWildHalfSpec : ChangeSpec := { name := "fnWildHalf", fn := fun _ => fun
  | [d1, d2] => { results := [.lit (.bool true)], args := [d1, d2] }
  | _ => none }
def fnWildHalfRow : OpenClaim := { program := "ytddkpimmcmnogab", sum := "756ee2e4ee048d7de08a72be262658f53276a8a17afef5843650949578cbf3c9", func := "loop.example/crossbuck/laws.FnWildHalf", spec := "fnWildHalf", unfollowed := true, recurses := true, plainKeys := false, apart := false }
def FnWildHalfSaid : Prop := fnWildHalfRow.holds Try.pinned (OpenSpec.ofChange fnWildHalfSpec)

/-- ITS FALSE NEIGHBOUR: 'it returns false'. Refute it at one input. -/
def fnWildHalfWrong : ChangeSpec := { name := "fnWildHalf", fn := fun _ => fun
  | [d1, d2] => { results := [.lit (.bool false)], args := [d1, d2] }
  | _ => none }
def FnWildHalfWrongFalsely : Prop := fnWildHalfRow.holds Try.pinned (OpenSpec.ofChange fnWildHalfWrong)

/- THE SECOND FORM. 'bulk': how many values and letters a reading holds, each counted each time it is reached (what is shared counts as often as it is met; a slice's spare places count too). A statement '..UptoSaid' is the law's where the arguments, and the package variables that the reading takes, are together of bulk at most 1048576: NARROWER than '..Said'. Prove '..Said' where nothing that the law and all that it calls make is longer than what came in: it says more and counts as full. Else prove '..UptoSaid'. A law counts once. -/
mutual
def uptoBulk {H : Type} : DataW H → Nat
  | .lit (.string bytes) => bytes.length + 1
  | .lit _ => 1
  | .nil => 1
  | .ptr d => uptoBulk d + 1
  | .slice elems spare => uptoBulkAll elems + uptoBulkAll spare + 1
  | .agg parts => uptoBulkAll parts + 1
  | .iface _ d => uptoBulk d + 1
  | .map entries => uptoBulkEntries entries + 1
  | .held _ => 1
def uptoBulkAll {H : Type} : List (DataW H) → Nat
  | [] => 0
  | d :: r => uptoBulk d + uptoBulkAll r
def uptoBulkEntries {H : Type} : List (Lit × DataW H) → Nat
  | [] => 0
  | x :: r => uptoBulkEntry x + uptoBulkEntries r
def uptoBulkEntry {H : Type} : Lit × DataW H → Nat
  | (.string bytes, d) => bytes.length + uptoBulk d + 1
  | (_, d) => uptoBulk d + 1
 end
def uptoSmall : (H : Type) → List (DataW H) → Bool := fun _ ds => decide (uptoBulkAll ds ≤ 1048576)
def OpenSpec.upto (s : _root_.Go.ChangeSpec) : _root_.Go.OpenSpec := { _root_.Go.OpenSpec.ofChange s with cond := some uptoSmall }

/-- 'laws.FnTidyOne', WHERE WHAT IT READS IS OF BULK AT MOST 1048576: true; the input reads as it did. -/
def fnTidyOneUptoRow : OpenClaim := { program := "ytddkpimmcmnogab", sum := "756ee2e4ee048d7de08a72be262658f53276a8a17afef5843650949578cbf3c9", func := "loop.example/crossbuck/laws.FnTidyOne", spec := "fnTidyOne", unfollowed := true, recurses := true, plainKeys := false, apart := false, narrowed := true }
def FnTidyOneUptoSaid : Prop := fnTidyOneUptoRow.holds Try.pinned (OpenSpec.upto fnTidyOneSpec)

/-- 'laws.FnSpaceForm', WHERE WHAT IT READS IS OF BULK AT MOST 1048576: true; the input reads as it did. -/
def fnSpaceFormUptoRow : OpenClaim := { program := "ytddkpimmcmnogab", sum := "756ee2e4ee048d7de08a72be262658f53276a8a17afef5843650949578cbf3c9", func := "loop.example/crossbuck/laws.FnSpaceForm", spec := "fnSpaceForm", plainKeys := false, apart := false, narrowed := true }
def FnSpaceFormUptoSaid : Prop := fnSpaceFormUptoRow.holds Try.pinned (OpenSpec.upto fnSpaceFormSpec)

/-- 'laws.FnWildHalf', WHERE WHAT IT READS IS OF BULK AT MOST 1048576: true; the input reads as it did. -/
def fnWildHalfUptoRow : OpenClaim := { program := "ytddkpimmcmnogab", sum := "756ee2e4ee048d7de08a72be262658f53276a8a17afef5843650949578cbf3c9", func := "loop.example/crossbuck/laws.FnWildHalf", spec := "fnWildHalf", unfollowed := true, recurses := true, plainKeys := false, apart := false, narrowed := true }
def FnWildHalfUptoSaid : Prop := fnWildHalfUptoRow.holds Try.pinned (OpenSpec.upto fnWildHalfSpec)

end Rows
end Go.Proofs.Ytddkpimmcmnogab
