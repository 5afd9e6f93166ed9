/-
  NARROWER THAN 'FOR EVERY INPUT', by the rows' own cells (each row's printed sentence says how): FnPredSpace: ifaces, laid · FnPredAlg: ifaces, laid.
  DERIVED. THE GIVEN ROWS OF THIS SEAT. 2 by the template 'for every input the law returns true; each argument reads behind the call as it read before'; 0 by the template 'total and deterministic' (their statements: YtddkpimmcmnogabDoorTotals.lean).
  GIVEN WITH THE SEED: the statements are not yours to turn. If you find one false, say at which input.
  Laid BY PROGRAM, IN A SANDBOX (cutbox-rows.mjs): the forced cells as the released guide's own fill.sh prints them over the translation 46978c3a6db01d28… (all of the seat's roots in one cut). By AI agents, Wed Nov 11 2026. No macro, syntax, notation, axiom, sorry.
-/
import Derived.Test.YtddkpimmcmnogabDoorChecked
import GoSem.Claim
import GoSem.ClaimJoined
import GoSem.ClaimMapViews
import Derived.JoinedTies
import Derived.KernelRfl
namespace Go.Proofs.YtddkpimmcmnogabDoor
/- THE CELL 'sum', in the pinned program and in every row, IS THE sha256 OF THE DUMP (.gsa) THAT YtddkpimmcmnogabDoorProg.lean LOADS. Nothing in Lean hashes anything: it is a label: what it is worth is what the hold of that sum in a sandbox is worth. -/
noncomputable def Tryd.pinned : Pinned := { name := "ytddkpimmcmnogabdoor", sum := "46978c3a6db01d2877e3d6ef47b569701e83e62a20591cd8fe5880a564632393", checked := Tryd.checked }
namespace Rows
def none {H : Type} : Left H := { results := [], args := [] }

/- WHAT THE LISTED PACKAGE-LEVEL VARIABLES READ AS WHEN THE CALL BEGINS. Each datum BY PROGRAM (the guide's laid-datum.mjs) off the statement by which the dump's own 'gosem.cut.vars' lays the variable. In a bare row this is a premise. The card (YtddkpimmcmnogabDoorCards.lean) ties it to the program's text. -/
def laid_loop_example_crossbuck_impl_errPred {H : Type} : DataW H := .iface "*errors.errorString" (.ptr (.agg [.lit (.string [110, 111, 32, 99, 111, 110, 100, 105, 116, 105, 111, 110])]))

/-- 'laws.FnPredSpace': WHATEVER THE INPUT: true; the input reads as it did. -/
def fnPredSpaceSpec : ChangeSpec := { name := "fnPredSpace", vars := ["loop.example/crossbuck/impl.errPred"], fn := fun _ => fun
  | [d, g1] => { results := [.lit (.bool true)], args := [d], vars := [g1] }
  | _ => none }
def fnPredSpaceRow : OpenClaim := { program := "ytddkpimmcmnogabdoor", sum := "46978c3a6db01d2877e3d6ef47b569701e83e62a20591cd8fe5880a564632393", func := "loop.example/crossbuck/laws.FnPredSpace", spec := "fnPredSpace", inPlace := ["internal/reflectlite.TypeOf"], unfollowed := true, recurses := true, named := ["loop.example/crossbuck/impl.errPred"], ifaces := true, plainKeys := false, apart := false, laid := [("loop.example/crossbuck/impl.errPred", laid_loop_example_crossbuck_impl_errPred)] }
def FnPredSpaceSaid : Prop := fnPredSpaceRow.holds Tryd.pinned (OpenSpec.ofChange fnPredSpaceSpec)

/-- ITS FALSE NEIGHBOUR: 'it returns false'. Refute it at one input. -/
def fnPredSpaceWrong : ChangeSpec := { name := "fnPredSpace", vars := ["loop.example/crossbuck/impl.errPred"], fn := fun _ => fun
  | [d, g1] => { results := [.lit (.bool false)], args := [d], vars := [g1] }
  | _ => none }
def FnPredSpaceWrongFalsely : Prop := fnPredSpaceRow.holds Tryd.pinned (OpenSpec.ofChange fnPredSpaceWrong)

/-- 'laws.FnPredAlg': WHATEVER THE INPUT: true; the input reads as it did. -/
def fnPredAlgSpec : ChangeSpec := { name := "fnPredAlg", vars := ["loop.example/crossbuck/impl.errPred"], fn := fun _ => fun
  | [d1, d2, g1] => { results := [.lit (.bool true)], args := [d1, d2], vars := [g1] }
  | _ => none }
def fnPredAlgRow : OpenClaim := { program := "ytddkpimmcmnogabdoor", sum := "46978c3a6db01d2877e3d6ef47b569701e83e62a20591cd8fe5880a564632393", func := "loop.example/crossbuck/laws.FnPredAlg", spec := "fnPredAlg", inPlace := ["internal/reflectlite.TypeOf"], unfollowed := true, recurses := true, named := ["loop.example/crossbuck/impl.errPred"], ifaces := true, plainKeys := false, apart := false, laid := [("loop.example/crossbuck/impl.errPred", laid_loop_example_crossbuck_impl_errPred)] }
def FnPredAlgSaid : Prop := fnPredAlgRow.holds Tryd.pinned (OpenSpec.ofChange fnPredAlgSpec)

/-- ITS FALSE NEIGHBOUR: 'it returns false'. Refute it at one input. -/
def fnPredAlgWrong : ChangeSpec := { name := "fnPredAlg", vars := ["loop.example/crossbuck/impl.errPred"], fn := fun _ => fun
  | [d1, d2, g1] => { results := [.lit (.bool false)], args := [d1, d2], vars := [g1] }
  | _ => none }
def FnPredAlgWrongFalsely : Prop := fnPredAlgRow.holds Tryd.pinned (OpenSpec.ofChange fnPredAlgWrong)

/- THE SECOND FORM. 'bulk': how many values and letters a reading holds, each counted each time it is reached (what is shared counts as often as it is met; a slice's spare places count too). A statement '..UptoSaid' is the law's where the arguments, and the package variables that the reading takes, are together of bulk at most 1048576: NARROWER than '..Said'. Prove '..Said' where nothing that the law and all that it calls make is longer than what came in: it says more and counts as full. Else prove '..UptoSaid'. A law counts once. -/
mutual
def uptoBulk {H : Type} : DataW H → Nat
  | .lit (.string bytes) => bytes.length + 1
  | .lit _ => 1
  | .nil => 1
  | .ptr d => uptoBulk d + 1
  | .slice elems spare => uptoBulkAll elems + uptoBulkAll spare + 1
  | .agg parts => uptoBulkAll parts + 1
  | .iface _ d => uptoBulk d + 1
  | .map entries => uptoBulkEntries entries + 1
  | .held _ => 1
def uptoBulkAll {H : Type} : List (DataW H) → Nat
  | [] => 0
  | d :: r => uptoBulk d + uptoBulkAll r
def uptoBulkEntries {H : Type} : List (Lit × DataW H) → Nat
  | [] => 0
  | x :: r => uptoBulkEntry x + uptoBulkEntries r
def uptoBulkEntry {H : Type} : Lit × DataW H → Nat
  | (.string bytes, d) => bytes.length + uptoBulk d + 1
  | (_, d) => uptoBulk d + 1
 end
def uptoSmall : (H : Type) → List (DataW H) → Bool := fun _ ds => decide (uptoBulkAll ds ≤ 1048576)
def OpenSpec.upto (s : _root_.Go.ChangeSpec) : _root_.Go.OpenSpec := { _root_.Go.OpenSpec.ofChange s with cond := some uptoSmall }

/-- 'laws.FnPredSpace', WHERE WHAT IT READS IS OF BULK AT MOST 1048576: true; the input reads as it did. -/
def fnPredSpaceUptoRow : OpenClaim := { program := "ytddkpimmcmnogabdoor", sum := "46978c3a6db01d2877e3d6ef47b569701e83e62a20591cd8fe5880a564632393", func := "loop.example/crossbuck/laws.FnPredSpace", spec := "fnPredSpace", inPlace := ["internal/reflectlite.TypeOf"], unfollowed := true, recurses := true, named := ["loop.example/crossbuck/impl.errPred"], ifaces := true, plainKeys := false, apart := false, laid := [("loop.example/crossbuck/impl.errPred", laid_loop_example_crossbuck_impl_errPred)], narrowed := true }
def FnPredSpaceUptoSaid : Prop := fnPredSpaceUptoRow.holds Tryd.pinned (OpenSpec.upto fnPredSpaceSpec)

/-- 'laws.FnPredAlg', WHERE WHAT IT READS IS OF BULK AT MOST 1048576: true; the input reads as it did. -/
def fnPredAlgUptoRow : OpenClaim := { program := "ytddkpimmcmnogabdoor", sum := "46978c3a6db01d2877e3d6ef47b569701e83e62a20591cd8fe5880a564632393", func := "loop.example/crossbuck/laws.FnPredAlg", spec := "fnPredAlg", inPlace := ["internal/reflectlite.TypeOf"], unfollowed := true, recurses := true, named := ["loop.example/crossbuck/impl.errPred"], ifaces := true, plainKeys := false, apart := false, laid := [("loop.example/crossbuck/impl.errPred", laid_loop_example_crossbuck_impl_errPred)], narrowed := true }
def FnPredAlgUptoSaid : Prop := fnPredAlgUptoRow.holds Tryd.pinned (OpenSpec.upto fnPredAlgSpec)

end Rows
end Go.Proofs.YtddkpimmcmnogabDoor
