/-
  NARROWER THAN 'FOR EVERY INPUT', by the rows' own cells (each row's printed sentence says how): FnExactPredOk: ifaces, laid · FnExactPredParts: ifaces, laid · FnExactPredHas: ifaces, laid · FnExactPredSame: ifaces, laid · FnExactPredDeep: ifaces, laid · FnExactPredSpace: ifaces, laid · FnPredParts: ifaces, laid · FnPredSame: ifaces, laid · FnPredDeep: ifaces, laid · FnPredForm: ifaces, laid · FnPredNot: ifaces, laid · FnPredHas: ifaces, laid.
  DERIVED. THE GIVEN ROWS OF THIS SEAT. 12 by the template 'for every input the law returns true; each argument reads behind the call as it read before'; 0 by the template 'total and deterministic' (their statements: YtddkpimmcmnogaaDoorTotals.lean).
  GIVEN WITH THE SEED: the statements are not yours to turn. If you find one false, say at which input.
  Laid BY PROGRAM, IN A SANDBOX (cutbox-rows.mjs): the forced cells as the released guide's own fill.sh prints them over the translation ce9ee35b5325143f… (all of the seat's roots in one cut). By AI agents, Wed Nov 11 2026. No macro, syntax, notation, axiom, sorry.
-/
import Derived.Test.YtddkpimmcmnogaaDoorChecked
import GoSem.Claim
import GoSem.ClaimJoined
import GoSem.ClaimMapViews
import Derived.JoinedTies
import Derived.KernelRfl
namespace Go.Proofs.YtddkpimmcmnogaaDoor
/- THE CELL 'sum', in the pinned program and in every row, IS THE sha256 OF THE DUMP (.gsa) THAT YtddkpimmcmnogaaDoorProg.lean LOADS. Nothing in Lean hashes anything: it is a label: what it is worth is what the hold of that sum in a sandbox is worth. -/
noncomputable def Tryd.pinned : Pinned := { name := "ytddkpimmcmnogaadoor", sum := "ce9ee35b5325143f101df4a8f59595a5d404149ff2b8d98d4a265d6d46e55b3c", checked := Tryd.checked }
namespace Rows
def none {H : Type} : Left H := { results := [], args := [] }

/- WHAT THE LISTED PACKAGE-LEVEL VARIABLES READ AS WHEN THE CALL BEGINS. Each datum BY PROGRAM (the guide's laid-datum.mjs) off the statement by which the dump's own 'gosem.cut.vars' lays the variable. In a bare row this is a premise. The card (YtddkpimmcmnogaaDoorCards.lean) ties it to the program's text. -/
def laid_loop_example_crossbuck_impl_errPred {H : Type} : DataW H := .iface "*errors.errorString" (.ptr (.agg [.lit (.string [110, 111, 32, 99, 111, 110, 100, 105, 116, 105, 111, 110])]))

/-- 'laws.FnExactPredOk': WHATEVER THE INPUT: true; the input reads as it did. -/
def fnExactPredOkSpec : ChangeSpec := { name := "fnExactPredOk", vars := ["loop.example/crossbuck/impl.errPred"], fn := fun _ => fun
  | [d, g1] => { results := [.lit (.bool true)], args := [d], vars := [g1] }
  | _ => none }
def fnExactPredOkRow : OpenClaim := { program := "ytddkpimmcmnogaadoor", sum := "ce9ee35b5325143f101df4a8f59595a5d404149ff2b8d98d4a265d6d46e55b3c", func := "loop.example/crossbuck/laws.FnExactPredOk", spec := "fnExactPredOk", inPlace := ["internal/reflectlite.TypeOf"], unfollowed := true, recurses := true, named := ["loop.example/crossbuck/impl.errPred"], ifaces := true, plainKeys := false, apart := false, laid := [("loop.example/crossbuck/impl.errPred", laid_loop_example_crossbuck_impl_errPred)] }
def FnExactPredOkSaid : Prop := fnExactPredOkRow.holds Tryd.pinned (OpenSpec.ofChange fnExactPredOkSpec)

/-- ITS FALSE NEIGHBOUR: 'it returns false'. Refute it at one input. -/
def fnExactPredOkWrong : ChangeSpec := { name := "fnExactPredOk", vars := ["loop.example/crossbuck/impl.errPred"], fn := fun _ => fun
  | [d, g1] => { results := [.lit (.bool false)], args := [d], vars := [g1] }
  | _ => none }
def FnExactPredOkWrongFalsely : Prop := fnExactPredOkRow.holds Tryd.pinned (OpenSpec.ofChange fnExactPredOkWrong)

/-- 'laws.FnExactPredParts': WHATEVER THE INPUT: true; the input reads as it did. -/
def fnExactPredPartsSpec : ChangeSpec := { name := "fnExactPredParts", vars := ["loop.example/crossbuck/impl.errPred"], fn := fun _ => fun
  | [d, g1] => { results := [.lit (.bool true)], args := [d], vars := [g1] }
  | _ => none }
def fnExactPredPartsRow : OpenClaim := { program := "ytddkpimmcmnogaadoor", sum := "ce9ee35b5325143f101df4a8f59595a5d404149ff2b8d98d4a265d6d46e55b3c", func := "loop.example/crossbuck/laws.FnExactPredParts", spec := "fnExactPredParts", inPlace := ["internal/reflectlite.TypeOf"], unfollowed := true, recurses := true, named := ["loop.example/crossbuck/impl.errPred"], ifaces := true, plainKeys := false, apart := false, laid := [("loop.example/crossbuck/impl.errPred", laid_loop_example_crossbuck_impl_errPred)] }
def FnExactPredPartsSaid : Prop := fnExactPredPartsRow.holds Tryd.pinned (OpenSpec.ofChange fnExactPredPartsSpec)

/-- ITS FALSE NEIGHBOUR: 'it returns false'. Refute it at one input. -/
def fnExactPredPartsWrong : ChangeSpec := { name := "fnExactPredParts", vars := ["loop.example/crossbuck/impl.errPred"], fn := fun _ => fun
  | [d, g1] => { results := [.lit (.bool false)], args := [d], vars := [g1] }
  | _ => none }
def FnExactPredPartsWrongFalsely : Prop := fnExactPredPartsRow.holds Tryd.pinned (OpenSpec.ofChange fnExactPredPartsWrong)

/-- 'laws.FnExactPredHas': WHATEVER THE INPUT: true; the input reads as it did. -/
def fnExactPredHasSpec : ChangeSpec := { name := "fnExactPredHas", vars := ["loop.example/crossbuck/impl.errPred"], fn := fun _ => fun
  | [d1, d2, g1] => { results := [.lit (.bool true)], args := [d1, d2], vars := [g1] }
  | _ => none }
def fnExactPredHasRow : OpenClaim := { program := "ytddkpimmcmnogaadoor", sum := "ce9ee35b5325143f101df4a8f59595a5d404149ff2b8d98d4a265d6d46e55b3c", func := "loop.example/crossbuck/laws.FnExactPredHas", spec := "fnExactPredHas", inPlace := ["internal/reflectlite.TypeOf"], unfollowed := true, recurses := true, named := ["loop.example/crossbuck/impl.errPred"], ifaces := true, plainKeys := false, apart := false, laid := [("loop.example/crossbuck/impl.errPred", laid_loop_example_crossbuck_impl_errPred)] }
def FnExactPredHasSaid : Prop := fnExactPredHasRow.holds Tryd.pinned (OpenSpec.ofChange fnExactPredHasSpec)

/-- ITS FALSE NEIGHBOUR: 'it returns false'. Refute it at one input. -/
def fnExactPredHasWrong : ChangeSpec := { name := "fnExactPredHas", vars := ["loop.example/crossbuck/impl.errPred"], fn := fun _ => fun
  | [d1, d2, g1] => { results := [.lit (.bool false)], args := [d1, d2], vars := [g1] }
  | _ => none }
def FnExactPredHasWrongFalsely : Prop := fnExactPredHasRow.holds Tryd.pinned (OpenSpec.ofChange fnExactPredHasWrong)

/-- 'laws.FnExactPredSame': WHATEVER THE INPUT: true; the input reads as it did. -/
def fnExactPredSameSpec : ChangeSpec := { name := "fnExactPredSame", vars := ["loop.example/crossbuck/impl.errPred"], fn := fun _ => fun
  | [d1, d2, g1] => { results := [.lit (.bool true)], args := [d1, d2], vars := [g1] }
  | _ => none }
def fnExactPredSameRow : OpenClaim := { program := "ytddkpimmcmnogaadoor", sum := "ce9ee35b5325143f101df4a8f59595a5d404149ff2b8d98d4a265d6d46e55b3c", func := "loop.example/crossbuck/laws.FnExactPredSame", spec := "fnExactPredSame", inPlace := ["internal/reflectlite.TypeOf"], unfollowed := true, recurses := true, named := ["loop.example/crossbuck/impl.errPred"], ifaces := true, plainKeys := false, apart := false, laid := [("loop.example/crossbuck/impl.errPred", laid_loop_example_crossbuck_impl_errPred)] }
def FnExactPredSameSaid : Prop := fnExactPredSameRow.holds Tryd.pinned (OpenSpec.ofChange fnExactPredSameSpec)

/-- ITS FALSE NEIGHBOUR: 'it returns false'. Refute it at one input. -/
def fnExactPredSameWrong : ChangeSpec := { name := "fnExactPredSame", vars := ["loop.example/crossbuck/impl.errPred"], fn := fun _ => fun
  | [d1, d2, g1] => { results := [.lit (.bool false)], args := [d1, d2], vars := [g1] }
  | _ => none }
def FnExactPredSameWrongFalsely : Prop := fnExactPredSameRow.holds Tryd.pinned (OpenSpec.ofChange fnExactPredSameWrong)

/-- 'laws.FnExactPredDeep': WHATEVER THE INPUT: true; the input reads as it did. -/
def fnExactPredDeepSpec : ChangeSpec := { name := "fnExactPredDeep", vars := ["loop.example/crossbuck/impl.errPred"], fn := fun _ => fun
  | [d, g1] => { results := [.lit (.bool true)], args := [d], vars := [g1] }
  | _ => none }
def fnExactPredDeepRow : OpenClaim := { program := "ytddkpimmcmnogaadoor", sum := "ce9ee35b5325143f101df4a8f59595a5d404149ff2b8d98d4a265d6d46e55b3c", func := "loop.example/crossbuck/laws.FnExactPredDeep", spec := "fnExactPredDeep", inPlace := ["internal/reflectlite.TypeOf"], unfollowed := true, recurses := true, named := ["loop.example/crossbuck/impl.errPred"], ifaces := true, plainKeys := false, apart := false, laid := [("loop.example/crossbuck/impl.errPred", laid_loop_example_crossbuck_impl_errPred)] }
def FnExactPredDeepSaid : Prop := fnExactPredDeepRow.holds Tryd.pinned (OpenSpec.ofChange fnExactPredDeepSpec)

/-- ITS FALSE NEIGHBOUR: 'it returns false'. Refute it at one input. -/
def fnExactPredDeepWrong : ChangeSpec := { name := "fnExactPredDeep", vars := ["loop.example/crossbuck/impl.errPred"], fn := fun _ => fun
  | [d, g1] => { results := [.lit (.bool false)], args := [d], vars := [g1] }
  | _ => none }
def FnExactPredDeepWrongFalsely : Prop := fnExactPredDeepRow.holds Tryd.pinned (OpenSpec.ofChange fnExactPredDeepWrong)

/-- 'laws.FnExactPredSpace': WHATEVER THE INPUT: true; the input reads as it did. -/
def fnExactPredSpaceSpec : ChangeSpec := { name := "fnExactPredSpace", vars := ["loop.example/crossbuck/impl.errPred"], fn := fun _ => fun
  | [d, g1] => { results := [.lit (.bool true)], args := [d], vars := [g1] }
  | _ => none }
def fnExactPredSpaceRow : OpenClaim := { program := "ytddkpimmcmnogaadoor", sum := "ce9ee35b5325143f101df4a8f59595a5d404149ff2b8d98d4a265d6d46e55b3c", func := "loop.example/crossbuck/laws.FnExactPredSpace", spec := "fnExactPredSpace", inPlace := ["internal/reflectlite.TypeOf"], unfollowed := true, recurses := true, named := ["loop.example/crossbuck/impl.errPred"], ifaces := true, plainKeys := false, apart := false, laid := [("loop.example/crossbuck/impl.errPred", laid_loop_example_crossbuck_impl_errPred)] }
def FnExactPredSpaceSaid : Prop := fnExactPredSpaceRow.holds Tryd.pinned (OpenSpec.ofChange fnExactPredSpaceSpec)

/-- ITS FALSE NEIGHBOUR: 'it returns false'. Refute it at one input. -/
def fnExactPredSpaceWrong : ChangeSpec := { name := "fnExactPredSpace", vars := ["loop.example/crossbuck/impl.errPred"], fn := fun _ => fun
  | [d, g1] => { results := [.lit (.bool false)], args := [d], vars := [g1] }
  | _ => none }
def FnExactPredSpaceWrongFalsely : Prop := fnExactPredSpaceRow.holds Tryd.pinned (OpenSpec.ofChange fnExactPredSpaceWrong)

/-- 'laws.FnPredParts': WHATEVER THE INPUT: true; the input reads as it did. -/
def fnPredPartsSpec : ChangeSpec := { name := "fnPredParts", vars := ["loop.example/crossbuck/impl.errPred"], fn := fun _ => fun
  | [d, g1] => { results := [.lit (.bool true)], args := [d], vars := [g1] }
  | _ => none }
def fnPredPartsRow : OpenClaim := { program := "ytddkpimmcmnogaadoor", sum := "ce9ee35b5325143f101df4a8f59595a5d404149ff2b8d98d4a265d6d46e55b3c", func := "loop.example/crossbuck/laws.FnPredParts", spec := "fnPredParts", inPlace := ["internal/reflectlite.TypeOf"], unfollowed := true, recurses := true, named := ["loop.example/crossbuck/impl.errPred"], ifaces := true, plainKeys := false, apart := false, laid := [("loop.example/crossbuck/impl.errPred", laid_loop_example_crossbuck_impl_errPred)] }
def FnPredPartsSaid : Prop := fnPredPartsRow.holds Tryd.pinned (OpenSpec.ofChange fnPredPartsSpec)

/-- ITS FALSE NEIGHBOUR: 'it returns false'. Refute it at one input. -/
def fnPredPartsWrong : ChangeSpec := { name := "fnPredParts", vars := ["loop.example/crossbuck/impl.errPred"], fn := fun _ => fun
  | [d, g1] => { results := [.lit (.bool false)], args := [d], vars := [g1] }
  | _ => none }
def FnPredPartsWrongFalsely : Prop := fnPredPartsRow.holds Tryd.pinned (OpenSpec.ofChange fnPredPartsWrong)

/-- 'laws.FnPredSame': WHATEVER THE INPUT: true; the input reads as it did. -/
def fnPredSameSpec : ChangeSpec := { name := "fnPredSame", vars := ["loop.example/crossbuck/impl.errPred"], fn := fun _ => fun
  | [d, g1] => { results := [.lit (.bool true)], args := [d], vars := [g1] }
  | _ => none }
def fnPredSameRow : OpenClaim := { program := "ytddkpimmcmnogaadoor", sum := "ce9ee35b5325143f101df4a8f59595a5d404149ff2b8d98d4a265d6d46e55b3c", func := "loop.example/crossbuck/laws.FnPredSame", spec := "fnPredSame", inPlace := ["internal/reflectlite.TypeOf"], unfollowed := true, recurses := true, named := ["loop.example/crossbuck/impl.errPred"], ifaces := true, plainKeys := false, apart := false, laid := [("loop.example/crossbuck/impl.errPred", laid_loop_example_crossbuck_impl_errPred)] }
def FnPredSameSaid : Prop := fnPredSameRow.holds Tryd.pinned (OpenSpec.ofChange fnPredSameSpec)

/-- ITS FALSE NEIGHBOUR: 'it returns false'. Refute it at one input. -/
def fnPredSameWrong : ChangeSpec := { name := "fnPredSame", vars := ["loop.example/crossbuck/impl.errPred"], fn := fun _ => fun
  | [d, g1] => { results := [.lit (.bool false)], args := [d], vars := [g1] }
  | _ => none }
def FnPredSameWrongFalsely : Prop := fnPredSameRow.holds Tryd.pinned (OpenSpec.ofChange fnPredSameWrong)

/-- 'laws.FnPredDeep': WHATEVER THE INPUT: true; the input reads as it did. -/
def fnPredDeepSpec : ChangeSpec := { name := "fnPredDeep", vars := ["loop.example/crossbuck/impl.errPred"], fn := fun _ => fun
  | [d, g1] => { results := [.lit (.bool true)], args := [d], vars := [g1] }
  | _ => none }
def fnPredDeepRow : OpenClaim := { program := "ytddkpimmcmnogaadoor", sum := "ce9ee35b5325143f101df4a8f59595a5d404149ff2b8d98d4a265d6d46e55b3c", func := "loop.example/crossbuck/laws.FnPredDeep", spec := "fnPredDeep", inPlace := ["internal/reflectlite.TypeOf"], unfollowed := true, recurses := true, named := ["loop.example/crossbuck/impl.errPred"], ifaces := true, plainKeys := false, apart := false, laid := [("loop.example/crossbuck/impl.errPred", laid_loop_example_crossbuck_impl_errPred)] }
def FnPredDeepSaid : Prop := fnPredDeepRow.holds Tryd.pinned (OpenSpec.ofChange fnPredDeepSpec)

/-- ITS FALSE NEIGHBOUR: 'it returns false'. Refute it at one input. -/
def fnPredDeepWrong : ChangeSpec := { name := "fnPredDeep", vars := ["loop.example/crossbuck/impl.errPred"], fn := fun _ => fun
  | [d, g1] => { results := [.lit (.bool false)], args := [d], vars := [g1] }
  | _ => none }
def FnPredDeepWrongFalsely : Prop := fnPredDeepRow.holds Tryd.pinned (OpenSpec.ofChange fnPredDeepWrong)

/-- 'laws.FnPredForm': WHATEVER THE INPUT: true; the input reads as it did. -/
def fnPredFormSpec : ChangeSpec := { name := "fnPredForm", vars := ["loop.example/crossbuck/impl.errPred"], fn := fun _ => fun
  | [d, g1] => { results := [.lit (.bool true)], args := [d], vars := [g1] }
  | _ => none }
def fnPredFormRow : OpenClaim := { program := "ytddkpimmcmnogaadoor", sum := "ce9ee35b5325143f101df4a8f59595a5d404149ff2b8d98d4a265d6d46e55b3c", func := "loop.example/crossbuck/laws.FnPredForm", spec := "fnPredForm", inPlace := ["internal/reflectlite.TypeOf"], unfollowed := true, recurses := true, named := ["loop.example/crossbuck/impl.errPred"], ifaces := true, plainKeys := false, apart := false, laid := [("loop.example/crossbuck/impl.errPred", laid_loop_example_crossbuck_impl_errPred)] }
def FnPredFormSaid : Prop := fnPredFormRow.holds Tryd.pinned (OpenSpec.ofChange fnPredFormSpec)

/-- ITS FALSE NEIGHBOUR: 'it returns false'. Refute it at one input. -/
def fnPredFormWrong : ChangeSpec := { name := "fnPredForm", vars := ["loop.example/crossbuck/impl.errPred"], fn := fun _ => fun
  | [d, g1] => { results := [.lit (.bool false)], args := [d], vars := [g1] }
  | _ => none }
def FnPredFormWrongFalsely : Prop := fnPredFormRow.holds Tryd.pinned (OpenSpec.ofChange fnPredFormWrong)

/-- 'laws.FnPredNot': WHATEVER THE INPUT: true; the input reads as it did. -/
def fnPredNotSpec : ChangeSpec := { name := "fnPredNot", vars := ["loop.example/crossbuck/impl.errPred"], fn := fun _ => fun
  | [d, g1] => { results := [.lit (.bool true)], args := [d], vars := [g1] }
  | _ => none }
def fnPredNotRow : OpenClaim := { program := "ytddkpimmcmnogaadoor", sum := "ce9ee35b5325143f101df4a8f59595a5d404149ff2b8d98d4a265d6d46e55b3c", func := "loop.example/crossbuck/laws.FnPredNot", spec := "fnPredNot", inPlace := ["internal/reflectlite.TypeOf"], unfollowed := true, recurses := true, named := ["loop.example/crossbuck/impl.errPred"], ifaces := true, plainKeys := false, apart := false, laid := [("loop.example/crossbuck/impl.errPred", laid_loop_example_crossbuck_impl_errPred)] }
def FnPredNotSaid : Prop := fnPredNotRow.holds Tryd.pinned (OpenSpec.ofChange fnPredNotSpec)

/-- ITS FALSE NEIGHBOUR: 'it returns false'. Refute it at one input. -/
def fnPredNotWrong : ChangeSpec := { name := "fnPredNot", vars := ["loop.example/crossbuck/impl.errPred"], fn := fun _ => fun
  | [d, g1] => { results := [.lit (.bool false)], args := [d], vars := [g1] }
  | _ => none }
def FnPredNotWrongFalsely : Prop := fnPredNotRow.holds Tryd.pinned (OpenSpec.ofChange fnPredNotWrong)

/-- 'laws.FnPredHas': WHATEVER THE INPUT: true; the input reads as it did. -/
def fnPredHasSpec : ChangeSpec := { name := "fnPredHas", vars := ["loop.example/crossbuck/impl.errPred"], fn := fun _ => fun
  | [d, g1] => { results := [.lit (.bool true)], args := [d], vars := [g1] }
  | _ => none }
def fnPredHasRow : OpenClaim := { program := "ytddkpimmcmnogaadoor", sum := "ce9ee35b5325143f101df4a8f59595a5d404149ff2b8d98d4a265d6d46e55b3c", func := "loop.example/crossbuck/laws.FnPredHas", spec := "fnPredHas", inPlace := ["internal/reflectlite.TypeOf"], unfollowed := true, recurses := true, named := ["loop.example/crossbuck/impl.errPred"], ifaces := true, plainKeys := false, apart := false, laid := [("loop.example/crossbuck/impl.errPred", laid_loop_example_crossbuck_impl_errPred)] }
def FnPredHasSaid : Prop := fnPredHasRow.holds Tryd.pinned (OpenSpec.ofChange fnPredHasSpec)

/-- ITS FALSE NEIGHBOUR: 'it returns false'. Refute it at one input. -/
def fnPredHasWrong : ChangeSpec := { name := "fnPredHas", vars := ["loop.example/crossbuck/impl.errPred"], fn := fun _ => fun
  | [d, g1] => { results := [.lit (.bool false)], args := [d], vars := [g1] }
  | _ => none }
def FnPredHasWrongFalsely : Prop := fnPredHasRow.holds Tryd.pinned (OpenSpec.ofChange fnPredHasWrong)

/- THE SECOND FORM. 'bulk': how many values and letters a reading holds, each counted each time it is reached (what is shared counts as often as it is met; a slice's spare places count too). A statement '..UptoSaid' is the law's where the arguments, and the package variables that the reading takes, are together of bulk at most 1048576: NARROWER than '..Said'. Prove '..Said' where nothing that the law and all that it calls make is longer than what came in: it says more and counts as full. Else prove '..UptoSaid'. A law counts once. -/
mutual
def uptoBulk {H : Type} : DataW H → Nat
  | .lit (.string bytes) => bytes.length + 1
  | .lit _ => 1
  | .nil => 1
  | .ptr d => uptoBulk d + 1
  | .slice elems spare => uptoBulkAll elems + uptoBulkAll spare + 1
  | .agg parts => uptoBulkAll parts + 1
  | .iface _ d => uptoBulk d + 1
  | .map entries => uptoBulkEntries entries + 1
  | .held _ => 1
def uptoBulkAll {H : Type} : List (DataW H) → Nat
  | [] => 0
  | d :: r => uptoBulk d + uptoBulkAll r
def uptoBulkEntries {H : Type} : List (Lit × DataW H) → Nat
  | [] => 0
  | x :: r => uptoBulkEntry x + uptoBulkEntries r
def uptoBulkEntry {H : Type} : Lit × DataW H → Nat
  | (.string bytes, d) => bytes.length + uptoBulk d + 1
  | (_, d) => uptoBulk d + 1
 end
def uptoSmall : (H : Type) → List (DataW H) → Bool := fun _ ds => decide (uptoBulkAll ds ≤ 1048576)
def OpenSpec.upto (s : _root_.Go.ChangeSpec) : _root_.Go.OpenSpec := { _root_.Go.OpenSpec.ofChange s with cond := some uptoSmall }

/-- 'laws.FnExactPredOk', WHERE WHAT IT READS IS OF BULK AT MOST 1048576: true; the input reads as it did. -/
def fnExactPredOkUptoRow : OpenClaim := { program := "ytddkpimmcmnogaadoor", sum := "ce9ee35b5325143f101df4a8f59595a5d404149ff2b8d98d4a265d6d46e55b3c", func := "loop.example/crossbuck/laws.FnExactPredOk", spec := "fnExactPredOk", inPlace := ["internal/reflectlite.TypeOf"], unfollowed := true, recurses := true, named := ["loop.example/crossbuck/impl.errPred"], ifaces := true, plainKeys := false, apart := false, laid := [("loop.example/crossbuck/impl.errPred", laid_loop_example_crossbuck_impl_errPred)], narrowed := true }
def FnExactPredOkUptoSaid : Prop := fnExactPredOkUptoRow.holds Tryd.pinned (OpenSpec.upto fnExactPredOkSpec)

/-- 'laws.FnExactPredParts', WHERE WHAT IT READS IS OF BULK AT MOST 1048576: true; the input reads as it did. -/
def fnExactPredPartsUptoRow : OpenClaim := { program := "ytddkpimmcmnogaadoor", sum := "ce9ee35b5325143f101df4a8f59595a5d404149ff2b8d98d4a265d6d46e55b3c", func := "loop.example/crossbuck/laws.FnExactPredParts", spec := "fnExactPredParts", inPlace := ["internal/reflectlite.TypeOf"], unfollowed := true, recurses := true, named := ["loop.example/crossbuck/impl.errPred"], ifaces := true, plainKeys := false, apart := false, laid := [("loop.example/crossbuck/impl.errPred", laid_loop_example_crossbuck_impl_errPred)], narrowed := true }
def FnExactPredPartsUptoSaid : Prop := fnExactPredPartsUptoRow.holds Tryd.pinned (OpenSpec.upto fnExactPredPartsSpec)

/-- 'laws.FnExactPredHas', WHERE WHAT IT READS IS OF BULK AT MOST 1048576: true; the input reads as it did. -/
def fnExactPredHasUptoRow : OpenClaim := { program := "ytddkpimmcmnogaadoor", sum := "ce9ee35b5325143f101df4a8f59595a5d404149ff2b8d98d4a265d6d46e55b3c", func := "loop.example/crossbuck/laws.FnExactPredHas", spec := "fnExactPredHas", inPlace := ["internal/reflectlite.TypeOf"], unfollowed := true, recurses := true, named := ["loop.example/crossbuck/impl.errPred"], ifaces := true, plainKeys := false, apart := false, laid := [("loop.example/crossbuck/impl.errPred", laid_loop_example_crossbuck_impl_errPred)], narrowed := true }
def FnExactPredHasUptoSaid : Prop := fnExactPredHasUptoRow.holds Tryd.pinned (OpenSpec.upto fnExactPredHasSpec)

/-- 'laws.FnExactPredSame', WHERE WHAT IT READS IS OF BULK AT MOST 1048576: true; the input reads as it did. -/
def fnExactPredSameUptoRow : OpenClaim := { program := "ytddkpimmcmnogaadoor", sum := "ce9ee35b5325143f101df4a8f59595a5d404149ff2b8d98d4a265d6d46e55b3c", func := "loop.example/crossbuck/laws.FnExactPredSame", spec := "fnExactPredSame", inPlace := ["internal/reflectlite.TypeOf"], unfollowed := true, recurses := true, named := ["loop.example/crossbuck/impl.errPred"], ifaces := true, plainKeys := false, apart := false, laid := [("loop.example/crossbuck/impl.errPred", laid_loop_example_crossbuck_impl_errPred)], narrowed := true }
def FnExactPredSameUptoSaid : Prop := fnExactPredSameUptoRow.holds Tryd.pinned (OpenSpec.upto fnExactPredSameSpec)

/-- 'laws.FnExactPredDeep', WHERE WHAT IT READS IS OF BULK AT MOST 1048576: true; the input reads as it did. -/
def fnExactPredDeepUptoRow : OpenClaim := { program := "ytddkpimmcmnogaadoor", sum := "ce9ee35b5325143f101df4a8f59595a5d404149ff2b8d98d4a265d6d46e55b3c", func := "loop.example/crossbuck/laws.FnExactPredDeep", spec := "fnExactPredDeep", inPlace := ["internal/reflectlite.TypeOf"], unfollowed := true, recurses := true, named := ["loop.example/crossbuck/impl.errPred"], ifaces := true, plainKeys := false, apart := false, laid := [("loop.example/crossbuck/impl.errPred", laid_loop_example_crossbuck_impl_errPred)], narrowed := true }
def FnExactPredDeepUptoSaid : Prop := fnExactPredDeepUptoRow.holds Tryd.pinned (OpenSpec.upto fnExactPredDeepSpec)

/-- 'laws.FnExactPredSpace', WHERE WHAT IT READS IS OF BULK AT MOST 1048576: true; the input reads as it did. -/
def fnExactPredSpaceUptoRow : OpenClaim := { program := "ytddkpimmcmnogaadoor", sum := "ce9ee35b5325143f101df4a8f59595a5d404149ff2b8d98d4a265d6d46e55b3c", func := "loop.example/crossbuck/laws.FnExactPredSpace", spec := "fnExactPredSpace", inPlace := ["internal/reflectlite.TypeOf"], unfollowed := true, recurses := true, named := ["loop.example/crossbuck/impl.errPred"], ifaces := true, plainKeys := false, apart := false, laid := [("loop.example/crossbuck/impl.errPred", laid_loop_example_crossbuck_impl_errPred)], narrowed := true }
def FnExactPredSpaceUptoSaid : Prop := fnExactPredSpaceUptoRow.holds Tryd.pinned (OpenSpec.upto fnExactPredSpaceSpec)

/-- 'laws.FnPredParts', WHERE WHAT IT READS IS OF BULK AT MOST 1048576: true; the input reads as it did. -/
def fnPredPartsUptoRow : OpenClaim := { program := "ytddkpimmcmnogaadoor", sum := "ce9ee35b5325143f101df4a8f59595a5d404149ff2b8d98d4a265d6d46e55b3c", func := "loop.example/crossbuck/laws.FnPredParts", spec := "fnPredParts", inPlace := ["internal/reflectlite.TypeOf"], unfollowed := true, recurses := true, named := ["loop.example/crossbuck/impl.errPred"], ifaces := true, plainKeys := false, apart := false, laid := [("loop.example/crossbuck/impl.errPred", laid_loop_example_crossbuck_impl_errPred)], narrowed := true }
def FnPredPartsUptoSaid : Prop := fnPredPartsUptoRow.holds Tryd.pinned (OpenSpec.upto fnPredPartsSpec)

/-- 'laws.FnPredSame', WHERE WHAT IT READS IS OF BULK AT MOST 1048576: true; the input reads as it did. -/
def fnPredSameUptoRow : OpenClaim := { program := "ytddkpimmcmnogaadoor", sum := "ce9ee35b5325143f101df4a8f59595a5d404149ff2b8d98d4a265d6d46e55b3c", func := "loop.example/crossbuck/laws.FnPredSame", spec := "fnPredSame", inPlace := ["internal/reflectlite.TypeOf"], unfollowed := true, recurses := true, named := ["loop.example/crossbuck/impl.errPred"], ifaces := true, plainKeys := false, apart := false, laid := [("loop.example/crossbuck/impl.errPred", laid_loop_example_crossbuck_impl_errPred)], narrowed := true }
def FnPredSameUptoSaid : Prop := fnPredSameUptoRow.holds Tryd.pinned (OpenSpec.upto fnPredSameSpec)

/-- 'laws.FnPredDeep', WHERE WHAT IT READS IS OF BULK AT MOST 1048576: true; the input reads as it did. -/
def fnPredDeepUptoRow : OpenClaim := { program := "ytddkpimmcmnogaadoor", sum := "ce9ee35b5325143f101df4a8f59595a5d404149ff2b8d98d4a265d6d46e55b3c", func := "loop.example/crossbuck/laws.FnPredDeep", spec := "fnPredDeep", inPlace := ["internal/reflectlite.TypeOf"], unfollowed := true, recurses := true, named := ["loop.example/crossbuck/impl.errPred"], ifaces := true, plainKeys := false, apart := false, laid := [("loop.example/crossbuck/impl.errPred", laid_loop_example_crossbuck_impl_errPred)], narrowed := true }
def FnPredDeepUptoSaid : Prop := fnPredDeepUptoRow.holds Tryd.pinned (OpenSpec.upto fnPredDeepSpec)

/-- 'laws.FnPredForm', WHERE WHAT IT READS IS OF BULK AT MOST 1048576: true; the input reads as it did. -/
def fnPredFormUptoRow : OpenClaim := { program := "ytddkpimmcmnogaadoor", sum := "ce9ee35b5325143f101df4a8f59595a5d404149ff2b8d98d4a265d6d46e55b3c", func := "loop.example/crossbuck/laws.FnPredForm", spec := "fnPredForm", inPlace := ["internal/reflectlite.TypeOf"], unfollowed := true, recurses := true, named := ["loop.example/crossbuck/impl.errPred"], ifaces := true, plainKeys := false, apart := false, laid := [("loop.example/crossbuck/impl.errPred", laid_loop_example_crossbuck_impl_errPred)], narrowed := true }
def FnPredFormUptoSaid : Prop := fnPredFormUptoRow.holds Tryd.pinned (OpenSpec.upto fnPredFormSpec)

/-- 'laws.FnPredNot', WHERE WHAT IT READS IS OF BULK AT MOST 1048576: true; the input reads as it did. -/
def fnPredNotUptoRow : OpenClaim := { program := "ytddkpimmcmnogaadoor", sum := "ce9ee35b5325143f101df4a8f59595a5d404149ff2b8d98d4a265d6d46e55b3c", func := "loop.example/crossbuck/laws.FnPredNot", spec := "fnPredNot", inPlace := ["internal/reflectlite.TypeOf"], unfollowed := true, recurses := true, named := ["loop.example/crossbuck/impl.errPred"], ifaces := true, plainKeys := false, apart := false, laid := [("loop.example/crossbuck/impl.errPred", laid_loop_example_crossbuck_impl_errPred)], narrowed := true }
def FnPredNotUptoSaid : Prop := fnPredNotUptoRow.holds Tryd.pinned (OpenSpec.upto fnPredNotSpec)

/-- 'laws.FnPredHas', WHERE WHAT IT READS IS OF BULK AT MOST 1048576: true; the input reads as it did. -/
def fnPredHasUptoRow : OpenClaim := { program := "ytddkpimmcmnogaadoor", sum := "ce9ee35b5325143f101df4a8f59595a5d404149ff2b8d98d4a265d6d46e55b3c", func := "loop.example/crossbuck/laws.FnPredHas", spec := "fnPredHas", inPlace := ["internal/reflectlite.TypeOf"], unfollowed := true, recurses := true, named := ["loop.example/crossbuck/impl.errPred"], ifaces := true, plainKeys := false, apart := false, laid := [("loop.example/crossbuck/impl.errPred", laid_loop_example_crossbuck_impl_errPred)], narrowed := true }
def FnPredHasUptoSaid : Prop := fnPredHasUptoRow.holds Tryd.pinned (OpenSpec.upto fnPredHasSpec)

end Rows
end Go.Proofs.YtddkpimmcmnogaaDoor
