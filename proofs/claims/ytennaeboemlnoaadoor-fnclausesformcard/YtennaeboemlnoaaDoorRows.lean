/-
  NARROWER THAN 'FOR EVERY INPUT', by the rows' own cells (each row's printed sentence says how): FnExactClausesOk: ifaces, laid · FnExactClausesDo: ifaces, laid · FnExactClausesTable: ifaces, laid · FnClausesDo: ifaces, laid · FnClausesRules: ifaces, laid · FnClausesMore: ifaces, laid · FnClausesForm: ifaces, laid · FnClausesSwap: ifaces, laid · FnTableForm: laid.
  DERIVED. THE GIVEN ROWS OF THIS SEAT. 9 by the template 'for every input the law returns true; each argument reads behind the call as it read before'; 0 by the template 'total and deterministic' (their statements: YtennaeboemlnoaaDoorTotals.lean).
  GIVEN WITH THE SEED: the statements are not yours to turn. If you find one false, say at which input.
  Laid BY PROGRAM, IN A SANDBOX (cutbox-rows.mjs): the forced cells as the released guide's own fill.sh prints them over the translation 2fe8b1ddc692098e… (all of the seat's roots in one cut). By AI agents, Wed Nov 11 2026. No macro, syntax, notation, axiom, sorry.
-/
import Derived.Test.YtennaeboemlnoaaDoorChecked
import GoSem.Claim
import GoSem.ClaimJoined
import GoSem.ClaimMapViews
import Derived.JoinedTies
import Derived.KernelRfl
namespace Go.Proofs.YtennaeboemlnoaaDoor
/- THE CELL 'sum', in the pinned program and in every row, IS THE sha256 OF THE DUMP (.gsa) THAT YtennaeboemlnoaaDoorProg.lean LOADS. Nothing in Lean hashes anything: it is a label: what it is worth is what the hold of that sum in a sandbox is worth. -/
noncomputable def Tryd.pinned : Pinned := { name := "ytennaeboemlnoaadoor", sum := "2fe8b1ddc692098e2a1a2a170aaab24ad80c36b31dcfc4d04d89b1e210d968dc", checked := Tryd.checked }
namespace Rows
def none {H : Type} : Left H := { results := [], args := [] }

/- WHAT THE LISTED PACKAGE-LEVEL VARIABLES READ AS WHEN THE CALL BEGINS. Each datum BY PROGRAM (the guide's laid-datum.mjs) off the statement by which the dump's own 'gosem.cut.vars' lays the variable. In a bare row this is a premise. The card (YtennaeboemlnoaaDoorCards.lean) ties it to the program's text. -/
def laid_loop_example_crossbuck_impl_errPred {H : Type} : DataW H := .iface "*errors.errorString" (.ptr (.agg [.lit (.string [110, 111, 32, 99, 111, 110, 100, 105, 116, 105, 111, 110])]))
def laid_math_bits_deBruijn32tab {H : Type} : DataW H := .agg [.lit (.int .u8 0), .lit (.int .u8 1), .lit (.int .u8 28), .lit (.int .u8 2), .lit (.int .u8 29), .lit (.int .u8 14), .lit (.int .u8 24), .lit (.int .u8 3), .lit (.int .u8 30), .lit (.int .u8 22), .lit (.int .u8 20), .lit (.int .u8 15), .lit (.int .u8 25), .lit (.int .u8 17), .lit (.int .u8 4), .lit (.int .u8 8), .lit (.int .u8 31), .lit (.int .u8 27), .lit (.int .u8 13), .lit (.int .u8 23), .lit (.int .u8 21), .lit (.int .u8 19), .lit (.int .u8 16), .lit (.int .u8 7), .lit (.int .u8 26), .lit (.int .u8 12), .lit (.int .u8 18), .lit (.int .u8 6), .lit (.int .u8 11), .lit (.int .u8 5), .lit (.int .u8 10), .lit (.int .u8 9)]
def laid_math_bits_deBruijn64tab {H : Type} : DataW H := .agg [.lit (.int .u8 0), .lit (.int .u8 1), .lit (.int .u8 56), .lit (.int .u8 2), .lit (.int .u8 57), .lit (.int .u8 49), .lit (.int .u8 28), .lit (.int .u8 3), .lit (.int .u8 61), .lit (.int .u8 58), .lit (.int .u8 42), .lit (.int .u8 50), .lit (.int .u8 38), .lit (.int .u8 29), .lit (.int .u8 17), .lit (.int .u8 4), .lit (.int .u8 62), .lit (.int .u8 47), .lit (.int .u8 59), .lit (.int .u8 36), .lit (.int .u8 45), .lit (.int .u8 43), .lit (.int .u8 51), .lit (.int .u8 22), .lit (.int .u8 53), .lit (.int .u8 39), .lit (.int .u8 33), .lit (.int .u8 30), .lit (.int .u8 24), .lit (.int .u8 18), .lit (.int .u8 12), .lit (.int .u8 5), .lit (.int .u8 63), .lit (.int .u8 55), .lit (.int .u8 48), .lit (.int .u8 27), .lit (.int .u8 60), .lit (.int .u8 41), .lit (.int .u8 37), .lit (.int .u8 16), .lit (.int .u8 46), .lit (.int .u8 35), .lit (.int .u8 44), .lit (.int .u8 21), .lit (.int .u8 52), .lit (.int .u8 32), .lit (.int .u8 23), .lit (.int .u8 11), .lit (.int .u8 54), .lit (.int .u8 26), .lit (.int .u8 40), .lit (.int .u8 15), .lit (.int .u8 34), .lit (.int .u8 20), .lit (.int .u8 31), .lit (.int .u8 10), .lit (.int .u8 25), .lit (.int .u8 14), .lit (.int .u8 19), .lit (.int .u8 9), .lit (.int .u8 13), .lit (.int .u8 8), .lit (.int .u8 7), .lit (.int .u8 6)]
def laid_internal_strconv_uint64pow10 {H : Type} : DataW H := .agg [.lit (.int .u64 1), .lit (.int .u64 10), .lit (.int .u64 100), .lit (.int .u64 1000), .lit (.int .u64 10000), .lit (.int .u64 100000), .lit (.int .u64 1000000), .lit (.int .u64 10000000), .lit (.int .u64 100000000), .lit (.int .u64 1000000000), .lit (.int .u64 10000000000), .lit (.int .u64 100000000000), .lit (.int .u64 1000000000000), .lit (.int .u64 10000000000000), .lit (.int .u64 100000000000000), .lit (.int .u64 1000000000000000), .lit (.int .u64 10000000000000000), .lit (.int .u64 100000000000000000), .lit (.int .u64 1000000000000000000), .lit (.int .u64 10000000000000000000)]
def laid_errors_errorType {H : Type} : DataW H := .iface "internal/reflectlite.rtype" (.agg [.ptr (.lit (.string [101, 114, 114, 111, 114]))])

/-- 'laws.FnExactClausesOk': WHATEVER THE INPUT: true; the input reads as it did. -/
def fnExactClausesOkSpec : ChangeSpec := { name := "fnExactClausesOk", vars := ["loop.example/crossbuck/impl.errPred"], fn := fun _ => fun
  | [d, g1] => { results := [.lit (.bool true)], args := [d], vars := [g1] }
  | _ => none }
def fnExactClausesOkRow : OpenClaim := { program := "ytennaeboemlnoaadoor", sum := "2fe8b1ddc692098e2a1a2a170aaab24ad80c36b31dcfc4d04d89b1e210d968dc", func := "loop.example/crossbuck/laws.FnExactClausesOk", spec := "fnExactClausesOk", inPlace := ["internal/reflectlite.TypeOf"], unfollowed := true, recurses := true, named := ["loop.example/crossbuck/impl.errPred"], ifaces := true, plainKeys := false, apart := false, laid := [("loop.example/crossbuck/impl.errPred", laid_loop_example_crossbuck_impl_errPred)] }
def FnExactClausesOkSaid : Prop := fnExactClausesOkRow.holds Tryd.pinned (OpenSpec.ofChange fnExactClausesOkSpec)

/-- ITS FALSE NEIGHBOUR: 'it returns false'. Refute it at one input. -/
def fnExactClausesOkWrong : ChangeSpec := { name := "fnExactClausesOk", vars := ["loop.example/crossbuck/impl.errPred"], fn := fun _ => fun
  | [d, g1] => { results := [.lit (.bool false)], args := [d], vars := [g1] }
  | _ => none }
def FnExactClausesOkWrongFalsely : Prop := fnExactClausesOkRow.holds Tryd.pinned (OpenSpec.ofChange fnExactClausesOkWrong)

/-- 'laws.FnExactClausesDo': WHATEVER THE INPUT: true; the input reads as it did. -/
def fnExactClausesDoSpec : ChangeSpec := { name := "fnExactClausesDo", vars := ["loop.example/crossbuck/impl.errPred"], fn := fun _ => fun
  | [d1, d2, g1] => { results := [.lit (.bool true)], args := [d1, d2], vars := [g1] }
  | _ => none }
def fnExactClausesDoRow : OpenClaim := { program := "ytennaeboemlnoaadoor", sum := "2fe8b1ddc692098e2a1a2a170aaab24ad80c36b31dcfc4d04d89b1e210d968dc", func := "loop.example/crossbuck/laws.FnExactClausesDo", spec := "fnExactClausesDo", inPlace := ["internal/reflectlite.TypeOf"], unfollowed := true, recurses := true, named := ["loop.example/crossbuck/impl.errPred"], ifaces := true, plainKeys := false, apart := false, laid := [("loop.example/crossbuck/impl.errPred", laid_loop_example_crossbuck_impl_errPred)] }
def FnExactClausesDoSaid : Prop := fnExactClausesDoRow.holds Tryd.pinned (OpenSpec.ofChange fnExactClausesDoSpec)

/-- ITS FALSE NEIGHBOUR: 'it returns false'. Refute it at one input. -/
def fnExactClausesDoWrong : ChangeSpec := { name := "fnExactClausesDo", vars := ["loop.example/crossbuck/impl.errPred"], fn := fun _ => fun
  | [d1, d2, g1] => { results := [.lit (.bool false)], args := [d1, d2], vars := [g1] }
  | _ => none }
def FnExactClausesDoWrongFalsely : Prop := fnExactClausesDoRow.holds Tryd.pinned (OpenSpec.ofChange fnExactClausesDoWrong)

/-- 'laws.FnExactClausesTable': WHATEVER THE INPUT: true; the input reads as it did. -/
def fnExactClausesTableSpec : ChangeSpec := { name := "fnExactClausesTable", vars := ["loop.example/crossbuck/impl.errPred"], fn := fun _ => fun
  | [d, g1] => { results := [.lit (.bool true)], args := [d], vars := [g1] }
  | _ => none }
def fnExactClausesTableRow : OpenClaim := { program := "ytennaeboemlnoaadoor", sum := "2fe8b1ddc692098e2a1a2a170aaab24ad80c36b31dcfc4d04d89b1e210d968dc", func := "loop.example/crossbuck/laws.FnExactClausesTable", spec := "fnExactClausesTable", inPlace := ["internal/reflectlite.TypeOf"], unfollowed := true, recurses := true, named := ["loop.example/crossbuck/impl.errPred"], ifaces := true, plainKeys := false, apart := false, laid := [("loop.example/crossbuck/impl.errPred", laid_loop_example_crossbuck_impl_errPred)] }
def FnExactClausesTableSaid : Prop := fnExactClausesTableRow.holds Tryd.pinned (OpenSpec.ofChange fnExactClausesTableSpec)

/-- ITS FALSE NEIGHBOUR: 'it returns false'. Refute it at one input. -/
def fnExactClausesTableWrong : ChangeSpec := { name := "fnExactClausesTable", vars := ["loop.example/crossbuck/impl.errPred"], fn := fun _ => fun
  | [d, g1] => { results := [.lit (.bool false)], args := [d], vars := [g1] }
  | _ => none }
def FnExactClausesTableWrongFalsely : Prop := fnExactClausesTableRow.holds Tryd.pinned (OpenSpec.ofChange fnExactClausesTableWrong)

/-- 'laws.FnClausesDo': WHATEVER THE INPUT: true; the input reads as it did. -/
def fnClausesDoSpec : ChangeSpec := { name := "fnClausesDo", vars := ["loop.example/crossbuck/impl.errPred"], fn := fun _ => fun
  | [d, g1] => { results := [.lit (.bool true)], args := [d], vars := [g1] }
  | _ => none }
def fnClausesDoRow : OpenClaim := { program := "ytennaeboemlnoaadoor", sum := "2fe8b1ddc692098e2a1a2a170aaab24ad80c36b31dcfc4d04d89b1e210d968dc", func := "loop.example/crossbuck/laws.FnClausesDo", spec := "fnClausesDo", inPlace := ["internal/reflectlite.TypeOf"], unfollowed := true, recurses := true, named := ["loop.example/crossbuck/impl.errPred"], ifaces := true, plainKeys := false, apart := false, laid := [("loop.example/crossbuck/impl.errPred", laid_loop_example_crossbuck_impl_errPred)] }
def FnClausesDoSaid : Prop := fnClausesDoRow.holds Tryd.pinned (OpenSpec.ofChange fnClausesDoSpec)

/-- ITS FALSE NEIGHBOUR: 'it returns false'. Refute it at one input. -/
def fnClausesDoWrong : ChangeSpec := { name := "fnClausesDo", vars := ["loop.example/crossbuck/impl.errPred"], fn := fun _ => fun
  | [d, g1] => { results := [.lit (.bool false)], args := [d], vars := [g1] }
  | _ => none }
def FnClausesDoWrongFalsely : Prop := fnClausesDoRow.holds Tryd.pinned (OpenSpec.ofChange fnClausesDoWrong)

/-- 'laws.FnClausesRules': WHATEVER THE INPUT: true; the input reads as it did. -/
def fnClausesRulesSpec : ChangeSpec := { name := "fnClausesRules", vars := ["loop.example/crossbuck/impl.errPred"], fn := fun _ => fun
  | [d, g1] => { results := [.lit (.bool true)], args := [d], vars := [g1] }
  | _ => none }
def fnClausesRulesRow : OpenClaim := { program := "ytennaeboemlnoaadoor", sum := "2fe8b1ddc692098e2a1a2a170aaab24ad80c36b31dcfc4d04d89b1e210d968dc", func := "loop.example/crossbuck/laws.FnClausesRules", spec := "fnClausesRules", inPlace := ["internal/reflectlite.TypeOf"], unfollowed := true, recurses := true, named := ["loop.example/crossbuck/impl.errPred"], ifaces := true, plainKeys := false, apart := false, laid := [("loop.example/crossbuck/impl.errPred", laid_loop_example_crossbuck_impl_errPred)] }
def FnClausesRulesSaid : Prop := fnClausesRulesRow.holds Tryd.pinned (OpenSpec.ofChange fnClausesRulesSpec)

/-- ITS FALSE NEIGHBOUR: 'it returns false'. Refute it at one input. -/
def fnClausesRulesWrong : ChangeSpec := { name := "fnClausesRules", vars := ["loop.example/crossbuck/impl.errPred"], fn := fun _ => fun
  | [d, g1] => { results := [.lit (.bool false)], args := [d], vars := [g1] }
  | _ => none }
def FnClausesRulesWrongFalsely : Prop := fnClausesRulesRow.holds Tryd.pinned (OpenSpec.ofChange fnClausesRulesWrong)

/-- 'laws.FnClausesMore': WHATEVER THE INPUT: true; the input reads as it did. -/
def fnClausesMoreSpec : ChangeSpec := { name := "fnClausesMore", vars := ["loop.example/crossbuck/impl.errPred"], fn := fun _ => fun
  | [d1, d2, g1] => { results := [.lit (.bool true)], args := [d1, d2], vars := [g1] }
  | _ => none }
def fnClausesMoreRow : OpenClaim := { program := "ytennaeboemlnoaadoor", sum := "2fe8b1ddc692098e2a1a2a170aaab24ad80c36b31dcfc4d04d89b1e210d968dc", func := "loop.example/crossbuck/laws.FnClausesMore", spec := "fnClausesMore", inPlace := ["internal/reflectlite.TypeOf"], unfollowed := true, recurses := true, named := ["loop.example/crossbuck/impl.errPred"], ifaces := true, plainKeys := false, apart := false, laid := [("loop.example/crossbuck/impl.errPred", laid_loop_example_crossbuck_impl_errPred)] }
def FnClausesMoreSaid : Prop := fnClausesMoreRow.holds Tryd.pinned (OpenSpec.ofChange fnClausesMoreSpec)

/-- ITS FALSE NEIGHBOUR: 'it returns false'. Refute it at one input. -/
def fnClausesMoreWrong : ChangeSpec := { name := "fnClausesMore", vars := ["loop.example/crossbuck/impl.errPred"], fn := fun _ => fun
  | [d1, d2, g1] => { results := [.lit (.bool false)], args := [d1, d2], vars := [g1] }
  | _ => none }
def FnClausesMoreWrongFalsely : Prop := fnClausesMoreRow.holds Tryd.pinned (OpenSpec.ofChange fnClausesMoreWrong)

/-- 'laws.FnClausesForm': WHATEVER THE INPUT: true; the input reads as it did. -/
def fnClausesFormSpec : ChangeSpec := { name := "fnClausesForm", vars := ["loop.example/crossbuck/impl.errPred"], fn := fun _ => fun
  | [d1, d2, g1] => { results := [.lit (.bool true)], args := [d1, d2], vars := [g1] }
  | _ => none }
def fnClausesFormRow : OpenClaim := { program := "ytennaeboemlnoaadoor", sum := "2fe8b1ddc692098e2a1a2a170aaab24ad80c36b31dcfc4d04d89b1e210d968dc", func := "loop.example/crossbuck/laws.FnClausesForm", spec := "fnClausesForm", inPlace := ["internal/reflectlite.TypeOf"], unfollowed := true, recurses := true, named := ["loop.example/crossbuck/impl.errPred"], ifaces := true, plainKeys := false, apart := false, laid := [("loop.example/crossbuck/impl.errPred", laid_loop_example_crossbuck_impl_errPred)] }
def FnClausesFormSaid : Prop := fnClausesFormRow.holds Tryd.pinned (OpenSpec.ofChange fnClausesFormSpec)

/-- ITS FALSE NEIGHBOUR: 'it returns false'. Refute it at one input. -/
def fnClausesFormWrong : ChangeSpec := { name := "fnClausesForm", vars := ["loop.example/crossbuck/impl.errPred"], fn := fun _ => fun
  | [d1, d2, g1] => { results := [.lit (.bool false)], args := [d1, d2], vars := [g1] }
  | _ => none }
def FnClausesFormWrongFalsely : Prop := fnClausesFormRow.holds Tryd.pinned (OpenSpec.ofChange fnClausesFormWrong)

/-- 'laws.FnClausesSwap': WHATEVER THE INPUT: true; the input reads as it did. -/
def fnClausesSwapSpec : ChangeSpec := { name := "fnClausesSwap", vars := ["loop.example/crossbuck/impl.errPred"], fn := fun _ => fun
  | [d1, d2, g1] => { results := [.lit (.bool true)], args := [d1, d2], vars := [g1] }
  | _ => none }
def fnClausesSwapRow : OpenClaim := { program := "ytennaeboemlnoaadoor", sum := "2fe8b1ddc692098e2a1a2a170aaab24ad80c36b31dcfc4d04d89b1e210d968dc", func := "loop.example/crossbuck/laws.FnClausesSwap", spec := "fnClausesSwap", inPlace := ["internal/reflectlite.TypeOf"], unfollowed := true, recurses := true, named := ["loop.example/crossbuck/impl.errPred"], ifaces := true, plainKeys := false, apart := false, laid := [("loop.example/crossbuck/impl.errPred", laid_loop_example_crossbuck_impl_errPred)] }
def FnClausesSwapSaid : Prop := fnClausesSwapRow.holds Tryd.pinned (OpenSpec.ofChange fnClausesSwapSpec)

/-- ITS FALSE NEIGHBOUR: 'it returns false'. Refute it at one input. -/
def fnClausesSwapWrong : ChangeSpec := { name := "fnClausesSwap", vars := ["loop.example/crossbuck/impl.errPred"], fn := fun _ => fun
  | [d1, d2, g1] => { results := [.lit (.bool false)], args := [d1, d2], vars := [g1] }
  | _ => none }
def FnClausesSwapWrongFalsely : Prop := fnClausesSwapRow.holds Tryd.pinned (OpenSpec.ofChange fnClausesSwapWrong)

/-- 'laws.FnTableForm': WHATEVER THE INPUT: true; the input reads as it did. -/
def fnTableFormSpec : ChangeSpec := { name := "fnTableForm", fn := fun _ => fun
  | [d1, d2] => { results := [.lit (.bool true)], args := [d1, d2] }
  | _ => none }
def fnTableFormRow : OpenClaim := { program := "ytennaeboemlnoaadoor", sum := "2fe8b1ddc692098e2a1a2a170aaab24ad80c36b31dcfc4d04d89b1e210d968dc", func := "loop.example/crossbuck/laws.FnTableForm", spec := "fnTableForm", inPlace := ["internal/reflectlite.ValueOf", "(internal/reflectlite.Value).Type", "(internal/reflectlite.Value).IsNil", "internal/reflectlite.TypeOf", "(internal/reflectlite.Value).Elem", "(internal/reflectlite.Value).Set", "internal/bytealg.abigen_runtime_cmpstring"], unfollowed := true, recurses := true, named := ["errors.errorType", "internal/strconv.uint64pow10", "math/bits.deBruijn32tab", "math/bits.deBruijn64tab"], plainKeys := false, apart := false, laid := [("math/bits.deBruijn32tab", laid_math_bits_deBruijn32tab), ("math/bits.deBruijn64tab", laid_math_bits_deBruijn64tab), ("internal/strconv.uint64pow10", laid_internal_strconv_uint64pow10), ("errors.errorType", laid_errors_errorType)] }
def FnTableFormSaid : Prop := fnTableFormRow.holds Tryd.pinned (OpenSpec.ofChange fnTableFormSpec)

/-- ITS FALSE NEIGHBOUR: 'it returns false'. Refute it at one input. -/
def fnTableFormWrong : ChangeSpec := { name := "fnTableForm", fn := fun _ => fun
  | [d1, d2] => { results := [.lit (.bool false)], args := [d1, d2] }
  | _ => none }
def FnTableFormWrongFalsely : Prop := fnTableFormRow.holds Tryd.pinned (OpenSpec.ofChange fnTableFormWrong)

/- THE SECOND FORM. 'bulk': how many values and letters a reading holds, each counted each time it is reached (what is shared counts as often as it is met; a slice's spare places count too). A statement '..UptoSaid' is the law's where the arguments, and the package variables that the reading takes, are together of bulk at most 1048576: NARROWER than '..Said'. Prove '..Said' where nothing that the law and all that it calls make is longer than what came in: it says more and counts as full. Else prove '..UptoSaid'. A law counts once. -/
mutual
def uptoBulk {H : Type} : DataW H → Nat
  | .lit (.string bytes) => bytes.length + 1
  | .lit _ => 1
  | .nil => 1
  | .ptr d => uptoBulk d + 1
  | .slice elems spare => uptoBulkAll elems + uptoBulkAll spare + 1
  | .agg parts => uptoBulkAll parts + 1
  | .iface _ d => uptoBulk d + 1
  | .map entries => uptoBulkEntries entries + 1
  | .held _ => 1
def uptoBulkAll {H : Type} : List (DataW H) → Nat
  | [] => 0
  | d :: r => uptoBulk d + uptoBulkAll r
def uptoBulkEntries {H : Type} : List (Lit × DataW H) → Nat
  | [] => 0
  | x :: r => uptoBulkEntry x + uptoBulkEntries r
def uptoBulkEntry {H : Type} : Lit × DataW H → Nat
  | (.string bytes, d) => bytes.length + uptoBulk d + 1
  | (_, d) => uptoBulk d + 1
 end
def uptoSmall : (H : Type) → List (DataW H) → Bool := fun _ ds => decide (uptoBulkAll ds ≤ 1048576)
def OpenSpec.upto (s : _root_.Go.ChangeSpec) : _root_.Go.OpenSpec := { _root_.Go.OpenSpec.ofChange s with cond := some uptoSmall }

/-- 'laws.FnExactClausesOk', WHERE WHAT IT READS IS OF BULK AT MOST 1048576: true; the input reads as it did. -/
def fnExactClausesOkUptoRow : OpenClaim := { program := "ytennaeboemlnoaadoor", sum := "2fe8b1ddc692098e2a1a2a170aaab24ad80c36b31dcfc4d04d89b1e210d968dc", func := "loop.example/crossbuck/laws.FnExactClausesOk", spec := "fnExactClausesOk", inPlace := ["internal/reflectlite.TypeOf"], unfollowed := true, recurses := true, named := ["loop.example/crossbuck/impl.errPred"], ifaces := true, plainKeys := false, apart := false, laid := [("loop.example/crossbuck/impl.errPred", laid_loop_example_crossbuck_impl_errPred)], narrowed := true }
def FnExactClausesOkUptoSaid : Prop := fnExactClausesOkUptoRow.holds Tryd.pinned (OpenSpec.upto fnExactClausesOkSpec)

/-- 'laws.FnExactClausesDo', WHERE WHAT IT READS IS OF BULK AT MOST 1048576: true; the input reads as it did. -/
def fnExactClausesDoUptoRow : OpenClaim := { program := "ytennaeboemlnoaadoor", sum := "2fe8b1ddc692098e2a1a2a170aaab24ad80c36b31dcfc4d04d89b1e210d968dc", func := "loop.example/crossbuck/laws.FnExactClausesDo", spec := "fnExactClausesDo", inPlace := ["internal/reflectlite.TypeOf"], unfollowed := true, recurses := true, named := ["loop.example/crossbuck/impl.errPred"], ifaces := true, plainKeys := false, apart := false, laid := [("loop.example/crossbuck/impl.errPred", laid_loop_example_crossbuck_impl_errPred)], narrowed := true }
def FnExactClausesDoUptoSaid : Prop := fnExactClausesDoUptoRow.holds Tryd.pinned (OpenSpec.upto fnExactClausesDoSpec)

/-- 'laws.FnExactClausesTable', WHERE WHAT IT READS IS OF BULK AT MOST 1048576: true; the input reads as it did. -/
def fnExactClausesTableUptoRow : OpenClaim := { program := "ytennaeboemlnoaadoor", sum := "2fe8b1ddc692098e2a1a2a170aaab24ad80c36b31dcfc4d04d89b1e210d968dc", func := "loop.example/crossbuck/laws.FnExactClausesTable", spec := "fnExactClausesTable", inPlace := ["internal/reflectlite.TypeOf"], unfollowed := true, recurses := true, named := ["loop.example/crossbuck/impl.errPred"], ifaces := true, plainKeys := false, apart := false, laid := [("loop.example/crossbuck/impl.errPred", laid_loop_example_crossbuck_impl_errPred)], narrowed := true }
def FnExactClausesTableUptoSaid : Prop := fnExactClausesTableUptoRow.holds Tryd.pinned (OpenSpec.upto fnExactClausesTableSpec)

/-- 'laws.FnClausesDo', WHERE WHAT IT READS IS OF BULK AT MOST 1048576: true; the input reads as it did. -/
def fnClausesDoUptoRow : OpenClaim := { program := "ytennaeboemlnoaadoor", sum := "2fe8b1ddc692098e2a1a2a170aaab24ad80c36b31dcfc4d04d89b1e210d968dc", func := "loop.example/crossbuck/laws.FnClausesDo", spec := "fnClausesDo", inPlace := ["internal/reflectlite.TypeOf"], unfollowed := true, recurses := true, named := ["loop.example/crossbuck/impl.errPred"], ifaces := true, plainKeys := false, apart := false, laid := [("loop.example/crossbuck/impl.errPred", laid_loop_example_crossbuck_impl_errPred)], narrowed := true }
def FnClausesDoUptoSaid : Prop := fnClausesDoUptoRow.holds Tryd.pinned (OpenSpec.upto fnClausesDoSpec)

/-- 'laws.FnClausesRules', WHERE WHAT IT READS IS OF BULK AT MOST 1048576: true; the input reads as it did. -/
def fnClausesRulesUptoRow : OpenClaim := { program := "ytennaeboemlnoaadoor", sum := "2fe8b1ddc692098e2a1a2a170aaab24ad80c36b31dcfc4d04d89b1e210d968dc", func := "loop.example/crossbuck/laws.FnClausesRules", spec := "fnClausesRules", inPlace := ["internal/reflectlite.TypeOf"], unfollowed := true, recurses := true, named := ["loop.example/crossbuck/impl.errPred"], ifaces := true, plainKeys := false, apart := false, laid := [("loop.example/crossbuck/impl.errPred", laid_loop_example_crossbuck_impl_errPred)], narrowed := true }
def FnClausesRulesUptoSaid : Prop := fnClausesRulesUptoRow.holds Tryd.pinned (OpenSpec.upto fnClausesRulesSpec)

/-- 'laws.FnClausesMore', WHERE WHAT IT READS IS OF BULK AT MOST 1048576: true; the input reads as it did. -/
def fnClausesMoreUptoRow : OpenClaim := { program := "ytennaeboemlnoaadoor", sum := "2fe8b1ddc692098e2a1a2a170aaab24ad80c36b31dcfc4d04d89b1e210d968dc", func := "loop.example/crossbuck/laws.FnClausesMore", spec := "fnClausesMore", inPlace := ["internal/reflectlite.TypeOf"], unfollowed := true, recurses := true, named := ["loop.example/crossbuck/impl.errPred"], ifaces := true, plainKeys := false, apart := false, laid := [("loop.example/crossbuck/impl.errPred", laid_loop_example_crossbuck_impl_errPred)], narrowed := true }
def FnClausesMoreUptoSaid : Prop := fnClausesMoreUptoRow.holds Tryd.pinned (OpenSpec.upto fnClausesMoreSpec)

/-- 'laws.FnClausesForm', WHERE WHAT IT READS IS OF BULK AT MOST 1048576: true; the input reads as it did. -/
def fnClausesFormUptoRow : OpenClaim := { program := "ytennaeboemlnoaadoor", sum := "2fe8b1ddc692098e2a1a2a170aaab24ad80c36b31dcfc4d04d89b1e210d968dc", func := "loop.example/crossbuck/laws.FnClausesForm", spec := "fnClausesForm", inPlace := ["internal/reflectlite.TypeOf"], unfollowed := true, recurses := true, named := ["loop.example/crossbuck/impl.errPred"], ifaces := true, plainKeys := false, apart := false, laid := [("loop.example/crossbuck/impl.errPred", laid_loop_example_crossbuck_impl_errPred)], narrowed := true }
def FnClausesFormUptoSaid : Prop := fnClausesFormUptoRow.holds Tryd.pinned (OpenSpec.upto fnClausesFormSpec)

/-- 'laws.FnClausesSwap', WHERE WHAT IT READS IS OF BULK AT MOST 1048576: true; the input reads as it did. -/
def fnClausesSwapUptoRow : OpenClaim := { program := "ytennaeboemlnoaadoor", sum := "2fe8b1ddc692098e2a1a2a170aaab24ad80c36b31dcfc4d04d89b1e210d968dc", func := "loop.example/crossbuck/laws.FnClausesSwap", spec := "fnClausesSwap", inPlace := ["internal/reflectlite.TypeOf"], unfollowed := true, recurses := true, named := ["loop.example/crossbuck/impl.errPred"], ifaces := true, plainKeys := false, apart := false, laid := [("loop.example/crossbuck/impl.errPred", laid_loop_example_crossbuck_impl_errPred)], narrowed := true }
def FnClausesSwapUptoSaid : Prop := fnClausesSwapUptoRow.holds Tryd.pinned (OpenSpec.upto fnClausesSwapSpec)

/-- 'laws.FnTableForm', WHERE WHAT IT READS IS OF BULK AT MOST 1048576: true; the input reads as it did. -/
def fnTableFormUptoRow : OpenClaim := { program := "ytennaeboemlnoaadoor", sum := "2fe8b1ddc692098e2a1a2a170aaab24ad80c36b31dcfc4d04d89b1e210d968dc", func := "loop.example/crossbuck/laws.FnTableForm", spec := "fnTableForm", inPlace := ["internal/reflectlite.ValueOf", "(internal/reflectlite.Value).Type", "(internal/reflectlite.Value).IsNil", "internal/reflectlite.TypeOf", "(internal/reflectlite.Value).Elem", "(internal/reflectlite.Value).Set", "internal/bytealg.abigen_runtime_cmpstring"], unfollowed := true, recurses := true, named := ["errors.errorType", "internal/strconv.uint64pow10", "math/bits.deBruijn32tab", "math/bits.deBruijn64tab"], plainKeys := false, apart := false, laid := [("math/bits.deBruijn32tab", laid_math_bits_deBruijn32tab), ("math/bits.deBruijn64tab", laid_math_bits_deBruijn64tab), ("internal/strconv.uint64pow10", laid_internal_strconv_uint64pow10), ("errors.errorType", laid_errors_errorType)], narrowed := true }
def FnTableFormUptoSaid : Prop := fnTableFormUptoRow.holds Tryd.pinned (OpenSpec.upto fnTableFormSpec)

end Rows
end Go.Proofs.YtennaeboemlnoaaDoor
