/-
  No cell of these rows narrows 'for every input' (looked for: loops, veiled, ifaces, maps, wideKeys, modest, calm, conditions, laid).
  DERIVED. THE GIVEN ROWS OF THIS SEAT. 8 by the template 'for every input the law returns true; each argument reads behind the call as it read before'; 0 by the template 'total and deterministic' (their statements: YtbjndcfdcjpkmaaTotals.lean).
  GIVEN WITH THE SEED: the statements are not yours to turn. If you find one false, say at which input.
  Laid BY PROGRAM, IN A SANDBOX (cutbox-rows.mjs): the forced cells as the released guide's own fill.sh prints them over the translation c4acc16ad3c387b5… (all of the seat's roots in one cut). By AI agents, Wed Nov 11 2026. No macro, syntax, notation, axiom, sorry.
-/
import Derived.Test.YtbjndcfdcjpkmaaChecked
import GoSem.Claim
import GoSem.ClaimJoined
import GoSem.ClaimMapViews
import Derived.JoinedTies
import Derived.KernelRfl
namespace Go.Proofs.Ytbjndcfdcjpkmaa
/- THE CELL 'sum', in the pinned program and in every row, IS THE sha256 OF THE DUMP (.gsa) THAT YtbjndcfdcjpkmaaProg.lean LOADS. Nothing in Lean hashes anything: it is a label: what it is worth is what the hold of that sum in a sandbox is worth. -/
noncomputable def Try.pinned : Pinned := { name := "ytbjndcfdcjpkmaa", sum := "c4acc16ad3c387b5b854a0a6a45ee2ba004d09af605cdcc596f2afd8bd0ed785", checked := Try.checked }
namespace Rows
def none {H : Type} : Left H := { results := [], args := [] }

/-- 'laws.FnExactNetCut': WHATEVER THE INPUT: true; the input reads as it did. -/
def fnExactNetCutSpec : ChangeSpec := { name := "fnExactNetCut", fn := fun _ => fun
  | [d1, d2] => { results := [.lit (.bool true)], args := [d1, d2] }
  | _ => none }
def fnExactNetCutRow : OpenClaim := { program := "ytbjndcfdcjpkmaa", sum := "c4acc16ad3c387b5b854a0a6a45ee2ba004d09af605cdcc596f2afd8bd0ed785", func := "loop.example/crossbuck/laws.FnExactNetCut", spec := "fnExactNetCut", apart := false }
def FnExactNetCutSaid : Prop := fnExactNetCutRow.holds Try.pinned (OpenSpec.ofChange fnExactNetCutSpec)

/-- ITS FALSE NEIGHBOUR: 'it returns false'. Refute it at one input. -/
def fnExactNetCutWrong : ChangeSpec := { name := "fnExactNetCut", fn := fun _ => fun
  | [d1, d2] => { results := [.lit (.bool false)], args := [d1, d2] }
  | _ => none }
def FnExactNetCutWrongFalsely : Prop := fnExactNetCutRow.holds Try.pinned (OpenSpec.ofChange fnExactNetCutWrong)

/-- 'laws.FnFar': WHATEVER THE INPUT: true; the input reads as it did. -/
def fnFarSpec : ChangeSpec := { name := "fnFar", fn := fun _ => fun
  | [d1, d2] => { results := [.lit (.bool true)], args := [d1, d2] }
  | _ => none }
def fnFarRow : OpenClaim := { program := "ytbjndcfdcjpkmaa", sum := "c4acc16ad3c387b5b854a0a6a45ee2ba004d09af605cdcc596f2afd8bd0ed785", func := "loop.example/crossbuck/laws.FnFar", spec := "fnFar", unfollowed := true, recurses := true, apart := false }
def FnFarSaid : Prop := fnFarRow.holds Try.pinned (OpenSpec.ofChange fnFarSpec)

/-- ITS FALSE NEIGHBOUR: 'it returns false'. Refute it at one input. -/
def fnFarWrong : ChangeSpec := { name := "fnFar", fn := fun _ => fun
  | [d1, d2] => { results := [.lit (.bool false)], args := [d1, d2] }
  | _ => none }
def FnFarWrongFalsely : Prop := fnFarRow.holds Try.pinned (OpenSpec.ofChange fnFarWrong)

/-- 'laws.FnWay': WHATEVER THE INPUT: true; the input reads as it did. -/
def fnWaySpec : ChangeSpec := { name := "fnWay", fn := fun _ => fun
  | [d] => { results := [.lit (.bool true)], args := [d] }
  | _ => none }
def fnWayRow : OpenClaim := { program := "ytbjndcfdcjpkmaa", sum := "c4acc16ad3c387b5b854a0a6a45ee2ba004d09af605cdcc596f2afd8bd0ed785", func := "loop.example/crossbuck/laws.FnWay", spec := "fnWay", unfollowed := true, recurses := true, apart := false }
def FnWaySaid : Prop := fnWayRow.holds Try.pinned (OpenSpec.ofChange fnWaySpec)

/-- ITS FALSE NEIGHBOUR: 'it returns false'. Refute it at one input. -/
def fnWayWrong : ChangeSpec := { name := "fnWay", fn := fun _ => fun
  | [d] => { results := [.lit (.bool false)], args := [d] }
  | _ => none }
def FnWayWrongFalsely : Prop := fnWayRow.holds Try.pinned (OpenSpec.ofChange fnWayWrong)

/-- 'laws.FnWayOnce': WHATEVER THE INPUT: true; the input reads as it did. -/
def fnWayOnceSpec : ChangeSpec := { name := "fnWayOnce", fn := fun _ => fun
  | [d] => { results := [.lit (.bool true)], args := [d] }
  | _ => none }
def fnWayOnceRow : OpenClaim := { program := "ytbjndcfdcjpkmaa", sum := "c4acc16ad3c387b5b854a0a6a45ee2ba004d09af605cdcc596f2afd8bd0ed785", func := "loop.example/crossbuck/laws.FnWayOnce", spec := "fnWayOnce", unfollowed := true, recurses := true, apart := false }
def FnWayOnceSaid : Prop := fnWayOnceRow.holds Try.pinned (OpenSpec.ofChange fnWayOnceSpec)

/-- ITS FALSE NEIGHBOUR: 'it returns false'. Refute it at one input. -/
def fnWayOnceWrong : ChangeSpec := { name := "fnWayOnce", fn := fun _ => fun
  | [d] => { results := [.lit (.bool false)], args := [d] }
  | _ => none }
def FnWayOnceWrongFalsely : Prop := fnWayOnceRow.holds Try.pinned (OpenSpec.ofChange fnWayOnceWrong)

/-- 'laws.FnPeerBack': WHATEVER THE INPUT: true; the input reads as it did. -/
def fnPeerBackSpec : ChangeSpec := { name := "fnPeerBack", fn := fun _ => fun
  | [d] => { results := [.lit (.bool true)], args := [d] }
  | _ => none }
def fnPeerBackRow : OpenClaim := { program := "ytbjndcfdcjpkmaa", sum := "c4acc16ad3c387b5b854a0a6a45ee2ba004d09af605cdcc596f2afd8bd0ed785", func := "loop.example/crossbuck/laws.FnPeerBack", spec := "fnPeerBack", apart := false }
def FnPeerBackSaid : Prop := fnPeerBackRow.holds Try.pinned (OpenSpec.ofChange fnPeerBackSpec)

/-- ITS FALSE NEIGHBOUR: 'it returns false'. Refute it at one input. -/
def fnPeerBackWrong : ChangeSpec := { name := "fnPeerBack", fn := fun _ => fun
  | [d] => { results := [.lit (.bool false)], args := [d] }
  | _ => none }
def FnPeerBackWrongFalsely : Prop := fnPeerBackRow.holds Try.pinned (OpenSpec.ofChange fnPeerBackWrong)

/-- 'laws.FnCut': WHATEVER THE INPUT: true; the input reads as it did. -/
def fnCutSpec : ChangeSpec := { name := "fnCut", fn := fun _ => fun
  | [d] => { results := [.lit (.bool true)], args := [d] }
  | _ => none }
def fnCutRow : OpenClaim := { program := "ytbjndcfdcjpkmaa", sum := "c4acc16ad3c387b5b854a0a6a45ee2ba004d09af605cdcc596f2afd8bd0ed785", func := "loop.example/crossbuck/laws.FnCut", spec := "fnCut", apart := false }
def FnCutSaid : Prop := fnCutRow.holds Try.pinned (OpenSpec.ofChange fnCutSpec)

/-- ITS FALSE NEIGHBOUR: 'it returns false'. Refute it at one input. -/
def fnCutWrong : ChangeSpec := { name := "fnCut", fn := fun _ => fun
  | [d] => { results := [.lit (.bool false)], args := [d] }
  | _ => none }
def FnCutWrongFalsely : Prop := fnCutRow.holds Try.pinned (OpenSpec.ofChange fnCutWrong)

/-- 'laws.FnCutTwo': WHATEVER THE INPUT: true; the input reads as it did. -/
def fnCutTwoSpec : ChangeSpec := { name := "fnCutTwo", fn := fun _ => fun
  | [d1, d2] => { results := [.lit (.bool true)], args := [d1, d2] }
  | _ => none }
def fnCutTwoRow : OpenClaim := { program := "ytbjndcfdcjpkmaa", sum := "c4acc16ad3c387b5b854a0a6a45ee2ba004d09af605cdcc596f2afd8bd0ed785", func := "loop.example/crossbuck/laws.FnCutTwo", spec := "fnCutTwo", apart := false }
def FnCutTwoSaid : Prop := fnCutTwoRow.holds Try.pinned (OpenSpec.ofChange fnCutTwoSpec)

/-- ITS FALSE NEIGHBOUR: 'it returns false'. Refute it at one input. -/
def fnCutTwoWrong : ChangeSpec := { name := "fnCutTwo", fn := fun _ => fun
  | [d1, d2] => { results := [.lit (.bool false)], args := [d1, d2] }
  | _ => none }
def FnCutTwoWrongFalsely : Prop := fnCutTwoRow.holds Try.pinned (OpenSpec.ofChange fnCutTwoWrong)

/-- 'laws.FnNetForm': WHATEVER THE INPUT: true; the input reads as it did. -/
def fnNetFormSpec : ChangeSpec := { name := "fnNetForm", fn := fun _ => fun
  | [d1, d2] => { results := [.lit (.bool true)], args := [d1, d2] }
  | _ => none }
def fnNetFormRow : OpenClaim := { program := "ytbjndcfdcjpkmaa", sum := "c4acc16ad3c387b5b854a0a6a45ee2ba004d09af605cdcc596f2afd8bd0ed785", func := "loop.example/crossbuck/laws.FnNetForm", spec := "fnNetForm", apart := false }
def FnNetFormSaid : Prop := fnNetFormRow.holds Try.pinned (OpenSpec.ofChange fnNetFormSpec)

/-- ITS FALSE NEIGHBOUR: 'it returns false'. Refute it at one input. -/
def fnNetFormWrong : ChangeSpec := { name := "fnNetForm", fn := fun _ => fun
  | [d1, d2] => { results := [.lit (.bool false)], args := [d1, d2] }
  | _ => none }
def FnNetFormWrongFalsely : Prop := fnNetFormRow.holds Try.pinned (OpenSpec.ofChange fnNetFormWrong)

/- THE SECOND FORM. 'bulk': how many values and letters a reading holds, each counted each time it is reached (what is shared counts as often as it is met; a slice's spare places count too). A statement '..UptoSaid' is the law's where the arguments, and the package variables that the reading takes, are together of bulk at most 1048576: NARROWER than '..Said'. Prove '..Said' where nothing that the law and all that it calls make is longer than what came in: it says more and counts as full. Else prove '..UptoSaid'. A law counts once. -/
mutual
def uptoBulk {H : Type} : DataW H → Nat
  | .lit (.string bytes) => bytes.length + 1
  | .lit _ => 1
  | .nil => 1
  | .ptr d => uptoBulk d + 1
  | .slice elems spare => uptoBulkAll elems + uptoBulkAll spare + 1
  | .agg parts => uptoBulkAll parts + 1
  | .iface _ d => uptoBulk d + 1
  | .map entries => uptoBulkEntries entries + 1
  | .held _ => 1
def uptoBulkAll {H : Type} : List (DataW H) → Nat
  | [] => 0
  | d :: r => uptoBulk d + uptoBulkAll r
def uptoBulkEntries {H : Type} : List (Lit × DataW H) → Nat
  | [] => 0
  | x :: r => uptoBulkEntry x + uptoBulkEntries r
def uptoBulkEntry {H : Type} : Lit × DataW H → Nat
  | (.string bytes, d) => bytes.length + uptoBulk d + 1
  | (_, d) => uptoBulk d + 1
 end
def uptoSmall : (H : Type) → List (DataW H) → Bool := fun _ ds => decide (uptoBulkAll ds ≤ 1048576)
def OpenSpec.upto (s : _root_.Go.ChangeSpec) : _root_.Go.OpenSpec := { _root_.Go.OpenSpec.ofChange s with cond := some uptoSmall }

/-- 'laws.FnExactNetCut', WHERE WHAT IT READS IS OF BULK AT MOST 1048576: true; the input reads as it did. -/
def fnExactNetCutUptoRow : OpenClaim := { program := "ytbjndcfdcjpkmaa", sum := "c4acc16ad3c387b5b854a0a6a45ee2ba004d09af605cdcc596f2afd8bd0ed785", func := "loop.example/crossbuck/laws.FnExactNetCut", spec := "fnExactNetCut", apart := false, narrowed := true }
def FnExactNetCutUptoSaid : Prop := fnExactNetCutUptoRow.holds Try.pinned (OpenSpec.upto fnExactNetCutSpec)

/-- 'laws.FnFar', WHERE WHAT IT READS IS OF BULK AT MOST 1048576: true; the input reads as it did. -/
def fnFarUptoRow : OpenClaim := { program := "ytbjndcfdcjpkmaa", sum := "c4acc16ad3c387b5b854a0a6a45ee2ba004d09af605cdcc596f2afd8bd0ed785", func := "loop.example/crossbuck/laws.FnFar", spec := "fnFar", unfollowed := true, recurses := true, apart := false, narrowed := true }
def FnFarUptoSaid : Prop := fnFarUptoRow.holds Try.pinned (OpenSpec.upto fnFarSpec)

/-- 'laws.FnWay', WHERE WHAT IT READS IS OF BULK AT MOST 1048576: true; the input reads as it did. -/
def fnWayUptoRow : OpenClaim := { program := "ytbjndcfdcjpkmaa", sum := "c4acc16ad3c387b5b854a0a6a45ee2ba004d09af605cdcc596f2afd8bd0ed785", func := "loop.example/crossbuck/laws.FnWay", spec := "fnWay", unfollowed := true, recurses := true, apart := false, narrowed := true }
def FnWayUptoSaid : Prop := fnWayUptoRow.holds Try.pinned (OpenSpec.upto fnWaySpec)

/-- 'laws.FnWayOnce', WHERE WHAT IT READS IS OF BULK AT MOST 1048576: true; the input reads as it did. -/
def fnWayOnceUptoRow : OpenClaim := { program := "ytbjndcfdcjpkmaa", sum := "c4acc16ad3c387b5b854a0a6a45ee2ba004d09af605cdcc596f2afd8bd0ed785", func := "loop.example/crossbuck/laws.FnWayOnce", spec := "fnWayOnce", unfollowed := true, recurses := true, apart := false, narrowed := true }
def FnWayOnceUptoSaid : Prop := fnWayOnceUptoRow.holds Try.pinned (OpenSpec.upto fnWayOnceSpec)

/-- 'laws.FnPeerBack', WHERE WHAT IT READS IS OF BULK AT MOST 1048576: true; the input reads as it did. -/
def fnPeerBackUptoRow : OpenClaim := { program := "ytbjndcfdcjpkmaa", sum := "c4acc16ad3c387b5b854a0a6a45ee2ba004d09af605cdcc596f2afd8bd0ed785", func := "loop.example/crossbuck/laws.FnPeerBack", spec := "fnPeerBack", apart := false, narrowed := true }
def FnPeerBackUptoSaid : Prop := fnPeerBackUptoRow.holds Try.pinned (OpenSpec.upto fnPeerBackSpec)

/-- 'laws.FnCut', WHERE WHAT IT READS IS OF BULK AT MOST 1048576: true; the input reads as it did. -/
def fnCutUptoRow : OpenClaim := { program := "ytbjndcfdcjpkmaa", sum := "c4acc16ad3c387b5b854a0a6a45ee2ba004d09af605cdcc596f2afd8bd0ed785", func := "loop.example/crossbuck/laws.FnCut", spec := "fnCut", apart := false, narrowed := true }
def FnCutUptoSaid : Prop := fnCutUptoRow.holds Try.pinned (OpenSpec.upto fnCutSpec)

/-- 'laws.FnCutTwo', WHERE WHAT IT READS IS OF BULK AT MOST 1048576: true; the input reads as it did. -/
def fnCutTwoUptoRow : OpenClaim := { program := "ytbjndcfdcjpkmaa", sum := "c4acc16ad3c387b5b854a0a6a45ee2ba004d09af605cdcc596f2afd8bd0ed785", func := "loop.example/crossbuck/laws.FnCutTwo", spec := "fnCutTwo", apart := false, narrowed := true }
def FnCutTwoUptoSaid : Prop := fnCutTwoUptoRow.holds Try.pinned (OpenSpec.upto fnCutTwoSpec)

/-- 'laws.FnNetForm', WHERE WHAT IT READS IS OF BULK AT MOST 1048576: true; the input reads as it did. -/
def fnNetFormUptoRow : OpenClaim := { program := "ytbjndcfdcjpkmaa", sum := "c4acc16ad3c387b5b854a0a6a45ee2ba004d09af605cdcc596f2afd8bd0ed785", func := "loop.example/crossbuck/laws.FnNetForm", spec := "fnNetForm", apart := false, narrowed := true }
def FnNetFormUptoSaid : Prop := fnNetFormUptoRow.holds Try.pinned (OpenSpec.upto fnNetFormSpec)

end Rows
end Go.Proofs.Ytbjndcfdcjpkmaa
