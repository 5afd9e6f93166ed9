/-
  What the masks' methods return: whether two meet, one is in another, a head is of them, how many heads they have, their text, what two have in common.
-/
import Derived.Test.YthjceopaelagfaaDoorWildBase
import Derived.Test.YthjceopaelagfaaDoorHeadMore
import Derived.Deep.RegionHeld3
namespace Go.Proofs.YthjceopaelagfaaDoor
open Go.ChangeShapes Go.WideShapes Go.ChangeAt Go.RowKit Go.Joins
set_option linter.unusedVariables false

/-! ### Plain facts -/

/-- Two masks meet; one is in another; a number is of masks. -/
def meetB (c v c' v' : Nat → Bool) : Bool := all6 (fun i => !((v i ^^ v' i) && c i && c' i))
def inM (c v c' v' : Nat → Bool) : Bool := all6 (fun i => !(c' i && !c i)) && meetB c v c' v'
def hasM (c v b : Nat → Bool) : Bool := all6 (fun i => (b i && c i) == v i)
theorem meet_bits (c v c' v' : Nat → Bool) : (bits BinOp.and IntKind.u8 (bits BinOp.and IntKind.u8 (bits BinOp.xor IntKind.u8 (ofB v) (ofB v')) (ofB c)) (ofB c') == 0) = meetB c v c' v' := by
  rw [ofB_xor, ofB_and, ofB_and, ofB_isZero]; rfl
theorem in_bits (c c' : Nat → Bool) : (bits BinOp.andNot IntKind.u8 (ofB c') (ofB c) == 0) = all6 (fun i => !(c' i && !c i)) := by
  rw [ofB_andNot, ofB_isZero]
theorem has_bits (c v b : Nat → Bool) : (bits BinOp.and IntKind.u8 (ofB b) (ofB c) == ofB v) = hasM c v b := by
  rw [ofB_and, ofB_eq]; rfl

/-- How many of six. -/
def cnt6 (a b c d e f : Bool) : Nat := a.toNat + (b.toNat + (c.toNat + (d.toNat + (e.toNat + f.toNat))))
def manyB (c : Nat → Bool) : Int := 2 ^ (6 - cnt6 (c 0) (c 1) (c 2) (c 3) (c 4) (c 5))

theorem assert_yes (v : Value) (w : World) : (Instr.typeAssert (.iface 103 v) 107 103 true).run Tryd.prog w = .ok (.tuple #[v, .bool true]) w := by
  simp [Instr.typeAssert, run_underlying Tryd.underlying103, go_sem, Result.andThen]
theorem assert_no (v : Value) (w : World) : (Instr.typeAssert (.iface 125 v) 107 103 true).run Tryd.prog w = .ok (.tuple #[.agg #[.int .u8 0, .int .u8 0], .bool false]) w := by
  simp [Instr.typeAssert, run_underlying Tryd.underlying103, go_sem, Result.andThen]

set_option maxRecDepth 100000 in
set_option maxHeartbeats 1000000 in
theorem masksOf_yes (x y : Int) (w : World) :
    Calls Tryd.prog 70 #[.iface 103 (.agg #[.int .u8 x, .int .u8 y])] w fun e w' => e = .returned (.tuple #[.agg #[.int .u8 x, .int .u8 y], .bool true]) ∧ Below w.heap.size w w' := by
  have hta := assert_yes
  go_enter Tryd.func70, Tryd.ntmps70
  go_wp2
  exact bodyPost_ret (v := .tuple #[.agg #[.int .u8 x, .int .u8 y], .bool true]) (by simp [results, Tryd.results70, go_sem]) rfl
    ⟨rfl, by repeat (first | exact below_alloc2 _ _ _ | refine Below.setCell ?_ (by simp) _)⟩

set_option maxRecDepth 100000 in
set_option maxHeartbeats 1000000 in
theorem masksOf_no (w : World) :
    Calls Tryd.prog 70 #[.iface 125 (.agg #[])] w fun e w' => e = .returned (.tuple #[.agg #[.int .u8 0, .int .u8 0], .bool false]) ∧ Below w.heap.size w w' := by
  have hta := assert_no
  go_enter Tryd.func70, Tryd.ntmps70
  go_wp2
  exact bodyPost_ret (v := .tuple #[.agg #[.int .u8 0, .int .u8 0], .bool false]) (by simp [results, Tryd.results70, go_sem]) rfl
    ⟨rfl, by repeat (first | exact below_alloc1 _ _ | refine Below.setCell ?_ (by simp) _)⟩

/-! ### How many -/

def cntB (c : Nat → Bool) : Nat := cnt6 (c 0) (c 1) (c 2) (c 3) (c 4) (c 5)
theorem cnt6_le : ∀ a b c d e f : Bool, cnt6 a b c d e f ≤ 6 := by decide
theorem cntB_le (c : Nat → Bool) : cntB c ≤ 6 := cnt6_le _ _ _ _ _ _

/-! ### The text -/

/-- Six cells, of which the first k are written. -/
def sixV (k : Nat) (f : Nat → UInt8) (i : Nat) : Value := .int .u8 (if i < k then ((f i).toNat : Int) else 0)
def sixA (k : Nat) (f : Nat → UInt8) : Array Value := #[sixV k f 0, sixV k f 1, sixV k f 2, sixV k f 3, sixV k f 4, sixV k f 5]
theorem sixA_zero (f : Nat → UInt8) : sixA 0 f = #[.int .u8 0, .int .u8 0, .int .u8 0, .int .u8 0, .int .u8 0, .int .u8 0] := rfl
theorem sixV_ne {k i : Nat} (f : Nat → UInt8) (h : i ≠ k) : sixV (k + 1) f i = sixV k f i := by
  unfold sixV
  have : (i < k + 1) = (i < k) := by apply propext; omega
  simp only [this]
theorem sixV_eq (k : Nat) (f : Nat → UInt8) : sixV (k + 1) f k = .int .u8 ((f k).toNat : Int) := by simp [sixV]
theorem sixA_step {k : Nat} (hk : k < 6) (f : Nat → UInt8) : (sixA k f).setIfInBounds k (.int .u8 ((f k).toNat : Int)) = sixA (k + 1) f := by
  match k, hk with
  | 0, _ => simp [sixA, sixV]
  | 1, _ => simp [sixA, sixV]
  | 2, _ => simp [sixA, sixV]
  | 3, _ => simp [sixA, sixV]
  | 4, _ => simp [sixA, sixV]
  | 5, _ => simp [sixA, sixV]
theorem sixA_get {f : Nat → UInt8} {j : Nat} (hj : j < 6) : (sixA 6 f)[j]? = some (.int .u8 ((f j).toNat : Int)) := by
  match j, hj with
  | 0, _ => rfl
  | 1, _ => rfl
  | 2, _ => rfl
  | 3, _ => rfl
  | 4, _ => rfl
  | 5, _ => rfl

theorem convert_six (w : World) (g : Nat) (f : Nat → UInt8) (t : TypeId) (h : w.heap[g]? = some (.cells (sixA 6 f) t)) :
    (convert 36 9 (.slice (some ⟨g, 0, none⟩) 6 6)).run Tryd.prog w = .ok (.string (mk6 f)) w := by
  refine run_convert_bytes_back (P := Tryd.prog) w 36 9 5 ⟨g, 0, none⟩ 6 [f 0, f 1, f 2, f 3, f 4, f 5] Tryd.underlying36 Tryd.underlying5 Tryd.underlying9 ?_
  intro j hj
  have hj : j < 6 := hj
  have ha : (⟨g, 0, none⟩ : Addr).add j = ⟨g, j, none⟩ := by cases j <;> simp [Addr.add]
  rw [ha, cell_of_block h, sixA_get hj]
  match j, hj with
  | 0, _ => rfl
  | 1, _ => rfl
  | 2, _ => rfl
  | 3, _ => rfl
  | 4, _ => rfl
  | 5, _ => rfl

/-! ### What two have in common -/

/-! ### Which method is called through the interface -/

theorem aheadNone_and (w : World) : (nilAhead 273 125 (.agg #[]) "loop.example/crossbuck/impl.and").run Tryd.prog w = .ok (some false) w := by kernel_rfl

theorem newBlockM (w : World) (o : Obj) : (w.alloc o).heap[w.heap.size]? = some o := (MapKept.heap_alloc w o).1
theorem duoCells {w : World} {b : Nat} {x y : Value} {t : TypeId} (h : w.heap[b]? = some (.cells #[x, y] t)) : w.cell? ⟨b, 0, none⟩ = some x ∧ w.cell? ⟨b, 1, none⟩ = some y ∧ ∀ o, w.frozen? ⟨b, o, none⟩ = false :=
  ⟨by rw [cell_of_block h]; rfl, by rw [cell_of_block h]; rfl, fun o => unfrozen_of_block h o⟩

end Go.Proofs.YthjceopaelagfaaDoor
