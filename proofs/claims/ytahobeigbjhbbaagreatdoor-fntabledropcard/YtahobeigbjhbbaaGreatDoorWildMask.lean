/-
  What the masks' methods return: whether two meet, one is in another, a head is of them, how many heads they have, their text, what two have in common.
-/
import Derived.Test.YtahobeigbjhbbaaGreatDoorWildBase
import Derived.Test.YtahobeigbjhbbaaGreatDoorHeadMore
import Derived.Deep.RegionHeld3
namespace Go.Proofs.YtahobeigbjhbbaaGreatDoor
open Go.ChangeShapes Go.WideShapes Go.ChangeAt Go.RowKit Go.Joins
set_option linter.unusedVariables false

/-! ### Plain facts -/

/-- Two masks meet; one is in another; a number is of masks. -/
def meetB (c v c' v' : Nat → Bool) : Bool := all6 (fun i => !((v i ^^ v' i) && c i && c' i))
def inM (c v c' v' : Nat → Bool) : Bool := all6 (fun i => !(c' i && !c i)) && meetB c v c' v'
def hasM (c v b : Nat → Bool) : Bool := all6 (fun i => (b i && c i) == v i)
theorem meet_bits (c v c' v' : Nat → Bool) : (bits BinOp.and IntKind.u8 (bits BinOp.and IntKind.u8 (bits BinOp.xor IntKind.u8 (ofB v) (ofB v')) (ofB c)) (ofB c') == 0) = meetB c v c' v' := by
  rw [ofB_xor, ofB_and, ofB_and, ofB_isZero]; rfl
theorem in_bits (c c' : Nat → Bool) : (bits BinOp.andNot IntKind.u8 (ofB c') (ofB c) == 0) = all6 (fun i => !(c' i && !c i)) := by
  rw [ofB_andNot, ofB_isZero]
theorem has_bits (c v b : Nat → Bool) : (bits BinOp.and IntKind.u8 (ofB b) (ofB c) == ofB v) = hasM c v b := by
  rw [ofB_and, ofB_eq]; rfl

/-- How many of six. -/
def cnt6 (a b c d e f : Bool) : Nat := a.toNat + (b.toNat + (c.toNat + (d.toNat + (e.toNat + f.toNat))))
def manyB (c : Nat → Bool) : Int := 2 ^ (6 - cnt6 (c 0) (c 1) (c 2) (c 3) (c 4) (c 5))

theorem assert_yes (v : Value) (w : World) : (Instr.typeAssert (.iface 147 v) 89 147 true).run Tryz.prog w = .ok (.tuple #[v, .bool true]) w := by
  simp [Instr.typeAssert, run_underlying Tryz.underlying147, go_sem, Result.andThen]
theorem assert_no (v : Value) (w : World) : (Instr.typeAssert (.iface 145 v) 89 147 true).run Tryz.prog w = .ok (.tuple #[.agg #[.int .u8 0, .int .u8 0], .bool false]) w := by
  simp [Instr.typeAssert, run_underlying Tryz.underlying147, go_sem, Result.andThen]

set_option maxRecDepth 100000 in
set_option maxHeartbeats 1000000 in
theorem masksOf_yes (x y : Int) (w : World) :
    Calls Tryz.prog 122 #[.iface 147 (.agg #[.int .u8 x, .int .u8 y])] w fun e w' => e = .returned (.tuple #[.agg #[.int .u8 x, .int .u8 y], .bool true]) ∧ Below w.heap.size w w' := by
  have hta := assert_yes
  go_enter Tryz.func122, Tryz.ntmps122
  go_wp2
  exact bodyPost_ret (v := .tuple #[.agg #[.int .u8 x, .int .u8 y], .bool true]) (by simp [results, Tryz.results122, go_sem]) rfl
    ⟨rfl, by repeat (first | exact below_alloc2 _ _ _ | refine Below.setCell ?_ (by simp) _)⟩

set_option maxRecDepth 100000 in
set_option maxHeartbeats 1000000 in
theorem masksOf_no (w : World) :
    Calls Tryz.prog 122 #[.iface 145 (.agg #[])] w fun e w' => e = .returned (.tuple #[.agg #[.int .u8 0, .int .u8 0], .bool false]) ∧ Below w.heap.size w w' := by
  have hta := assert_no
  go_enter Tryz.func122, Tryz.ntmps122
  go_wp2
  exact bodyPost_ret (v := .tuple #[.agg #[.int .u8 0, .int .u8 0], .bool false]) (by simp [results, Tryz.results122, go_sem]) rfl
    ⟨rfl, by repeat (first | exact below_alloc1 _ _ | refine Below.setCell ?_ (by simp) _)⟩

set_option maxHeartbeats 400000 in
theorem has_any (c v b : Nat → Bool) (w : World) :
    Calls Tryz.prog 192 #[.agg #[.int .u8 (ofB c), .int .u8 (ofB v)], .int .u8 (ofB b)] w fun e w' => e = .returned (.bool (hasM c v b)) ∧ Below w.heap.size w w' := by
  rw [← has_bits]
  go_enter Tryz.func192, Tryz.ntmps192
  go_wp2
  go_ret
  exact ⟨rfl, below_alloc1 _ _⟩

set_option maxHeartbeats 400000 in
theorem hasNone_any (x : Int) (w : World) :
    Calls Tryz.prog 188 #[.agg #[], .int .u8 x] w fun e w' => e = .returned (.bool false) ∧ Below w.heap.size w w' := by
  go_enter Tryz.func188, Tryz.ntmps188
  go_wp2
  go_ret
  exact ⟨rfl, below_alloc1 _ _⟩

set_option maxHeartbeats 400000 in
theorem with_any (c v p u : Nat → Bool) (w : World) :
    Calls Tryz.prog 152 #[.agg #[.int .u8 (ofB c), .int .u8 (ofB v)], .int .u8 (ofB p), .int .u8 (ofB u)] w fun e w' => e = .returned (.agg #[.int .u8 (ofB (fun i => c i || p i)), .int .u8 (ofB (fun i => (v i && !p i) || (u i && p i)))]) ∧ Below w.heap.size w w' := by
  rw [show ofB (fun i => (v i && !p i) || (u i && p i)) = bits BinOp.or IntKind.u8 (bits BinOp.andNot IntKind.u8 (ofB v) (ofB p)) (bits BinOp.and IntKind.u8 (ofB u) (ofB p)) from by rw [ofB_andNot, ofB_and, ofB_or]]
  rw [← ofB_or]
  go_enter Tryz.func152, Tryz.ntmps152
  go_wp2
  exact bodyPost_ret (v := .agg #[.int .u8 (bits BinOp.or IntKind.u8 (ofB c) (ofB p)), .int .u8 (bits BinOp.or IntKind.u8 (bits BinOp.andNot IntKind.u8 (ofB v) (ofB p)) (bits BinOp.and IntKind.u8 (ofB u) (ofB p)))]) (by simp [results, Tryz.results152, go_sem]) rfl
    ⟨rfl, by repeat (first | exact below_alloc2 _ _ _ | refine Below.setCell ?_ (by simp) _)⟩

/-! ### How many -/

def cntB (c : Nat → Bool) : Nat := cnt6 (c 0) (c 1) (c 2) (c 3) (c 4) (c 5)
theorem cnt6_le : ∀ a b c d e f : Bool, cnt6 a b c d e f ≤ 6 := by decide
theorem cntB_le (c : Nat → Bool) : cntB c ≤ 6 := cnt6_le _ _ _ _ _ _

set_option maxRecDepth 100000 in
set_option maxHeartbeats 1000000 in
theorem onesCount_at (c : Nat → Bool) (w : World) :
    Calls Tryz.prog 143 #[.int .u8 (ofB c)] w fun e w' => e = .returned (.int .i64 (cntB c)) ∧ w = w' := by
  have h0 := (ofB_bound c).1
  have h1 := (ofB_bound c).2
  go_enter Tryz.func143, Tryz.ntmps143
  go_wp2
  go_ret
  refine ⟨ret_int ?_, rfl⟩
  rename_i h
  clear h1
  unfold cntB
  revert h0 h
  unfold ofB
  generalize c 0 = x0
  generalize c 1 = x1
  generalize c 2 = x2
  generalize c 3 = x3
  generalize c 4 = x4
  generalize c 5 = x5
  intro h0 h
  rw [ByteArray.getElem_eq_getElem_data]
  cases x0 <;> cases x1 <;> cases x2 <;> cases x3 <;> cases x4 <;> cases x5 <;> simp [of6, cnt6, wrap64]

set_option maxHeartbeats 1000000 in
theorem many_any (c v : Nat → Bool) (w : World) :
    Calls Tryz.prog 128 #[.agg #[.int .u8 (ofB c), .int .u8 (ofB v)]] w fun e w' => e = .returned (.int .i64 (manyB c)) ∧ Below w.heap.size w w' := by
  have hc := Lib.hid (onesCount_at c)
  have hm : manyB c = 2 ^ (6 - cntB c) := rfl
  have hl := cntB_le c
  rw [hm]
  clear hm
  generalize cntB c = m at *
  match m, hl with
  | 0, _ | 1, _ | 2, _ | 3, _ | 4, _ | 5, _ | 6, _ =>
    go_enter Tryz.func128, Tryz.ntmps128
    go_wp2_with (go_at_call 143; refine (hc.out _).mono ?_; rintro e w1 ⟨rfl, rfl⟩)
    go_ret
    exact ⟨rfl, below_alloc1 _ _⟩

/-! ### The text -/

/-- Six cells, of which the first k are written. -/
def sixV (k : Nat) (f : Nat → UInt8) (i : Nat) : Value := .int .u8 (if i < k then ((f i).toNat : Int) else 0)
def sixA (k : Nat) (f : Nat → UInt8) : Array Value := #[sixV k f 0, sixV k f 1, sixV k f 2, sixV k f 3, sixV k f 4, sixV k f 5]
theorem sixA_zero (f : Nat → UInt8) : sixA 0 f = #[.int .u8 0, .int .u8 0, .int .u8 0, .int .u8 0, .int .u8 0, .int .u8 0] := rfl
theorem sixV_ne {k i : Nat} (f : Nat → UInt8) (h : i ≠ k) : sixV (k + 1) f i = sixV k f i := by
  unfold sixV
  have : (i < k + 1) = (i < k) := by apply propext; omega
  simp only [this]
theorem sixV_eq (k : Nat) (f : Nat → UInt8) : sixV (k + 1) f k = .int .u8 ((f k).toNat : Int) := by simp [sixV]
theorem sixA_step {k : Nat} (hk : k < 6) (f : Nat → UInt8) : (sixA k f).setIfInBounds k (.int .u8 ((f k).toNat : Int)) = sixA (k + 1) f := by
  match k, hk with
  | 0, _ => simp [sixA, sixV]
  | 1, _ => simp [sixA, sixV]
  | 2, _ => simp [sixA, sixV]
  | 3, _ => simp [sixA, sixV]
  | 4, _ => simp [sixA, sixV]
  | 5, _ => simp [sixA, sixV]
theorem sixA_get {f : Nat → UInt8} {j : Nat} (hj : j < 6) : (sixA 6 f)[j]? = some (.int .u8 ((f j).toNat : Int)) := by
  match j, hj with
  | 0, _ => rfl
  | 1, _ => rfl
  | 2, _ => rfl
  | 3, _ => rfl
  | 4, _ => rfl
  | 5, _ => rfl

theorem convert_six (w : World) (g : Nat) (f : Nat → UInt8) (t : TypeId) (h : w.heap[g]? = some (.cells (sixA 6 f) t)) :
    (convert 22 9 (.slice (some ⟨g, 0, none⟩) 6 6)).run Tryz.prog w = .ok (.string (mk6 f)) w := by
  refine run_convert_bytes_back (P := Tryz.prog) w 22 9 5 ⟨g, 0, none⟩ 6 [f 0, f 1, f 2, f 3, f 4, f 5] Tryz.underlying22 Tryz.underlying5 Tryz.underlying9 ?_
  intro j hj
  have hj : j < 6 := hj
  have ha : (⟨g, 0, none⟩ : Addr).add j = ⟨g, j, none⟩ := by cases j <;> simp [Addr.add]
  rw [ha, cell_of_block h, sixA_get hj]
  match j, hj with
  | 0, _ => rfl
  | 1, _ => rfl
  | 2, _ => rfl
  | 3, _ => rfl
  | 4, _ => rfl
  | 5, _ => rfl

set_option maxHeartbeats 1000000 in
theorem text_any (c v : Nat → Bool) (w : World) :
    Calls Tryz.prog 124 #[.agg #[.int .u8 (ofB c), .int .u8 (ofB v)]] w fun e w' => e = .returned (.string (txt c v)) ∧ Below w.heap.size w w' := by
  unfold txt
  generalize hf : (fun i => chr (c i) (v i)) = f
  have HF : Hid (∀ i, f i = chr (c i) (v i)) := fun i => by rw [← hf]
  clear hf
  go_enter Tryz.func124, Tryz.ntmps124
  go_wp2
  go_loopw [6] (fun i wr => ∃ k : Nat, k ≤ 6 ∧ i = .int .i64 k ∧ wr.heap[w.heap.size]? = some (.cells #[.int .u8 (ofB c), .int .u8 (ofB v)] 147) ∧ wr.heap[w.heap.size + 1]? = some (.cells (sixA k f) 175) ∧ Below w.heap.size w wr) (fun i _ => 6 - (intOf i).toNat)
  case atStart =>
    refine ⟨0, Nat.zero_le _, rfl, ?_, ?_, below_alloc2 _ _ _⟩
    · rw [Below.heap_alloc _ _ _ (by simp)]; exact (MapKept.heap_alloc w _).1
    · have := (MapKept.heap_alloc (w.alloc (.cells #[.int .u8 (ofB c), .int .u8 (ofB v)] 147)) (.cells #[.int .u8 0, .int .u8 0, .int .u8 0, .int .u8 0, .int .u8 0, .int .u8 0] 175)).1
      rw [sixA_zero]
      simpa using this
  case round =>
    obtain ⟨k, hk, rfl, hm, hblk, hbel⟩ := hrel
    have c0 : wr.cell? ⟨w.heap.size, 0, none⟩ = some (.int .u8 (ofB c)) := by rw [cell_of_block hm]; rfl
    have c1 : wr.cell? ⟨w.heap.size, 1, none⟩ = some (.int .u8 (ofB v)) := by rw [cell_of_block hm]; rfl
    have f0 := unfrozen_of_block hblk
    by_cases hlt : k < 6
    · have ck : wr.cell? ⟨w.heap.size + 1, k, none⟩ = some (.int .u8 0) := by
        rw [cell_of_block hblk]
        match k, hlt with
        | 0, _ => rfl
        | 1, _ => rfl
        | 2, _ => rfl
        | 3, _ => rfl
        | 4, _ => rfl
        | 5, _ => rfl
      have bc := and_pw c hlt
      have bv := and_pw v hlt
      have S := Lib.hid (sixA_step hlt f)
      have E := Lib.hid (HF.out k)
      cases ec : c k
      · rw [ec] at bc
        have e : f k = 120 := by rw [E.out, ec]; rfl
        rw [e] at S
        go_wp2_with (go_at_call 116; refine (wildBit_at _ hlt _).mono ?_; rintro e wq ⟨rfl, rfl⟩)
        go_roundw
        case rel => exact ⟨k + 1, by omega, by go_num, (Below.heap_setCell _ _ _ _ (by simp)).trans hm, by rw [← S.out]; exact block_setCell hblk _, hbel.setCell (by simp) _⟩
        case measure => simp [intOf]; omega
      · rw [ec] at bc
        cases ev : v k
        · rw [ev] at bv
          have e : f k = 48 := by rw [E.out, ec, ev]; rfl
          rw [e] at S
          go_wp2_with (go_at_call 116; refine (wildBit_at _ hlt _).mono ?_; rintro e wq ⟨rfl, rfl⟩)
          go_roundw
          case rel => exact ⟨k + 1, by omega, by go_num, (Below.heap_setCell _ _ _ _ (by simp)).trans hm, by rw [← S.out]; exact block_setCell hblk _, hbel.setCell (by simp) _⟩
          case measure => simp [intOf]; omega
        · rw [ev] at bv
          have e : f k = 49 := by rw [E.out, ec, ev]; rfl
          rw [e] at S
          go_wp2_with (go_at_call 116; refine (wildBit_at _ hlt _).mono ?_; rintro e wq ⟨rfl, rfl⟩)
          go_roundw
          case rel => exact ⟨k + 1, by omega, by go_num, (Below.heap_setCell _ _ _ _ (by simp)).trans hm, by rw [← S.out]; exact block_setCell hblk _, hbel.setCell (by simp) _⟩
          case measure => simp [intOf]; omega
    · obtain rfl : k = 6 := by omega
      have hcv := convert_six wr _ f _ hblk
      go_wp2
      go_ret
      exact ⟨rfl, hbel⟩

/-! ### What two have in common -/

/-! ### Which method is called through the interface -/

theorem meth_has (x y : Int) (w : World) : (method 348 147 (.agg #[.int .u8 x, .int .u8 y]) "loop.example/crossbuck/impl.has").run Tryz.prog w = .ok (192, .agg #[.int .u8 x, .int .u8 y]) w := by kernel_rfl

theorem methNone_has (w : World) : (method 348 145 (.agg #[]) "loop.example/crossbuck/impl.has").run Tryz.prog w = .ok (188, .agg #[]) w := by kernel_rfl

theorem meth_many (x y : Int) (w : World) : (method 348 147 (.agg #[.int .u8 x, .int .u8 y]) "loop.example/crossbuck/impl.many").run Tryz.prog w = .ok (128, .agg #[.int .u8 x, .int .u8 y]) w := by kernel_rfl

theorem meth_text (x y : Int) (w : World) : (method 348 147 (.agg #[.int .u8 x, .int .u8 y]) "loop.example/crossbuck/impl.text").run Tryz.prog w = .ok (124, .agg #[.int .u8 x, .int .u8 y]) w := by kernel_rfl

theorem aheadNone_and (w : World) : (nilAhead 348 145 (.agg #[]) "loop.example/crossbuck/impl.and").run Tryz.prog w = .ok (some false) w := by kernel_rfl

theorem newBlockM (w : World) (o : Obj) : (w.alloc o).heap[w.heap.size]? = some o := (MapKept.heap_alloc w o).1
theorem duoCells {w : World} {b : Nat} {x y : Value} {t : TypeId} (h : w.heap[b]? = some (.cells #[x, y] t)) : w.cell? ⟨b, 0, none⟩ = some x ∧ w.cell? ⟨b, 1, none⟩ = some y ∧ ∀ o, w.frozen? ⟨b, o, none⟩ = false :=
  ⟨by rw [cell_of_block h]; rfl, by rw [cell_of_block h]; rfl, fun o => unfrozen_of_block h o⟩

end Go.Proofs.YtahobeigbjhbbaaGreatDoor
