/-
  The program's handling of a head by a table's list: the first rule that is of it.
-/
import Derived.Test.YtmfgiemhonfapaaDoorTabL
import Derived.Test.YtmfgiemhonfapaaDoorRuleDoI
namespace Go.Proofs.YtmfgiemhonfapaaDoor
open Go.ChangeShapes Go.WideShapes Go.ChangeAt Go.RowKit Go.Joins
open Go.Shelf
set_option linter.unusedVariables false
attribute [local go_sem] Oper.semAt_some

/-- A rule is ok, and of a head. -/
def mR (a b c : Int) (r : R4) : Bool := doB r.p r.s r.o r.t a b c
/-- What comes of it: the first rule's place, the head, the port. -/
def hdV (a b c : Int) (l : List R4) : Value := match l.findIdx? (mR a b c) with
  | none => .tuple #[.int .i64 (-1), .agg #[.int .i64 a, .int .i64 b, .int .i64 c], .int .i64 0]
  | some i => .tuple #[.int .i64 i, .agg #[.int .i64 a, .int .i64 b, .int .i64 (tagTo (ruAt l i).t c)], .int .i64 (ruAt l i).o]

theorem comeA_mem {l : List R4} {k : Nat} {y : Nat × R4} : y ∈ comeA l k ↔ ∃ j, j < k ∧ (j, ruAt l j) = y := by simp [comeA]
theorem hdV_none {a b c : Int} {l : List R4} (h : ∀ y ∈ comeA l l.length, mR a b c y.2 = false) : hdV a b c l = .tuple #[.int .i64 (-1), .agg #[.int .i64 a, .int .i64 b, .int .i64 c], .int .i64 0] := by
  have e : l.findIdx? (mR a b c) = none := by
    rw [List.findIdx?_eq_none_iff]
    intro r hr
    obtain ⟨j, hj, rfl⟩ := List.getElem_of_mem hr
    have := h (j, ruAt l j) (comeA_mem.2 ⟨j, hj, rfl⟩)
    rw [ruAt_lt hj] at this
    simpa using this
  unfold hdV
  rw [e]
theorem hdV_some {a b c : Int} {l : List R4} {k : Nat} {pre : List (Nat × R4)} {x : Nat × R4} (hk : k ≤ l.length) (e : comeA l k = pre ++ [x]) (h : ∀ y ∈ pre, mR a b c y.2 = false) (hx : mR a b c x.2 = true) :
    hdV a b c l = .tuple #[.int .i64 x.1, .agg #[.int .i64 a, .int .i64 b, .int .i64 (tagTo x.2.t c)], .int .i64 x.2.o] := by
  obtain ⟨k', rfl⟩ : ∃ k', k = k' + 1 := by
    cases k with
    | zero => simp [comeA] at e
    | succ k' => exact ⟨k', rfl⟩
  rw [comeA_succ] at e
  obtain ⟨rfl, e2⟩ := List.append_inj' e rfl
  obtain rfl : (k', ruAt l k') = x := by simpa using e2
  have e : l.findIdx? (mR a b c) = some k' := by
    rw [List.findIdx?_eq_some_iff_getElem]
    refine ⟨by omega, by rw [← ruAt_lt]; exact hx, fun j hj => ?_⟩
    have := h (j, ruAt l j) (comeA_mem.2 ⟨j, hj, rfl⟩)
    rw [ruAt_lt (show j < l.length by omega)] at this
    rw [this]
    decide
  unfold hdV
  rw [e]

theorem sixBlocks (w : World) (A B C D E F : Obj) : Below w.heap.size w ((((((w.alloc A).alloc B).alloc C).alloc D).alloc E).alloc F) ∧ ((((((w.alloc A).alloc B).alloc C).alloc D).alloc E).alloc F).heap[w.heap.size + 1]? = some B ∧ ((((((w.alloc A).alloc B).alloc C).alloc D).alloc E).alloc F).heap[w.heap.size + 1 + 1]? = some C ∧ ((((((w.alloc A).alloc B).alloc C).alloc D).alloc E).alloc F).heap[w.heap.size + 1 + 1 + 1]? = some D ∧ ((((((w.alloc A).alloc B).alloc C).alloc D).alloc E).alloc F).heap[w.heap.size + 1 + 1 + 1 + 1]? = some E ∧ ((((((w.alloc A).alloc B).alloc C).alloc D).alloc E).alloc F).heap[w.heap.size + 1 + 1 + 1 + 1 + 1]? = some F ∧ ((((((w.alloc A).alloc B).alloc C).alloc D).alloc E).alloc F).heap.size = w.heap.size + 6 := by
  have h1 := newBlockM (w.alloc A) B
  have h2 := newBlockM ((w.alloc A).alloc B) C
  have h3 := newBlockM (((w.alloc A).alloc B).alloc C) D
  have h4 := newBlockM ((((w.alloc A).alloc B).alloc C).alloc D) E
  have h5 := newBlockM (((((w.alloc A).alloc B).alloc C).alloc D).alloc E) F
  simp only [World.size_alloc] at h1 h2 h3 h4 h5
  refine ⟨(below_alloc2 w A B).trans ((((((Below.refl _ _).alloc (by simp; omega) C).alloc (by simp; omega) D).alloc (by simp; omega) E).alloc (by simp; omega) F)), ?_, ?_, ?_, ?_, h5, by simp⟩
  · rw [Below.heap_alloc _ _ _ (by simp), Below.heap_alloc _ _ _ (by simp), Below.heap_alloc _ _ _ (by simp), Below.heap_alloc _ _ _ (by simp)]
    exact h1
  · rw [Below.heap_alloc _ _ _ (by simp), Below.heap_alloc _ _ _ (by simp), Below.heap_alloc _ _ _ (by simp)]
    exact h2
  · rw [Below.heap_alloc _ _ _ (by simp), Below.heap_alloc _ _ _ (by simp)]
    exact h3
  · rw [Below.heap_alloc _ _ _ (by simp)]
    exact h4
theorem cells3 {w : World} {b : Nat} {x y z : Value} {t : TypeId} (h : w.heap[b]? = some (.cells #[x, y, z] t)) : w.cell? ⟨b, 0, none⟩ = some x ∧ w.cell? ⟨b, 1, none⟩ = some y ∧ w.cell? ⟨b, 2, none⟩ = some z ∧ ∀ j, w.frozen? ⟨b, j, none⟩ = false := by
  refine ⟨?_, ?_, ?_, fun j => ?_⟩ <;> simp [World.cell?, World.frozen?, h]

/-- Three variables are written. -/
theorem stored5 {w : World} {B2 B3 B4 : Nat} {x y0 y1 y2 z : Value} (v a b c u : Value) {t s q : TypeId} (h2 : w.heap[B2]? = some (.cells #[x] t)) (h3 : w.heap[B3]? = some (.cells #[y0, y1, y2] s)) (h4 : w.heap[B4]? = some (.cells #[z] q)) (n1 : B2 ≠ B3) (n2 : B2 ≠ B4) (n3 : B3 ≠ B4) :
    (((((w.setCell ⟨B2, 0, none⟩ v).setCell ⟨B3, 0, none⟩ a).setCell ⟨B3, 1, none⟩ b).setCell ⟨B3, 2, none⟩ c).setCell ⟨B4, 0, none⟩ u).heap[B2]? = some (.cells #[v] t) ∧ (((((w.setCell ⟨B2, 0, none⟩ v).setCell ⟨B3, 0, none⟩ a).setCell ⟨B3, 1, none⟩ b).setCell ⟨B3, 2, none⟩ c).setCell ⟨B4, 0, none⟩ u).heap[B3]? = some (.cells #[a, b, c] s) ∧ (((((w.setCell ⟨B2, 0, none⟩ v).setCell ⟨B3, 0, none⟩ a).setCell ⟨B3, 1, none⟩ b).setCell ⟨B3, 2, none⟩ c).setCell ⟨B4, 0, none⟩ u).heap[B4]? = some (.cells #[u] q) ∧ (∀ k, k ≠ B2 → k ≠ B3 → k ≠ B4 → (((((w.setCell ⟨B2, 0, none⟩ v).setCell ⟨B3, 0, none⟩ a).setCell ⟨B3, 1, none⟩ b).setCell ⟨B3, 2, none⟩ c).setCell ⟨B4, 0, none⟩ u).heap[k]? = w.heap[k]?) ∧ (((((w.setCell ⟨B2, 0, none⟩ v).setCell ⟨B3, 0, none⟩ a).setCell ⟨B3, 1, none⟩ b).setCell ⟨B3, 2, none⟩ c).setCell ⟨B4, 0, none⟩ u).heap.size = w.heap.size := by
  have a1 := heap_setCell_same w B2 0 _ _ v h2
  have a2 : (w.setCell ⟨B2, 0, none⟩ v).heap[B3]? = some (.cells #[y0, y1, y2] s) := (heap_setCell_other _ _ B3 _ (fun e => n1 e.symm)).trans h3
  have a3 := heap_setCell_same _ B3 0 _ _ a a2
  have a4 := heap_setCell_same _ B3 1 _ _ b a3
  have a5 := heap_setCell_same _ B3 2 _ _ c a4
  have a6 : ((((w.setCell ⟨B2, 0, none⟩ v).setCell ⟨B3, 0, none⟩ a).setCell ⟨B3, 1, none⟩ b).setCell ⟨B3, 2, none⟩ c).heap[B4]? = some (.cells #[z] q) := by
    rw [heap_setCell_other _ _ B4 _ (fun e => n3 e.symm), heap_setCell_other _ _ B4 _ (fun e => n3 e.symm), heap_setCell_other _ _ B4 _ (fun e => n3 e.symm), heap_setCell_other _ _ B4 _ (fun e => n2 e.symm)]
    exact h4
  have a7 := heap_setCell_same _ B4 0 _ _ u a6
  refine ⟨?_, ?_, by simpa using a7, fun k k2 k3 k4 => ?_, by simp [World.setCell]⟩
  · rw [heap_setCell_other _ _ B2 _ n2, heap_setCell_other _ _ B2 _ n1, heap_setCell_other _ _ B2 _ n1, heap_setCell_other _ _ B2 _ n1]
    simpa using a1
  · rw [heap_setCell_other _ _ B3 _ n3]
    simpa using a5
  · rw [heap_setCell_other _ _ k _ k4, heap_setCell_other _ _ k _ k3, heap_setCell_other _ _ k _ k3, heap_setCell_other _ _ k _ k3, heap_setCell_other _ _ k _ k2]

end Go.Proofs.YtmfgiemhonfapaaDoor
