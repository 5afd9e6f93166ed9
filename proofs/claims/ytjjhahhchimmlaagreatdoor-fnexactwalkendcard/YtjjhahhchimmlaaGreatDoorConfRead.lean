/-
  The program's tables of a configuration, read.
-/
import Derived.Test.YtjjhahhchimmlaaGreatDoorConfT
import Derived.Test.YtjjhahhchimmlaaGreatDoorTabOkI
namespace Go.Proofs.YtjjhahhchimmlaaGreatDoor
open Go.ChangeShapes Go.WideShapes Go.ChangeAt Go.RowKit Go.Joins
set_option linter.unusedVariables false

def fnC : Value := .func (.func 77) #[] #[]
/-- The eight cells of four tables of which so many are read. -/
def cF (gs : Nat → Nat) (k : Nat) : Array Value := #[if 0 < k then fnC else .nilFunc, if 0 < k then .pointer (some ⟨gs 0, 0, none⟩) else .pointer none, if 1 < k then fnC else .nilFunc, if 1 < k then .pointer (some ⟨gs 1, 0, none⟩) else .pointer none,
  if 2 < k then fnC else .nilFunc, if 2 < k then .pointer (some ⟨gs 2, 0, none⟩) else .pointer none, if 3 < k then fnC else .nilFunc, if 3 < k then .pointer (some ⟨gs 3, 0, none⟩) else .pointer none]
theorem cF_size (gs : Nat → Nat) (k : Nat) : (cF gs k).size = 8 := rfl
theorem cF_one (gs : Nat → Nat) (k : Nat) : (cF gs k).all (·.oneCell') = true := by
  unfold cF fnC
  by_cases h0 : 0 < k <;> by_cases h1 : 1 < k <;> by_cases h2 : 2 < k <;> by_cases h3 : 3 < k <;> simp [h0, h1, h2, h3, Value.oneCell']
theorem cF_step (gs : Nat → Nat) (g : Nat) {k : Nat} (h : k < 4) : ((cF gs k).setIfInBounds (k * 2) fnC).setIfInBounds (k * 2 + 1) (.pointer (some ⟨g, 0, none⟩)) = cF (fun i => if i = k then g else gs i) (k + 1) := by
  have : k = 0 ∨ k = 1 ∨ k = 2 ∨ k = 3 := by omega
  rcases this with rfl | rfl | rfl | rfl <;> rfl
theorem cF_cell {w : World} {b k : Nat} {gs : Nat → Nat} {t : TypeId} (h : w.heap[b]? = some (.cells (cF gs k) t)) (hk : k < 4) : (∃ x, w.cell? ⟨b, k * 2, none⟩ = some x) ∧ (∃ y, w.cell? ⟨b, k * 2 + 1, none⟩ = some y) ∧ ∀ j, w.frozen? ⟨b, j, none⟩ = false := by
  refine ⟨⟨(cF gs k)[k * 2]'(by rw [cF_size]; omega), ?_⟩, ⟨(cF gs k)[k * 2 + 1]'(by rw [cF_size]; omega), ?_⟩, fun j => ?_⟩
  · simp only [World.cell?, h]
    exact Array.getElem?_eq_getElem _
  · simp only [World.cell?, h]
    exact Array.getElem?_eq_getElem _
  · simp [World.frozen?, h]
theorem infoCT : (Tryz.prog.info? 74).map (·.size) = some 8 := by kernel_rfl
theorem infoCZ : (Tryz.prog.info? 74).map (·.zero) = some (some (.agg (cF (fun _ => 0) 0))) := by kernel_rfl
theorem ct_alloc {ops : Array Oper} {rest : List Oper} {o : Oper} {a : Act} {w : World} {Q : Exit → Act → World → Prop} (hgd : o.guard = none) (ho : o.op = .alloc 74)
    (h : ∀ w', w'.heap[w.heap.size]? = some (.cells (cF (fun _ => 0) 0) 74) → Below w.heap.size w w' → w'.heap.size = w.heap.size + 1 → wpList Tryz.prog ops Q rest (a.put o.dst (.pointer (some ⟨w.heap.size, 0, none⟩))) w') : wpList Tryz.prog ops Q (o :: rest) a w := by
  refine wpList_plain hgd fun K hK => ?_
  have hz := infoCZ
  cases hq : Tryz.prog.info? 74 with
  | none => rw [hq] at hz; simp at hz
  | some i =>
    rw [hq] at hz
    have hz' : i.zero = some (.agg (cF (fun _ => 0) 0)) := by simpa using hz
    have := hK _ _ (h _ (heap_alloc_new w (.cells (cF (fun _ => 0) 0) 74)) (below_alloc1 _ _) (by simp))
    unfold Oper.wp execOp
    simp [ho, Instr.alloc, zeroValue, typeInfo, Sem.run_bind, hq, hz', go_sem, newVar, newRow, Value.cells, Result.andThen]
    exact this
theorem ct_load {ops : Array Oper} {rest : List Oper} {o : Oper} {a : Act} {w : World} {Q : Exit → Act → World → Prop} (hgd : o.guard = none) (x : Operand) (ho : o.op = .load 74 x) (g : Nat) (hx : a.eval x = .pointer (some ⟨g, 0, none⟩)) (gs : Nat → Nat) (k : Nat)
    (hp : w.heap[g]? = some (.cells (cF gs k) 74)) (h : wpList Tryz.prog ops Q rest (a.put o.dst (.agg (cF gs k))) w) : wpList Tryz.prog ops Q (o :: rest) a w :=
  wpList_load_row hgd _ x ho g hx _ _ _ _ hp Tryz.underlying74 rfl (by rw [infoCT, cF_size]) h
theorem ct_store {ops : Array Oper} {rest : List Oper} {o : Oper} {a : Act} {w : World} {Q : Exit → Act → World → Prop} (hgd : o.guard = none) (x y : Operand) (ho : o.op = .store 74 x y) (g : Nat) (hx : a.eval x = .pointer (some ⟨g, 0, none⟩)) (gs : Nat → Nat) (k : Nat)
    (hy : a.eval y = .agg (cF gs k)) (gs' : Nat → Nat) (k' : Nat) (hp : w.heap[g]? = some (.cells (cF gs' k') 74))
    (h : ∀ w', w'.heap[g]? = some (.cells (cF gs k) 74) → w.grownBy w' (some g) → wpList Tryz.prog ops Q rest (a.put o.dst undef) w') : wpList Tryz.prog ops Q (o :: rest) a w := by
  refine wpList_store_row hgd _ x y ho g (cF gs k) hx hy _ _ hp (by rw [infoCT, cF_size]) (by rw [cF_size, cF_size]) (cF_one gs k) (h _ (setRow_heap w g _ _ _ _ hp) ⟨rfl, rfl, rfl, by simp [World.setRow], fun k hk hne => ?_⟩)
  simp only [World.setRow]
  rw [Array.getElem?_modify, if_neg (fun e => hne (by rw [e]))]
theorem ct_results {fn : Func} {p q : Tmp} (h : fn.results = #[.cell p 74, .tmp q]) (tmps : Array Value) (w : World) (g : Nat) (gs : Nat → Nat) (k : Nat) (b : Bool) (hp : tmps[p]?.getD undef = .pointer (some ⟨g, 0, none⟩)) (hq : tmps[q]?.getD undef = .bool b) (hb : w.heap[g]? = some (.cells (cF gs k) 74)) :
    (results fn tmps).run Tryz.prog w = .ok (.tuple #[.agg (cF gs k), .bool b]) w := by
  have hl : (loadVar 74 ⟨g, 0, none⟩).run Tryz.prog w = .ok (.agg (cF gs k)) w := run_loadVar_row w g _ _ _ _ _ hb Tryz.underlying74 rfl (by rw [infoCT, cF_size])
  simp [results, h, hp, hq, asAddr, hl]
theorem ct_grown {a w : World} {g n : Nat} (h : a.grownBy w (some g)) (hg : n ≤ g) (hn : n ≤ a.heap.size) : Below n a w :=
  ⟨h.os, h.tape, h.output, h.size, fun k hk => h.block k (by omega) (fun e => by cases e; omega)⟩
theorem LR.far {w : World} {g b j : Nat} {v : Value} {l : List R4} (h : LR w g l) (hb : b < g) : LR (w.setCell ⟨b, j, none⟩ v) g l := by
  obtain ⟨q, h1, h2⟩ := h
  refine ⟨q, (Below.heap_setCell _ _ _ g (by dsimp only; omega)).trans h1, h2.keep fun c r q' hc hh => (Below.heap_setCell _ _ _ c (by dsimp only; omega)).trans hh⟩
theorem LR.far' {w w' : World} {g b : Nat} {l : List R4} (h : LR w g l) (hb : b < g) (hg : w.grownBy w' (some b)) : LR w' g l := by
  obtain ⟨q, h1, h2⟩ := h
  refine ⟨q, ?_, h2.keep fun c r q' hc hh => ?_⟩
  · exact (hg.block g (Array.getElem?_eq_some_iff.1 h1).1 (fun e => by cases e; omega)).trans h1
  · exact (hg.block c (Array.getElem?_eq_some_iff.1 hh).1 (fun e => by cases e; omega)).trans hh

end Go.Proofs.YtjjhahhchimmlaaGreatDoor
