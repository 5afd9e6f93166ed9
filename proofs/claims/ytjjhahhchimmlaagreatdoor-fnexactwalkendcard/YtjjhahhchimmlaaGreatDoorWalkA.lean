/-
  What moves packets: forty numbers of a net, eight cells of four tables, in one variable; readFabric.
-/
import Derived.Test.YtjjhahhchimmlaaGreatDoorConfReadB
import Derived.Test.YtjjhahhchimmlaaGreatDoorNetReadB
namespace Go.Proofs.YtjjhahhchimmlaaGreatDoor
open Go.ChangeShapes Go.WideShapes Go.ChangeAt Go.RowKit Go.Joins
set_option linter.unusedVariables false

/-- The cells of a fabric. -/
def fbA (P : Pv) (gs : Nat → Nat) (k : Nat) : Array Value := pvA P ++ cF gs k
theorem fbA_size (P : Pv) (gs : Nat → Nat) (k : Nat) : (fbA P gs k).size = 48 := by simp [fbA, pvA_size, cF_size]
theorem fbA_one (P : Pv) (gs : Nat → Nat) (k : Nat) : (fbA P gs k).all (·.oneCell') = true := by
  unfold fbA
  rw [Array.all_append, pvA_one, cF_one]
  rfl
def Fb2 (w : World) (g : Nat) (P : Pv) (gs : Nat → Nat) (k : Nat) : Prop := w.heap[g]? = some (.cells (fbA P gs k) 76)
theorem Fb2.lt {w : World} {g : Nat} {P : Pv} {gs : Nat → Nat} {k : Nat} (h : Fb2 w g P gs k) : g < w.heap.size := (Array.getElem?_eq_some_iff.1 h).1
theorem Fb2.below {w w' : World} {n g : Nat} {P : Pv} {gs : Nat → Nat} {k : Nat} (h : Fb2 w g P gs k) (hb : Below n w w') (hn : g < n) : Fb2 w' g P gs k := (hb.block g hn).trans h
theorem Fb2.net {w : World} {g : Nat} {P : Pv} {gs : Nat → Nat} {k : Nat} (h : Fb2 w g P gs k) {i : Nat} (hi : i < 40) : w.cell? ⟨g, i, none⟩ = some (.int .i64 (P i)) := by
  rw [cell_of_row w g i _ _ _ h]
  unfold fbA
  rw [Array.getElem?_append_left (by rw [pvA_size]; exact hi), pvA_at P hi]
theorem Fb2.tab {w : World} {g : Nat} {P : Pv} {gs : Nat → Nat} (h : Fb2 w g P gs 4) {j : Nat} (hj : j < 4) : w.cell? ⟨g, 40 + j * 2, none⟩ = some fnC ∧ w.cell? ⟨g, 40 + j * 2 + 1, none⟩ = some (.pointer (some ⟨gs j, 0, none⟩)) := by
  rw [cell_of_row w g _ _ _ _ h, cell_of_row w g _ _ _ _ h]
  unfold fbA
  rw [Array.getElem?_append_right (by rw [pvA_size]; omega), Array.getElem?_append_right (by rw [pvA_size]; omega), pvA_size]
  have : j = 0 ∨ j = 1 ∨ j = 2 ∨ j = 3 := by omega
  rcases this with rfl | rfl | rfl | rfl <;> exact ⟨rfl, rfl⟩
theorem infoFb : (Tryz.prog.info? 76).map (·.size) = some 48 := by kernel_rfl
theorem infoFbZ : (Tryz.prog.info? 76).map (·.zero) = some (some (.agg (fbA pz (fun _ => 0) 0))) := by kernel_rfl
theorem fb_alloc {ops : Array Oper} {rest : List Oper} {o : Oper} {a : Act} {w : World} {Q : Exit → Act → World → Prop} (hgd : o.guard = none) (ho : o.op = .alloc 76)
    (h : ∀ w', Fb2 w' w.heap.size pz (fun _ => 0) 0 → Below w.heap.size w w' → w'.heap.size = w.heap.size + 1 → wpList Tryz.prog ops Q rest (a.put o.dst (.pointer (some ⟨w.heap.size, 0, none⟩))) w') : wpList Tryz.prog ops Q (o :: rest) a w := by
  refine wpList_plain hgd fun K hK => ?_
  have hz := infoFbZ
  cases hq : Tryz.prog.info? 76 with
  | none => rw [hq] at hz; simp at hz
  | some i =>
    rw [hq] at hz
    have hz' : i.zero = some (.agg (fbA pz (fun _ => 0) 0)) := by simpa using hz
    have := hK _ _ (h _ (heap_alloc_new w (.cells (fbA pz (fun _ => 0) 0) 76)) (below_alloc1 _ _) (by simp))
    unfold Oper.wp execOp
    simp [ho, Instr.alloc, zeroValue, typeInfo, Sem.run_bind, hq, hz', go_sem, newVar, newRow, Value.cells, Result.andThen]
    exact this
theorem fb_store {ops : Array Oper} {rest : List Oper} {o : Oper} {a : Act} {w : World} {Q : Exit → Act → World → Prop} (hgd : o.guard = none) (x y : Operand) (ho : o.op = .store 76 x y) (g : Nat) (hx : a.eval x = .pointer (some ⟨g, 0, none⟩)) (P : Pv) (gs : Nat → Nat) (k : Nat)
    (hy : a.eval y = .agg (fbA P gs k)) (P' : Pv) (gs' : Nat → Nat) (k' : Nat) (hp : Fb2 w g P' gs' k')
    (h : ∀ w', Fb2 w' g P gs k → w.grownBy w' (some g) → wpList Tryz.prog ops Q rest (a.put o.dst undef) w') : wpList Tryz.prog ops Q (o :: rest) a w := by
  refine wpList_store_row hgd _ x y ho g (fbA P gs k) hx hy _ _ hp (by rw [infoFb, fbA_size]) (by rw [fbA_size, fbA_size]) (fbA_one P gs k) (h _ (setRow_heap w g _ _ _ _ hp) ⟨rfl, rfl, rfl, by simp [World.setRow], fun k hk hne => ?_⟩)
  simp only [World.setRow]
  rw [Array.getElem?_modify, if_neg (fun e => hne (by rw [e]))]
theorem run_fb (P : Pv) (gs : Nat → Nat) (k : Nat) (w : World) : (Instr.build 76 #[(0, .agg (pvA P)), (1, .agg (cF gs k))]).run Tryz.prog w = .ok (.agg (fbA P gs k)) w := by
  kernel_rfl
theorem results_fb {fn : Func} {p q : Tmp} (h : fn.results = #[.cell p 76, .tmp q]) (tmps : Array Value) (w : World) (g : Nat) (P : Pv) (gs : Nat → Nat) (k : Nat) (b : Bool) (hp : tmps[p]?.getD undef = .pointer (some ⟨g, 0, none⟩)) (hq : tmps[q]?.getD undef = .bool b) (hb : Fb2 w g P gs k) :
    (results fn tmps).run Tryz.prog w = .ok (.tuple #[.agg (fbA P gs k), .bool b]) w := by
  have hl : (loadVar 76 ⟨g, 0, none⟩).run Tryz.prog w = .ok (.agg (fbA P gs k)) w := run_loadVar_row w g _ _ _ _ _ hb Tryz.underlying76 rfl (by rw [infoFb, fbA_size])
  simp [results, h, hp, hq, asAddr, hl]

end Go.Proofs.YtjjhahhchimmlaaGreatDoor
