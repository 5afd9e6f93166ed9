/-
  A queue of switches: a slice whose first is taken and behind which one is appended, wherever it lies.
-/
import Derived.Test.YtbjndcfdcjpkmaaNetBfs
import Derived.ArgAppend
namespace Go.Proofs.Ytbjndcfdcjpkmaa
open Go.ChangeShapes Go.WideShapes Go.ChangeAt Go.RowKit Go.Joins
set_option linter.unusedVariables false

/-- A value is a slice with these numbers, in a block of numbers from lo on. -/
structure Que (w : World) (lo : Nat) (b off cap : Nat) (q : List Nat) : Prop where
  lo' : lo ≤ b
  cells : ∃ cs, w.heap[b]? = some (.cells cs 3) ∧ off + cap ≤ cs.size ∧ ∀ i, i < q.length → cs[off + i]? = some (.int .i64 ((q.getD i 0 : Nat) : Int))
  fits : q.length ≤ cap
theorem Que.lt {w : World} {lo b off cap : Nat} {q : List Nat} (h : Que w lo b off cap q) : b < w.heap.size := by
  obtain ⟨cs, hb, -⟩ := h.cells
  exact (Array.getElem?_eq_some_iff.1 hb).1
theorem Que.below {w w' : World} {lo b off cap : Nat} {q : List Nat} (h : Que w lo b off cap q) (hb : Below w.heap.size w w') : Que w' lo b off cap q := by
  obtain ⟨cs, hc, hk⟩ := h.cells
  exact ⟨h.lo', ⟨cs, (hb.block b h.lt).trans hc, hk⟩, h.fits⟩
/-- Another block than the queue's turns. -/
theorem Que.other {w w' : World} {lo b off cap g : Nat} {q : List Nat} (h : Que w lo b off cap q) (hne : g ≠ b) (ho : ∀ k, k ≠ g → w'.heap[k]? = w.heap[k]?) : Que w' lo b off cap q := by
  obtain ⟨cs, hc, hk⟩ := h.cells
  exact ⟨h.lo', ⟨cs, (ho b (fun e => hne e.symm)).trans hc, hk⟩, h.fits⟩
theorem Que.cell {w : World} {lo b off cap : Nat} {q : List Nat} (h : Que w lo b off cap q) {i : Nat} (hi : i < q.length) : w.cell? ⟨b, off + i, none⟩ = some (.int .i64 ((q.getD i 0 : Nat) : Int)) := by
  obtain ⟨cs, hc, _, hk⟩ := h.cells
  rw [cell_of_row _ _ _ _ _ _ hc]
  exact hk i hi
/-- The first is taken. -/
theorem Que.tail {w : World} {lo b off cap x : Nat} {q : List Nat} (h : Que w lo b off cap (x :: q)) : Que w lo b (off + 1) (cap - 1) q ∨ False := by
  obtain ⟨cs, hc, hs, hk⟩ := h.cells
  have hf := h.fits
  simp at hf
  refine .inl ⟨h.lo', ⟨cs, hc, by omega, fun i hi => ?_⟩, by omega⟩
  have := hk (i + 1) (by simpa using hi)
  rw [show off + 1 + i = off + (i + 1) from by omega]
  simpa using this
theorem Que.void {w : World} {lo b off : Nat} {x : Nat} {q : List Nat} {cap : Nat} (h : Que w lo b off cap (x :: q)) (hcap : cap = 1) : q = [] ∧ Que w lo b off 0 [] := by
  obtain ⟨cs, hc, hs, hk⟩ := h.cells
  have hf := h.fits
  simp at hf
  exact ⟨List.eq_nil_of_length_eq_zero (by omega), h.lo', ⟨cs, hc, by omega, fun i hi => absurd hi (Nat.not_lt_zero _)⟩, Nat.le_refl _⟩

/-- Blocks that are no numbers, and those below lo, are as they were. -/
structure SafeW (lo : Nat) (w w' : World) : Prop where
  bel : Below lo w w'
  size : w.heap.size ≤ w'.heap.size
  block : ∀ (k : Nat) (cs : Array Value) (t : TypeId), t ≠ 3 → w.heap[k]? = some (Obj.cells cs t) → w'.heap[k]? = some (Obj.cells cs t)
theorem SafeW.refl (lo : Nat) (w : World) : SafeW lo w w := ⟨Below.refl _ _, Nat.le_refl _, fun _ _ _ _ h => h⟩
theorem SafeW.trans {lo : Nat} {a b c : World} (h : SafeW lo a b) (k : SafeW lo b c) : SafeW lo a c := ⟨h.bel.trans k.bel, Nat.le_trans h.size k.size, fun j cs t ht hj => k.block j cs t ht (h.block j cs t ht hj)⟩
theorem SafeW.of {lo : Nat} {a b : World} (h : Below a.heap.size a b) (hl : lo ≤ a.heap.size) : SafeW lo a b := ⟨h.mono hl, h.size, fun j cs t _ hj => (h.block j (Array.getElem?_eq_some_iff.1 hj).1).trans hj⟩

theorem infoInt : (Try.prog.info? 3).map (fun i => (i.zero, i.size, i.bytes)) = some (some (.int .i64 0), 1, 8) := by kernel_rfl
/-- One is appended. -/
theorem app_que {w : World} {ops : Array Oper} {rest : List Oper} {o : Oper} {a : Act} {Q : Exit → Act → World → Prop} (hgd : o.guard = none) (s x : Operand)
    (ho : o.op = .call { callee := .builtin .append, args := #[s, x], argTypes := #[38, 38] }) (lo b off cap n : Nat) (q : List Nat) (hq : Que w lo b off cap q) (hn : q.length = n) (hs : a.eval s = .slice (some ⟨b, off, none⟩) n cap) (g y : Nat)
    (hx : a.eval x = .slice (some ⟨g, 0, none⟩) 1 1) (hg : w.cell? ⟨g, 0, none⟩ = some (.int .i64 (y : Int))) (h9 : n ≤ 1000) (hlo : lo ≤ w.heap.size)
    (h : ∀ w' b' off' cap', Que w' lo b' off' cap' (q ++ [y]) → SafeW lo w w' → wpList Try.prog ops Q rest (a.put o.dst (.slice (some ⟨b', off', none⟩) (n + 1) cap')) w') : wpList Try.prog ops Q (o :: rest) a w := by
  subst hn
  obtain ⟨i0, hi, hz0, hz1, hz2⟩ := info_parts infoInt
  obtain ⟨cs, hc, hsz, hk⟩ := hq.cells
  have hfit := hq.fits
  refine wpList_append_arg w hgd s x 38 ho 3 i0 (.int .i64 0) 1 8 Try.underlying38 hi hz0 hz1 hz2 rfl (by decide) b off q.length cap (q.map fun z => Value.int .i64 ((z : Nat) : Int)) hs (by simp) ?c1 ⟨g, 0, none⟩ 1 1 [.int .i64 (y : Int)] hx rfl ?c2 ?c3 ?c4 ?c5 ?c6 ?c7 ?c8
  case c1 =>
    intro j u hj
    have hjl : j < q.length := by simpa using (List.getElem?_eq_some_iff.1 hj).1
    rw [hq.cell hjl]
    rw [List.getElem?_map, List.getElem?_eq_getElem hjl] at hj
    rw [List.getD_eq_getElem?_getD, List.getElem?_eq_getElem hjl]
    simpa using hj
  case c2 =>
    intro j u hj
    rw [add_none]
    match j, hj with
    | 0, hj => simp at hj; subst hj; exact hg
    | j + 1, hj => simp at hj
  case c3 =>
    intro u hu
    simp at hu
    subst hu
    rfl
  case c4 =>
    intro hr j hj
    have hj0 : j = 0 := by simpa using hj
    subst hj0
    have hl : off + q.length * 1 + 0 < cs.size := by omega
    refine ⟨?_, by simp [World.frozen?, hc]⟩
    rw [cell_of_row _ _ _ _ _ _ hc, Array.getElem?_eq_getElem hl]
    rfl
  case c5 => unfold maxLen; omega
  case c6 => omega
  case c7 =>
    intro hr
    have e : w.setCells b (off + q.length * 1) [.int .i64 (y : Int)] = w.setCell ⟨b, off + q.length, none⟩ (.int .i64 (y : Int)) := by rw [Nat.mul_one]; rfl
    rw [e]
    refine h _ b off cap ⟨hq.lo', ⟨_, block_setCell hc _, by simpa using hsz, fun i hi => ?_⟩, by simpa using hr⟩ ⟨(Below.refl _ _).setCell (p := ⟨b, off + q.length, none⟩) hq.lo' _, by simp [World.setCell], fun k cs' t ht hk' => ?_⟩
    · by_cases e1 : i = q.length
      · subst e1
        rw [Array.getElem?_setIfInBounds_self_of_lt (by omega)]
        simp [List.getD_eq_getElem?_getD]
      · have hi' : i < q.length := by simp at hi; omega
        rw [Array.getElem?_setIfInBounds_ne (by omega)]
        rw [List.getD_eq_getElem?_getD, List.getElem?_append_left hi', ← List.getD_eq_getElem?_getD]
        exact hk i hi'
    · refine (Below.heap_setCell _ _ _ _ ?_).trans hk'
      intro e1
      dsimp only at e1
      subst e1
      rw [hc] at hk'
      injection hk' with hk'
      injection hk' with _ hk'
      exact ht hk'.symm
  case c8 =>
    intro hr v' w' hown hgr
    obtain ⟨hl, h1 | ⟨g', cap', cur, rfl, h2, h3, h4, h5, h6, h7⟩⟩ := hown
    · exact absurd h1.2 (by omega)
    · refine h w' g' 0 cap' ⟨Nat.le_trans hlo h2, ⟨cur, h3, by omega, fun i hi => ?_⟩, by simpa using h4⟩ ⟨⟨hgr.os, hgr.tape, hgr.output, hgr.size, fun k hk' => hgr.block k (by omega) (fun e => by cases e)⟩, hgr.size, fun k cs' t _ hk' => (hgr.block k (Array.getElem?_eq_some_iff.1 hk').1 (fun e => by cases e)).trans hk'⟩
      have hi' : i < q.length + 1 := by simpa using hi
      have e1 : cur.toList[i]? = (q.map (fun z => Value.int .i64 ((z : Nat) : Int)) ++ [.int .i64 (y : Int)])[i]? := by
        rw [← h7, List.getElem?_take_of_lt (by omega)]
      rw [Nat.zero_add, ← Array.getElem?_toList, e1]
      by_cases e2 : i = q.length
      · subst e2
        simp [List.getD_eq_getElem?_getD]
      · have hi2 : i < q.length := by omega
        rw [List.getElem?_append_left (by simpa using hi2), List.getElem?_map, List.getElem?_eq_getElem hi2, List.getD_eq_getElem?_getD, List.getElem?_append_left hi2, List.getElem?_eq_getElem hi2]
        rfl

end Go.Proofs.Ytbjndcfdcjpkmaa
