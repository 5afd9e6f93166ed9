/-
  The diagram of chapter 3 in memory: its map, its nodes; what a look-up and a store do.
-/
import Derived.Test.YtddkpimmcmnogabSpaceRep
import Derived.LaidEqlPtr
import Derived.Laws.StructEq
import Derived.Maps.Own
import Derived.Maps.OwnOps
namespace Go.Proofs.Ytddkpimmcmnogab
open Go.ChangeShapes Go.WideShapes Go.ChangeAt Go.RowKit Go.Joins
set_option linter.unusedVariables false

theorem infoNode : (Try.prog.info? 78).map (fun i => (i.zero, i.size, i.bytes)) = some (some (.agg #[.pointer none, .pointer none]), 2, 16) := by kernel_rfl

/-- A pointer that may be compared in a world. -/
def Pk (w : World) (p : Option Addr) : Prop := p = none ∨ ∃ b cs t, p = some (adr b) ∧ w.heap[b]? = some (.cells cs t (0, 0))

theorem eqlIn_ptr (w : World) (d : Nat) {p q : Option Addr} (hp : Pk w p) (hq : Pk w q) : (Op.equalIn (d + 1) 42 (.pointer p) (.pointer q)).run Try.prog w = .ok (decide (p = q)) w := by
  obtain ⟨i0, hi, hz0, hz1, hz2⟩ := info_parts infoNode
  rcases hp with rfl | ⟨b, cs, t, rfl, hb⟩
  · rcases hq with rfl | ⟨b', cs', t', rfl, hb'⟩
    · simp [Op.equalIn, run_underlying Try.underlying42]
    · simp [Op.equalIn, run_underlying Try.underlying42]
  · rcases hq with rfl | ⟨b', cs', t', rfl, hb'⟩
    · simp [Op.equalIn, run_underlying Try.underlying42]
    · by_cases hne : adr b = adr b'
      · rw [hne]
        simp [Op.equalIn, run_underlying Try.underlying42, sizeOf, typeInfo, hi, run_sameAddr_same]
      · simp [Op.equalIn, run_underlying Try.underlying42, sizeOf, typeInfo, hi, hz1, run_sameAddr_other w hne hb hb', hne]
theorem eql_ptr (w : World) {p q : Option Addr} (hp : Pk w p) (hq : Pk w q) : (binOp .eql 42 (.pointer p) (.pointer q)).run Try.prog w = .ok (.bool (decide (p = q))) w := by
  simp only [binOp]
  simp [Op.equal, Op.maxDepth, eqlIn_ptr w 9999 hp hq]

def keyV (z o : Option Addr) : Value := .agg #[.pointer z, .pointer o]
theorem key_eq (w : World) {z o z' o' : Option Addr} (hz : Pk w z) (ho : Pk w o) (hz' : Pk w z') (ho' : Pk w o') :
    (Op.equal 78 (keyV z o) (keyV z' o')).run Try.prog w = .ok (decide (z = z') && decide (o = o')) w := by
  have e0 := eqlIn_ptr w 9998 hz hz'
  have e1 := eqlIn_ptr w 9998 ho ho'
  unfold Op.equal Op.maxDepth keyV
  rw [run_equalIn_struct w 9999 78 _ _ (by kernel_rfl) (by kernel_rfl)]
  have hf : (Try.prog.fieldsOf 78).toList.map (fun f => (f.name, f.type, f.offset)) = [("zero", 42, 0), ("one", 42, 1)] := by kernel_rfl
  generalize (Try.prog.fieldsOf 78).toList = fs at hf
  have hl : fs.length = 2 := by simpa using congrArg List.length hf
  match fs, hl, hf with
  | [f0, f1], _, hf =>
    simp only [List.map_cons, List.map_nil, List.cons.injEq, Prod.mk.injEq, and_true] at hf
    obtain ⟨⟨n0, t0, o0⟩, n1, t1, o1⟩ := hf
    have p0 : ∀ a b : Option Addr, (part 42 #[.pointer a, .pointer b] 0).run Try.prog w = .ok (.pointer a) w := fun a b => by kernel_rfl
    have p1 : ∀ a b : Option Addr, (part 42 #[.pointer a, .pointer b] 1).run Try.prog w = .ok (.pointer b) w := fun a b => by kernel_rfl
    simp only [Op.eqFields, n0, n1, t0, t1, o0, o1, Sem.run_bind, Sem.run_ite, p0, p1, Result.andThen_ok, e0, e1]
    by_cases h0 : z = z' <;> by_cases h1 : o = o' <;> simp [h0, h1]

theorem key_check (w : World) (em : Bool) (z o : Option Addr) : (Instr.checkKey em 10000 78 (keyV z o)).run Try.prog w = .ok () w := by
  have c : ∀ (n : Nat) (a : Option Addr), (Instr.checkKey em (n + 1) 42 (.pointer a)).run Try.prog w = .ok () w := fun n a => by
    unfold Instr.checkKey
    simp [run_underlying Try.underlying42]
  have p0 : ∀ a b : Option Addr, (part 42 #[.pointer a, .pointer b] 0).run Try.prog w = .ok (.pointer a) w := fun a b => by kernel_rfl
  have p1 : ∀ a b : Option Addr, (part 42 #[.pointer a, .pointer b] 1).run Try.prog w = .ok (.pointer b) w := fun a b => by kernel_rfl
  have c9 := c 9998
  unfold Instr.checkKey keyV
  simp [run_underlying Try.underlying78, p0, p1, c9]

/-- Entries of a map that are nodes. -/
def entL (E : List Nd) : List (Value × Value) := E.map fun n => (keyV n.1 n.2.1, Value.pointer (some (adr n.2.2)))

theorem find_at (w : World) {z o : Option Addr} (hz : Pk w z) (ho : Pk w o) : ∀ (es : List MapEntry) (E : List Nd) (i : Nat), es.map (fun x => (x.key, x.val)) = entL E → (∀ n ∈ E, Pk w n.1 ∧ Pk w n.2.1) →
    ∃ r, (Instr.findAsking 78 (keyV z o) es i).run Try.prog w = .ok r w ∧ ((r = none ∧ ∀ k, (z, o, k) ∉ E) ∨ ∃ j k, r = some (j, .pointer (some (adr k))) ∧ (z, o, k) ∈ E)
  | [], E, i, h, _ => by
    cases E with
    | cons n E => simp [entL] at h
    | nil => exact ⟨none, by simp [Instr.findAsking], .inl ⟨rfl, by simp⟩⟩
  | x :: es, E, i, h, hE => by
    cases E with
    | nil => simp [entL] at h
    | cons n E =>
      obtain ⟨z', o', k'⟩ := n
      simp only [entL, List.map_cons, List.cons.injEq, Prod.mk.injEq] at h
      obtain ⟨⟨hk, hv⟩, ht⟩ := h
      have he := key_eq w hz ho (hE _ (List.mem_cons_self ..)).1 (hE _ (List.mem_cons_self ..)).2
      by_cases hzz : z = z' ∧ o = o'
      · obtain ⟨rfl, rfl⟩ := hzz
        refine ⟨some (i, x.val), ?_, .inr ⟨i, k', by rw [hv], by simp⟩⟩
        simp [Instr.findAsking, hk, he, Result.andThen]
      · have hf : (decide (z = z') && decide (o = o')) = false := by
          simp only [Bool.and_eq_false_iff, decide_eq_false_iff_not]
          by_cases e : z = z'
          · exact .inr fun e' => hzz ⟨e, e'⟩
          · exact .inl e
        obtain ⟨r, hr, hh⟩ := find_at w hz ho es E (i + 1) ht (fun n hn => hE n (List.mem_cons_of_mem _ hn))
        refine ⟨r, ?_, ?_⟩
        · simp only [hf] at he
          simp [Instr.findAsking, hk, he, Result.andThen, hr]
        · rcases hh with ⟨h1, h2⟩ | ⟨j, k, h1, h2⟩
          · refine .inl ⟨h1, fun k hk' => ?_⟩
            rcases List.mem_cons.1 hk' with e | e
            · simp only [Prod.mk.injEq] at e
              exact hzz ⟨e.1, e.2.1⟩
            · exact h2 k e
          · exact .inr ⟨j, k, h1, List.mem_cons_of_mem _ h2⟩

theorem findKey_at (w : World) {z o : Option Addr} (hz : Pk w z) (ho : Pk w o) (es : List MapEntry) (E : List Nd) (h : es.map (fun x => (x.key, x.val)) = entL E) (hE : ∀ n ∈ E, Pk w n.1 ∧ Pk w n.2.1) :
    ∃ r, (Instr.findKey 78 (keyV z o) es).run Try.prog w = .ok r w ∧ ((r = none ∧ ∀ k, (z, o, k) ∉ E) ∨ ∃ j k, r = some (j, .pointer (some (adr k))) ∧ (z, o, k) ∈ E) := by
  cases es with
  | nil =>
    cases E with
    | cons n E => simp [entL] at h
    | nil => exact ⟨none, by simp [Instr.findKey, run_underlying Try.underlying78, Instr.findNow], .inl ⟨rfl, by simp⟩⟩
  | cons x es =>
    obtain ⟨r, hr, hh⟩ := find_at w hz ho (x :: es) E 0 h hE
    refine ⟨r, ?_, hh⟩
    simp [Instr.findKey, run_underlying Try.underlying78, Instr.findNow, Instr.sameNow, Result.andThen, hr]

/-- The diagram in memory: block b its map, block e its last node, E the other nodes. -/
structure Dg (w : World) (b e : Nat) (E : List Nd) : Prop where
  last : w.heap[e]? = some (.cells #[.pointer none, .pointer none] 78)
  map : ∃ es clock, w.heap[b]? = some (.map es clock) ∧ es.toList.map (fun x => (x.key, x.val)) = entL E
  node : ∀ z o k, (z, o, k) ∈ E → w.heap[k]? = some (.cells #[.pointer z, .pointer o] 78) ∧ Vp E e z ∧ Vp E e o
  uniq : Uniq E

theorem Dg.pk {w : World} {b e : Nat} {E : List Nd} (h : Dg w b e E) {p : Option Addr} (hp : Vp E e p) : Pk w p := by
  rcases hp with rfl | rfl | ⟨z, o, k, hk, rfl⟩
  · exact .inl rfl
  · exact .inr ⟨e, _, _, rfl, h.last⟩
  · exact .inr ⟨k, _, _, rfl, (h.node z o k hk).1⟩
theorem Dg.ne_b {w : World} {b e : Nat} {E : List Nd} (h : Dg w b e E) {k : Nat} {cs : Array Value} {t : TypeId} {fr : Nat × Nat} (hk : w.heap[k]? = some (.cells cs t fr)) : k ≠ b := by
  rintro rfl
  obtain ⟨es, clock, hb, _⟩ := h.map
  rw [hk] at hb
  cases hb
theorem Dg.lt_b {w : World} {b e : Nat} {E : List Nd} (h : Dg w b e E) : b < w.heap.size := by
  obtain ⟨es, clock, hb, _⟩ := h.map
  exact (Array.getElem?_eq_some_iff.1 hb).1
/-- Blocks of the diagram as they were. -/
theorem Dg.below {w w' : World} {b e : Nat} {E : List Nd} (h : Dg w b e E) (hb : Below w.heap.size w w') : Dg w' b e E := by
  have k : ∀ j o, w.heap[j]? = some o → w'.heap[j]? = some o := fun j o hj => (hb.block j (Array.getElem?_eq_some_iff.1 hj).1).trans hj
  obtain ⟨es, clock, hm, he⟩ := h.map
  exact ⟨k _ _ h.last, ⟨es, clock, k _ _ hm, he⟩, fun z o j hj => ⟨k _ _ (h.node z o j hj).1, (h.node z o j hj).2⟩, h.uniq⟩
theorem Dg.alloc {w : World} {b e : Nat} {E : List Nd} (h : Dg w b e E) (o : Obj) : Dg (w.alloc o) b e E := h.below ((Below.refl _ _).alloc (Nat.le_refl _) _)
/-- A store into a block that is none of the diagram's. -/
theorem Dg.setCell {w : World} {b e : Nat} {E : List Nd} (h : Dg w b e E) {p : Addr} (v : Value) (hp : p.block ≠ b ∧ p.block ≠ e ∧ ∀ z o, (z, o, p.block) ∉ E) : Dg (w.setCell p v) b e E := by
  have k : ∀ j o, j ≠ p.block → w.heap[j]? = some o → (w.setCell p v).heap[j]? = some o := fun j o hne hj => (Below.heap_setCell _ _ _ _ (fun e => hne e)).trans hj
  obtain ⟨es, clock, hm, he⟩ := h.map
  exact ⟨k _ _ hp.2.1.symm h.last, ⟨es, clock, k _ _ hp.1.symm hm, he⟩, fun z o j hj => ⟨k _ _ (fun e => hp.2.2 z o (e ▸ hj)) (h.node z o j hj).1, (h.node z o j hj).2⟩, h.uniq⟩

theorem zeroPtr (w : World) : (zeroValue 42).run Try.prog w = .ok (.pointer none) w := by kernel_rfl

theorem Dg.look {w : World} {b e : Nat} {E : List Nd} (h : Dg w b e E) {z o : Option Addr} (hz : Vp E e z) (ho : Vp E e o) :
    ∃ p ok, (Instr.lookup 44 (.map (some b)) (keyV z o) true).run Try.prog w = .ok (.tuple #[.pointer p, .bool ok]) w ∧
      ((ok = true ∧ ∃ k, p = some (adr k) ∧ (z, o, k) ∈ E) ∨ (ok = false ∧ p = none ∧ ∀ k, (z, o, k) ∉ E)) := by
  obtain ⟨es, clock, hm, he⟩ := h.map
  obtain ⟨r, hr, hh⟩ := findKey_at w (h.pk hz) (h.pk ho) es.toList E he (fun n hn => ⟨h.pk (h.node n.1 n.2.1 n.2.2 hn).2.1, h.pk (h.node n.1 n.2.1 n.2.2 hn).2.2⟩)
  have hc := key_check w es.isEmpty z o
  rcases hh with ⟨rfl, hn⟩ | ⟨j, k, rfl, hk⟩
  · exact ⟨none, false, by simp [Instr.lookup, run_underlying Try.underlying44, MapKept.run_getObj_map hm, hc, hr, Result.andThen], .inr ⟨rfl, rfl, hn⟩⟩
  · exact ⟨some (adr k), true, by simp [Instr.lookup, run_underlying Try.underlying44, MapKept.run_getObj_map hm, hc, hr, Result.andThen], .inl ⟨rfl, k, rfl, hk⟩⟩

theorem Dg.put {w : World} {b e : Nat} {E : List Nd} (h : Dg w b e E) {z o : Option Addr} (hz : Vp E e z) (ho : Vp E e o) (hno : ∀ k, (z, o, k) ∉ E) {k : Nat} (hk : w.heap[k]? = some (.cells #[.pointer z, .pointer o] 78))
    (hnew : ∀ z' o', (z', o', k) ∉ E) :
    ∃ w', (Instr.mapUpdate 44 (.map (some b)) (keyV z o) (.pointer (some (adr k)))).run Try.prog w = .ok () w' ∧ Dg w' b e (E ++ [(z, o, k)]) ∧ w.grownBy w' (some b) := by
  obtain ⟨es, clock, hm, he⟩ := h.map
  obtain ⟨r, hr, hh⟩ := findKey_at w (h.pk hz) (h.pk ho) es.toList E he (fun n hn => ⟨h.pk (h.node n.1 n.2.1 n.2.2 hn).2.1, h.pk (h.node n.1 n.2.1 n.2.2 hn).2.2⟩)
  have hc := key_check w false z o
  rcases hh with ⟨rfl, hn⟩ | ⟨j, k', rfl, hk'⟩
  · have hset := MapKept.heap_set (o' := Obj.map (es.push { key := keyV z o, val := .pointer (some (adr k)), born := clock }) (clock + 1)) hm
    have sub : ∀ x, x ∈ E → x ∈ E ++ [(z, o, k)] := fun x hx => List.mem_append_left _ hx
    refine ⟨{ w with heap := w.heap.setIfInBounds b (Obj.map (es.push { key := keyV z o, val := .pointer (some (adr k)), born := clock }) (clock + 1)) }, by simp [Instr.mapUpdate, run_underlying Try.underlying44, MapKept.run_getObj_map hm, hc, hr, MapKept.run_setObj_map _ hm, Result.andThen], ⟨?_, ⟨_, _, hset.1, ?_⟩, ?_, ?_⟩, ⟨rfl, rfl, rfl, by simp, fun i _ hi => hset.2 i (fun e => hi (by rw [e]))⟩⟩
    · exact (hset.2 _ (h.ne_b h.last)).trans h.last
    · simp [entL, he]
    · intro z' o' k' hk'
      rcases List.mem_append.1 hk' with h' | h'
      · have := h.node z' o' k' h'
        exact ⟨(hset.2 _ (h.ne_b this.1)).trans this.1, this.2.1.mono sub, this.2.2.mono sub⟩
      · simp only [List.mem_singleton, Prod.mk.injEq] at h'
        obtain ⟨rfl, rfl, rfl⟩ := h'
        exact ⟨(hset.2 _ (h.ne_b hk)).trans hk, hz.mono sub, ho.mono sub⟩
    · constructor
      · intro z' o' k1 k2 h1 h2
        replace h1 := List.mem_append.1 h1
        replace h2 := List.mem_append.1 h2
        rcases h1 with h1 | h1 <;> rcases h2 with h2 | h2
        · exact h.uniq.1 _ _ _ _ h1 h2
        · simp only [List.mem_singleton, Prod.mk.injEq] at h2
          obtain ⟨rfl, rfl, rfl⟩ := h2
          exact absurd h1 (hno _)
        · simp only [List.mem_singleton, Prod.mk.injEq] at h1
          obtain ⟨rfl, rfl, rfl⟩ := h1
          exact absurd h2 (hno _)
        · simp only [List.mem_singleton, Prod.mk.injEq] at h1 h2
          rw [h1.2.2, h2.2.2]
      · intro z1 o1 z2 o2 k' h1 h2
        replace h1 := List.mem_append.1 h1
        replace h2 := List.mem_append.1 h2
        rcases h1 with h1 | h1 <;> rcases h2 with h2 | h2
        · exact h.uniq.2 _ _ _ _ _ h1 h2
        · simp only [List.mem_singleton, Prod.mk.injEq] at h2
          obtain ⟨rfl, rfl, rfl⟩ := h2
          exact absurd h1 (hnew _ _)
        · simp only [List.mem_singleton, Prod.mk.injEq] at h1
          obtain ⟨rfl, rfl, rfl⟩ := h1
          exact absurd h2 (hnew _ _)
        · simp only [List.mem_singleton, Prod.mk.injEq] at h1 h2
          exact ⟨h1.1.trans h2.1.symm, h1.2.1.trans h2.2.1.symm⟩
  · exact absurd hk' (hno k')

/-- The look-up, for a walk. -/
theorem wpList_look {w : World} {ops : Array Oper} {rest : List Oper} {op : Oper} {a : Act} {Q : Exit → Act → World → Prop} (hg : op.guard = none) (m x : Operand) (hop : op.op = Op.lookup 44 m x true)
    {b e : Nat} {E : List Nd} {z o : Option Addr} (hd : Dg w b e E) (hz : Vp E e z) (ho : Vp E e o) (hm : a.eval m = .map (some b)) (hx : a.eval x = keyV z o)
    (hK : ∀ p ok, ((ok = true ∧ ∃ k, p = some (adr k) ∧ (z, o, k) ∈ E) ∨ (ok = false ∧ p = none ∧ ∀ k, (z, o, k) ∉ E)) → wpList Try.prog ops Q rest (a.put op.dst (.tuple #[.pointer p, .bool ok])) w) :
    wpList Try.prog ops Q (op :: rest) a w := by
  refine wpList_plain hg fun K' hK' => ?_
  obtain ⟨p, ok, hrun, hh⟩ := hd.look hz ho
  unfold Oper.wp
  simp [execOp, hop, hm, hx, hrun, Result.andThen]
  exact hK' _ _ (hK p ok hh)
theorem wpList_put {w : World} {ops : Array Oper} {rest : List Oper} {op : Oper} {a : Act} {Q : Exit → Act → World → Prop} (hg : op.guard = none) (m x v : Operand) (hop : op.op = Op.mapUpdate 44 m x v)
    {b e : Nat} {E : List Nd} {z o : Option Addr} {k : Nat} (hd : Dg w b e E) (hz : Vp E e z) (ho : Vp E e o) (hno : ∀ k, (z, o, k) ∉ E) (hk : w.heap[k]? = some (.cells #[.pointer z, .pointer o] 78)) (hnew : ∀ z' o', (z', o', k) ∉ E)
    (hm : a.eval m = .map (some b)) (hx : a.eval x = keyV z o) (hv : a.eval v = .pointer (some (adr k)))
    (hK : ∀ w', Dg w' b e (E ++ [(z, o, k)]) → w.grownBy w' (some b) → wpList Try.prog ops Q rest (a.put op.dst undef) w') :
    wpList Try.prog ops Q (op :: rest) a w := by
  refine wpList_plain hg fun K' hK' => ?_
  obtain ⟨w', hrun, h1, h2⟩ := hd.put hz ho hno hk hnew
  unfold Oper.wp
  simp [execOp, hop, hm, hx, hv, hrun, Result.andThen]
  exact hK' _ _ (hK w' h1 h2)

end Go.Proofs.Ytddkpimmcmnogab
