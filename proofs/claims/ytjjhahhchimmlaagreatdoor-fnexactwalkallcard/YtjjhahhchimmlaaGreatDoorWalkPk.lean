/-
  Walks: a step as a function, the model's list of them, what comes again goes round.
  Rows of packets, of the call's own: one more is appended.
  Walks: what comes again goes round (plain facts on steps).
-/
import Derived.Test.YtjjhahhchimmlaaGreatDoorWalkDG
import Derived.Maps.AppendAt

namespace Go.Proofs.YtjjhahhchimmlaaGreatDoor
open Go.ChangeShapes Go.WideShapes Go.ChangeAt Go.RowKit Go.Joins
set_option linter.unusedVariables false

/-- A packet at a switch: the switch, three numbers of its head. -/
structure Pk where
  x : Int
  a : Int
  b : Int
  c : Int
  deriving DecidableEq
def Pk.v (s : Pk) : Value := .agg #[.int .i64 s.x, .int .i64 s.a, .int .i64 s.b, .int .i64 s.c]
def Pk.cs (s : Pk) : List Value := [.int .i64 s.x, .int .i64 s.a, .int .i64 s.b, .int .i64 s.c]
def Pk.ok (s : Pk) : Prop := spB s.x s.a s.b s.c = true
/-- A step: where the packet is then, and how it goes on. -/
def stP (l : List K4) (L : List (List R4)) (s : Pk) : Pk × Int :=
  let d := doI s.a s.b s.c (tbAt L (s.x - 1).toNat)
  if d.2 = 4 then (⟨s.x, d.1.1, d.1.2.1, d.1.2.2⟩, 2) else if (peerF l s.x d.2).1 = 0 then (s, 3) else (⟨(peerF l s.x d.2).1, d.1.1, d.1.2.1, d.1.2.2⟩, 1)
theorem stV_step (l : List K4) (L : List (List R4)) (j : Nat) (a b c : Int) : stV l L j a b c = .tuple #[(stP l L ⟨(j : Int) + 1, a, b, c⟩).1.v, .int .i64 (stP l L ⟨(j : Int) + 1, a, b, c⟩).2] := by
  have e : ((j : Int) + 1 - 1).toNat = j := by omega
  unfold stV stW stP
  simp only [e]
  split
  · rfl
  · split <;> rfl
/-- The head that a table gives is one. -/
theorem do_ok {l : List R4} (h : ∀ i, i < l.length → okR (ruAt l i) = true) {a b c : Int} (ho : okB a b c = true) : okB (doI a b c l).1.1 (doI a b c l).1.2.1 (doI a b c l).1.2.2 = true := by
  rcases atI_find (a := a) (b := b) (c := c) (l := l) with ⟨-, -, h2⟩ | ⟨i, hi, -, -, h2⟩
  · rw [h2]; exact ho
  · rw [h2]
    obtain ⟨⟨a0, a3⟩, ⟨b0, b3⟩, ⟨c0, c3⟩⟩ := okB_true ho
    have ht := (rOk_true (h i hi)).2.2.2
    refine okB_mk a0 a3 b0 b3 ?_ ?_ <;> (dsimp only; unfold tagTo; split <;> omega)
/-- A step that goes on leaves a packet at a switch. -/
theorem step_ok {l : List K4} {L : List (List R4)} (hn : netB l = true) (hc : cfB L = true) {s : Pk} (hs : s.ok) (h1 : (stP l L s).2 = 1) : (stP l L s).1.ok := by
  obtain ⟨c4, ct⟩ := cf_true hc
  obtain ⟨⟨j, hj, hx, hxj⟩, ho⟩ := sp_true hs
  unfold stP at h1 ⊢
  rw [hxj] at h1 ⊢
  dsimp only at h1 ⊢
  split at h1
  · cases h1
  · rename_i h4
    rw [if_neg h4]
    split at h1
    · cases h1
    · rename_i h0
      rw [if_neg h0]
      rcases peer_ok hn s.x (doI s.a s.b s.c (tbAt L j)).2 with hp | ⟨-, -, ⟨p1, p4⟩, -⟩
      · rw [hp] at h0; exact absurd rfl h0
      · unfold Pk.ok spB
        rw [do_ok (tOk_at (ct j hj)) ho, Bool.and_true]
        exact inB_mk p1 p4
/-- So many steps at most: the packets, the last one, how it ends. -/
def wkL (l : List K4) (L : List (List R4)) : Nat → Pk → List Pk × Pk × Int
  | 0, s => ([], s, 4)
  | n + 1, s => if (stP l L s).2 = 1 then (s :: (wkL l L n (stP l L s).1).1, (wkL l L n (stP l L s).1).2) else ([s], (stP l L s).1, (stP l L s).2)

end Go.Proofs.YtjjhahhchimmlaaGreatDoor

namespace Go.Proofs.YtjjhahhchimmlaaGreatDoor
open Go.ChangeShapes Go.WideShapes Go.ChangeAt Go.RowKit Go.Joins
set_option linter.unusedVariables false

theorem pkc_len (l : List Pk) : (l.flatMap Pk.cs).length = l.length * 4 := by
  induction l with
  | nil => rfl
  | cons r l ih => simp [List.flatMap_cons, Pk.cs, ih]; omega
theorem pkc_at : ∀ (l : List Pk) (i j : Nat) (x : Pk), l[i]? = some x → j < 4 → (l.flatMap Pk.cs)[i * 4 + j]? = (Pk.cs x)[j]?
  | [], i, j, x, h, _ => by simp at h
  | r :: l, 0, j, x, h, hj => by
    obtain rfl : r = x := by simpa using h
    rw [List.flatMap_cons, Nat.zero_mul, Nat.zero_add, List.getElem?_append_left (by simp [Pk.cs]; omega)]
  | r :: l, i + 1, j, x, h, hj => by
    rw [List.flatMap_cons, List.getElem?_append_right (by simp [Pk.cs]; omega), show (i + 1) * 4 + j - (Pk.cs r).length = i * 4 + j from by simp [Pk.cs]; omega, pkc_at l i j x (by simpa using h) hj]
/-- A row of packets, of the call's own. -/
def PkRow (w : World) (base : Nat) (v : Value) (l : List Pk) : Prop := w.ownsRow base 32 4 v l.length (l.flatMap Pk.cs)
theorem PkRow.below {w w' : World} {base : Nat} {v : Value} {l : List Pk} (h : PkRow w base v l) (hb : Below w.heap.size w w') : PkRow w' base v l :=
  World.ownsRow.kept h (row := none) ⟨hb.os, hb.tape, hb.output, hb.size, fun k hk _ => hb.block k hk⟩ (by cases v.ownBlock <;> simp)
theorem PkRow.mono {w : World} {base base' : Nat} {v : Value} {l : List Pk} (h : PkRow w base v l) (hb : base' ≤ base) : PkRow w base' v l := World.ownsRow.mono h hb
theorem PkRow.lt {w : World} {base : Nat} {v : Value} {l : List Pk} (h : PkRow w base v l) : ∀ k, v.ownBlock = some k → base ≤ k ∧ k < w.heap.size := fun k hk => World.ownsRow.lt h k hk
theorem PkRow.belRow {w w' : World} {base : Nat} {v : Value} {l : List Pk} (h : PkRow w base v l) (hg : w.grownBy w' v.ownBlock) (hb : base ≤ w.heap.size) : Below base w w' :=
  ⟨hg.os, hg.tape, hg.output, hg.size, fun j hj => hg.block j (by omega) (fun e => by have := (World.ownsRow.lt h j e.symm).1; omega)⟩
theorem PkRow.shape {w : World} {base : Nat} {v : Value} {l : List Pk} (h : PkRow w base v l) : ∃ a c, v = .slice a l.length c := by
  obtain ⟨hl, h1 | ⟨g, cap, cur, rfl, hb, hg, hc, hm, hs, ht⟩⟩ := h
  · rw [h1.2]; exact ⟨_, _, h1.1⟩
  · exact ⟨_, _, rfl⟩
theorem infoPk : (Tryz.prog.info? 32).map (fun i => (i.zero, i.size, i.bytes)) = some (some (.agg #[.int .i64 0, .int .i64 0, .int .i64 0, .int .i64 0]), 4, 32) := by kernel_rfl

/-- One is appended to a row of the call's own. -/
theorem app_pk {w : World} {ops : Array Oper} {rest : List Oper} {o : Oper} {a : Act} {Q : Exit → Act → World → Prop} (hgd : o.guard = none) (s x : Operand)
    (ho : o.op = .call { callee := .builtin .append, args := #[s, x], argTypes := #[44, 44] }) (base : Nat) (v : Value) (L : List Pk) (hs : a.eval s = v) (hrow : PkRow w base v L) (g : Nat) (y : Pk)
    (hx : a.eval x = .slice (some ⟨g, 0, none⟩) 1 1) (hf : ∀ j, j < 4 → w.cell? ⟨g, j, none⟩ = (Pk.cs y)[j]?) (hn : L.length ≤ 1000) (hb : base ≤ w.heap.size)
    (h : ∀ v' w', PkRow w' base v' (L ++ [y]) → w.grownBy w' v.ownBlock → (v'.ownBlock = v.ownBlock ∨ v'.ownBlock = some w.heap.size) → wpList Tryz.prog ops Q rest (a.put o.dst v') w') : wpList Tryz.prog ops Q (o :: rest) a w := by
  refine wpList_plain hgd fun _ hK => ?_
  obtain ⟨i0, hi, hz0, hz1, hz2⟩ := info_parts infoPk
  obtain ⟨v', w', hr, h2, h3, h4, h5⟩ := run_append_own_at (P := Tryz.prog) w base 44 o.type 32 i0 (.agg #[.int .i64 0, .int .i64 0, .int .i64 0, .int .i64 0]) 4 32 Tryz.underlying44 hi hz0 hz1 hz2 rfl (by decide) v L.length _ hrow ⟨g, 0, none⟩ 1 1 (Pk.cs y) rfl
    (by intro j u hj
        have hjl : j < 4 := (List.getElem?_eq_some_iff.1 hj).1
        rw [show (⟨g, 0, none⟩ : Addr).add j = ⟨g, j, none⟩ from by unfold Addr.add; split <;> simp_all]
        exact (hf j hjl).trans hj)
    (by intro u hu
        simp [Pk.cs] at hu
        rcases hu with rfl | rfl | rfl | rfl <;> rfl) (by unfold maxLen; omega) (by omega) hb
  unfold Oper.wp execOp
  simp only [ho, resolve, invoke, builtin, Sem.run_bind, Sem.run_pure, Result.andThen_ok, List.map_toArray, List.map_cons, List.map_nil, hs, hx, hr]
  refine hK _ _ (h _ _ ?_ h3 h5)
  unfold PkRow
  rw [List.length_append, List.flatMap_append]
  simpa using h2
theorem pkNew (w : World) (y : Pk) : ∀ j, j < 4 → (w.alloc (.cells #[.int .i64 y.x, .int .i64 y.a, .int .i64 y.b, .int .i64 y.c] 32)).cell? ⟨w.heap.size, j, none⟩ = (Pk.cs y)[j]? := by
  intro j hj
  have h := heap_alloc_new w (.cells #[.int .i64 y.x, .int .i64 y.a, .int .i64 y.b, .int .i64 y.c] 32)
  generalize w.alloc _ = W at *
  generalize w.heap.size = b at *
  have : j = 0 ∨ j = 1 ∨ j = 2 ∨ j = 3 := by omega
  rcases this with rfl | rfl | rfl | rfl <;> simp [World.cell?, h, Pk.cs]

end Go.Proofs.YtjjhahhchimmlaaGreatDoor

namespace Go.Proofs.YtjjhahhchimmlaaGreatDoor
set_option linter.unusedVariables false

/-- Where a packet is after so many steps. -/
def itP (l : List K4) (L : List (List R4)) : Nat → Pk → Pk
  | 0, s => s
  | n + 1, s => itP l L n (stP l L s).1
theorem it_succ (l : List K4) (L : List (List R4)) : ∀ (n : Nat) (s : Pk), itP l L (n + 1) s = (stP l L (itP l L n s)).1
  | 0, s => rfl
  | n + 1, s => by
    rw [itP, it_succ l L n, itP]
theorem it_add (l : List K4) (L : List (List R4)) (m : Nat) : ∀ (n : Nat) (s : Pk), itP l L (m + n) s = itP l L m (itP l L n s)
  | 0, s => rfl
  | n + 1, s => by
    rw [← Nat.add_assoc, itP, it_add l L m n, itP]
/-- All steps go on: the walk is too long. -/
theorem wk_all (l : List K4) (L : List (List R4)) : ∀ (n : Nat) (s : Pk), (∀ i, i < n → (stP l L (itP l L i s)).2 = 1) → wkL l L n s = ((List.range n).map (fun i => itP l L i s), itP l L n s, 4)
  | 0, s, _ => rfl
  | n + 1, s, h => by
    have h0 := h 0 (Nat.zero_lt_succ _)
    rw [itP] at h0
    rw [wkL, if_pos h0, wk_all l L n _ fun i hi => by have := h (i + 1) (by omega); rwa [itP] at this]
    rw [List.range_succ_eq_map, List.map_cons, List.map_map]
    rfl
/-- A walk's first part, and the rest of it. -/
theorem wk_part (l : List K4) (L : List (List R4)) (m : Nat) : ∀ (n : Nat) (s : Pk), (∀ i, i < n → (stP l L (itP l L i s)).2 = 1) → wkL l L (n + m) s = ((List.range n).map (fun i => itP l L i s) ++ (wkL l L m (itP l L n s)).1, (wkL l L m (itP l L n s)).2)
  | 0, s, _ => by simp [itP]
  | n + 1, s, h => by
    have h0 := h 0 (Nat.zero_lt_succ _)
    rw [itP] at h0
    rw [show n + 1 + m = (n + m) + 1 from by omega, wkL, if_pos h0, wk_part l L m n _ fun i hi => by have := h (i + 1) (by omega); rwa [itP] at this]
    rw [List.range_succ_eq_map, List.map_cons, List.map_map]
    rfl
/-- What comes again comes again always. -/
theorem it_round {l : List K4} {L : List (List R4)} {s : Pk} {i k : Nat} (hik : i < k) (he : itP l L k s = itP l L i s) : ∀ m, i ≤ m → itP l L (m + (k - i)) s = itP l L m s := fun m hm => by
  obtain ⟨d, rfl⟩ : ∃ d, m = d + i := ⟨m - i, by omega⟩
  rw [show d + i + (k - i) = d + k from by omega, it_add, he, ← it_add]
/-- And each step goes on. -/
theorem it_on {l : List K4} {L : List (List R4)} {s : Pk} {i k : Nat} (hik : i < k) (he : itP l L k s = itP l L i s) (h : ∀ j, j < k → (stP l L (itP l L j s)).2 = 1) : ∀ m, (stP l L (itP l L m s)).2 = 1 := fun m => by
  induction m using Nat.strongRecOn with
  | _ m ih =>
    by_cases hm : m < k
    · exact h m hm
    · have := it_round hik he (m - (k - i)) (by omega)
      rw [show m - (k - i) + (k - i) = m from by omega] at this
      rw [this]
      exact ih _ (by omega)

end Go.Proofs.YtjjhahhchimmlaaGreatDoor
