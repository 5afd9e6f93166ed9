/-
  Slices of links: where they lie; those that a call is handed, and those that it makes; what the statements' own helpers do with them.
  Nets in plain words: which links are a net, what lies at each port, as the program reads them; no memory here.
  Nets in plain words: the model's way to say which links are a net, and the program's, are one; what lies at a port, both ways.
  Nets in plain words: what lies at the other end of a port, as the model finds it and as the program's forty numbers say it.
-/
import Derived.Test.YtjjhahhchimmlaaGreatDoorExtReg
import Derived.Deep.Slices
import Derived.Deep.Fields
import Derived.Deep.Onto
import Derived.OwnWalk
import Derived.Laws.OwnMore
import Derived.Laws.Rows
import Derived.Deep.MidRow

namespace Go.Proofs.YtjjhahhchimmlaaGreatDoor
open Go.ChangeShapes Go.WideShapes Go.ChangeAt Go.RowKit Go.Joins
set_option linter.unusedVariables false

/-- A link: a switch, its port, another switch, its port. -/
structure K4 where
  p : Int
  s : Int
  o : Int
  t : Int

def zK : K4 := ⟨0, 0, 0, 0⟩
instance : Inhabited K4 := ⟨zK⟩
def K4.v (r : K4) : Value := .agg #[.int .i64 r.p, .int .i64 r.s, .int .i64 r.o, .int .i64 r.t]
def K4.cs (r : K4) : List Value := [.int .i64 r.p, .int .i64 r.s, .int .i64 r.o, .int .i64 r.t]
/-- The link at a place of a list. -/
def lkAt (l : List K4) (j : Nat) : K4 := l.getD j zK
theorem lkAt_lt {l : List K4} {j : Nat} (h : j < l.length) : lkAt l j = l[j] := by
  rw [lkAt, List.getD_eq_getElem?_getD, List.getElem?_eq_getElem h]
  rfl

/-- The four cells of a link. -/
def FourK (w : World) (b k : Nat) (r : K4) : Prop :=
  w.cell? ⟨b, k, none⟩ = some (.int .i64 r.p) ∧ w.cell? ⟨b, k + 1, none⟩ = some (.int .i64 r.s) ∧ w.cell? ⟨b, k + 2, none⟩ = some (.int .i64 r.o) ∧ w.cell? ⟨b, k + 3, none⟩ = some (.int .i64 r.t)
theorem FourK.below {w w' : World} {n b k : Nat} {r : K4} (h : FourK w b k r) (hb : Below n w w') (hn : b < n) : FourK w' b k r :=
  ⟨(hb.cell (p := ⟨b, k, none⟩) hn).trans h.1, (hb.cell (p := ⟨b, k + 1, none⟩) hn).trans h.2.1, (hb.cell (p := ⟨b, k + 2, none⟩) hn).trans h.2.2.1, (hb.cell (p := ⟨b, k + 3, none⟩) hn).trans h.2.2.2⟩

/-- A value is a slice with these links, in a block below g (or it has none). -/
def Lks (w : World) (g : Nat) (v : Value) (l : List K4) : Prop :=
  ∃ (a : Option Addr) (cap : Nat), v = .slice a l.length cap ∧ l.length ≤ cap ∧ cap ≤ maxLen ∧
    (l = [] ∨ ∃ b off, a = some ⟨b, off, none⟩ ∧ b < g ∧ ∀ i, i < l.length → FourK w b (off + i * 4) (lkAt l i))
theorem Lks.below {w w' : World} {g n : Nat} {v : Value} {l : List K4} (h : Lks w g v l) (hb : Below n w w') (hg : g ≤ n) : Lks w' g v l := by
  obtain ⟨a, cap, hv, hc, hm, h | ⟨b, off, ha, hbg, hcell⟩⟩ := h
  · exact ⟨a, cap, hv, hc, hm, .inl h⟩
  · exact ⟨a, cap, hv, hc, hm, .inr ⟨b, off, ha, hbg, fun i hi => (hcell i hi).below hb (Nat.lt_of_lt_of_le hbg hg)⟩⟩
theorem Lks.mono {w : World} {g g' : Nat} {v : Value} {l : List K4} (h : Lks w g v l) (hg : g ≤ g') : Lks w g' v l := by
  obtain ⟨a, cap, hv, hc, hm, h | ⟨b, off, ha, hbg, hcell⟩⟩ := h
  · exact ⟨a, cap, hv, hc, hm, .inl h⟩
  · exact ⟨a, cap, hv, hc, hm, .inr ⟨b, off, ha, Nat.lt_of_lt_of_le hbg hg, hcell⟩⟩
theorem Lks.nil (w : World) (g : Nat) : Lks w g (.slice none 0 0) [] := ⟨none, 0, rfl, Nat.le_refl _, by unfold maxLen; omega, .inl rfl⟩

/-! ### Rules of a call's own -/

theorem fk_len (l : List K4) : (l.flatMap K4.cs).length = l.length * 4 := by
  induction l with
  | nil => rfl
  | cons r l ih => simp [List.flatMap_cons, K4.cs, ih]; omega
theorem fk_at : ∀ (l : List K4) (i j : Nat), i < l.length → j < 4 → (l.flatMap K4.cs)[i * 4 + j]? = (K4.cs (lkAt l i))[j]?
  | [], i, j, h, _ => absurd h (Nat.not_lt_zero _)
  | r :: l, 0, j, _, hj => by
    rw [List.flatMap_cons, Nat.zero_mul, Nat.zero_add, List.getElem?_append_left (by simp [K4.cs]; omega)]
    rfl
  | r :: l, i + 1, j, h, hj => by
    rw [List.flatMap_cons, List.getElem?_append_right (by simp [K4.cs]; omega), show (i + 1) * 4 + j - (K4.cs r).length = i * 4 + j from by simp [K4.cs]; omega, fk_at l i j (by simpa using h) hj]
    rfl
theorem fk_set : ∀ (l : List K4) (i : Nat) (r : K4), i < l.length →
    (l.set i r).flatMap K4.cs = ((((l.flatMap K4.cs).set (i * 4) (.int .i64 r.p)).set (i * 4 + 1) (.int .i64 r.s)).set (i * 4 + 2) (.int .i64 r.o)).set (i * 4 + 3) (.int .i64 r.t)
  | [], i, r, h => absurd h (Nat.not_lt_zero _)
  | x :: l, 0, r, _ => by simp [List.flatMap_cons, K4.cs]
  | x :: l, i + 1, r, h => by
    have e : (i + 1) * 4 = i * 4 + 4 := by omega
    rw [List.set_cons_succ, List.flatMap_cons, List.flatMap_cons, fk_set l i r (by simpa using h), e]
    simp [K4.cs]

/-- A value is a slice of its own with these links; its block is numbered from base on. -/
def LkRow (w : World) (base : Nat) (v : Value) (l : List K4) : Prop := w.ownsRow base 58 4 v l.length (l.flatMap K4.cs)
theorem LkRow.below {w w' : World} {base : Nat} {v : Value} {l : List K4} (h : LkRow w base v l) (hb : Below w.heap.size w w') : LkRow w' base v l :=
  World.ownsRow.kept h (row := none) ⟨hb.os, hb.tape, hb.output, hb.size, fun k hk _ => hb.block k hk⟩ (by cases v.ownBlock <;> simp)
theorem LkRow.mono {w : World} {base base' : Nat} {v : Value} {l : List K4} (h : LkRow w base v l) (hb : base' ≤ base) : LkRow w base' v l := World.ownsRow.mono h hb
theorem LkRow.cells {w : World} {base g cap n : Nat} {l : List K4} (h : LkRow w base (.slice (some ⟨g, 0, none⟩) n cap) l) (hn : l.length = n) : (∀ i, i < n → FourK w g (i * 4) (lkAt l i)) ∧ (∀ j, w.frozen? ⟨g, j, none⟩ = false) ∧ g < w.heap.size := by
  subst hn
  refine ⟨fun i hi => ?_, fun j => World.ownsRow.frozenAt h j, (World.ownsRow.lt h g rfl).2⟩
  have h0 := fk_at l i 0 hi (by decide)
  have h1 := fk_at l i 1 hi (by decide)
  have h2 := fk_at l i 2 hi (by decide)
  have h3 := fk_at l i 3 hi (by decide)
  exact ⟨(World.ownsRow.cellAt h (i * 4) (by omega)).trans h0, (World.ownsRow.cellAt h (i * 4 + 1) (by omega)).trans h1, (World.ownsRow.cellAt h (i * 4 + 2) (by omega)).trans h2, (World.ownsRow.cellAt h (i * 4 + 3) (by omega)).trans h3⟩
theorem LkRow.form {w : World} {base : Nat} {v : Value} {l : List K4} (h : LkRow w base v l) :
    (v = .slice none 0 0 ∧ l = []) ∨ ∃ g cap, v = .slice (some ⟨g, 0, none⟩) l.length cap ∧ base ≤ g ∧ g < w.heap.size ∧ l.length ≤ cap ∧ cap ≤ maxLen := by
  have h0 := h
  obtain ⟨hl, h1 | ⟨g, cap, cur, rfl, hb, hg, hc, hm, hs, ht⟩⟩ := h
  · exact .inl ⟨h1.1, List.eq_nil_of_length_eq_zero h1.2⟩
  · exact .inr ⟨g, cap, rfl, hb, (World.ownsRow.lt h0 g rfl).2, hc, hm⟩
theorem LkRow.lks {w : World} {base : Nat} {v : Value} {l : List K4} (h : LkRow w base v l) : Lks w w.heap.size v l := by
  rcases h.form with ⟨rfl, rfl⟩ | ⟨g, cap, rfl, hb, hg, hc, hm⟩
  · exact Lks.nil _ _
  · exact ⟨_, cap, rfl, hc, hm, .inr ⟨g, 0, rfl, hg, fun i hi => by rw [Nat.zero_add]; exact (h.cells rfl).1 i hi⟩⟩
/-- One link is exchanged. -/
theorem LkRow.put {w : World} {base g cap i n : Nat} {r : K4} {l m : List K4} (h : LkRow w base (.slice (some ⟨g, 0, none⟩) n cap) l) (hn : l.length = n) (hi : i < n) (hm : m = l.set i r) :
    LkRow ((((w.setCell ⟨g, i * 4, none⟩ (.int .i64 r.p)).setCell ⟨g, i * 4 + 1, none⟩ (.int .i64 r.s)).setCell ⟨g, i * 4 + 2, none⟩ (.int .i64 r.o)).setCell ⟨g, i * 4 + 3, none⟩ (.int .i64 r.t)) base (.slice (some ⟨g, 0, none⟩) n cap) m := by
  subst hm hn
  have h1 := (World.ownsRow.stored h (i * 4) (.int .i64 r.p)).1
  have h2 := (World.ownsRow.stored h1 (i * 4 + 1) (.int .i64 r.s)).1
  have h3 := (World.ownsRow.stored h2 (i * 4 + 2) (.int .i64 r.o)).1
  have h4 := (World.ownsRow.stored h3 (i * 4 + 3) (.int .i64 r.t)).1
  unfold LkRow
  rw [fk_set l i r hi, List.length_set]
  exact h4

theorem fourK_of {H : Type} {enc : TypeId × Value → H} {P : Program} {w : World} {base : Nat} {spare : Nat → Bool} {held : Bool} {fuel : Nat} {e : TypeId} {f0 f1 f2 f3 : Field} {cs : List Value} {x : DataW H × List MemPlace}
    (hs : P.underlying e = some (.struct #[f0, f1, f2, f3])) (hone : Go.Deep.oneCellFields P #[f0, f1, f2, f3] = true) (hc : cs.length = 4) (h : DataW.trod enc P w base spare held fuel e cs = some x) :
    ∃ (c0 c1 c2 c3 : Value) (y0 y1 y2 y3 : DataW H × List MemPlace) (n : Nat), cs = [c0, c1, c2, c3] ∧ DataW.trod enc P w base spare held n f0.type [c0] = some y0 ∧ DataW.trod enc P w base spare held n f1.type [c1] = some y1 ∧ DataW.trod enc P w base spare held n f2.type [c2] = some y2 ∧ DataW.trod enc P w base spare held n f3.type [c3] = some y3 := by
  obtain ⟨xs, n, -, -, -, hxl, hf⟩ := DataW.trod_struct hs h
  obtain ⟨o0, k0⟩ := Go.Deep.hone_of hone 0 f0 rfl
  obtain ⟨o1, k1⟩ := Go.Deep.hone_of hone 1 f1 rfl
  obtain ⟨o2, k2⟩ := Go.Deep.hone_of hone 2 f2 rfl
  obtain ⟨o3, k3⟩ := Go.Deep.hone_of hone 3 f3 rfl
  match cs, hc, xs, hxl with
  | [c0, c1, c2, c3], _, [y0, y1, y2, y3], _ =>
    have g0 := hf 0 f0 rfl
    have g1 := hf 1 f1 rfl
    have g2 := hf 2 f2 rfl
    have g3 := hf 3 f3 rfl
    rw [o0, k0] at g0
    rw [o1, k1] at g1
    rw [o2, k2] at g2
    rw [o3, k3] at g3
    exact ⟨c0, c1, c2, c3, y0, y1, y2, y3, n, rfl, g0, g1, g2, g3⟩

theorem addK_none (b off i : Nat) : (Addr.add ⟨b, off, none⟩ i) = ⟨b, off + i, none⟩ := by
  unfold Addr.add
  split
  · rename_i hh; subst hh; rfl
  · rfl

theorem links_of {H : Type} {enc : TypeId × Value → H} {w : World} {v : Value} {d : DataW H} {ps : List MemPlace}
    (h : DataW.Trod enc Tryz.prog w 0 (fun _ => true) true 22 v d ps) (hv : ∃ a len cap, v = .slice a len cap) : ∃ l, Lks w w.heap.size v l := by
  obtain ⟨a, len, cap, rfl⟩ := hv
  obtain ⟨fuel, hf⟩ := h
  have hC : Tryz.prog.cellsOf 60 = 4 := by kernel_rfl
  rcases Go.Deep.open_slice Tryz.underlying22 hf with ⟨hcs, _⟩ | ⟨x, l, c, m, n, D, Pl, hcs, _, hl, hm, hmm, _, hel⟩
  · simp [Value.cells] at hcs
    obtain ⟨rfl, rfl, rfl⟩ := hcs
    exact ⟨[], Lks.nil _ _⟩
  · simp [Value.cells] at hcs
    obtain ⟨rfl, rfl, rfl⟩ := hcs
    rw [hC] at hel
    have hml : len ≤ m := by rw [hmm]; simpa using hl
    have key : ∀ i, i < len → ∃ z : K4, w.cell? (x.add (i * 4)) = some (.int .i64 z.p) ∧ w.cell? ((x.add (i * 4)).add 1) = some (.int .i64 z.s) ∧ w.cell? ((x.add (i * 4)).add 2) = some (.int .i64 z.o) ∧ w.cell? ((x.add (i * 4)).add 3) = some (.int .i64 z.t) := by
      intro i hi
      obtain ⟨cs', hc, ht⟩ := hel i (by omega)
      obtain ⟨_, hcl, hat⟩ := World.cells?_some hc
      obtain ⟨c0, c1, c2, c3, y0, y1, y2, y3, q, rfl, t0, t1, t2, t3⟩ := fourK_of Tryz.underlying60 (by kernel_rfl) hcl ht
      obtain ⟨a0, e0, -, -⟩ := DataW.trod_int Tryz.underlying3 t0
      obtain ⟨a1, e1, -, -⟩ := DataW.trod_int Tryz.underlying3 t1
      obtain ⟨a2, e2, -, -⟩ := DataW.trod_int Tryz.underlying3 t2
      obtain ⟨a3, e3, -, -⟩ := DataW.trod_int Tryz.underlying3 t3
      simp at e0 e1 e2 e3
      subst e0 e1 e2 e3
      have h0 := hat 0 (by decide)
      rw [show (x.add (i * 4)).add 0 = x.add (i * 4) from by simp [Addr.add]] at h0
      exact ⟨⟨a0, a1, a2, a3⟩, h0, hat 1 (by decide), hat 2 (by decide), hat 3 (by decide)⟩
    obtain ⟨f, hfx⟩ := Go.Deep.choose_lt key
    have hlen : ((List.range len).map f).length = len := by simp
    refine ⟨(List.range len).map f, some x, cap, by rw [hlen], by rw [hlen]; exact hl, hm, ?_⟩
    by_cases h0 : len = 0
    · exact .inl (by simp [h0])
    right
    obtain ⟨b, off, spot⟩ := x
    have h1 := (hfx 0 (by omega)).1
    have hsp : spot = none := by
      cases spot with
      | none => rfl
      | some s =>
        simp [Addr.add, World.cell?] at h1
        split at h1 <;> simp at h1
    subst hsp
    refine ⟨b, off, rfl, ?_, fun i hi => ?_⟩
    · simp [Addr.add, World.cell?] at h1
      cases hb : w.heap[b]? with
      | none => rw [hb] at h1; simp at h1
      | some o => exact (Array.getElem?_eq_some_iff.1 hb).1
    · have hi' : i < len := by rw [hlen] at hi; exact hi
      have := hfx i hi'
      simp only [addK_none] at this
      have e : lkAt ((List.range len).map f) i = f i := by rw [lkAt_lt hi]; simp
      rw [e]
      exact this

set_option maxHeartbeats 1000000 in
theorem toLink_any (p s o t : Int) (w : World) :
    Calls Tryz.prog 30 #[.agg #[.int .i64 p, .int .i64 s, .int .i64 o, .int .i64 t]] w fun e w' => e = .returned (.agg #[.int .i64 p, .int .i64 s, .int .i64 o, .int .i64 t]) ∧ Below w.heap.size w w' := by
  go_enter Tryz.func30, Tryz.ntmps30
  go_wp2
  exact bodyPost_ret (v := .agg #[.int .i64 p, .int .i64 s, .int .i64 o, .int .i64 t]) (by simp [results, Tryz.results30, go_sem]) rfl
    ⟨rfl, by repeat (first | exact below_alloc3 _ _ _ _ | refine Below.setCell ?_ (by simp) _)⟩

set_option maxHeartbeats 1000000 in
theorem eqLink_same (p s o t : Int) (w : World) :
    Calls Tryz.prog 37 #[.agg #[.int .i64 p, .int .i64 s, .int .i64 o, .int .i64 t], .agg #[.int .i64 p, .int .i64 s, .int .i64 o, .int .i64 t]] w fun e w' => e = .returned (.bool true) ∧ Below w.heap.size w w' := by
  go_enter Tryz.func37, Tryz.ntmps37
  go_wp2
  go_ret
  exact ⟨rfl, below_alloc2 _ _ _⟩

set_option maxHeartbeats 2000000 in
theorem szLinkS_any (w : World) (v : Value) (l : List K4) (n : Nat) (h : Lks w w.heap.size v l) (hn : n ≤ 1048576) :
    Calls Tryz.prog 6 #[v, .int .i64 n] w fun e w' => (e = .returned (.int .i64 (-1)) ∨ ∃ r : Nat, e = .returned (.int .i64 r) ∧ l.length ≤ n) ∧ w = w' := by
  obtain ⟨a, cap, rfl, hc, hm, hh⟩ := h
  clear hh
  unfold maxLen at hm
  generalize l.length = m at *
  by_cases h0 : n < m
  · have hz : (n : Int) - (m : Int) < 0 := by omega
    go_enter Tryz.func6, Tryz.ntmps6
    go_wp2
    go_ret
    exact ⟨.inl rfl, rfl⟩
  · have hz : ¬ (n : Int) - (m : Int) < 0 := by omega
    have e : (n : Int) - (m : Int) = ((n - m : Nat) : Int) := by omega
    go_enter Tryz.func6, Tryz.ntmps6
    go_wp2
    go_ret
    exact ⟨.inr ⟨⟨n - m, rfl⟩, by omega⟩, rfl⟩

/-- The first k of a list, and nothing behind them. -/
def fillK (l : List K4) (k : Nat) : List K4 := l.take k ++ List.replicate (l.length - k) zK
theorem fillK_len (l : List K4) {k : Nat} (hk : k ≤ l.length) : (fillK l k).length = l.length := by simp [fillK]; omega
theorem fillK_zero (l : List K4) : fillK l 0 = List.replicate l.length zK := by simp [fillK]
theorem fillK_all (l : List K4) : fillK l l.length = l := by simp [fillK]
theorem fillK_step (l : List K4) {k : Nat} (hk : k < l.length) : fillK l (k + 1) = (fillK l k).set k (lkAt l k) := by
  have ht : (l.take k).length = k := by simp; omega
  have e : l.take (k + 1) = l.take k ++ [lkAt l k] := by
    rw [List.take_add_one, List.getElem?_eq_getElem hk, lkAt_lt hk]
    rfl
  unfold fillK
  rw [List.set_append_right _ _ (by omega), ht, Nat.sub_self]
  obtain ⟨n, hn⟩ : ∃ n, l.length - k = n + 1 := ⟨l.length - k - 1, by omega⟩
  rw [hn, List.replicate_succ, List.set_cons_zero, e, show l.length - (k + 1) = n from by omega, List.append_assoc]
  rfl
theorem fk_zero (n : Nat) : (List.replicate n zK).flatMap K4.cs = (madeCells (Value.agg #[.int .i64 0, .int .i64 0, .int .i64 0, .int .i64 0]).cells (n * 4)).toList := by
  apply List.ext_getElem?
  intro j
  by_cases hj : j < n * 4
  · have e : j = (j / 4) * 4 + j % 4 := by omega
    have hq : j / 4 < n := by omega
    have h1 : (madeCells (Value.agg #[.int .i64 0, .int .i64 0, .int .i64 0, .int .i64 0]).cells (n * 4)).toList[j]? = (K4.cs zK)[j % 4]? := by
      simp only [madeCells, Array.toList_map, Array.toList_range, List.getElem?_map, List.getElem?_range hj, Option.map_some]
      have hm : j % 4 < 4 := Nat.mod_lt _ (by decide)
      have : j % 4 = 0 ∨ j % 4 = 1 ∨ j % 4 = 2 ∨ j % 4 = 3 := by omega
      rcases this with h | h | h | h <;> (simp [Value.cells, h]; rfl)
    rw [h1]
    conv => lhs; rw [e]
    rw [fk_at _ _ _ (by simpa using hq) (Nat.mod_lt _ (by decide))]
    rw [show lkAt (List.replicate n zK) (j / 4) = zK from by rw [lkAt_lt (by simpa using hq)]; simp]
  · rw [List.getElem?_eq_none (by rw [fk_len]; simp; omega), List.getElem?_eq_none (by rw [Array.length_toList, size_madeCells]; omega)]
theorem infoK : (Tryz.prog.info? 58).map (fun i => (i.zero, i.size, i.bytes)) = some (some (.agg #[.int .i64 0, .int .i64 0, .int .i64 0, .int .i64 0]), 4, 32) := by kernel_rfl

set_option maxRecDepth 100000 in
set_option maxHeartbeats 2000000 in
theorem toLinkS_any (w : World) (v : Value) (l : List K4) (h : Lks w w.heap.size v l) (hn : l.length ≤ 1048576) :
    Calls Tryz.prog 9 #[v] w fun e w' => ∃ u, e = .returned u ∧ LkRow w' w.heap.size u l ∧ Below w.heap.size w w' := by
  obtain ⟨a, cap, rfl, hc, hm, hh⟩ := h
  obtain ⟨i0, hi, hz0, hz1, hz2⟩ := info_parts infoK
  have HI := Lib.hid hi
  have HZ0 := Lib.hid hz0
  have HZ1 := Lib.hid hz1
  have HZ2 := Lib.hid hz2
  clear hi hz0 hz1 hz2
  have HZ : Hid (fillK l 0 = List.replicate l.length zK) := fillK_zero l
  have HA : Hid (fillK l l.length = l) := fillK_all l
  have HL : Hid (∀ k, k ≤ l.length → (fillK l k).length = l.length) := fun k hk => fillK_len l hk
  have HST : Hid (∀ k, k < l.length → fillK l (k + 1) = (fillK l k).set k (lkAt l k)) := fun k hk => fillK_step l hk
  have hnz : l.length = 0 ∨ ∃ b off, a = some ⟨b, off, none⟩ ∧ b < w.heap.size ∧ Hid (∀ i, i < l.length → FourK w b (off + i * 4) (lkAt l i)) := by
    rcases hh with h | ⟨b, off, h1, h2, h3⟩
    · exact .inl (by rw [h]; rfl)
    · exact .inr ⟨b, off, h1, h2, h3⟩
  clear hh
  unfold maxLen at hm
  have HFZ := Lib.hid (fk_zero l.length)
  generalize hN : l.length = n at *
  go_enter Tryz.func9, Tryz.ntmps9
  go_wp2_with (at_make; refine wpList_make_full _ rfl _ _ 35 rfl w.heap.size 58 i0 (.agg #[.int .i64 0, .int .i64 0, .int .i64 0, .int .i64 0]) 4 Tryz.underlying35 HI.out HZ0.out HZ1.out .i64 .i64 _ _ n rfl rfl rfl rfl ?b2 ?b3 (Nat.le_refl _) ?_)
  case b2 => rw [HZ2.out]; omega
  case b3 => unfold maxLen; omega
  intro w1 hown hg1
  have HB1 : Hid (Below w.heap.size w w1) := ⟨hg1.os, hg1.tape, hg1.output, hg1.size, fun k hk => hg1.block k hk (by simp)⟩
  have HR1 : Hid (LkRow w1 w.heap.size (.slice (some ⟨w.heap.size, 0, none⟩) n n) (fillK l 0)) := by
    show w1.ownsRow _ _ _ _ _ _
    rw [HZ.out, List.length_replicate, HFZ.out]
    exact hown
  clear hown hg1 HFZ
  go_wp2
  go_loopw [4] (fun i wr => ∃ k : Nat, k ≤ n ∧ i = .int .i64 k ∧ LkRow wr w.heap.size (.slice (some ⟨w.heap.size, 0, none⟩) n n) (fillK l k) ∧ Below w.heap.size w wr) (fun i _ => n - (intOf i).toNat)
  case atStart => exact ⟨0, Nat.zero_le _, rfl, HR1.out, HB1.out⟩
  case round =>
    obtain ⟨k, hk, rfl, hrow, hbel⟩ := hrel
    have HR := Lib.hid hrow
    by_cases hlt : k < n
    · have hkz : (k : Int) < (n : Int) := by omega
      rcases hnz with h0 | ⟨b, off, rfl, hb, HC⟩
      · omega
      obtain ⟨c0, c1, c2, c3⟩ := (HC.out k hlt).below hbel hb
      have HBL := Lib.hid hbel
      have hsb := hbel.size
      clear hrow hbel
      have HS := Lib.hid (HST.out k hlt)
      generalize lkAt l k = x at *
      go_wp2_with fail
      refine (toLink_any _ _ _ _ _).mono ?_
      rintro e w2 ⟨rfl, b2⟩
      have HR2 := Lib.hid (HR.out.below b2)
      have B2 := Lib.hid (belStep HBL.out b2)
      obtain ⟨hc1, hf1, hgl⟩ := HR2.out.cells (HL.out k hk)
      obtain ⟨d0, d1, d2, d3⟩ := hc1 k hlt
      clear hc1 b2 c0 c1 c2 c3 HR HBL
      generalize lkAt (fillK l k) k = y at *
      go_wp2
      go_roundw
      case rel => exact ⟨k + 1, by omega, by go_num, HR2.out.put (HL.out k hk) hlt HS.out, (((B2.out.setCell (by exact Nat.le_refl _) _).setCell (by exact Nat.le_refl _) _).setCell (by exact Nat.le_refl _) _).setCell (by exact Nat.le_refl _) _⟩
      case measure => simp [intOf]; omega
    · obtain rfl : k = n := by omega
      go_wp2
      go_ret
      exact ⟨_, rfl, by have := HR.out; rw [HA.out] at this; exact this, hbel⟩

set_option maxRecDepth 100000 in
set_option maxHeartbeats 2000000 in
theorem eqLinkS_same (w : World) (v v' : Value) (l : List K4) (h : Lks w w.heap.size v l) (h' : Lks w w.heap.size v' l) (hn : l.length ≤ 1048576) :
    Calls Tryz.prog 14 #[v, v'] w fun e w' => e = .returned (.bool true) ∧ Below w.heap.size w w' := by
  obtain ⟨a, cap, rfl, hc, hm, hh⟩ := h
  obtain ⟨a', cap', rfl, hc', hm', hh'⟩ := h'
  have HH := Lib.hid hh
  have HH' := Lib.hid hh'
  clear hh hh'
  unfold maxLen at hm hm'
  generalize hN : l.length = n at *
  go_enter Tryz.func14, Tryz.ntmps14
  go_wp2
  go_loopw [5] (fun i wr => ∃ k : Nat, k ≤ n ∧ i = .int .i64 k ∧ Below w.heap.size w wr) (fun i _ => n - (intOf i).toNat)
  case atStart => exact ⟨0, Nat.zero_le _, rfl, Below.refl _ _⟩
  case round =>
    obtain ⟨k, hk, rfl, hbel⟩ := hrel
    by_cases hlt : k < n
    · have hz : (k : Int) < (n : Int) := by omega
      rcases HH.out with h1 | ⟨b, off, rfl, hb, hcell⟩
      · rw [h1] at hN; simp at hN; omega
      rcases HH'.out with h1 | ⟨b', off', rfl, hb', hcell'⟩
      · rw [h1] at hN; simp at hN; omega
      obtain ⟨c0, c1, c2, c3⟩ := (hcell k hlt).below hbel hb
      obtain ⟨d0, d1, d2, d3⟩ := (hcell' k hlt).below hbel hb'
      clear hcell hcell'
      have HBL := Lib.hid hbel
      clear hbel
      generalize lkAt l k = x at *
      have hbr : b < wr.heap.size := Nat.lt_of_lt_of_le hb HBL.out.size
      have hbr' : b' < wr.heap.size := Nat.lt_of_lt_of_le hb' HBL.out.size
      have q0 := fun m : Ext wr => m.cell hbr c0
      have q1 := fun m : Ext wr => m.cell hbr c1
      have q2 := fun m : Ext wr => m.cell hbr c2
      have q3 := fun m : Ext wr => m.cell hbr c3
      have q4 := fun m : Ext wr => m.cell hbr' d0
      have q5 := fun m : Ext wr => m.cell hbr' d1
      have q6 := fun m : Ext wr => m.cell hbr' d2
      have q7 := fun m : Ext wr => m.cell hbr' d3
      clear c0 c1 c2 c3 d0 d1 d2 d3
      go_wp2
      refine wp_region_ext (w0 := wr) (by kernel_rfl) (by kernel_rfl) (Below.refl _ _) ?_
      repeat (go_big_quiet_step (first | (go_at_call 37; exact ext_of (eqLink_same _ _ _ _ _))))
      refine wpQuiet_nil ?_
      rintro _ ⟨⟨w1, b1⟩, rfl⟩
      go_wp2
      go_roundw
      case rel => exact ⟨k + 1, by omega, by go_num, belStep HBL.out b1⟩
      case measure => simp [intOf]; omega
    · obtain rfl : k = n := by omega
      go_wp2
      go_ret
      exact ⟨rfl, hbel⟩

end Go.Proofs.YtjjhahhchimmlaaGreatDoor

namespace Go.Proofs.YtjjhahhchimmlaaGreatDoor
open Go.ChangeShapes Go.WideShapes Go.ChangeAt Go.RowKit Go.Joins
set_option linter.unusedVariables false

def swB (n : Int) : Bool := inB n 1 4
def ptB (n : Int) : Bool := inB n 1 3

/-- Forty numbers: at a switch s and a port t the numbers 8 s + 2 t and the next one: the other end. -/
abbrev Pv := Nat → Int
def pz : Pv := fun _ => 0
def setE (P : Pv) (s t : Nat) (x y : Int) : Pv := fun i => if i = s * 8 + t * 2 then x else if i = s * 8 + t * 2 + 1 then y else P i
def frB (P : Pv) (sw port : Int) : Bool := swB sw && (ptB port && (P (sw.toNat * 8 + port.toNat * 2) == 0 && P (sw.toNat * 8 + port.toNat * 2 + 1) == 0))
def rdOk (P : Pv) (k : K4) : Bool := !(k.p == k.o) && (frB P k.p k.s && frB P k.o k.t)
def rdSet (P : Pv) (k : K4) : Pv := setE (setE P k.p.toNat k.s.toNat k.o k.t) k.o.toNat k.t.toNat k.p k.s
def okF : Pv → List K4 → Bool
  | _, [] => true
  | P, k :: l => rdOk P k && okF (rdSet P k) l
/-- The links are a net. -/
def netB (l : List K4) : Bool := decide (l.length ≤ 6) && okF pz l
/-- What lies at the ports of a net. -/
def pk (l : List K4) : Pv := l.foldl rdSet pz

theorem okF_drop {l : List K4} {P : Pv} {k : Nat} (h : k < l.length) : okF P (l.drop k) = (rdOk P (lkAt l k) && okF (rdSet P (lkAt l k)) (l.drop (k + 1))) := by
  rw [List.drop_eq_getElem_cons h, lkAt_lt h]
  rfl
theorem pk_drop {l : List K4} {P : Pv} {k : Nat} (h : k < l.length) : (l.drop k).foldl rdSet P = (l.drop (k + 1)).foldl rdSet (rdSet P (lkAt l k)) := by
  rw [List.drop_eq_getElem_cons h, lkAt_lt h]
  rfl

/-- The forty numbers as cells. -/
def pvA (P : Pv) : Array Value := ((List.range 40).map fun i => Value.int .i64 (P i)).toArray
theorem pvA_size (P : Pv) : (pvA P).size = 40 := by simp [pvA]
theorem pvA_at (P : Pv) {i : Nat} (h : i < 40) : (pvA P)[i]? = some (.int .i64 (P i)) := by simp [pvA, h]
theorem pvA_one (P : Pv) : (pvA P).all (·.oneCell') = true := by
  simp only [pvA, Array.all_eq_true]
  intro i hi
  simp
  rfl
theorem pvA_set (P : Pv) {s t : Nat} (x y : Int) (h : s * 8 + t * 2 + 1 < 40) : ((pvA P).setIfInBounds (s * 8 + t * 2) (.int .i64 x)).setIfInBounds (s * 8 + t * 2 + 1) (.int .i64 y) = pvA (setE P s t x y) := by
  apply Array.ext_getElem?
  intro i
  by_cases hi : i < 40
  · rw [pvA_at _ hi, Array.getElem?_setIfInBounds, Array.getElem?_setIfInBounds, Array.size_setIfInBounds, pvA_size]
    unfold setE
    by_cases h1 : s * 8 + t * 2 + 1 = i
    · have h0 : ¬ i = s * 8 + t * 2 := by omega
      simp [h1.symm, h]
    · by_cases h0 : s * 8 + t * 2 = i
      · have : ¬ i = s * 8 + t * 2 + 1 := by omega
        subst h0
        simp [hi]
      · have a : ¬ i = s * 8 + t * 2 := fun e => h0 e.symm
        have b : ¬ i = s * 8 + t * 2 + 1 := fun e => h1 e.symm
        rw [if_neg h1, if_neg h0, pvA_at _ hi, if_neg a, if_neg b]
  · rw [Array.getElem?_eq_none (by simp [pvA]; omega), Array.getElem?_eq_none (by simp [pvA]; omega)]

/-- A block holds the forty numbers. -/
def Pb (w : World) (g : Nat) (P : Pv) : Prop := w.heap[g]? = some (.cells (pvA P) 68)
theorem Pb.cell {w : World} {g : Nat} {P : Pv} (h : Pb w g P) {i : Nat} (hi : i < 40) : w.cell? ⟨g, i, none⟩ = some (.int .i64 (P i)) := by
  rw [cell_of_row w g i _ _ _ h, pvA_at P hi]
theorem Pb.frozen {w : World} {g : Nat} {P : Pv} (h : Pb w g P) (i : Nat) : w.frozen? ⟨g, i, none⟩ = false := by simp [World.frozen?, show w.heap[g]? = _ from h]
theorem Pb.below {w w' : World} {n g : Nat} {P : Pv} (h : Pb w g P) (hb : Below n w w') (hn : g < n) : Pb w' g P := (hb.block g hn).trans h
theorem Pb.lt {w : World} {g : Nat} {P : Pv} (h : Pb w g P) : g < w.heap.size := (Array.getElem?_eq_some_iff.1 h).1
theorem Pb.range {w : World} {g : Nat} {P : Pv} (h : Pb w g P) {s : Nat} (hs : s < 5) : w.rangeAt g (s * 8) ((List.range 8).map fun i => Value.int .i64 (P (s * 8 + i))) := by
  intro j v hv
  have hj : j < 8 := by simpa using (List.getElem?_eq_some_iff.1 hv).1
  rw [h.cell (by omega)]
  simpa [hj] using hv
theorem Pb.put {w : World} {g : Nat} {P : Pv} (h : Pb w g P) {s t : Nat} (x y : Int) (hs : s * 8 + t * 2 + 1 < 40) : Pb ((w.setCell ⟨g, s * 8 + t * 2, none⟩ (.int .i64 x)).setCell ⟨g, s * 8 + t * 2 + 1, none⟩ (.int .i64 y)) g (setE P s t x y) := by
  unfold Pb
  rw [← pvA_set P x y hs]
  have h1 : (w.setCell ⟨g, s * 8 + t * 2, none⟩ (.int .i64 x)).heap[g]? = some (.cells ((pvA P).setIfInBounds (s * 8 + t * 2) (.int .i64 x)) 68) := block_setCell h _
  exact block_setCell h1 _

end Go.Proofs.YtjjhahhchimmlaaGreatDoor

namespace Go.Proofs.YtjjhahhchimmlaaGreatDoor
open Go.ChangeShapes Go.WideShapes Go.ChangeAt Go.RowKit Go.Joins
set_option linter.unusedVariables false

/-- A link of two switches, by ports that there are. -/
def lkOk (k : K4) : Bool := swB k.p && (swB k.o && (!(k.p == k.o) && (ptB k.s && ptB k.t)))
/-- The ends of links. -/
def endsL (l : List K4) : List (Int × Int) := l.flatMap fun k => [(k.p, k.s), (k.o, k.t)]
theorem endsL_cons (k : K4) (l : List K4) : endsL (k :: l) = (k.p, k.s) :: (k.o, k.t) :: endsL l := rfl
theorem endsL_len (l : List K4) : (endsL l).length = 2 * l.length := by
  induction l with
  | nil => rfl
  | cons k l ih => rw [endsL_cons]; simp [ih]; omega
/-- Two ends of the same port. -/
def Dup (es : List (Int × Int)) : Prop := ∃ i k, k < i ∧ i < es.length ∧ es[i]? = es[k]?

def ndF : List (Int × Int) → List K4 → Bool
  | _, [] => true
  | es, k :: l => lkOk k && (decide ((k.p, k.s) ∉ es) && (decide ((k.o, k.t) ∉ es) && ndF (es ++ [(k.p, k.s), (k.o, k.t)]) l))

/-- The forty numbers tell which ports are taken. -/
def Enc (P : Pv) (es : List (Int × Int)) : Prop := ∀ s t : Nat, 1 ≤ s → s ≤ 4 → 1 ≤ t → t ≤ 3 → ((P (s * 8 + t * 2) = 0 ∧ P (s * 8 + t * 2 + 1) = 0) ↔ ((s : Int), (t : Int)) ∉ es)

theorem frB_enc {P : Pv} {es : List (Int × Int)} (h : Enc P es) (sw port : Int) : frB P sw port = (swB sw && (ptB port && decide ((sw, port) ∉ es))) := by
  unfold frB
  cases h1 : swB sw
  · rfl
  · cases h2 : ptB port
    · rfl
    · obtain ⟨s0, s1⟩ := inB_true h1
      obtain ⟨t0, t1⟩ := inB_true h2
      have := h sw.toNat port.toNat (by omega) (by omega) (by omega) (by omega)
      rw [Int.toNat_of_nonneg (by omega), Int.toNat_of_nonneg (by omega)] at this
      simp only [Bool.true_and]
      by_cases hm : (sw, port) ∈ es
      · have h0 : ¬ (P (sw.toNat * 8 + port.toNat * 2) = 0 ∧ P (sw.toNat * 8 + port.toNat * 2 + 1) = 0) := fun e => (this.1 e) hm
        simp only [hm, not_true_eq_false, decide_false]
        simpa using h0
      · have h0 := this.2 hm
        simp [hm, h0.1, h0.2]

theorem enc_set {P : Pv} {es : List (Int × Int)} (h : Enc P es) (k : K4) (hk : lkOk k = true) : Enc (rdSet P k) (es ++ [(k.p, k.s), (k.o, k.t)]) := by
  intro s t s1 s4 t1 t3
  simp only [lkOk, Bool.and_eq_true, Bool.not_eq_true', beq_eq_false_iff_ne] at hk
  obtain ⟨k1, k2, k3, k4, k5⟩ := hk
  obtain ⟨p0, p1⟩ := inB_true k1
  obtain ⟨o0, o1⟩ := inB_true k2
  obtain ⟨a0, a1⟩ := inB_true k4
  obtain ⟨b0, b1⟩ := inB_true k5
  have := h s t s1 s4 t1 t3
  unfold rdSet setE
  by_cases e1 : (s : Int) = k.o ∧ (t : Int) = k.t
  · have hx : s * 8 + t * 2 = k.o.toNat * 8 + k.t.toNat * 2 := by omega
    have hm : ((s : Int), (t : Int)) ∈ es ++ [(k.p, k.s), (k.o, k.t)] := by simp [e1.1, e1.2]
    simp only [hx, if_true, hm, not_true_eq_false, iff_false]
    omega
  · by_cases e2 : (s : Int) = k.p ∧ (t : Int) = k.s
    · have hx : s * 8 + t * 2 = k.p.toNat * 8 + k.s.toNat * 2 := by omega
      have hn1 : ¬ k.p.toNat * 8 + k.s.toNat * 2 = k.o.toNat * 8 + k.t.toNat * 2 := by omega
      have hn2 : ¬ k.p.toNat * 8 + k.s.toNat * 2 = k.o.toNat * 8 + k.t.toNat * 2 + 1 := by omega
      have hm : ((s : Int), (t : Int)) ∈ es ++ [(k.p, k.s), (k.o, k.t)] := by simp [e2.1, e2.2]
      simp only [hx, hn1, hn2, if_true, if_false, hm, not_true_eq_false, iff_false]
      omega
    · have q1 : ¬ s * 8 + t * 2 = k.o.toNat * 8 + k.t.toNat * 2 := by omega
      have q2 : ¬ s * 8 + t * 2 = k.o.toNat * 8 + k.t.toNat * 2 + 1 := by omega
      have q3 : ¬ s * 8 + t * 2 = k.p.toNat * 8 + k.s.toNat * 2 := by omega
      have q4 : ¬ s * 8 + t * 2 = k.p.toNat * 8 + k.s.toNat * 2 + 1 := by omega
      have q5 : ¬ s * 8 + t * 2 + 1 = k.o.toNat * 8 + k.t.toNat * 2 := by omega
      have q6 : ¬ s * 8 + t * 2 + 1 = k.o.toNat * 8 + k.t.toNat * 2 + 1 := by omega
      have q7 : ¬ s * 8 + t * 2 + 1 = k.p.toNat * 8 + k.s.toNat * 2 := by omega
      have q8 : ¬ s * 8 + t * 2 + 1 = k.p.toNat * 8 + k.s.toNat * 2 + 1 := by omega
      simp only [q1, q2, q3, q4, q5, q6, q7, q8, if_false]
      rw [this]
      have m1 : ¬ ((s : Int), (t : Int)) = (k.p, k.s) := fun e => e2 (by simpa using e)
      have m2 : ¬ ((s : Int), (t : Int)) = (k.o, k.t) := fun e => e1 (by simpa using e)
      simp only [List.mem_append, List.mem_cons, m1, m2, List.not_mem_nil, or_false]

theorem okF_nd : ∀ (l : List K4) (P : Pv) (es : List (Int × Int)), Enc P es → okF P l = ndF es l
  | [], P, es, h => rfl
  | k :: l, P, es, h => by
    unfold okF ndF rdOk
    rw [frB_enc h, frB_enc h]
    cases hk : lkOk k
    · simp only [Bool.false_and, Bool.and_eq_false_iff]
      left
      unfold lkOk at hk
      cases h1 : swB k.p <;> cases h2 : swB k.o <;> cases h3 : (k.p == k.o) <;> cases h4 : ptB k.s <;> cases h5 : ptB k.t <;> simp_all
    · rw [okF_nd l _ _ (enc_set h k hk)]
      simp only [lkOk, Bool.and_eq_true] at hk
      obtain ⟨k1, k2, k3, k4, k5⟩ := hk
      rw [k1, k2, k3, k4, k5]
      simp [Bool.and_assoc]

theorem enc_nil : Enc pz [] := fun s t _ _ _ _ => by simp [pz]

theorem ndF_iff : ∀ (l : List K4) (es : List (Int × Int)), ndF es l = true ↔ (∀ i, i < l.length → lkOk (lkAt l i) = true) ∧ (∀ i k, k < i → es.length ≤ i → i < (es ++ endsL l).length → (es ++ endsL l)[i]? ≠ (es ++ endsL l)[k]?)
  | [], es => by
    simp only [ndF, endsL, List.flatMap_nil, List.append_nil, List.length_nil, true_iff]
    exact ⟨fun i hi => absurd hi (Nat.not_lt_zero _), fun i k _ h1 h2 => by omega⟩
  | q :: l, es => by
    have ih := ndF_iff l (es ++ [(q.p, q.s), (q.o, q.t)])
    have hE : (es ++ [(q.p, q.s), (q.o, q.t)]) ++ endsL l = es ++ endsL (q :: l) := by rw [endsL_cons]; simp
    rw [hE] at ih
    simp only [ndF, Bool.and_eq_true, decide_eq_true_eq]
    rw [ih]
    have hlen : (es ++ endsL (q :: l)).length = es.length + 2 + 2 * l.length := by rw [List.length_append, endsL_len]; simp; omega
    have g0 : (es ++ endsL (q :: l))[es.length]? = some (q.p, q.s) := by rw [endsL_cons, List.getElem?_append_right (Nat.le_refl _), Nat.sub_self]; rfl
    have g1 : (es ++ endsL (q :: l))[es.length + 1]? = some (q.o, q.t) := by rw [endsL_cons, List.getElem?_append_right (by omega), show es.length + 1 - es.length = 1 from by omega]; rfl
    have gl : ∀ k, k < es.length → (es ++ endsL (q :: l))[k]? = es[k]? := fun k hk => List.getElem?_append_left hk
    constructor
    · rintro ⟨h1, h2, h3, h4, h5⟩
      refine ⟨fun i hi => ?_, fun i k hki hi hil => ?_⟩
      · cases i with
        | zero => exact h1
        | succ i => exact h4 i (by simpa using hi)
      · by_cases e0 : i = es.length
        · subst e0
          rw [g0, gl k hki]
          intro e
          exact h2 (List.mem_of_getElem? e.symm)
        · by_cases e1 : i = es.length + 1
          · subst e1
            rw [g1]
            by_cases e2 : k = es.length
            · subst e2
              rw [g0]
              intro e
              injection e with e
              injection e with e3 e4
              simp [lkOk, e3] at h1
            · rw [gl k (by omega)]
              intro e
              exact h3 (List.mem_of_getElem? e.symm)
          · exact h5 i k hki (by simp; omega) hil
    · rintro ⟨h1, h2⟩
      have hl := h1 0 (by simp)
      refine ⟨hl, fun hm => ?_, fun hm => ?_, fun i hi => h1 (i + 1) (by simpa using hi), fun i k hki hi hil => h2 i k hki (by simp at hi; omega) hil⟩
      · obtain ⟨k, hk⟩ := List.getElem?_of_mem hm
        have hkl := (List.getElem?_eq_some_iff.1 hk).1
        exact h2 es.length k hkl (Nat.le_refl _) (by omega) (by rw [g0, gl k hkl, hk])
      · obtain ⟨k, hk⟩ := List.getElem?_of_mem hm
        have hkl := (List.getElem?_eq_some_iff.1 hk).1
        exact h2 (es.length + 1) k (by omega) (by omega) (by omega) (by rw [g1, gl k hkl, hk])

/-- A net, as the model says it. -/
theorem netB_iff (l : List K4) : netB l = true ↔ (∀ i, i < l.length → lkOk (lkAt l i) = true) ∧ ¬ Dup (endsL l) ∧ l.length ≤ 6 := by
  unfold netB
  rw [okF_nd l pz [] enc_nil, Bool.and_eq_true, decide_eq_true_eq, ndF_iff]
  simp only [List.nil_append, List.length_nil]
  constructor
  · rintro ⟨h6, h1, h2⟩
    exact ⟨h1, fun ⟨i, k, hk, hi, e⟩ => h2 i k hk (Nat.zero_le _) hi e, h6⟩
  · rintro ⟨h1, h2, h6⟩
    exact ⟨h6, h1, fun i k hk _ hi e => h2 ⟨i, k, hk, hi, e⟩⟩
theorem netB_bad {l : List K4} {i : Nat} (hi : i < l.length) (h : lkOk (lkAt l i) = false) : netB l = false := by
  cases hb : netB l
  · rfl
  · have := ((netB_iff l).1 hb).1 i hi
    rw [h] at this
    cases this
theorem netB_dup {l : List K4} (h : Dup (endsL l)) : netB l = false := by
  cases hb : netB l
  · rfl
  · exact absurd h ((netB_iff l).1 hb).2.1
theorem netB_all {l : List K4} (h1 : ∀ i, i < l.length → lkOk (lkAt l i) = true) (h2 : ¬ Dup (endsL l)) : netB l = decide (l.length ≤ 6) := by
  by_cases h6 : l.length ≤ 6
  · rw [(netB_iff l).2 ⟨h1, h2, h6⟩]
    simp [h6]
  · simp [netB, h6]

end Go.Proofs.YtjjhahhchimmlaaGreatDoor

namespace Go.Proofs.YtjjhahhchimmlaaGreatDoor
open Go.ChangeShapes Go.WideShapes Go.ChangeAt Go.RowKit Go.Joins
set_option linter.unusedVariables false

/-- The switch, and its port, at the other end; zeros, if there is none. -/
def peerF : List K4 → Int → Int → Int × Int
  | [], _, _ => (0, 0)
  | k :: l, s, t => if k.p = s ∧ k.s = t then (k.o, k.t) else if k.o = s ∧ k.t = t then (k.p, k.s) else peerF l s t
theorem peerF_drop {l : List K4} {k : Nat} (h : k < l.length) (s t : Int) : peerF (l.drop k) s t =
    if (lkAt l k).p = s ∧ (lkAt l k).s = t then ((lkAt l k).o, (lkAt l k).t) else if (lkAt l k).o = s ∧ (lkAt l k).t = t then ((lkAt l k).p, (lkAt l k).s) else peerF (l.drop (k + 1)) s t := by
  rw [List.drop_eq_getElem_cons h, lkAt_lt h]
  rfl

theorem rdOk_parts {P : Pv} {k : K4} (h : rdOk P k = true) : (1 ≤ k.p ∧ k.p ≤ 4) ∧ (1 ≤ k.o ∧ k.o ≤ 4) ∧ k.p ≠ k.o ∧ (1 ≤ k.s ∧ k.s ≤ 3) ∧ (1 ≤ k.t ∧ k.t ≤ 3) ∧
    (P (k.p.toNat * 8 + k.s.toNat * 2) = 0 ∧ P (k.p.toNat * 8 + k.s.toNat * 2 + 1) = 0) ∧ (P (k.o.toNat * 8 + k.t.toNat * 2) = 0 ∧ P (k.o.toNat * 8 + k.t.toNat * 2 + 1) = 0) := by
  simp only [rdOk, frB, Bool.and_eq_true, Bool.not_eq_true', beq_eq_false_iff_ne, beq_iff_eq] at h
  obtain ⟨h1, ⟨h2, h3, h4⟩, h5, h6, h7⟩ := h
  exact ⟨inB_true h2, inB_true h5, h1, inB_true h3, inB_true h6, h4, h7⟩

/-- What is set at a port. -/
theorem rdSet_at {P : Pv} {k : K4} (hp : 1 ≤ k.p ∧ k.p ≤ 4) (ho : 1 ≤ k.o ∧ k.o ≤ 4) (hne : k.p ≠ k.o) (hs : 1 ≤ k.s ∧ k.s ≤ 3) (ht : 1 ≤ k.t ∧ k.t ≤ 3) (s t : Nat) (h3 : t ≤ 3) :
    (rdSet P k (s * 8 + t * 2), rdSet P k (s * 8 + t * 2 + 1)) = if k.p = s ∧ k.s = t then (k.o, k.t) else if k.o = s ∧ k.t = t then (k.p, k.s) else (P (s * 8 + t * 2), P (s * 8 + t * 2 + 1)) := by
  unfold rdSet setE
  by_cases e1 : k.p = s ∧ k.s = t
  · have hx : s * 8 + t * 2 = k.p.toNat * 8 + k.s.toNat * 2 := by omega
    have hn1 : ¬ k.p.toNat * 8 + k.s.toNat * 2 = k.o.toNat * 8 + k.t.toNat * 2 := by omega
    have hn2 : ¬ k.p.toNat * 8 + k.s.toNat * 2 = k.o.toNat * 8 + k.t.toNat * 2 + 1 := by omega
    have hn3 : ¬ k.p.toNat * 8 + k.s.toNat * 2 + 1 = k.o.toNat * 8 + k.t.toNat * 2 := by omega
    have hn4 : ¬ k.p.toNat * 8 + k.s.toNat * 2 + 1 = k.o.toNat * 8 + k.t.toNat * 2 + 1 := by omega
    have hn5 : ¬ k.p.toNat * 8 + k.s.toNat * 2 + 1 = k.p.toNat * 8 + k.s.toNat * 2 := by omega
    rw [if_pos e1]
    simp only [hx, hn1, hn2, hn3, hn4, hn5, if_true, if_false]
  · by_cases e2 : k.o = s ∧ k.t = t
    · have hx : s * 8 + t * 2 = k.o.toNat * 8 + k.t.toNat * 2 := by omega
      have hn5 : ¬ k.o.toNat * 8 + k.t.toNat * 2 + 1 = k.o.toNat * 8 + k.t.toNat * 2 := by omega
      rw [if_neg e1, if_pos e2]
      simp only [hx, hn5, if_true, if_false]
    · have q1 : ¬ s * 8 + t * 2 = k.o.toNat * 8 + k.t.toNat * 2 := by omega
      have q2 : ¬ s * 8 + t * 2 = k.o.toNat * 8 + k.t.toNat * 2 + 1 := by omega
      have q3 : ¬ s * 8 + t * 2 = k.p.toNat * 8 + k.s.toNat * 2 := by omega
      have q4 : ¬ s * 8 + t * 2 = k.p.toNat * 8 + k.s.toNat * 2 + 1 := by omega
      have q5 : ¬ s * 8 + t * 2 + 1 = k.o.toNat * 8 + k.t.toNat * 2 := by omega
      have q6 : ¬ s * 8 + t * 2 + 1 = k.o.toNat * 8 + k.t.toNat * 2 + 1 := by omega
      have q7 : ¬ s * 8 + t * 2 + 1 = k.p.toNat * 8 + k.s.toNat * 2 := by omega
      have q8 : ¬ s * 8 + t * 2 + 1 = k.p.toNat * 8 + k.s.toNat * 2 + 1 := by omega
      rw [if_neg e1, if_neg e2]
      simp only [q1, q2, q3, q4, q5, q6, q7, q8, if_false]

theorem fold_peer : ∀ (l : List K4) (P : Pv), okF P l = true → ∀ s t : Nat, t ≤ 3 →
    ((P (s * 8 + t * 2) = 0 ∧ P (s * 8 + t * 2 + 1) = 0) → (l.foldl rdSet P (s * 8 + t * 2), l.foldl rdSet P (s * 8 + t * 2 + 1)) = peerF l s t) ∧
    (¬ (P (s * 8 + t * 2) = 0 ∧ P (s * 8 + t * 2 + 1) = 0) → (l.foldl rdSet P (s * 8 + t * 2), l.foldl rdSet P (s * 8 + t * 2 + 1)) = (P (s * 8 + t * 2), P (s * 8 + t * 2 + 1)) ∧ peerF l s t = (0, 0))
  | [], P, _, s, t, _ => ⟨fun h => by simp [peerF, h.1, h.2], fun _ => ⟨rfl, rfl⟩⟩
  | k :: l, P, h, s, t, h3 => by
    simp only [okF, Bool.and_eq_true] at h
    obtain ⟨hp, ho, hne, hs, ht, hf1, hf2⟩ := rdOk_parts h.1
    have ih := fold_peer l _ h.2 s t h3
    have hat := rdSet_at (P := P) hp ho hne hs ht s t h3
    rw [List.foldl_cons, show peerF (k :: l) s t = if k.p = s ∧ k.s = t then (k.o, k.t) else if k.o = s ∧ k.t = t then (k.p, k.s) else peerF l s t from rfl]
    by_cases e1 : k.p = s ∧ k.s = t
    · rw [if_pos e1] at hat ⊢
      injection hat with a1 a2
      have hnz : ¬ (rdSet P k (s * 8 + t * 2) = 0 ∧ rdSet P k (s * 8 + t * 2 + 1) = 0) := by rw [a1]; omega
      have := (ih.2 hnz).1
      rw [a1, a2] at this
      refine ⟨fun _ => this, fun hz => absurd ?_ hz⟩
      have : s * 8 + t * 2 = k.p.toNat * 8 + k.s.toNat * 2 := by omega
      rw [this]
      exact hf1
    · by_cases e2 : k.o = s ∧ k.t = t
      · rw [if_neg e1, if_pos e2] at hat ⊢
        injection hat with a1 a2
        have hnz : ¬ (rdSet P k (s * 8 + t * 2) = 0 ∧ rdSet P k (s * 8 + t * 2 + 1) = 0) := by rw [a1]; omega
        have := (ih.2 hnz).1
        rw [a1, a2] at this
        refine ⟨fun _ => this, fun hz => absurd ?_ hz⟩
        have : s * 8 + t * 2 = k.o.toNat * 8 + k.t.toNat * 2 := by omega
        rw [this]
        exact hf2
      · rw [if_neg e1, if_neg e2] at hat ⊢
        injection hat with a1 a2
        rw [a1, a2] at ih
        exact ih

/-- The forty numbers of a net are what lies at its ports. -/
theorem pk_peer {l : List K4} (h : netB l = true) (s t : Nat) (h3 : t ≤ 3) : (pk l (s * 8 + t * 2), pk l (s * 8 + t * 2 + 1)) = peerF l s t := by
  simp only [netB, Bool.and_eq_true] at h
  exact (fold_peer l pz h.2 s t h3).1 ⟨rfl, rfl⟩

theorem net_ok {l : List K4} (h : netB l = true) : ∀ k ∈ l, lkOk k = true := by
  intro k hk
  obtain ⟨i, hi, rfl⟩ := List.getElem_of_mem hk
  have := ((netB_iff l).1 h).1 i hi
  rwa [lkAt_lt hi] at this
theorem lkOk_parts {k : K4} (h : lkOk k = true) : (1 ≤ k.p ∧ k.p ≤ 4) ∧ (1 ≤ k.o ∧ k.o ≤ 4) ∧ k.p ≠ k.o ∧ (1 ≤ k.s ∧ k.s ≤ 3) ∧ (1 ≤ k.t ∧ k.t ≤ 3) := by
  simp only [lkOk, Bool.and_eq_true, Bool.not_eq_true', beq_eq_false_iff_ne] at h
  exact ⟨inB_true h.1, inB_true h.2.1, h.2.2.1, inB_true h.2.2.2.1, inB_true h.2.2.2.2⟩

/-- Zeros, or an end of a link and its other end. -/
theorem peerF_cases : ∀ (l : List K4) (s t : Int), peerF l s t = (0, 0) ∨ ∃ k ∈ l, (k.p = s ∧ k.s = t ∧ peerF l s t = (k.o, k.t)) ∨ (k.o = s ∧ k.t = t ∧ peerF l s t = (k.p, k.s))
  | [], s, t => .inl rfl
  | k :: l, s, t => by
    rw [show peerF (k :: l) s t = if k.p = s ∧ k.s = t then (k.o, k.t) else if k.o = s ∧ k.t = t then (k.p, k.s) else peerF l s t from rfl]
    by_cases e1 : k.p = s ∧ k.s = t
    · rw [if_pos e1]
      exact .inr ⟨k, by simp, .inl ⟨e1.1, e1.2, rfl⟩⟩
    · by_cases e2 : k.o = s ∧ k.t = t
      · rw [if_neg e1, if_pos e2]
        exact .inr ⟨k, by simp, .inr ⟨e2.1, e2.2, rfl⟩⟩
      · rw [if_neg e1, if_neg e2]
        rcases peerF_cases l s t with h | ⟨q, hq, h⟩
        · exact .inl h
        · exact .inr ⟨q, by simp [hq], h⟩
theorem peer_mem : ∀ (l : List K4) (P : Pv), okF P l = true → (∀ k ∈ l, lkOk k = true) → ∀ k ∈ l, peerF l k.p k.s = (k.o, k.t) ∧ peerF l k.o k.t = (k.p, k.s)
  | [], P, _, _, k, hk => by cases hk
  | q :: l, P, h, hall, k, hk => by
    simp only [okF, Bool.and_eq_true] at h
    obtain ⟨hp, ho, hne, hs, ht, hf1, hf2⟩ := rdOk_parts h.1
    have e : ∀ s t : Int, peerF (q :: l) s t = if q.p = s ∧ q.s = t then (q.o, q.t) else if q.o = s ∧ q.t = t then (q.p, q.s) else peerF l s t := fun _ _ => rfl
    rcases List.mem_cons.1 hk with rfl | hk
    · rw [e, e, if_pos ⟨rfl, rfl⟩, if_neg (fun x => hne x.1), if_pos ⟨rfl, rfl⟩]
      exact ⟨rfl, rfl⟩
    · have ih := peer_mem l _ h.2 (fun k hk => hall k (by simp [hk])) k hk
      obtain ⟨kp, ko, kne, ks, kt⟩ := lkOk_parts (hall k (by simp [hk]))
      have key : ∀ s t : Int, (1 ≤ s ∧ s ≤ 4) → (1 ≤ t ∧ t ≤ 3) → peerF l s t ≠ (0, 0) → ¬ (q.p = s ∧ q.s = t) ∧ ¬ (q.o = s ∧ q.t = t) := by
        intro s t s1 t1 hnz
        have hz := (fold_peer l _ h.2 s.toNat t.toNat (by omega)).2
        have hat := rdSet_at (P := P) hp ho hne hs ht s.toNat t.toNat (by omega)
        rw [Int.toNat_of_nonneg (by omega), Int.toNat_of_nonneg (by omega)] at hat hz
        refine ⟨fun x => hnz (hz ?_).2, fun x => hnz (hz ?_).2⟩
        · rw [if_pos x] at hat
          injection hat with a1 a2
          rw [a1]
          omega
        · rw [if_neg (fun y => hne (y.1.trans x.1.symm)), if_pos x] at hat
          injection hat with a1 a2
          rw [a1]
          omega
      have k1 := key k.p k.s kp ks (by rw [ih.1]; intro x; injection x with x; omega)
      have k2 := key k.o k.t ko kt (by rw [ih.2]; intro x; injection x with x; omega)
      rw [e, e, if_neg k1.1, if_neg k1.2, if_neg k2.1, if_neg k2.2]
      exact ih
theorem net_mem {l : List K4} (h : netB l = true) {k : K4} (hk : k ∈ l) : peerF l k.p k.s = (k.o, k.t) ∧ peerF l k.o k.t = (k.p, k.s) := by
  have h' := h
  simp only [netB, Bool.and_eq_true] at h'
  exact peer_mem l pz h'.2 (net_ok h) k hk
/-- What lies at a port of a net is of a switch and a port; from there one comes back. -/
theorem peer_ok {l : List K4} (h : netB l = true) (s t : Int) : peerF l s t = (0, 0) ∨
    ((1 ≤ s ∧ s ≤ 4) ∧ (1 ≤ t ∧ t ≤ 3) ∧ (1 ≤ (peerF l s t).1 ∧ (peerF l s t).1 ≤ 4) ∧ (1 ≤ (peerF l s t).2 ∧ (peerF l s t).2 ≤ 3) ∧ (peerF l s t).1 ≠ s ∧ peerF l (peerF l s t).1 (peerF l s t).2 = (s, t)) := by
  rcases peerF_cases l s t with h0 | ⟨k, hk, ⟨rfl, rfl, he⟩ | ⟨rfl, rfl, he⟩⟩
  · exact .inl h0
  · obtain ⟨kp, ko, kne, ks, kt⟩ := lkOk_parts (net_ok h k hk)
    rw [he]
    exact .inr ⟨kp, ks, ko, kt, fun x => kne x.symm, (net_mem h hk).2⟩
  · obtain ⟨kp, ko, kne, ks, kt⟩ := lkOk_parts (net_ok h k hk)
    rw [he]
    exact .inr ⟨ko, kt, kp, ks, kne, (net_mem h hk).1⟩

end Go.Proofs.YtjjhahhchimmlaaGreatDoor
