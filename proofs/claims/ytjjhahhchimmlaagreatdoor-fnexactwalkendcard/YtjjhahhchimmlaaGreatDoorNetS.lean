/-
  Slices of links: where they lie; those that a call is handed, and those that it makes; what the statements' own helpers do with them.
-/
import Derived.Test.YtjjhahhchimmlaaGreatDoorExtReg
import Derived.Deep.Slices
import Derived.Deep.Fields
import Derived.Deep.Onto
import Derived.OwnWalk
import Derived.Laws.OwnMore
namespace Go.Proofs.YtjjhahhchimmlaaGreatDoor
open Go.ChangeShapes Go.WideShapes Go.ChangeAt Go.RowKit Go.Joins
set_option linter.unusedVariables false

/-- A link: a switch, its port, another switch, its port. -/
structure K4 where
  p : Int
  s : Int
  o : Int
  t : Int

def zK : K4 := ⟨0, 0, 0, 0⟩
instance : Inhabited K4 := ⟨zK⟩
def K4.v (r : K4) : Value := .agg #[.int .i64 r.p, .int .i64 r.s, .int .i64 r.o, .int .i64 r.t]
def K4.cs (r : K4) : List Value := [.int .i64 r.p, .int .i64 r.s, .int .i64 r.o, .int .i64 r.t]
/-- The link at a place of a list. -/
def lkAt (l : List K4) (j : Nat) : K4 := l.getD j zK
theorem lkAt_lt {l : List K4} {j : Nat} (h : j < l.length) : lkAt l j = l[j] := by
  rw [lkAt, List.getD_eq_getElem?_getD, List.getElem?_eq_getElem h]
  rfl

/-- The four cells of a link. -/
def FourK (w : World) (b k : Nat) (r : K4) : Prop :=
  w.cell? ⟨b, k, none⟩ = some (.int .i64 r.p) ∧ w.cell? ⟨b, k + 1, none⟩ = some (.int .i64 r.s) ∧ w.cell? ⟨b, k + 2, none⟩ = some (.int .i64 r.o) ∧ w.cell? ⟨b, k + 3, none⟩ = some (.int .i64 r.t)
theorem FourK.below {w w' : World} {n b k : Nat} {r : K4} (h : FourK w b k r) (hb : Below n w w') (hn : b < n) : FourK w' b k r :=
  ⟨(hb.cell (p := ⟨b, k, none⟩) hn).trans h.1, (hb.cell (p := ⟨b, k + 1, none⟩) hn).trans h.2.1, (hb.cell (p := ⟨b, k + 2, none⟩) hn).trans h.2.2.1, (hb.cell (p := ⟨b, k + 3, none⟩) hn).trans h.2.2.2⟩

/-- A value is a slice with these links, in a block below g (or it has none). -/
def Lks (w : World) (g : Nat) (v : Value) (l : List K4) : Prop :=
  ∃ (a : Option Addr) (cap : Nat), v = .slice a l.length cap ∧ l.length ≤ cap ∧ cap ≤ maxLen ∧
    (l = [] ∨ ∃ b off, a = some ⟨b, off, none⟩ ∧ b < g ∧ ∀ i, i < l.length → FourK w b (off + i * 4) (lkAt l i))
theorem Lks.below {w w' : World} {g n : Nat} {v : Value} {l : List K4} (h : Lks w g v l) (hb : Below n w w') (hg : g ≤ n) : Lks w' g v l := by
  obtain ⟨a, cap, hv, hc, hm, h | ⟨b, off, ha, hbg, hcell⟩⟩ := h
  · exact ⟨a, cap, hv, hc, hm, .inl h⟩
  · exact ⟨a, cap, hv, hc, hm, .inr ⟨b, off, ha, hbg, fun i hi => (hcell i hi).below hb (Nat.lt_of_lt_of_le hbg hg)⟩⟩
theorem Lks.mono {w : World} {g g' : Nat} {v : Value} {l : List K4} (h : Lks w g v l) (hg : g ≤ g') : Lks w g' v l := by
  obtain ⟨a, cap, hv, hc, hm, h | ⟨b, off, ha, hbg, hcell⟩⟩ := h
  · exact ⟨a, cap, hv, hc, hm, .inl h⟩
  · exact ⟨a, cap, hv, hc, hm, .inr ⟨b, off, ha, Nat.lt_of_lt_of_le hbg hg, hcell⟩⟩
theorem Lks.nil (w : World) (g : Nat) : Lks w g (.slice none 0 0) [] := ⟨none, 0, rfl, Nat.le_refl _, by unfold maxLen; omega, .inl rfl⟩

/-! ### Rules of a call's own -/

theorem fk_len (l : List K4) : (l.flatMap K4.cs).length = l.length * 4 := by
  induction l with
  | nil => rfl
  | cons r l ih => simp [List.flatMap_cons, K4.cs, ih]; omega
theorem fk_at : ∀ (l : List K4) (i j : Nat), i < l.length → j < 4 → (l.flatMap K4.cs)[i * 4 + j]? = (K4.cs (lkAt l i))[j]?
  | [], i, j, h, _ => absurd h (Nat.not_lt_zero _)
  | r :: l, 0, j, _, hj => by
    rw [List.flatMap_cons, Nat.zero_mul, Nat.zero_add, List.getElem?_append_left (by simp [K4.cs]; omega)]
    rfl
  | r :: l, i + 1, j, h, hj => by
    rw [List.flatMap_cons, List.getElem?_append_right (by simp [K4.cs]; omega), show (i + 1) * 4 + j - (K4.cs r).length = i * 4 + j from by simp [K4.cs]; omega, fk_at l i j (by simpa using h) hj]
    rfl
theorem fk_set : ∀ (l : List K4) (i : Nat) (r : K4), i < l.length →
    (l.set i r).flatMap K4.cs = ((((l.flatMap K4.cs).set (i * 4) (.int .i64 r.p)).set (i * 4 + 1) (.int .i64 r.s)).set (i * 4 + 2) (.int .i64 r.o)).set (i * 4 + 3) (.int .i64 r.t)
  | [], i, r, h => absurd h (Nat.not_lt_zero _)
  | x :: l, 0, r, _ => by simp [List.flatMap_cons, K4.cs]
  | x :: l, i + 1, r, h => by
    have e : (i + 1) * 4 = i * 4 + 4 := by omega
    rw [List.set_cons_succ, List.flatMap_cons, List.flatMap_cons, fk_set l i r (by simpa using h), e]
    simp [K4.cs]

/-- A value is a slice of its own with these links; its block is numbered from base on. -/
def LkRow (w : World) (base : Nat) (v : Value) (l : List K4) : Prop := w.ownsRow base 58 4 v l.length (l.flatMap K4.cs)
theorem LkRow.below {w w' : World} {base : Nat} {v : Value} {l : List K4} (h : LkRow w base v l) (hb : Below w.heap.size w w') : LkRow w' base v l :=
  World.ownsRow.kept h (row := none) ⟨hb.os, hb.tape, hb.output, hb.size, fun k hk _ => hb.block k hk⟩ (by cases v.ownBlock <;> simp)
theorem LkRow.mono {w : World} {base base' : Nat} {v : Value} {l : List K4} (h : LkRow w base v l) (hb : base' ≤ base) : LkRow w base' v l := World.ownsRow.mono h hb
theorem LkRow.cells {w : World} {base g cap n : Nat} {l : List K4} (h : LkRow w base (.slice (some ⟨g, 0, none⟩) n cap) l) (hn : l.length = n) : (∀ i, i < n → FourK w g (i * 4) (lkAt l i)) ∧ (∀ j, w.frozen? ⟨g, j, none⟩ = false) ∧ g < w.heap.size := by
  subst hn
  refine ⟨fun i hi => ?_, fun j => World.ownsRow.frozenAt h j, (World.ownsRow.lt h g rfl).2⟩
  have h0 := fk_at l i 0 hi (by decide)
  have h1 := fk_at l i 1 hi (by decide)
  have h2 := fk_at l i 2 hi (by decide)
  have h3 := fk_at l i 3 hi (by decide)
  exact ⟨(World.ownsRow.cellAt h (i * 4) (by omega)).trans h0, (World.ownsRow.cellAt h (i * 4 + 1) (by omega)).trans h1, (World.ownsRow.cellAt h (i * 4 + 2) (by omega)).trans h2, (World.ownsRow.cellAt h (i * 4 + 3) (by omega)).trans h3⟩
theorem LkRow.form {w : World} {base : Nat} {v : Value} {l : List K4} (h : LkRow w base v l) :
    (v = .slice none 0 0 ∧ l = []) ∨ ∃ g cap, v = .slice (some ⟨g, 0, none⟩) l.length cap ∧ base ≤ g ∧ g < w.heap.size ∧ l.length ≤ cap ∧ cap ≤ maxLen := by
  have h0 := h
  obtain ⟨hl, h1 | ⟨g, cap, cur, rfl, hb, hg, hc, hm, hs, ht⟩⟩ := h
  · exact .inl ⟨h1.1, List.eq_nil_of_length_eq_zero h1.2⟩
  · exact .inr ⟨g, cap, rfl, hb, (World.ownsRow.lt h0 g rfl).2, hc, hm⟩
theorem LkRow.lks {w : World} {base : Nat} {v : Value} {l : List K4} (h : LkRow w base v l) : Lks w w.heap.size v l := by
  rcases h.form with ⟨rfl, rfl⟩ | ⟨g, cap, rfl, hb, hg, hc, hm⟩
  · exact Lks.nil _ _
  · exact ⟨_, cap, rfl, hc, hm, .inr ⟨g, 0, rfl, hg, fun i hi => by rw [Nat.zero_add]; exact (h.cells rfl).1 i hi⟩⟩
/-- One link is exchanged. -/
theorem LkRow.put {w : World} {base g cap i n : Nat} {r : K4} {l m : List K4} (h : LkRow w base (.slice (some ⟨g, 0, none⟩) n cap) l) (hn : l.length = n) (hi : i < n) (hm : m = l.set i r) :
    LkRow ((((w.setCell ⟨g, i * 4, none⟩ (.int .i64 r.p)).setCell ⟨g, i * 4 + 1, none⟩ (.int .i64 r.s)).setCell ⟨g, i * 4 + 2, none⟩ (.int .i64 r.o)).setCell ⟨g, i * 4 + 3, none⟩ (.int .i64 r.t)) base (.slice (some ⟨g, 0, none⟩) n cap) m := by
  subst hm hn
  have h1 := (World.ownsRow.stored h (i * 4) (.int .i64 r.p)).1
  have h2 := (World.ownsRow.stored h1 (i * 4 + 1) (.int .i64 r.s)).1
  have h3 := (World.ownsRow.stored h2 (i * 4 + 2) (.int .i64 r.o)).1
  have h4 := (World.ownsRow.stored h3 (i * 4 + 3) (.int .i64 r.t)).1
  unfold LkRow
  rw [fk_set l i r hi, List.length_set]
  exact h4

theorem fourK_of {H : Type} {enc : TypeId × Value → H} {P : Program} {w : World} {base : Nat} {spare : Nat → Bool} {held : Bool} {fuel : Nat} {e : TypeId} {f0 f1 f2 f3 : Field} {cs : List Value} {x : DataW H × List MemPlace}
    (hs : P.underlying e = some (.struct #[f0, f1, f2, f3])) (hone : Go.Deep.oneCellFields P #[f0, f1, f2, f3] = true) (hc : cs.length = 4) (h : DataW.trod enc P w base spare held fuel e cs = some x) :
    ∃ (c0 c1 c2 c3 : Value) (y0 y1 y2 y3 : DataW H × List MemPlace) (n : Nat), cs = [c0, c1, c2, c3] ∧ DataW.trod enc P w base spare held n f0.type [c0] = some y0 ∧ DataW.trod enc P w base spare held n f1.type [c1] = some y1 ∧ DataW.trod enc P w base spare held n f2.type [c2] = some y2 ∧ DataW.trod enc P w base spare held n f3.type [c3] = some y3 := by
  obtain ⟨xs, n, -, -, -, hxl, hf⟩ := DataW.trod_struct hs h
  obtain ⟨o0, k0⟩ := Go.Deep.hone_of hone 0 f0 rfl
  obtain ⟨o1, k1⟩ := Go.Deep.hone_of hone 1 f1 rfl
  obtain ⟨o2, k2⟩ := Go.Deep.hone_of hone 2 f2 rfl
  obtain ⟨o3, k3⟩ := Go.Deep.hone_of hone 3 f3 rfl
  match cs, hc, xs, hxl with
  | [c0, c1, c2, c3], _, [y0, y1, y2, y3], _ =>
    have g0 := hf 0 f0 rfl
    have g1 := hf 1 f1 rfl
    have g2 := hf 2 f2 rfl
    have g3 := hf 3 f3 rfl
    rw [o0, k0] at g0
    rw [o1, k1] at g1
    rw [o2, k2] at g2
    rw [o3, k3] at g3
    exact ⟨c0, c1, c2, c3, y0, y1, y2, y3, n, rfl, g0, g1, g2, g3⟩

theorem addK_none (b off i : Nat) : (Addr.add ⟨b, off, none⟩ i) = ⟨b, off + i, none⟩ := by
  unfold Addr.add
  split
  · rename_i hh; subst hh; rfl
  · rfl

theorem links_of {H : Type} {enc : TypeId × Value → H} {w : World} {v : Value} {d : DataW H} {ps : List MemPlace}
    (h : DataW.Trod enc Tryz.prog w 0 (fun _ => true) true 22 v d ps) (hv : ∃ a len cap, v = .slice a len cap) : ∃ l, Lks w w.heap.size v l := by
  obtain ⟨a, len, cap, rfl⟩ := hv
  obtain ⟨fuel, hf⟩ := h
  have hC : Tryz.prog.cellsOf 60 = 4 := by kernel_rfl
  rcases Go.Deep.open_slice Tryz.underlying22 hf with ⟨hcs, _⟩ | ⟨x, l, c, m, n, D, Pl, hcs, _, hl, hm, hmm, _, hel⟩
  · simp [Value.cells] at hcs
    obtain ⟨rfl, rfl, rfl⟩ := hcs
    exact ⟨[], Lks.nil _ _⟩
  · simp [Value.cells] at hcs
    obtain ⟨rfl, rfl, rfl⟩ := hcs
    rw [hC] at hel
    have hml : len ≤ m := by rw [hmm]; simpa using hl
    have key : ∀ i, i < len → ∃ z : K4, w.cell? (x.add (i * 4)) = some (.int .i64 z.p) ∧ w.cell? ((x.add (i * 4)).add 1) = some (.int .i64 z.s) ∧ w.cell? ((x.add (i * 4)).add 2) = some (.int .i64 z.o) ∧ w.cell? ((x.add (i * 4)).add 3) = some (.int .i64 z.t) := by
      intro i hi
      obtain ⟨cs', hc, ht⟩ := hel i (by omega)
      obtain ⟨_, hcl, hat⟩ := World.cells?_some hc
      obtain ⟨c0, c1, c2, c3, y0, y1, y2, y3, q, rfl, t0, t1, t2, t3⟩ := fourK_of Tryz.underlying60 (by kernel_rfl) hcl ht
      obtain ⟨a0, e0, -, -⟩ := DataW.trod_int Tryz.underlying3 t0
      obtain ⟨a1, e1, -, -⟩ := DataW.trod_int Tryz.underlying3 t1
      obtain ⟨a2, e2, -, -⟩ := DataW.trod_int Tryz.underlying3 t2
      obtain ⟨a3, e3, -, -⟩ := DataW.trod_int Tryz.underlying3 t3
      simp at e0 e1 e2 e3
      subst e0 e1 e2 e3
      have h0 := hat 0 (by decide)
      rw [show (x.add (i * 4)).add 0 = x.add (i * 4) from by simp [Addr.add]] at h0
      exact ⟨⟨a0, a1, a2, a3⟩, h0, hat 1 (by decide), hat 2 (by decide), hat 3 (by decide)⟩
    obtain ⟨f, hfx⟩ := Go.Deep.choose_lt key
    have hlen : ((List.range len).map f).length = len := by simp
    refine ⟨(List.range len).map f, some x, cap, by rw [hlen], by rw [hlen]; exact hl, hm, ?_⟩
    by_cases h0 : len = 0
    · exact .inl (by simp [h0])
    right
    obtain ⟨b, off, spot⟩ := x
    have h1 := (hfx 0 (by omega)).1
    have hsp : spot = none := by
      cases spot with
      | none => rfl
      | some s =>
        simp [Addr.add, World.cell?] at h1
        split at h1 <;> simp at h1
    subst hsp
    refine ⟨b, off, rfl, ?_, fun i hi => ?_⟩
    · simp [Addr.add, World.cell?] at h1
      cases hb : w.heap[b]? with
      | none => rw [hb] at h1; simp at h1
      | some o => exact (Array.getElem?_eq_some_iff.1 hb).1
    · have hi' : i < len := by rw [hlen] at hi; exact hi
      have := hfx i hi'
      simp only [addK_none] at this
      have e : lkAt ((List.range len).map f) i = f i := by rw [lkAt_lt hi]; simp
      rw [e]
      exact this

set_option maxHeartbeats 1000000 in
theorem toLink_any (p s o t : Int) (w : World) :
    Calls Tryz.prog 30 #[.agg #[.int .i64 p, .int .i64 s, .int .i64 o, .int .i64 t]] w fun e w' => e = .returned (.agg #[.int .i64 p, .int .i64 s, .int .i64 o, .int .i64 t]) ∧ Below w.heap.size w w' := by
  go_enter Tryz.func30, Tryz.ntmps30
  go_wp2
  exact bodyPost_ret (v := .agg #[.int .i64 p, .int .i64 s, .int .i64 o, .int .i64 t]) (by simp [results, Tryz.results30, go_sem]) rfl
    ⟨rfl, by repeat (first | exact below_alloc3 _ _ _ _ | refine Below.setCell ?_ (by simp) _)⟩

set_option maxHeartbeats 1000000 in
theorem eqLink_same (p s o t : Int) (w : World) :
    Calls Tryz.prog 37 #[.agg #[.int .i64 p, .int .i64 s, .int .i64 o, .int .i64 t], .agg #[.int .i64 p, .int .i64 s, .int .i64 o, .int .i64 t]] w fun e w' => e = .returned (.bool true) ∧ Below w.heap.size w w' := by
  go_enter Tryz.func37, Tryz.ntmps37
  go_wp2
  go_ret
  exact ⟨rfl, below_alloc2 _ _ _⟩

set_option maxHeartbeats 2000000 in
theorem szLinkS_any (w : World) (v : Value) (l : List K4) (n : Nat) (h : Lks w w.heap.size v l) (hn : n ≤ 1048576) :
    Calls Tryz.prog 6 #[v, .int .i64 n] w fun e w' => (e = .returned (.int .i64 (-1)) ∨ ∃ r : Nat, e = .returned (.int .i64 r) ∧ l.length ≤ n) ∧ w = w' := by
  obtain ⟨a, cap, rfl, hc, hm, hh⟩ := h
  clear hh
  unfold maxLen at hm
  generalize l.length = m at *
  by_cases h0 : n < m
  · have hz : (n : Int) - (m : Int) < 0 := by omega
    go_enter Tryz.func6, Tryz.ntmps6
    go_wp2
    go_ret
    exact ⟨.inl rfl, rfl⟩
  · have hz : ¬ (n : Int) - (m : Int) < 0 := by omega
    have e : (n : Int) - (m : Int) = ((n - m : Nat) : Int) := by omega
    go_enter Tryz.func6, Tryz.ntmps6
    go_wp2
    go_ret
    exact ⟨.inr ⟨⟨n - m, rfl⟩, by omega⟩, rfl⟩

/-- The first k of a list, and nothing behind them. -/
def fillK (l : List K4) (k : Nat) : List K4 := l.take k ++ List.replicate (l.length - k) zK
theorem fillK_len (l : List K4) {k : Nat} (hk : k ≤ l.length) : (fillK l k).length = l.length := by simp [fillK]; omega
theorem fillK_zero (l : List K4) : fillK l 0 = List.replicate l.length zK := by simp [fillK]
theorem fillK_all (l : List K4) : fillK l l.length = l := by simp [fillK]
theorem fillK_step (l : List K4) {k : Nat} (hk : k < l.length) : fillK l (k + 1) = (fillK l k).set k (lkAt l k) := by
  have ht : (l.take k).length = k := by simp; omega
  have e : l.take (k + 1) = l.take k ++ [lkAt l k] := by
    rw [List.take_add_one, List.getElem?_eq_getElem hk, lkAt_lt hk]
    rfl
  unfold fillK
  rw [List.set_append_right _ _ (by omega), ht, Nat.sub_self]
  obtain ⟨n, hn⟩ : ∃ n, l.length - k = n + 1 := ⟨l.length - k - 1, by omega⟩
  rw [hn, List.replicate_succ, List.set_cons_zero, e, show l.length - (k + 1) = n from by omega, List.append_assoc]
  rfl
theorem fk_zero (n : Nat) : (List.replicate n zK).flatMap K4.cs = (madeCells (Value.agg #[.int .i64 0, .int .i64 0, .int .i64 0, .int .i64 0]).cells (n * 4)).toList := by
  apply List.ext_getElem?
  intro j
  by_cases hj : j < n * 4
  · have e : j = (j / 4) * 4 + j % 4 := by omega
    have hq : j / 4 < n := by omega
    have h1 : (madeCells (Value.agg #[.int .i64 0, .int .i64 0, .int .i64 0, .int .i64 0]).cells (n * 4)).toList[j]? = (K4.cs zK)[j % 4]? := by
      simp only [madeCells, Array.toList_map, Array.toList_range, List.getElem?_map, List.getElem?_range hj, Option.map_some]
      have hm : j % 4 < 4 := Nat.mod_lt _ (by decide)
      have : j % 4 = 0 ∨ j % 4 = 1 ∨ j % 4 = 2 ∨ j % 4 = 3 := by omega
      rcases this with h | h | h | h <;> (simp [Value.cells, h]; rfl)
    rw [h1]
    conv => lhs; rw [e]
    rw [fk_at _ _ _ (by simpa using hq) (Nat.mod_lt _ (by decide))]
    rw [show lkAt (List.replicate n zK) (j / 4) = zK from by rw [lkAt_lt (by simpa using hq)]; simp]
  · rw [List.getElem?_eq_none (by rw [fk_len]; simp; omega), List.getElem?_eq_none (by rw [Array.length_toList, size_madeCells]; omega)]
theorem infoK : (Tryz.prog.info? 58).map (fun i => (i.zero, i.size, i.bytes)) = some (some (.agg #[.int .i64 0, .int .i64 0, .int .i64 0, .int .i64 0]), 4, 32) := by kernel_rfl

set_option maxRecDepth 100000 in
set_option maxHeartbeats 2000000 in
theorem toLinkS_any (w : World) (v : Value) (l : List K4) (h : Lks w w.heap.size v l) (hn : l.length ≤ 1048576) :
    Calls Tryz.prog 9 #[v] w fun e w' => ∃ u, e = .returned u ∧ LkRow w' w.heap.size u l ∧ Below w.heap.size w w' := by
  obtain ⟨a, cap, rfl, hc, hm, hh⟩ := h
  obtain ⟨i0, hi, hz0, hz1, hz2⟩ := info_parts infoK
  have HI := Lib.hid hi
  have HZ0 := Lib.hid hz0
  have HZ1 := Lib.hid hz1
  have HZ2 := Lib.hid hz2
  clear hi hz0 hz1 hz2
  have HZ : Hid (fillK l 0 = List.replicate l.length zK) := fillK_zero l
  have HA : Hid (fillK l l.length = l) := fillK_all l
  have HL : Hid (∀ k, k ≤ l.length → (fillK l k).length = l.length) := fun k hk => fillK_len l hk
  have HST : Hid (∀ k, k < l.length → fillK l (k + 1) = (fillK l k).set k (lkAt l k)) := fun k hk => fillK_step l hk
  have hnz : l.length = 0 ∨ ∃ b off, a = some ⟨b, off, none⟩ ∧ b < w.heap.size ∧ Hid (∀ i, i < l.length → FourK w b (off + i * 4) (lkAt l i)) := by
    rcases hh with h | ⟨b, off, h1, h2, h3⟩
    · exact .inl (by rw [h]; rfl)
    · exact .inr ⟨b, off, h1, h2, h3⟩
  clear hh
  unfold maxLen at hm
  have HFZ := Lib.hid (fk_zero l.length)
  generalize hN : l.length = n at *
  go_enter Tryz.func9, Tryz.ntmps9
  go_wp2_with (at_make; refine wpList_make_full _ rfl _ _ 35 rfl w.heap.size 58 i0 (.agg #[.int .i64 0, .int .i64 0, .int .i64 0, .int .i64 0]) 4 Tryz.underlying35 HI.out HZ0.out HZ1.out .i64 .i64 _ _ n rfl rfl rfl rfl ?b2 ?b3 (Nat.le_refl _) ?_)
  case b2 => rw [HZ2.out]; omega
  case b3 => unfold maxLen; omega
  intro w1 hown hg1
  have HB1 : Hid (Below w.heap.size w w1) := ⟨hg1.os, hg1.tape, hg1.output, hg1.size, fun k hk => hg1.block k hk (by simp)⟩
  have HR1 : Hid (LkRow w1 w.heap.size (.slice (some ⟨w.heap.size, 0, none⟩) n n) (fillK l 0)) := by
    show w1.ownsRow _ _ _ _ _ _
    rw [HZ.out, List.length_replicate, HFZ.out]
    exact hown
  clear hown hg1 HFZ
  go_wp2
  go_loopw [4] (fun i wr => ∃ k : Nat, k ≤ n ∧ i = .int .i64 k ∧ LkRow wr w.heap.size (.slice (some ⟨w.heap.size, 0, none⟩) n n) (fillK l k) ∧ Below w.heap.size w wr) (fun i _ => n - (intOf i).toNat)
  case atStart => exact ⟨0, Nat.zero_le _, rfl, HR1.out, HB1.out⟩
  case round =>
    obtain ⟨k, hk, rfl, hrow, hbel⟩ := hrel
    have HR := Lib.hid hrow
    by_cases hlt : k < n
    · have hkz : (k : Int) < (n : Int) := by omega
      rcases hnz with h0 | ⟨b, off, rfl, hb, HC⟩
      · omega
      obtain ⟨c0, c1, c2, c3⟩ := (HC.out k hlt).below hbel hb
      have HBL := Lib.hid hbel
      have hsb := hbel.size
      clear hrow hbel
      have HS := Lib.hid (HST.out k hlt)
      generalize lkAt l k = x at *
      go_wp2_with fail
      refine (toLink_any _ _ _ _ _).mono ?_
      rintro e w2 ⟨rfl, b2⟩
      have HR2 := Lib.hid (HR.out.below b2)
      have B2 := Lib.hid (belStep HBL.out b2)
      obtain ⟨hc1, hf1, hgl⟩ := HR2.out.cells (HL.out k hk)
      obtain ⟨d0, d1, d2, d3⟩ := hc1 k hlt
      clear hc1 b2 c0 c1 c2 c3 HR HBL
      generalize lkAt (fillK l k) k = y at *
      go_wp2
      go_roundw
      case rel => exact ⟨k + 1, by omega, by go_num, HR2.out.put (HL.out k hk) hlt HS.out, (((B2.out.setCell (by exact Nat.le_refl _) _).setCell (by exact Nat.le_refl _) _).setCell (by exact Nat.le_refl _) _).setCell (by exact Nat.le_refl _) _⟩
      case measure => simp [intOf]; omega
    · obtain rfl : k = n := by omega
      go_wp2
      go_ret
      exact ⟨_, rfl, by have := HR.out; rw [HA.out] at this; exact this, hbel⟩

set_option maxRecDepth 100000 in
set_option maxHeartbeats 2000000 in
theorem eqLinkS_same (w : World) (v v' : Value) (l : List K4) (h : Lks w w.heap.size v l) (h' : Lks w w.heap.size v' l) (hn : l.length ≤ 1048576) :
    Calls Tryz.prog 14 #[v, v'] w fun e w' => e = .returned (.bool true) ∧ Below w.heap.size w w' := by
  obtain ⟨a, cap, rfl, hc, hm, hh⟩ := h
  obtain ⟨a', cap', rfl, hc', hm', hh'⟩ := h'
  have HH := Lib.hid hh
  have HH' := Lib.hid hh'
  clear hh hh'
  unfold maxLen at hm hm'
  generalize hN : l.length = n at *
  go_enter Tryz.func14, Tryz.ntmps14
  go_wp2
  go_loopw [5] (fun i wr => ∃ k : Nat, k ≤ n ∧ i = .int .i64 k ∧ Below w.heap.size w wr) (fun i _ => n - (intOf i).toNat)
  case atStart => exact ⟨0, Nat.zero_le _, rfl, Below.refl _ _⟩
  case round =>
    obtain ⟨k, hk, rfl, hbel⟩ := hrel
    by_cases hlt : k < n
    · have hz : (k : Int) < (n : Int) := by omega
      rcases HH.out with h1 | ⟨b, off, rfl, hb, hcell⟩
      · rw [h1] at hN; simp at hN; omega
      rcases HH'.out with h1 | ⟨b', off', rfl, hb', hcell'⟩
      · rw [h1] at hN; simp at hN; omega
      obtain ⟨c0, c1, c2, c3⟩ := (hcell k hlt).below hbel hb
      obtain ⟨d0, d1, d2, d3⟩ := (hcell' k hlt).below hbel hb'
      clear hcell hcell'
      have HBL := Lib.hid hbel
      clear hbel
      generalize lkAt l k = x at *
      have hbr : b < wr.heap.size := Nat.lt_of_lt_of_le hb HBL.out.size
      have hbr' : b' < wr.heap.size := Nat.lt_of_lt_of_le hb' HBL.out.size
      have q0 := fun m : Ext wr => m.cell hbr c0
      have q1 := fun m : Ext wr => m.cell hbr c1
      have q2 := fun m : Ext wr => m.cell hbr c2
      have q3 := fun m : Ext wr => m.cell hbr c3
      have q4 := fun m : Ext wr => m.cell hbr' d0
      have q5 := fun m : Ext wr => m.cell hbr' d1
      have q6 := fun m : Ext wr => m.cell hbr' d2
      have q7 := fun m : Ext wr => m.cell hbr' d3
      clear c0 c1 c2 c3 d0 d1 d2 d3
      go_wp2
      refine wp_region_ext (w0 := wr) (by kernel_rfl) (by kernel_rfl) (Below.refl _ _) ?_
      repeat (go_big_quiet_step (first | (go_at_call 37; exact ext_of (eqLink_same _ _ _ _ _))))
      refine wpQuiet_nil ?_
      rintro _ ⟨⟨w1, b1⟩, rfl⟩
      go_wp2
      go_roundw
      case rel => exact ⟨k + 1, by omega, by go_num, belStep HBL.out b1⟩
      case measure => simp [intOf]; omega
    · obtain rfl : k = n := by omega
      go_wp2
      go_ret
      exact ⟨rfl, hbel⟩

end Go.Proofs.YtjjhahhchimmlaaGreatDoor
