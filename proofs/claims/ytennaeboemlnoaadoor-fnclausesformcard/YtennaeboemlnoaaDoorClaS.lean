/-
  Slices of clauses: where they lie; those that a call is handed, and those that it makes; what the statements' own helpers do with them.
-/
import Derived.Test.YtennaeboemlnoaaDoorRuleImpl
import Derived.Test.YtennaeboemlnoaaDoorStrB
import Derived.Test.YtennaeboemlnoaaDoorExtReg
import Derived.Deep.Slices
import Derived.Deep.Fields
namespace Go.Proofs.YtennaeboemlnoaaDoor
open Go.ChangeShapes Go.WideShapes Go.ChangeAt Go.RowKit Go.Joins
set_option linter.unusedVariables false

/-- A clause; its condition has no more than 1048576 bytes. -/
structure C3 where
  s : ByteArray
  o : Int
  t : Int
  hs : s.size ≤ 1048576

def zC : C3 := ⟨⟨#[]⟩, 0, 0, Nat.zero_le _⟩
instance : Inhabited C3 := ⟨zC⟩
def C3.v (r : C3) : Value := .agg #[.string r.s, .int .i64 r.o, .int .i64 r.t]
def C3.cs (r : C3) : List Value := [.string r.s, .int .i64 r.o, .int .i64 r.t]
/-- The clause at a place of a list. -/
def clAt (l : List C3) (j : Nat) : C3 := l.getD j zC
theorem clAt_lt {l : List C3} {j : Nat} (h : j < l.length) : clAt l j = l[j] := by
  rw [clAt, List.getD_eq_getElem?_getD, List.getElem?_eq_getElem h]
  rfl

/-- The three cells of a clause. -/
def Thr (w : World) (b k : Nat) (r : C3) : Prop :=
  w.cell? ⟨b, k, none⟩ = some (.string r.s) ∧ w.cell? ⟨b, k + 1, none⟩ = some (.int .i64 r.o) ∧ w.cell? ⟨b, k + 2, none⟩ = some (.int .i64 r.t)
theorem Thr.below {w w' : World} {n b k : Nat} {r : C3} (h : Thr w b k r) (hb : Below n w w') (hn : b < n) : Thr w' b k r :=
  ⟨(hb.cell (p := ⟨b, k, none⟩) hn).trans h.1, (hb.cell (p := ⟨b, k + 1, none⟩) hn).trans h.2.1, (hb.cell (p := ⟨b, k + 2, none⟩) hn).trans h.2.2⟩

/-- A value is a slice with these clauses, in a block below g (or it has none). -/
def Cls (w : World) (g : Nat) (v : Value) (l : List C3) : Prop :=
  ∃ (a : Option Addr) (cap : Nat), v = .slice a l.length cap ∧ l.length ≤ cap ∧ cap ≤ maxLen ∧
    (l = [] ∨ ∃ b off, a = some ⟨b, off, none⟩ ∧ b < g ∧ ∀ i, i < l.length → Thr w b (off + i * 3) (clAt l i))
theorem Cls.below {w w' : World} {g n : Nat} {v : Value} {l : List C3} (h : Cls w g v l) (hb : Below n w w') (hg : g ≤ n) : Cls w' g v l := by
  obtain ⟨a, cap, hv, hc, hm, h | ⟨b, off, ha, hbg, hcell⟩⟩ := h
  · exact ⟨a, cap, hv, hc, hm, .inl h⟩
  · exact ⟨a, cap, hv, hc, hm, .inr ⟨b, off, ha, hbg, fun i hi => (hcell i hi).below hb (Nat.lt_of_lt_of_le hbg hg)⟩⟩
theorem Cls.mono {w : World} {g g' : Nat} {v : Value} {l : List C3} (h : Cls w g v l) (hg : g ≤ g') : Cls w g' v l := by
  obtain ⟨a, cap, hv, hc, hm, h | ⟨b, off, ha, hbg, hcell⟩⟩ := h
  · exact ⟨a, cap, hv, hc, hm, .inl h⟩
  · exact ⟨a, cap, hv, hc, hm, .inr ⟨b, off, ha, Nat.lt_of_lt_of_le hbg hg, hcell⟩⟩
theorem Cls.nil (w : World) (g : Nat) : Cls w g (.slice none 0 0) [] := ⟨none, 0, rfl, Nat.le_refl _, by unfold maxLen; omega, .inl rfl⟩

/-! ### Clauses of a call's own -/

theorem cl_len (l : List C3) : (l.flatMap C3.cs).length = l.length * 3 := by
  induction l with
  | nil => rfl
  | cons r l ih => simp [List.flatMap_cons, C3.cs, ih]; omega
theorem cl_at : ∀ (l : List C3) (i j : Nat), i < l.length → j < 3 → (l.flatMap C3.cs)[i * 3 + j]? = (C3.cs (clAt l i))[j]?
  | [], i, j, h, _ => absurd h (Nat.not_lt_zero _)
  | r :: l, 0, j, _, hj => by
    rw [List.flatMap_cons, Nat.zero_mul, Nat.zero_add, List.getElem?_append_left (by simp [C3.cs]; omega)]
    rfl
  | r :: l, i + 1, j, h, hj => by
    rw [List.flatMap_cons, List.getElem?_append_right (by simp [C3.cs]; omega), show (i + 1) * 3 + j - (C3.cs r).length = i * 3 + j from by simp [C3.cs]; omega, cl_at l i j (by simpa using h) hj]
    rfl
theorem cl_set : ∀ (l : List C3) (i : Nat) (r : C3), i < l.length →
    (l.set i r).flatMap C3.cs = (((l.flatMap C3.cs).set (i * 3) (.string r.s)).set (i * 3 + 1) (.int .i64 r.o)).set (i * 3 + 2) (.int .i64 r.t)
  | [], i, r, h => absurd h (Nat.not_lt_zero _)
  | x :: l, 0, r, _ => by simp [List.flatMap_cons, C3.cs]
  | x :: l, i + 1, r, h => by
    have e : (i + 1) * 3 = i * 3 + 3 := by omega
    rw [List.set_cons_succ, List.flatMap_cons, List.flatMap_cons, cl_set l i r (by simpa using h), e]
    simp [C3.cs]

/-- A value is a slice of its own with these clauses; its block is numbered from base on. -/
def ClaRow (w : World) (base : Nat) (v : Value) (l : List C3) : Prop := w.ownsRow base 49 3 v l.length (l.flatMap C3.cs)
theorem ClaRow.below {w w' : World} {base : Nat} {v : Value} {l : List C3} (h : ClaRow w base v l) (hb : Below w.heap.size w w') : ClaRow w' base v l :=
  World.ownsRow.kept h (row := none) ⟨hb.os, hb.tape, hb.output, hb.size, fun k hk _ => hb.block k hk⟩ (by cases v.ownBlock <;> simp)
theorem ClaRow.mono {w : World} {base base' : Nat} {v : Value} {l : List C3} (h : ClaRow w base v l) (hb : base' ≤ base) : ClaRow w base' v l := World.ownsRow.mono h hb
theorem ClaRow.cells {w : World} {base g cap n : Nat} {l : List C3} (h : ClaRow w base (.slice (some ⟨g, 0, none⟩) n cap) l) (hn : l.length = n) : (∀ i, i < n → Thr w g (i * 3) (clAt l i)) ∧ (∀ j, w.frozen? ⟨g, j, none⟩ = false) ∧ g < w.heap.size := by
  subst hn
  refine ⟨fun i hi => ?_, fun j => World.ownsRow.frozenAt h j, (World.ownsRow.lt h g rfl).2⟩
  have h0 := cl_at l i 0 hi (by decide)
  have h1 := cl_at l i 1 hi (by decide)
  have h2 := cl_at l i 2 hi (by decide)
  exact ⟨(World.ownsRow.cellAt h (i * 3) (by omega)).trans h0, (World.ownsRow.cellAt h (i * 3 + 1) (by omega)).trans h1, (World.ownsRow.cellAt h (i * 3 + 2) (by omega)).trans h2⟩
theorem ClaRow.form {w : World} {base : Nat} {v : Value} {l : List C3} (h : ClaRow w base v l) :
    (v = .slice none 0 0 ∧ l = []) ∨ ∃ g cap, v = .slice (some ⟨g, 0, none⟩) l.length cap ∧ base ≤ g ∧ g < w.heap.size ∧ l.length ≤ cap ∧ cap ≤ maxLen := by
  have h0 := h
  obtain ⟨hl, h1 | ⟨g, cap, cur, rfl, hb, hg, hc, hm, hs, ht⟩⟩ := h
  · exact .inl ⟨h1.1, List.eq_nil_of_length_eq_zero h1.2⟩
  · exact .inr ⟨g, cap, rfl, hb, (World.ownsRow.lt h0 g rfl).2, hc, hm⟩
theorem ClaRow.cls {w : World} {base : Nat} {v : Value} {l : List C3} (h : ClaRow w base v l) : Cls w w.heap.size v l := by
  rcases h.form with ⟨rfl, rfl⟩ | ⟨g, cap, rfl, hb, hg, hc, hm⟩
  · exact Cls.nil _ _
  · exact ⟨_, cap, rfl, hc, hm, .inr ⟨g, 0, rfl, hg, fun i hi => by rw [Nat.zero_add]; exact (h.cells rfl).1 i hi⟩⟩
/-- One clause is exchanged. -/
theorem ClaRow.put {w : World} {base g cap i n : Nat} {r : C3} {l m : List C3} (h : ClaRow w base (.slice (some ⟨g, 0, none⟩) n cap) l) (hn : l.length = n) (hi : i < n) (hm : m = l.set i r) :
    ClaRow (((w.setCell ⟨g, i * 3, none⟩ (.string r.s)).setCell ⟨g, i * 3 + 1, none⟩ (.int .i64 r.o)).setCell ⟨g, i * 3 + 2, none⟩ (.int .i64 r.t)) base (.slice (some ⟨g, 0, none⟩) n cap) m := by
  subst hm hn
  have h2 := (World.ownsRow.stored h (i * 3) (.string r.s)).1
  have h3 := (World.ownsRow.stored h2 (i * 3 + 1) (.int .i64 r.o)).1
  have h4 := (World.ownsRow.stored h3 (i * 3 + 2) (.int .i64 r.t)).1
  unfold ClaRow
  rw [cl_set l i r hi, List.length_set]
  exact h4

/-! ### Clauses that came in -/

/-- The same of clauses whose conditions may be of any length. -/
def RawC (w : World) (g : Nat) (v : Value) (n : Nat) (f : Nat → ByteArray × Int × Int) : Prop :=
  ∃ (a : Option Addr) (cap : Nat), v = .slice a n cap ∧ n ≤ cap ∧ cap ≤ maxLen ∧
    (n = 0 ∨ ∃ b off, a = some ⟨b, off, none⟩ ∧ b < g ∧ ∀ i, i < n → w.cell? ⟨b, off + i * 3, none⟩ = some (.string (f i).1) ∧ w.cell? ⟨b, off + i * 3 + 1, none⟩ = some (.int .i64 (f i).2.1) ∧ w.cell? ⟨b, off + i * 3 + 2, none⟩ = some (.int .i64 (f i).2.2))
theorem RawC.below {w w' : World} {g k n : Nat} {v : Value} {f : Nat → ByteArray × Int × Int} (h : RawC w g v n f) (hb : Below k w w') (hg : g ≤ k) : RawC w' g v n f := by
  obtain ⟨a, cap, hv, hc, hm, h | ⟨b, off, ha, hbg, hcell⟩⟩ := h
  · exact ⟨a, cap, hv, hc, hm, .inl h⟩
  · have hl := Nat.lt_of_lt_of_le hbg hg
    exact ⟨a, cap, hv, hc, hm, .inr ⟨b, off, ha, hbg, fun i hi => ⟨(hb.cell (p := ⟨b, _, none⟩) hl).trans (hcell i hi).1, (hb.cell (p := ⟨b, _, none⟩) hl).trans (hcell i hi).2.1, (hb.cell (p := ⟨b, _, none⟩) hl).trans (hcell i hi).2.2⟩⟩⟩
theorem RawC.mono {w : World} {g g' n : Nat} {v : Value} {f : Nat → ByteArray × Int × Int} (h : RawC w g v n f) (hg : g ≤ g') : RawC w g' v n f := by
  obtain ⟨a, cap, hv, hc, hm, h | ⟨b, off, ha, hbg, hcell⟩⟩ := h
  · exact ⟨a, cap, hv, hc, hm, .inl h⟩
  · exact ⟨a, cap, hv, hc, hm, .inr ⟨b, off, ha, Nat.lt_of_lt_of_le hbg hg, hcell⟩⟩
/-- Where no condition is long they are clauses. -/
def smallC (f : Nat → ByteArray × Int × Int) (i : Nat) : C3 := if h : (f i).1.size ≤ 1048576 then ⟨(f i).1, (f i).2.1, (f i).2.2, h⟩ else zC
theorem RawC.cls {w : World} {g n : Nat} {v : Value} {f : Nat → ByteArray × Int × Int} (h : RawC w g v n f) (hf : ∀ i, i < n → (f i).1.size ≤ 1048576) : Cls w g v ((List.range n).map (smallC f)) := by
  have hl : ((List.range n).map (smallC f)).length = n := by simp
  obtain ⟨a, cap, hv, hc, hm, h | ⟨b, off, ha, hbg, hcell⟩⟩ := h
  · subst h
    exact ⟨a, cap, by rw [hl]; exact hv, by rw [hl]; exact hc, hm, .inl (by simp)⟩
  · refine ⟨a, cap, by rw [hl]; exact hv, by rw [hl]; exact hc, hm, .inr ⟨b, off, ha, hbg, fun i hi => ?_⟩⟩
    have hi' : i < n := by rw [hl] at hi; exact hi
    have e : clAt ((List.range n).map (smallC f)) i = ⟨(f i).1, (f i).2.1, (f i).2.2, hf i hi'⟩ := by
      rw [clAt_lt hi]
      simp [smallC, hf i hi']
    rw [e]
    exact hcell i hi'

theorem three_of {H : Type} {enc : TypeId × Value → H} {P : Program} {w : World} {base : Nat} {spare : Nat → Bool} {held : Bool} {fuel : Nat} {e : TypeId} {f0 f1 f2 : Field} {cs : List Value} {x : DataW H × List MemPlace}
    (hs : P.underlying e = some (.struct #[f0, f1, f2])) (hone : Go.Deep.oneCellFields P #[f0, f1, f2] = true) (hc : cs.length = 3) (h : DataW.trod enc P w base spare held fuel e cs = some x) :
    ∃ (c0 c1 c2 : Value) (y0 y1 y2 : DataW H × List MemPlace) (n : Nat), cs = [c0, c1, c2] ∧ DataW.trod enc P w base spare held n f0.type [c0] = some y0 ∧ DataW.trod enc P w base spare held n f1.type [c1] = some y1 ∧ DataW.trod enc P w base spare held n f2.type [c2] = some y2 := by
  obtain ⟨xs, n, -, -, -, hxl, hf⟩ := DataW.trod_struct hs h
  obtain ⟨o0, k0⟩ := Go.Deep.hone_of hone 0 f0 rfl
  obtain ⟨o1, k1⟩ := Go.Deep.hone_of hone 1 f1 rfl
  obtain ⟨o2, k2⟩ := Go.Deep.hone_of hone 2 f2 rfl
  match cs, hc, xs, hxl with
  | [c0, c1, c2], _, [y0, y1, y2], _ =>
    have g0 := hf 0 f0 rfl
    have g1 := hf 1 f1 rfl
    have g2 := hf 2 f2 rfl
    rw [o0, k0] at g0
    rw [o1, k1] at g1
    rw [o2, k2] at g2
    exact ⟨c0, c1, c2, y0, y1, y2, n, rfl, g0, g1, g2⟩

theorem addC_none (b off i : Nat) : (Addr.add ⟨b, off, none⟩ i) = ⟨b, off + i, none⟩ := by
  unfold Addr.add
  split
  · rename_i hh; subst hh; rfl
  · rfl

/-- A slice of the statements' own clauses, as the statement's row hands it over. -/
theorem clauses_of {H : Type} {enc : TypeId × Value → H} {w : World} {v : Value} {d : DataW H} {ps : List MemPlace}
    (h : DataW.Trod enc Tryd.prog w 0 (fun _ => true) true 22 v d ps) (hv : ∃ a len cap, v = .slice a len cap) : ∃ n f, RawC w w.heap.size v n f ∧ ∀ i, i < n → (f i).1.size ≤ maxLen := by
  obtain ⟨a, len, cap, rfl⟩ := hv
  obtain ⟨fuel, hf⟩ := h
  have hC : Tryd.prog.cellsOf 62 = 3 := by kernel_rfl
  rcases Go.Deep.open_slice Tryd.underlying22 hf with ⟨hcs, _⟩ | ⟨x, l, c, m, n, D, Pl, hcs, _, hl, hm, hmm, _, hel⟩
  · simp [Value.cells] at hcs
    obtain ⟨rfl, rfl, rfl⟩ := hcs
    exact ⟨0, fun _ => (⟨#[]⟩, 0, 0), ⟨none, 0, rfl, Nat.le_refl _, by unfold maxLen; omega, .inl rfl⟩, fun i hi => absurd hi (Nat.not_lt_zero _)⟩
  · simp [Value.cells] at hcs
    obtain ⟨rfl, rfl, rfl⟩ := hcs
    rw [hC] at hel
    have hml : len ≤ m := by rw [hmm]; simpa using hl
    have key : ∀ i, i < len → ∃ z : ByteArray × Int × Int, (w.cell? (x.add (i * 3)) = some (.string z.1) ∧ w.cell? ((x.add (i * 3)).add 1) = some (.int .i64 z.2.1) ∧ w.cell? ((x.add (i * 3)).add 2) = some (.int .i64 z.2.2)) ∧ z.1.size ≤ maxLen := by
      intro i hi
      obtain ⟨cs', hc, ht⟩ := hel i (by omega)
      obtain ⟨_, hcl, hat⟩ := World.cells?_some hc
      obtain ⟨c0, c1, c2, y0, y1, y2, q, rfl, t0, t1, t2⟩ := three_of Tryd.underlying62 (by kernel_rfl) hcl ht
      obtain ⟨a0, e0, -, z0⟩ := DataW.trod_string Tryd.underlying9 t0
      obtain ⟨a1, e1, -, -⟩ := DataW.trod_int Tryd.underlying3 t1
      obtain ⟨a2, e2, -, -⟩ := DataW.trod_int Tryd.underlying3 t2
      simp at e0 e1 e2
      subst e0 e1 e2
      have h0 := hat 0 (by decide)
      rw [show (x.add (i * 3)).add 0 = x.add (i * 3) from by simp [Addr.add]] at h0
      exact ⟨(a0, a1, a2), ⟨h0, hat 1 (by decide), hat 2 (by decide)⟩, z0⟩
    haveI : Inhabited (ByteArray × Int × Int) := ⟨(⟨#[]⟩, 0, 0)⟩
    obtain ⟨f, hfx⟩ := Go.Deep.choose_lt key
    refine ⟨len, f, ⟨some x, cap, rfl, hl, hm, ?_⟩, fun i hi => (hfx i hi).2⟩
    by_cases h0 : len = 0
    · exact .inl h0
    right
    obtain ⟨b, off, spot⟩ := x
    have h1 := (hfx 0 (by omega)).1.1
    have hsp : spot = none := by
      cases spot with
      | none => rfl
      | some s =>
        simp [Addr.add, World.cell?] at h1
        split at h1 <;> simp at h1
    subst hsp
    refine ⟨b, off, rfl, ?_, fun i hi => ?_⟩
    · simp [Addr.add, World.cell?] at h1
      cases hb : w.heap[b]? with
      | none => rw [hb] at h1; simp at h1
      | some o => exact (Array.getElem?_eq_some_iff.1 hb).1
    · have := (hfx i hi).1
      simp only [addC_none] at this
      exact this

/-! ### The statements' own helpers -/

set_option maxHeartbeats 1000000 in
theorem szClause_any (s : ByteArray) (hs : s.size ≤ maxLen) (o t left : Int) (h0 : 0 ≤ left) (h1 : left ≤ 1048576) (w : World) :
    Calls Tryd.prog 39 #[.agg #[.string s, .int .i64 o, .int .i64 t], .int .i64 left] w fun e w' => e = .returned (.int .i64 (if left < s.size then -1 else left - s.size)) ∧ Below w.heap.size w w' := by
  unfold maxLen at hs
  by_cases h : left < s.size
  · have hn : left - (s.size : Int) < 0 := by omega
    rw [if_pos h]
    go_enter Tryd.func39, Tryd.ntmps39
    go_wp2
    go_ret
    exact ⟨rfl, below_alloc1 _ _⟩
  · have hn : ¬ left - (s.size : Int) < 0 := by omega
    rw [if_neg h]
    go_enter Tryd.func39, Tryd.ntmps39
    go_wp2
    go_ret
    exact ⟨rfl, below_alloc1 _ _⟩

set_option maxHeartbeats 1000000 in
theorem toClause_any (s : ByteArray) (o t : Int) (w : World) :
    Calls Tryd.prog 42 #[.agg #[.string s, .int .i64 o, .int .i64 t]] w fun e w' => e = .returned (.agg #[.string s, .int .i64 o, .int .i64 t]) ∧ Below w.heap.size w w' := by
  go_enter Tryd.func42, Tryd.ntmps42
  go_wp2
  exact bodyPost_ret (v := .agg #[.string s, .int .i64 o, .int .i64 t]) (by simp [results, Tryd.results42, go_sem]) rfl
    ⟨rfl, by repeat (first | exact below_alloc3 _ _ _ _ | refine Below.setCell ?_ (by simp) _)⟩

set_option maxHeartbeats 1000000 in
theorem eqClause_same (s : ByteArray) (o t : Int) (w : World) :
    Calls Tryd.prog 44 #[.agg #[.string s, .int .i64 o, .int .i64 t], .agg #[.string s, .int .i64 o, .int .i64 t]] w fun e w' => e = .returned (.bool true) ∧ Below w.heap.size w w' := by
  go_enter Tryd.func44, Tryd.ntmps44
  go_wp2
  go_ret
  exact ⟨rfl, below_alloc2 _ _ _⟩

set_option maxHeartbeats 2000000 in
theorem szClauseS_any (w : World) (v : Value) (m n : Nat) (f : Nat → ByteArray × Int × Int) (h : RawC w w.heap.size v m f) (hs : ∀ i, i < m → (f i).1.size ≤ maxLen) (hn : n ≤ 1048576) :
    Calls Tryd.prog 12 #[v, .int .i64 n] w fun e w' => (e = .returned (.int .i64 (-1)) ∨ ∃ r : Nat, e = .returned (.int .i64 r) ∧ r ≤ n ∧ m ≤ n ∧ ∀ i, i < m → (f i).1.size ≤ n) ∧ Below w.heap.size w w' := by
  obtain ⟨a, cap, rfl, hc, hm, hh⟩ := h
  have HS := Lib.hid hs
  have HH := Lib.hid hh
  clear hs hh
  unfold maxLen at hm
  by_cases h0 : n < m
  · have hz : (n : Int) - (m : Int) < 0 := by omega
    go_enter Tryd.func12, Tryd.ntmps12
    go_wp2
    go_ret
    exact ⟨.inl rfl, Below.refl _ _⟩
  · have hz : ¬ (n : Int) - (m : Int) < 0 := by omega
    go_enter Tryd.func12, Tryd.ntmps12
    go_wp2
    go_loopw [1, 5] (fun x i wr => ∃ k q : Nat, k ≤ m ∧ q ≤ n ∧ i = .int .i64 k ∧ x = .int .i64 q ∧ (∀ j, j < k → (f j).1.size ≤ n) ∧ Below w.heap.size w wr) (fun _ i _ => m - (intOf i).toNat)
    case atStart => exact ⟨0, n - m, Nat.zero_le _, by omega, rfl, by simp only [Value.int.injEq, true_and]; omega, fun j hj => absurd hj (Nat.not_lt_zero _), Below.refl _ _⟩
    case round =>
      obtain ⟨k, q, hk, hq, rfl, rfl, hsm, hbel⟩ := hrel
      have HSM := Lib.hid hsm
      clear hsm
      by_cases hlt : k < m
      · have hkz : (k : Int) < (m : Int) := by omega
        rcases HH.out with h1 | ⟨b, off, rfl, hb, hcell⟩
        · omega
        obtain ⟨c0, c1, c2⟩ := hcell k hlt
        have d0 := (belCell hbel _ _ hb).trans c0
        have d1 := (belCell hbel _ _ hb).trans c1
        have d2 := (belCell hbel _ _ hb).trans c2
        clear c0 c1 c2
        have hsz := HS.out k hlt
        clear hcell
        have HX : Hid (∀ j, j < k + 1 → (f k).1.size ≤ q → (f j).1.size ≤ n) := fun j hj hle => by
          by_cases e : j = k
          · subst e; omega
          · exact HSM.out j (by omega)
        have HZ := Lib.hid (szClause_any (f k).1 hsz (f k).2.1 (f k).2.2 q (by omega) (by omega))
        have HBL := Lib.hid hbel
        clear hbel hsz
        obtain ⟨⟨s, x2, x3⟩, hfk⟩ : ∃ z, f k = z := ⟨_, rfl⟩
        rw [hfk] at d0 d1 d2 HX HZ
        clear hfk
        dsimp only at d0 d1 d2 HX HZ
        go_wp2_with fail
        refine (HZ.out _).mono ?_
        rintro e w1 ⟨rfl, b1⟩
        have B1 := Lib.hid (belStep HBL.out b1)
        clear b1 HBL
        by_cases hle : (q : Int) < s.size
        · rw [if_pos hle]
          go_wp2
          go_ret
          exact ⟨.inl rfl, B1.out⟩
        · rw [if_neg hle]
          have h3 : ¬ (q : Int) - (s.size : Int) < 0 := by omega
          go_wp2
          go_roundw
          case rel => exact ⟨k + 1, q - s.size, by omega, by omega, by go_num, by simp only [Value.int.injEq, true_and]; omega, fun j hj => HX.out j hj (by omega), B1.out⟩
          case measure => simp [intOf]; omega
      · obtain rfl : k = m := by omega
        go_wp2
        go_ret
        exact ⟨.inr ⟨q, rfl, hq, by omega, HSM.out⟩, hbel⟩

/-- The first k of a list, and nothing behind them. -/
def fillC (l : List C3) (k : Nat) : List C3 := l.take k ++ List.replicate (l.length - k) zC
theorem fillC_len (l : List C3) {k : Nat} (hk : k ≤ l.length) : (fillC l k).length = l.length := by simp [fillC]; omega
theorem fillC_zero (l : List C3) : fillC l 0 = List.replicate l.length zC := by simp [fillC]
theorem fillC_all (l : List C3) : fillC l l.length = l := by simp [fillC]
theorem fillC_step (l : List C3) {k : Nat} (hk : k < l.length) : fillC l (k + 1) = (fillC l k).set k (clAt l k) := by
  have ht : (l.take k).length = k := by simp; omega
  have e : l.take (k + 1) = l.take k ++ [clAt l k] := by
    rw [List.take_add_one, List.getElem?_eq_getElem hk, clAt_lt hk]
    rfl
  unfold fillC
  rw [List.set_append_right _ _ (by omega), ht, Nat.sub_self]
  obtain ⟨n, hn⟩ : ∃ n, l.length - k = n + 1 := ⟨l.length - k - 1, by omega⟩
  rw [hn, List.replicate_succ, List.set_cons_zero, e, show l.length - (k + 1) = n from by omega, List.append_assoc]
  rfl
theorem cl_zero (n : Nat) : (List.replicate n zC).flatMap C3.cs = (madeCells (Value.agg #[.string ⟨#[]⟩, .int .i64 0, .int .i64 0]).cells (n * 3)).toList := by
  apply List.ext_getElem?
  intro j
  by_cases hj : j < n * 3
  · have e : j = (j / 3) * 3 + j % 3 := by omega
    have hq : j / 3 < n := by omega
    have h1 : (madeCells (Value.agg #[.string ⟨#[]⟩, .int .i64 0, .int .i64 0]).cells (n * 3)).toList[j]? = (C3.cs zC)[j % 3]? := by
      simp only [madeCells, Array.toList_map, Array.toList_range, List.getElem?_map, List.getElem?_range hj, Option.map_some]
      have hm : j % 3 < 3 := Nat.mod_lt _ (by decide)
      have : j % 3 = 0 ∨ j % 3 = 1 ∨ j % 3 = 2 := by omega
      rcases this with h | h | h <;> (simp [Value.cells, h]; rfl)
    rw [h1]
    conv => lhs; rw [e]
    rw [cl_at _ _ _ (by simpa using hq) (Nat.mod_lt _ (by decide))]
    rw [show clAt (List.replicate n zC) (j / 3) = zC from by rw [clAt_lt (by simpa using hq)]; simp]
  · rw [List.getElem?_eq_none (by rw [cl_len]; simp; omega), List.getElem?_eq_none (by rw [Array.length_toList, size_madeCells]; omega)]
theorem infoC : (Tryd.prog.info? 49).map (fun i => (i.zero, i.size, i.bytes)) = some (some (.agg #[.string ⟨#[]⟩, .int .i64 0, .int .i64 0]), 3, 32) := by kernel_rfl

set_option maxRecDepth 100000 in
set_option maxHeartbeats 2000000 in
theorem toClauseS_any (w : World) (v : Value) (l : List C3) (h : Cls w w.heap.size v l) (hn : l.length ≤ 1048576) :
    Calls Tryd.prog 14 #[v] w fun e w' => ∃ u, e = .returned u ∧ ClaRow w' w.heap.size u l ∧ Below w.heap.size w w' := by
  obtain ⟨a, cap, rfl, hc, hm, hh⟩ := h
  obtain ⟨i0, hi, hz0, hz1, hz2⟩ := info_parts infoC
  have HI := Lib.hid hi
  have HZ0 := Lib.hid hz0
  have HZ1 := Lib.hid hz1
  have HZ2 := Lib.hid hz2
  clear hi hz0 hz1 hz2
  have HZ : Hid (fillC l 0 = List.replicate l.length zC) := fillC_zero l
  have HA : Hid (fillC l l.length = l) := fillC_all l
  have HL : Hid (∀ k, k ≤ l.length → (fillC l k).length = l.length) := fun k hk => fillC_len l hk
  have HST : Hid (∀ k, k < l.length → fillC l (k + 1) = (fillC l k).set k (clAt l k)) := fun k hk => fillC_step l hk
  have hnz : l.length = 0 ∨ ∃ b off, a = some ⟨b, off, none⟩ ∧ b < w.heap.size ∧ Hid (∀ i, i < l.length → Thr w b (off + i * 3) (clAt l i)) := by
    rcases hh with h | ⟨b, off, h1, h2, h3⟩
    · exact .inl (by rw [h]; rfl)
    · exact .inr ⟨b, off, h1, h2, h3⟩
  clear hh
  unfold maxLen at hm
  have HFZ := Lib.hid (cl_zero l.length)
  generalize hN : l.length = n at *
  go_enter Tryd.func14, Tryd.ntmps14
  go_wp2_with (at_make; refine wpList_make_full _ rfl _ _ 25 rfl w.heap.size 49 i0 (.agg #[.string ⟨#[]⟩, .int .i64 0, .int .i64 0]) 3 Tryd.underlying25 HI.out HZ0.out HZ1.out .i64 .i64 _ _ n rfl rfl rfl rfl ?b2 ?b3 (Nat.le_refl _) ?_)
  case b2 => rw [HZ2.out]; omega
  case b3 => unfold maxLen; omega
  intro w1 hown hg1
  have HB1 : Hid (Below w.heap.size w w1) := ⟨hg1.os, hg1.tape, hg1.output, hg1.size, fun k hk => hg1.block k hk (by simp)⟩
  have HR1 : Hid (ClaRow w1 w.heap.size (.slice (some ⟨w.heap.size, 0, none⟩) n n) (fillC l 0)) := by
    show w1.ownsRow _ _ _ _ _ _
    rw [HZ.out, List.length_replicate, HFZ.out]
    exact hown
  clear hown hg1 HFZ
  go_wp2
  go_loopw [4] (fun i wr => ∃ k : Nat, k ≤ n ∧ i = .int .i64 k ∧ ClaRow wr w.heap.size (.slice (some ⟨w.heap.size, 0, none⟩) n n) (fillC l k) ∧ Below w.heap.size w wr) (fun i _ => n - (intOf i).toNat)
  case atStart => exact ⟨0, Nat.zero_le _, rfl, HR1.out, HB1.out⟩
  case round =>
    obtain ⟨k, hk, rfl, hrow, hbel⟩ := hrel
    have HR := Lib.hid hrow
    by_cases hlt : k < n
    · have hkz : (k : Int) < (n : Int) := by omega
      rcases hnz with h0 | ⟨b, off, rfl, hb, HC⟩
      · omega
      obtain ⟨c0, c1, c2⟩ := (HC.out k hlt).below hbel hb
      have HBL := Lib.hid hbel
      have hsb := hbel.size
      clear hrow hbel
      have HS := Lib.hid (HST.out k hlt)
      generalize clAt l k = x at *
      go_wp2_with fail
      refine (toClause_any _ _ _ _).mono ?_
      rintro e w2 ⟨rfl, b2⟩
      have HR2 := Lib.hid (HR.out.below b2)
      have B2 := Lib.hid (belStep HBL.out b2)
      obtain ⟨hc1, hf1, hgl⟩ := HR2.out.cells (HL.out k hk)
      obtain ⟨d0, d1, d2⟩ := hc1 k hlt
      clear hc1 b2 c0 c1 c2 HR HBL
      generalize clAt (fillC l k) k = y at *
      go_wp2
      go_roundw
      case rel => exact ⟨k + 1, by omega, by go_num, HR2.out.put (HL.out k hk) hlt HS.out, ((B2.out.setCell (by exact Nat.le_refl _) _).setCell (by exact Nat.le_refl _) _).setCell (by exact Nat.le_refl _) _⟩
      case measure => simp [intOf]; omega
    · obtain rfl : k = n := by omega
      go_wp2
      go_ret
      exact ⟨_, rfl, by have := HR.out; rw [HA.out] at this; exact this, hbel⟩

set_option maxRecDepth 100000 in
set_option maxHeartbeats 2000000 in
theorem eqClauseS_same (w : World) (v v' : Value) (l : List C3) (h : Cls w w.heap.size v l) (h' : Cls w w.heap.size v' l) (hn : l.length ≤ 1048576) :
    Calls Tryd.prog 16 #[v, v'] w fun e w' => e = .returned (.bool true) ∧ Below w.heap.size w w' := by
  obtain ⟨a, cap, rfl, hc, hm, hh⟩ := h
  obtain ⟨a', cap', rfl, hc', hm', hh'⟩ := h'
  have HH := Lib.hid hh
  have HH' := Lib.hid hh'
  clear hh hh'
  unfold maxLen at hm hm'
  generalize hN : l.length = n at *
  go_enter Tryd.func16, Tryd.ntmps16
  go_wp2
  go_loopw [5] (fun i wr => ∃ k : Nat, k ≤ n ∧ i = .int .i64 k ∧ Below w.heap.size w wr) (fun i _ => n - (intOf i).toNat)
  case atStart => exact ⟨0, Nat.zero_le _, rfl, Below.refl _ _⟩
  case round =>
    obtain ⟨k, hk, rfl, hbel⟩ := hrel
    by_cases hlt : k < n
    · have hz : (k : Int) < (n : Int) := by omega
      rcases HH.out with h1 | ⟨b, off, rfl, hb, hcell⟩
      · rw [h1] at hN; simp at hN; omega
      rcases HH'.out with h1 | ⟨b', off', rfl, hb', hcell'⟩
      · rw [h1] at hN; simp at hN; omega
      obtain ⟨c0, c1, c2⟩ := (hcell k hlt).below hbel hb
      obtain ⟨d0, d1, d2⟩ := (hcell' k hlt).below hbel hb'
      clear hcell hcell'
      have HBL := Lib.hid hbel
      clear hbel
      generalize clAt l k = x at *
      have hbr : b < wr.heap.size := Nat.lt_of_lt_of_le hb HBL.out.size
      have hbr' : b' < wr.heap.size := Nat.lt_of_lt_of_le hb' HBL.out.size
      have q0 := fun m : Ext wr => m.cell hbr c0
      have q1 := fun m : Ext wr => m.cell hbr c1
      have q2 := fun m : Ext wr => m.cell hbr c2
      have q4 := fun m : Ext wr => m.cell hbr' d0
      have q5 := fun m : Ext wr => m.cell hbr' d1
      have q6 := fun m : Ext wr => m.cell hbr' d2
      clear c0 c1 c2 d0 d1 d2
      go_wp2
      refine wp_region_ext (w0 := wr) (by kernel_rfl) (by kernel_rfl) (Below.refl _ _) ?_
      repeat (go_big_quiet_step (first | (go_at_call 44; exact ext_of (eqClause_same _ _ _ _))))
      refine wpQuiet_nil ?_
      rintro _ ⟨⟨w1, b1⟩, rfl⟩
      go_wp2
      go_roundw
      case rel => exact ⟨k + 1, by omega, by go_num, belStep HBL.out b1⟩
      case measure => simp [intOf]; omega
    · obtain rfl : k = n := by omega
      go_wp2
      go_ret
      exact ⟨rfl, hbel⟩

end Go.Proofs.YtennaeboemlnoaaDoor
