/-
  Slices of clauses: where they lie; those that a call is handed, and those that it makes; what the statements' own helpers do with them.
-/
import Derived.Test.YtcipidcnkllanaaDoorRuleImpl
import Derived.Test.YtcipidcnkllanaaDoorStrB
import Derived.Test.YtcipidcnkllanaaDoorExtReg
import Derived.Deep.Slices
import Derived.Deep.Fields
namespace Go.Proofs.YtcipidcnkllanaaDoor
open Go.ChangeShapes Go.WideShapes Go.ChangeAt Go.RowKit Go.Joins
set_option linter.unusedVariables false

/-- A clause; its condition has no more than 1048576 bytes. -/
structure C3 where
  s : ByteArray
  o : Int
  t : Int
  hs : s.size ≤ 1048576

def zC : C3 := ⟨⟨#[]⟩, 0, 0, Nat.zero_le _⟩
instance : Inhabited C3 := ⟨zC⟩
def C3.v (r : C3) : Value := .agg #[.string r.s, .int .i64 r.o, .int .i64 r.t]
def C3.cs (r : C3) : List Value := [.string r.s, .int .i64 r.o, .int .i64 r.t]
/-- The clause at a place of a list. -/
def clAt (l : List C3) (j : Nat) : C3 := l.getD j zC
theorem clAt_lt {l : List C3} {j : Nat} (h : j < l.length) : clAt l j = l[j] := by
  rw [clAt, List.getD_eq_getElem?_getD, List.getElem?_eq_getElem h]
  rfl

/-- The three cells of a clause. -/
def Thr (w : World) (b k : Nat) (r : C3) : Prop :=
  w.cell? ⟨b, k, none⟩ = some (.string r.s) ∧ w.cell? ⟨b, k + 1, none⟩ = some (.int .i64 r.o) ∧ w.cell? ⟨b, k + 2, none⟩ = some (.int .i64 r.t)
theorem Thr.below {w w' : World} {n b k : Nat} {r : C3} (h : Thr w b k r) (hb : Below n w w') (hn : b < n) : Thr w' b k r :=
  ⟨(hb.cell (p := ⟨b, k, none⟩) hn).trans h.1, (hb.cell (p := ⟨b, k + 1, none⟩) hn).trans h.2.1, (hb.cell (p := ⟨b, k + 2, none⟩) hn).trans h.2.2⟩

/-- A value is a slice with these clauses, in a block below g (or it has none). -/
def Cls (w : World) (g : Nat) (v : Value) (l : List C3) : Prop :=
  ∃ (a : Option Addr) (cap : Nat), v = .slice a l.length cap ∧ l.length ≤ cap ∧ cap ≤ maxLen ∧
    (l = [] ∨ ∃ b off, a = some ⟨b, off, none⟩ ∧ b < g ∧ ∀ i, i < l.length → Thr w b (off + i * 3) (clAt l i))
theorem Cls.below {w w' : World} {g n : Nat} {v : Value} {l : List C3} (h : Cls w g v l) (hb : Below n w w') (hg : g ≤ n) : Cls w' g v l := by
  obtain ⟨a, cap, hv, hc, hm, h | ⟨b, off, ha, hbg, hcell⟩⟩ := h
  · exact ⟨a, cap, hv, hc, hm, .inl h⟩
  · exact ⟨a, cap, hv, hc, hm, .inr ⟨b, off, ha, hbg, fun i hi => (hcell i hi).below hb (Nat.lt_of_lt_of_le hbg hg)⟩⟩
theorem Cls.mono {w : World} {g g' : Nat} {v : Value} {l : List C3} (h : Cls w g v l) (hg : g ≤ g') : Cls w g' v l := by
  obtain ⟨a, cap, hv, hc, hm, h | ⟨b, off, ha, hbg, hcell⟩⟩ := h
  · exact ⟨a, cap, hv, hc, hm, .inl h⟩
  · exact ⟨a, cap, hv, hc, hm, .inr ⟨b, off, ha, Nat.lt_of_lt_of_le hbg hg, hcell⟩⟩
theorem Cls.nil (w : World) (g : Nat) : Cls w g (.slice none 0 0) [] := ⟨none, 0, rfl, Nat.le_refl _, by unfold maxLen; omega, .inl rfl⟩

/-! ### Clauses of a call's own -/

theorem cl_len (l : List C3) : (l.flatMap C3.cs).length = l.length * 3 := by
  induction l with
  | nil => rfl
  | cons r l ih => simp [List.flatMap_cons, C3.cs, ih]; omega
theorem cl_at : ∀ (l : List C3) (i j : Nat), i < l.length → j < 3 → (l.flatMap C3.cs)[i * 3 + j]? = (C3.cs (clAt l i))[j]?
  | [], i, j, h, _ => absurd h (Nat.not_lt_zero _)
  | r :: l, 0, j, _, hj => by
    rw [List.flatMap_cons, Nat.zero_mul, Nat.zero_add, List.getElem?_append_left (by simp [C3.cs]; omega)]
    rfl
  | r :: l, i + 1, j, h, hj => by
    rw [List.flatMap_cons, List.getElem?_append_right (by simp [C3.cs]; omega), show (i + 1) * 3 + j - (C3.cs r).length = i * 3 + j from by simp [C3.cs]; omega, cl_at l i j (by simpa using h) hj]
    rfl
theorem cl_set : ∀ (l : List C3) (i : Nat) (r : C3), i < l.length →
    (l.set i r).flatMap C3.cs = (((l.flatMap C3.cs).set (i * 3) (.string r.s)).set (i * 3 + 1) (.int .i64 r.o)).set (i * 3 + 2) (.int .i64 r.t)
  | [], i, r, h => absurd h (Nat.not_lt_zero _)
  | x :: l, 0, r, _ => by simp [List.flatMap_cons, C3.cs]
  | x :: l, i + 1, r, h => by
    have e : (i + 1) * 3 = i * 3 + 3 := by omega
    rw [List.set_cons_succ, List.flatMap_cons, List.flatMap_cons, cl_set l i r (by simpa using h), e]
    simp [C3.cs]

/-- A value is a slice of its own with these clauses; its block is numbered from base on. -/
def ClaRow (w : World) (base : Nat) (v : Value) (l : List C3) : Prop := w.ownsRow base 34 3 v l.length (l.flatMap C3.cs)
theorem ClaRow.below {w w' : World} {base : Nat} {v : Value} {l : List C3} (h : ClaRow w base v l) (hb : Below w.heap.size w w') : ClaRow w' base v l :=
  World.ownsRow.kept h (row := none) ⟨hb.os, hb.tape, hb.output, hb.size, fun k hk _ => hb.block k hk⟩ (by cases v.ownBlock <;> simp)
theorem ClaRow.mono {w : World} {base base' : Nat} {v : Value} {l : List C3} (h : ClaRow w base v l) (hb : base' ≤ base) : ClaRow w base' v l := World.ownsRow.mono h hb
theorem ClaRow.cells {w : World} {base g cap n : Nat} {l : List C3} (h : ClaRow w base (.slice (some ⟨g, 0, none⟩) n cap) l) (hn : l.length = n) : (∀ i, i < n → Thr w g (i * 3) (clAt l i)) ∧ (∀ j, w.frozen? ⟨g, j, none⟩ = false) ∧ g < w.heap.size := by
  subst hn
  refine ⟨fun i hi => ?_, fun j => World.ownsRow.frozenAt h j, (World.ownsRow.lt h g rfl).2⟩
  have h0 := cl_at l i 0 hi (by decide)
  have h1 := cl_at l i 1 hi (by decide)
  have h2 := cl_at l i 2 hi (by decide)
  exact ⟨(World.ownsRow.cellAt h (i * 3) (by omega)).trans h0, (World.ownsRow.cellAt h (i * 3 + 1) (by omega)).trans h1, (World.ownsRow.cellAt h (i * 3 + 2) (by omega)).trans h2⟩
theorem ClaRow.form {w : World} {base : Nat} {v : Value} {l : List C3} (h : ClaRow w base v l) :
    (v = .slice none 0 0 ∧ l = []) ∨ ∃ g cap, v = .slice (some ⟨g, 0, none⟩) l.length cap ∧ base ≤ g ∧ g < w.heap.size ∧ l.length ≤ cap ∧ cap ≤ maxLen := by
  have h0 := h
  obtain ⟨hl, h1 | ⟨g, cap, cur, rfl, hb, hg, hc, hm, hs, ht⟩⟩ := h
  · exact .inl ⟨h1.1, List.eq_nil_of_length_eq_zero h1.2⟩
  · exact .inr ⟨g, cap, rfl, hb, (World.ownsRow.lt h0 g rfl).2, hc, hm⟩
theorem ClaRow.cls {w : World} {base : Nat} {v : Value} {l : List C3} (h : ClaRow w base v l) : Cls w w.heap.size v l := by
  rcases h.form with ⟨rfl, rfl⟩ | ⟨g, cap, rfl, hb, hg, hc, hm⟩
  · exact Cls.nil _ _
  · exact ⟨_, cap, rfl, hc, hm, .inr ⟨g, 0, rfl, hg, fun i hi => by rw [Nat.zero_add]; exact (h.cells rfl).1 i hi⟩⟩
/-- One clause is exchanged. -/
theorem ClaRow.put {w : World} {base g cap i n : Nat} {r : C3} {l m : List C3} (h : ClaRow w base (.slice (some ⟨g, 0, none⟩) n cap) l) (hn : l.length = n) (hi : i < n) (hm : m = l.set i r) :
    ClaRow (((w.setCell ⟨g, i * 3, none⟩ (.string r.s)).setCell ⟨g, i * 3 + 1, none⟩ (.int .i64 r.o)).setCell ⟨g, i * 3 + 2, none⟩ (.int .i64 r.t)) base (.slice (some ⟨g, 0, none⟩) n cap) m := by
  subst hm hn
  have h2 := (World.ownsRow.stored h (i * 3) (.string r.s)).1
  have h3 := (World.ownsRow.stored h2 (i * 3 + 1) (.int .i64 r.o)).1
  have h4 := (World.ownsRow.stored h3 (i * 3 + 2) (.int .i64 r.t)).1
  unfold ClaRow
  rw [cl_set l i r hi, List.length_set]
  exact h4

/-! ### Clauses that came in -/

/-- The same of clauses whose conditions may be of any length. -/
def RawC (w : World) (g : Nat) (v : Value) (n : Nat) (f : Nat → ByteArray × Int × Int) : Prop :=
  ∃ (a : Option Addr) (cap : Nat), v = .slice a n cap ∧ n ≤ cap ∧ cap ≤ maxLen ∧
    (n = 0 ∨ ∃ b off, a = some ⟨b, off, none⟩ ∧ b < g ∧ ∀ i, i < n → w.cell? ⟨b, off + i * 3, none⟩ = some (.string (f i).1) ∧ w.cell? ⟨b, off + i * 3 + 1, none⟩ = some (.int .i64 (f i).2.1) ∧ w.cell? ⟨b, off + i * 3 + 2, none⟩ = some (.int .i64 (f i).2.2))
theorem RawC.below {w w' : World} {g k n : Nat} {v : Value} {f : Nat → ByteArray × Int × Int} (h : RawC w g v n f) (hb : Below k w w') (hg : g ≤ k) : RawC w' g v n f := by
  obtain ⟨a, cap, hv, hc, hm, h | ⟨b, off, ha, hbg, hcell⟩⟩ := h
  · exact ⟨a, cap, hv, hc, hm, .inl h⟩
  · have hl := Nat.lt_of_lt_of_le hbg hg
    exact ⟨a, cap, hv, hc, hm, .inr ⟨b, off, ha, hbg, fun i hi => ⟨(hb.cell (p := ⟨b, _, none⟩) hl).trans (hcell i hi).1, (hb.cell (p := ⟨b, _, none⟩) hl).trans (hcell i hi).2.1, (hb.cell (p := ⟨b, _, none⟩) hl).trans (hcell i hi).2.2⟩⟩⟩
theorem RawC.mono {w : World} {g g' n : Nat} {v : Value} {f : Nat → ByteArray × Int × Int} (h : RawC w g v n f) (hg : g ≤ g') : RawC w g' v n f := by
  obtain ⟨a, cap, hv, hc, hm, h | ⟨b, off, ha, hbg, hcell⟩⟩ := h
  · exact ⟨a, cap, hv, hc, hm, .inl h⟩
  · exact ⟨a, cap, hv, hc, hm, .inr ⟨b, off, ha, Nat.lt_of_lt_of_le hbg hg, hcell⟩⟩
/-- Where no condition is long they are clauses. -/
def smallC (f : Nat → ByteArray × Int × Int) (i : Nat) : C3 := if h : (f i).1.size ≤ 1048576 then ⟨(f i).1, (f i).2.1, (f i).2.2, h⟩ else zC
theorem RawC.cls {w : World} {g n : Nat} {v : Value} {f : Nat → ByteArray × Int × Int} (h : RawC w g v n f) (hf : ∀ i, i < n → (f i).1.size ≤ 1048576) : Cls w g v ((List.range n).map (smallC f)) := by
  have hl : ((List.range n).map (smallC f)).length = n := by simp
  obtain ⟨a, cap, hv, hc, hm, h | ⟨b, off, ha, hbg, hcell⟩⟩ := h
  · subst h
    exact ⟨a, cap, by rw [hl]; exact hv, by rw [hl]; exact hc, hm, .inl (by simp)⟩
  · refine ⟨a, cap, by rw [hl]; exact hv, by rw [hl]; exact hc, hm, .inr ⟨b, off, ha, hbg, fun i hi => ?_⟩⟩
    have hi' : i < n := by rw [hl] at hi; exact hi
    have e : clAt ((List.range n).map (smallC f)) i = ⟨(f i).1, (f i).2.1, (f i).2.2, hf i hi'⟩ := by
      rw [clAt_lt hi]
      simp [smallC, hf i hi']
    rw [e]
    exact hcell i hi'

theorem three_of {H : Type} {enc : TypeId × Value → H} {P : Program} {w : World} {base : Nat} {spare : Nat → Bool} {held : Bool} {fuel : Nat} {e : TypeId} {f0 f1 f2 : Field} {cs : List Value} {x : DataW H × List MemPlace}
    (hs : P.underlying e = some (.struct #[f0, f1, f2])) (hone : Go.Deep.oneCellFields P #[f0, f1, f2] = true) (hc : cs.length = 3) (h : DataW.trod enc P w base spare held fuel e cs = some x) :
    ∃ (c0 c1 c2 : Value) (y0 y1 y2 : DataW H × List MemPlace) (n : Nat), cs = [c0, c1, c2] ∧ DataW.trod enc P w base spare held n f0.type [c0] = some y0 ∧ DataW.trod enc P w base spare held n f1.type [c1] = some y1 ∧ DataW.trod enc P w base spare held n f2.type [c2] = some y2 := by
  obtain ⟨xs, n, -, -, -, hxl, hf⟩ := DataW.trod_struct hs h
  obtain ⟨o0, k0⟩ := Go.Deep.hone_of hone 0 f0 rfl
  obtain ⟨o1, k1⟩ := Go.Deep.hone_of hone 1 f1 rfl
  obtain ⟨o2, k2⟩ := Go.Deep.hone_of hone 2 f2 rfl
  match cs, hc, xs, hxl with
  | [c0, c1, c2], _, [y0, y1, y2], _ =>
    have g0 := hf 0 f0 rfl
    have g1 := hf 1 f1 rfl
    have g2 := hf 2 f2 rfl
    rw [o0, k0] at g0
    rw [o1, k1] at g1
    rw [o2, k2] at g2
    exact ⟨c0, c1, c2, y0, y1, y2, n, rfl, g0, g1, g2⟩

theorem addC_none (b off i : Nat) : (Addr.add ⟨b, off, none⟩ i) = ⟨b, off + i, none⟩ := by
  unfold Addr.add
  split
  · rename_i hh; subst hh; rfl
  · rfl

/-! ### The statements' own helpers -/

/-- The first k of a list, and nothing behind them. -/
def fillC (l : List C3) (k : Nat) : List C3 := l.take k ++ List.replicate (l.length - k) zC
theorem fillC_len (l : List C3) {k : Nat} (hk : k ≤ l.length) : (fillC l k).length = l.length := by simp [fillC]; omega
theorem fillC_zero (l : List C3) : fillC l 0 = List.replicate l.length zC := by simp [fillC]
theorem fillC_all (l : List C3) : fillC l l.length = l := by simp [fillC]
theorem fillC_step (l : List C3) {k : Nat} (hk : k < l.length) : fillC l (k + 1) = (fillC l k).set k (clAt l k) := by
  have ht : (l.take k).length = k := by simp; omega
  have e : l.take (k + 1) = l.take k ++ [clAt l k] := by
    rw [List.take_add_one, List.getElem?_eq_getElem hk, clAt_lt hk]
    rfl
  unfold fillC
  rw [List.set_append_right _ _ (by omega), ht, Nat.sub_self]
  obtain ⟨n, hn⟩ : ∃ n, l.length - k = n + 1 := ⟨l.length - k - 1, by omega⟩
  rw [hn, List.replicate_succ, List.set_cons_zero, e, show l.length - (k + 1) = n from by omega, List.append_assoc]
  rfl
theorem cl_zero (n : Nat) : (List.replicate n zC).flatMap C3.cs = (madeCells (Value.agg #[.string ⟨#[]⟩, .int .i64 0, .int .i64 0]).cells (n * 3)).toList := by
  apply List.ext_getElem?
  intro j
  by_cases hj : j < n * 3
  · have e : j = (j / 3) * 3 + j % 3 := by omega
    have hq : j / 3 < n := by omega
    have h1 : (madeCells (Value.agg #[.string ⟨#[]⟩, .int .i64 0, .int .i64 0]).cells (n * 3)).toList[j]? = (C3.cs zC)[j % 3]? := by
      simp only [madeCells, Array.toList_map, Array.toList_range, List.getElem?_map, List.getElem?_range hj, Option.map_some]
      have hm : j % 3 < 3 := Nat.mod_lt _ (by decide)
      have : j % 3 = 0 ∨ j % 3 = 1 ∨ j % 3 = 2 := by omega
      rcases this with h | h | h <;> (simp [Value.cells, h]; rfl)
    rw [h1]
    conv => lhs; rw [e]
    rw [cl_at _ _ _ (by simpa using hq) (Nat.mod_lt _ (by decide))]
    rw [show clAt (List.replicate n zC) (j / 3) = zC from by rw [clAt_lt (by simpa using hq)]; simp]
  · rw [List.getElem?_eq_none (by rw [cl_len]; simp; omega), List.getElem?_eq_none (by rw [Array.length_toList, size_madeCells]; omega)]
theorem infoC : (Tryd.prog.info? 34).map (fun i => (i.zero, i.size, i.bytes)) = some (some (.agg #[.string ⟨#[]⟩, .int .i64 0, .int .i64 0]), 3, 32) := by kernel_rfl

end Go.Proofs.YtcipidcnkllanaaDoor
