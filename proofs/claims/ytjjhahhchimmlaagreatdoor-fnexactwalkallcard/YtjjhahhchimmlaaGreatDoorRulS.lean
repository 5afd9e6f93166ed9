/-
  Slices of rules: where they lie; those that a call is handed, and those that it makes.
-/
import Derived.Test.YtjjhahhchimmlaaGreatDoorRuleImpl
import Derived.Test.YtjjhahhchimmlaaGreatDoorStrB
import Derived.Deep.Slices
import Derived.Deep.Fields
namespace Go.Proofs.YtjjhahhchimmlaaGreatDoor
open Go.ChangeShapes Go.WideShapes Go.ChangeAt Go.RowKit Go.Joins
set_option linter.unusedVariables false

/-- A rule; its pattern has no more than 1048576 bytes. -/
structure R4 where
  p : Int
  s : ByteArray
  o : Int
  t : Int
  hs : s.size ≤ 1048576

def zR : R4 := ⟨0, ⟨#[]⟩, 0, 0, Nat.zero_le _⟩
instance : Inhabited R4 := ⟨zR⟩
def R4.v (r : R4) : Value := .agg #[.int .i64 r.p, .string r.s, .int .i64 r.o, .int .i64 r.t]
def R4.cs (r : R4) : List Value := [.int .i64 r.p, .string r.s, .int .i64 r.o, .int .i64 r.t]
def okR (r : R4) : Bool := rOk r.p r.s r.o r.t
def cmR (a b : R4) : Int := rCmp a.p a.s a.o a.t b.p b.s b.o b.t
/-- The rule at a place of a list. -/
def ruAt (l : List R4) (j : Nat) : R4 := l.getD j zR
theorem ruAt_lt {l : List R4} {j : Nat} (h : j < l.length) : ruAt l j = l[j] := by
  rw [ruAt, List.getD_eq_getElem?_getD, List.getElem?_eq_getElem h]
  rfl

/-- The four cells of a rule. -/
def Four (w : World) (b k : Nat) (r : R4) : Prop :=
  w.cell? ⟨b, k, none⟩ = some (.int .i64 r.p) ∧ w.cell? ⟨b, k + 1, none⟩ = some (.string r.s) ∧ w.cell? ⟨b, k + 2, none⟩ = some (.int .i64 r.o) ∧ w.cell? ⟨b, k + 3, none⟩ = some (.int .i64 r.t)
theorem Four.below {w w' : World} {n b k : Nat} {r : R4} (h : Four w b k r) (hb : Below n w w') (hn : b < n) : Four w' b k r :=
  ⟨(hb.cell (p := ⟨b, k, none⟩) hn).trans h.1, (hb.cell (p := ⟨b, k + 1, none⟩) hn).trans h.2.1, (hb.cell (p := ⟨b, k + 2, none⟩) hn).trans h.2.2.1, (hb.cell (p := ⟨b, k + 3, none⟩) hn).trans h.2.2.2⟩

/-- A value is a slice with these rules, in a block below g (or it has none). -/
def Rls (w : World) (g : Nat) (v : Value) (l : List R4) : Prop :=
  ∃ (a : Option Addr) (cap : Nat), v = .slice a l.length cap ∧ l.length ≤ cap ∧ cap ≤ maxLen ∧
    (l = [] ∨ ∃ b off, a = some ⟨b, off, none⟩ ∧ b < g ∧ ∀ i, i < l.length → Four w b (off + i * 4) (ruAt l i))
theorem Rls.below {w w' : World} {g n : Nat} {v : Value} {l : List R4} (h : Rls w g v l) (hb : Below n w w') (hg : g ≤ n) : Rls w' g v l := by
  obtain ⟨a, cap, hv, hc, hm, h | ⟨b, off, ha, hbg, hcell⟩⟩ := h
  · exact ⟨a, cap, hv, hc, hm, .inl h⟩
  · exact ⟨a, cap, hv, hc, hm, .inr ⟨b, off, ha, hbg, fun i hi => (hcell i hi).below hb (Nat.lt_of_lt_of_le hbg hg)⟩⟩
theorem Rls.mono {w : World} {g g' : Nat} {v : Value} {l : List R4} (h : Rls w g v l) (hg : g ≤ g') : Rls w g' v l := by
  obtain ⟨a, cap, hv, hc, hm, h | ⟨b, off, ha, hbg, hcell⟩⟩ := h
  · exact ⟨a, cap, hv, hc, hm, .inl h⟩
  · exact ⟨a, cap, hv, hc, hm, .inr ⟨b, off, ha, Nat.lt_of_lt_of_le hbg hg, hcell⟩⟩
theorem Rls.nil (w : World) (g : Nat) : Rls w g (.slice none 0 0) [] := ⟨none, 0, rfl, Nat.le_refl _, by unfold maxLen; omega, .inl rfl⟩

/-! ### Rules of a call's own -/

theorem fl_len (l : List R4) : (l.flatMap R4.cs).length = l.length * 4 := by
  induction l with
  | nil => rfl
  | cons r l ih => simp [List.flatMap_cons, R4.cs, ih]; omega
theorem fl_at : ∀ (l : List R4) (i j : Nat), i < l.length → j < 4 → (l.flatMap R4.cs)[i * 4 + j]? = (R4.cs (ruAt l i))[j]?
  | [], i, j, h, _ => absurd h (Nat.not_lt_zero _)
  | r :: l, 0, j, _, hj => by
    rw [List.flatMap_cons, Nat.zero_mul, Nat.zero_add, List.getElem?_append_left (by simp [R4.cs]; omega)]
    rfl
  | r :: l, i + 1, j, h, hj => by
    rw [List.flatMap_cons, List.getElem?_append_right (by simp [R4.cs]; omega), show (i + 1) * 4 + j - (R4.cs r).length = i * 4 + j from by simp [R4.cs]; omega, fl_at l i j (by simpa using h) hj]
    rfl
theorem fl_set : ∀ (l : List R4) (i : Nat) (r : R4), i < l.length →
    (l.set i r).flatMap R4.cs = ((((l.flatMap R4.cs).set (i * 4) (.int .i64 r.p)).set (i * 4 + 1) (.string r.s)).set (i * 4 + 2) (.int .i64 r.o)).set (i * 4 + 3) (.int .i64 r.t)
  | [], i, r, h => absurd h (Nat.not_lt_zero _)
  | x :: l, 0, r, _ => by simp [List.flatMap_cons, R4.cs]
  | x :: l, i + 1, r, h => by
    have e : (i + 1) * 4 = i * 4 + 4 := by omega
    rw [List.set_cons_succ, List.flatMap_cons, List.flatMap_cons, fl_set l i r (by simpa using h), e]
    simp [R4.cs]

/-- A value is a slice of its own with these rules; its block is numbered from base on. -/
def RulRow (w : World) (base : Nat) (v : Value) (l : List R4) : Prop := w.ownsRow base 99 4 v l.length (l.flatMap R4.cs)
theorem RulRow.below {w w' : World} {base : Nat} {v : Value} {l : List R4} (h : RulRow w base v l) (hb : Below w.heap.size w w') : RulRow w' base v l :=
  World.ownsRow.kept h (row := none) ⟨hb.os, hb.tape, hb.output, hb.size, fun k hk _ => hb.block k hk⟩ (by cases v.ownBlock <;> simp)
theorem RulRow.mono {w : World} {base base' : Nat} {v : Value} {l : List R4} (h : RulRow w base v l) (hb : base' ≤ base) : RulRow w base' v l := World.ownsRow.mono h hb
theorem RulRow.cells {w : World} {base g cap n : Nat} {l : List R4} (h : RulRow w base (.slice (some ⟨g, 0, none⟩) n cap) l) (hn : l.length = n) : (∀ i, i < n → Four w g (i * 4) (ruAt l i)) ∧ (∀ j, w.frozen? ⟨g, j, none⟩ = false) ∧ g < w.heap.size := by
  subst hn
  refine ⟨fun i hi => ?_, fun j => World.ownsRow.frozenAt h j, (World.ownsRow.lt h g rfl).2⟩
  have h0 := fl_at l i 0 hi (by decide)
  have h1 := fl_at l i 1 hi (by decide)
  have h2 := fl_at l i 2 hi (by decide)
  have h3 := fl_at l i 3 hi (by decide)
  exact ⟨(World.ownsRow.cellAt h (i * 4) (by omega)).trans h0, (World.ownsRow.cellAt h (i * 4 + 1) (by omega)).trans h1, (World.ownsRow.cellAt h (i * 4 + 2) (by omega)).trans h2, (World.ownsRow.cellAt h (i * 4 + 3) (by omega)).trans h3⟩
theorem RulRow.form {w : World} {base : Nat} {v : Value} {l : List R4} (h : RulRow w base v l) :
    (v = .slice none 0 0 ∧ l = []) ∨ ∃ g cap, v = .slice (some ⟨g, 0, none⟩) l.length cap ∧ base ≤ g ∧ g < w.heap.size ∧ l.length ≤ cap ∧ cap ≤ maxLen := by
  have h0 := h
  obtain ⟨hl, h1 | ⟨g, cap, cur, rfl, hb, hg, hc, hm, hs, ht⟩⟩ := h
  · exact .inl ⟨h1.1, List.eq_nil_of_length_eq_zero h1.2⟩
  · exact .inr ⟨g, cap, rfl, hb, (World.ownsRow.lt h0 g rfl).2, hc, hm⟩
theorem RulRow.rls {w : World} {base : Nat} {v : Value} {l : List R4} (h : RulRow w base v l) : Rls w w.heap.size v l := by
  rcases h.form with ⟨rfl, rfl⟩ | ⟨g, cap, rfl, hb, hg, hc, hm⟩
  · exact Rls.nil _ _
  · exact ⟨_, cap, rfl, hc, hm, .inr ⟨g, 0, rfl, hg, fun i hi => by rw [Nat.zero_add]; exact (h.cells rfl).1 i hi⟩⟩
/-- One rule is exchanged. -/
theorem RulRow.put {w : World} {base g cap i n : Nat} {r : R4} {l m : List R4} (h : RulRow w base (.slice (some ⟨g, 0, none⟩) n cap) l) (hn : l.length = n) (hi : i < n) (hm : m = l.set i r) :
    RulRow ((((w.setCell ⟨g, i * 4, none⟩ (.int .i64 r.p)).setCell ⟨g, i * 4 + 1, none⟩ (.string r.s)).setCell ⟨g, i * 4 + 2, none⟩ (.int .i64 r.o)).setCell ⟨g, i * 4 + 3, none⟩ (.int .i64 r.t)) base (.slice (some ⟨g, 0, none⟩) n cap) m := by
  subst hm hn
  have h1 := (World.ownsRow.stored h (i * 4) (.int .i64 r.p)).1
  have h2 := (World.ownsRow.stored h1 (i * 4 + 1) (.string r.s)).1
  have h3 := (World.ownsRow.stored h2 (i * 4 + 2) (.int .i64 r.o)).1
  have h4 := (World.ownsRow.stored h3 (i * 4 + 3) (.int .i64 r.t)).1
  unfold RulRow
  rw [fl_set l i r hi, List.length_set]
  exact h4

/-! ### Rules that came in -/

/-- The same of rules whose patterns may be of any length. -/
def Raws (w : World) (g : Nat) (v : Value) (n : Nat) (f : Nat → Int × ByteArray × Int × Int) : Prop :=
  ∃ (a : Option Addr) (cap : Nat), v = .slice a n cap ∧ n ≤ cap ∧ cap ≤ maxLen ∧
    (n = 0 ∨ ∃ b off, a = some ⟨b, off, none⟩ ∧ b < g ∧ ∀ i, i < n → w.cell? ⟨b, off + i * 4, none⟩ = some (.int .i64 (f i).1) ∧ w.cell? ⟨b, off + i * 4 + 1, none⟩ = some (.string (f i).2.1) ∧ w.cell? ⟨b, off + i * 4 + 2, none⟩ = some (.int .i64 (f i).2.2.1) ∧ w.cell? ⟨b, off + i * 4 + 3, none⟩ = some (.int .i64 (f i).2.2.2))
theorem Raws.below {w w' : World} {g k n : Nat} {v : Value} {f : Nat → Int × ByteArray × Int × Int} (h : Raws w g v n f) (hb : Below k w w') (hg : g ≤ k) : Raws w' g v n f := by
  obtain ⟨a, cap, hv, hc, hm, h | ⟨b, off, ha, hbg, hcell⟩⟩ := h
  · exact ⟨a, cap, hv, hc, hm, .inl h⟩
  · have hl := Nat.lt_of_lt_of_le hbg hg
    exact ⟨a, cap, hv, hc, hm, .inr ⟨b, off, ha, hbg, fun i hi => ⟨(hb.cell (p := ⟨b, _, none⟩) hl).trans (hcell i hi).1, (hb.cell (p := ⟨b, _, none⟩) hl).trans (hcell i hi).2.1, (hb.cell (p := ⟨b, _, none⟩) hl).trans (hcell i hi).2.2.1, (hb.cell (p := ⟨b, _, none⟩) hl).trans (hcell i hi).2.2.2⟩⟩⟩
theorem Raws.mono {w : World} {g g' n : Nat} {v : Value} {f : Nat → Int × ByteArray × Int × Int} (h : Raws w g v n f) (hg : g ≤ g') : Raws w g' v n f := by
  obtain ⟨a, cap, hv, hc, hm, h | ⟨b, off, ha, hbg, hcell⟩⟩ := h
  · exact ⟨a, cap, hv, hc, hm, .inl h⟩
  · exact ⟨a, cap, hv, hc, hm, .inr ⟨b, off, ha, Nat.lt_of_lt_of_le hbg hg, hcell⟩⟩
/-- Where no pattern is long they are rules. -/
def small (f : Nat → Int × ByteArray × Int × Int) (i : Nat) : R4 := if h : (f i).2.1.size ≤ 1048576 then ⟨(f i).1, (f i).2.1, (f i).2.2.1, (f i).2.2.2, h⟩ else zR
theorem Raws.rls {w : World} {g n : Nat} {v : Value} {f : Nat → Int × ByteArray × Int × Int} (h : Raws w g v n f) (hf : ∀ i, i < n → (f i).2.1.size ≤ 1048576) : Rls w g v ((List.range n).map (small f)) := by
  have hl : ((List.range n).map (small f)).length = n := by simp
  obtain ⟨a, cap, hv, hc, hm, h | ⟨b, off, ha, hbg, hcell⟩⟩ := h
  · subst h
    exact ⟨a, cap, by rw [hl]; exact hv, by rw [hl]; exact hc, hm, .inl (by simp)⟩
  · refine ⟨a, cap, by rw [hl]; exact hv, by rw [hl]; exact hc, hm, .inr ⟨b, off, ha, hbg, fun i hi => ?_⟩⟩
    have hi' : i < n := by rw [hl] at hi; exact hi
    have e : ruAt ((List.range n).map (small f)) i = ⟨(f i).1, (f i).2.1, (f i).2.2.1, (f i).2.2.2, hf i hi'⟩ := by
      rw [ruAt_lt hi]
      simp [small, hf i hi']
    rw [e]
    exact hcell i hi'

theorem four_of {H : Type} {enc : TypeId × Value → H} {P : Program} {w : World} {base : Nat} {spare : Nat → Bool} {held : Bool} {fuel : Nat} {e : TypeId} {f0 f1 f2 f3 : Field} {cs : List Value} {x : DataW H × List MemPlace}
    (hs : P.underlying e = some (.struct #[f0, f1, f2, f3])) (hone : Go.Deep.oneCellFields P #[f0, f1, f2, f3] = true) (hc : cs.length = 4) (h : DataW.trod enc P w base spare held fuel e cs = some x) :
    ∃ (c0 c1 c2 c3 : Value) (y0 y1 y2 y3 : DataW H × List MemPlace) (n : Nat), cs = [c0, c1, c2, c3] ∧ DataW.trod enc P w base spare held n f0.type [c0] = some y0 ∧ DataW.trod enc P w base spare held n f1.type [c1] = some y1 ∧ DataW.trod enc P w base spare held n f2.type [c2] = some y2 ∧ DataW.trod enc P w base spare held n f3.type [c3] = some y3 := by
  obtain ⟨xs, n, -, -, -, hxl, hf⟩ := DataW.trod_struct hs h
  obtain ⟨o0, k0⟩ := Go.Deep.hone_of hone 0 f0 rfl
  obtain ⟨o1, k1⟩ := Go.Deep.hone_of hone 1 f1 rfl
  obtain ⟨o2, k2⟩ := Go.Deep.hone_of hone 2 f2 rfl
  obtain ⟨o3, k3⟩ := Go.Deep.hone_of hone 3 f3 rfl
  match cs, hc, xs, hxl with
  | [c0, c1, c2, c3], _, [y0, y1, y2, y3], _ =>
    have g0 := hf 0 f0 rfl
    have g1 := hf 1 f1 rfl
    have g2 := hf 2 f2 rfl
    have g3 := hf 3 f3 rfl
    rw [o0, k0] at g0
    rw [o1, k1] at g1
    rw [o2, k2] at g2
    rw [o3, k3] at g3
    exact ⟨c0, c1, c2, c3, y0, y1, y2, y3, n, rfl, g0, g1, g2, g3⟩

theorem add_none (b off i : Nat) : (Addr.add ⟨b, off, none⟩ i) = ⟨b, off + i, none⟩ := by
  unfold Addr.add
  split
  · rename_i hh; subst hh; rfl
  · rfl

theorem rules_of {H : Type} {enc : TypeId × Value → H} {w : World} {v : Value} {d : DataW H} {ps : List MemPlace}
    (h : DataW.Trod enc Tryz.prog w 0 (fun _ => true) true 53 v d ps) (hv : ∃ a len cap, v = .slice a len cap) : ∃ n f, Raws w w.heap.size v n f ∧ ∀ i, i < n → (f i).2.1.size ≤ maxLen := by
  obtain ⟨a, len, cap, rfl⟩ := hv
  obtain ⟨fuel, hf⟩ := h
  have hC : Tryz.prog.cellsOf 88 = 4 := by kernel_rfl
  rcases Go.Deep.open_slice Tryz.underlying53 hf with ⟨hcs, _⟩ | ⟨x, l, c, m, n, D, Pl, hcs, _, hl, hm, hmm, _, hel⟩
  · simp [Value.cells] at hcs
    obtain ⟨rfl, rfl, rfl⟩ := hcs
    exact ⟨0, fun _ => (0, ⟨#[]⟩, 0, 0), ⟨none, 0, rfl, Nat.le_refl _, by unfold maxLen; omega, .inl rfl⟩, fun i hi => absurd hi (Nat.not_lt_zero _)⟩
  · simp [Value.cells] at hcs
    obtain ⟨rfl, rfl, rfl⟩ := hcs
    rw [hC] at hel
    have hml : len ≤ m := by rw [hmm]; simpa using hl
    have key : ∀ i, i < len → ∃ z : Int × ByteArray × Int × Int, (w.cell? (x.add (i * 4)) = some (.int .i64 z.1) ∧ w.cell? ((x.add (i * 4)).add 1) = some (.string z.2.1) ∧ w.cell? ((x.add (i * 4)).add 2) = some (.int .i64 z.2.2.1) ∧ w.cell? ((x.add (i * 4)).add 3) = some (.int .i64 z.2.2.2)) ∧ z.2.1.size ≤ maxLen := by
      intro i hi
      obtain ⟨cs', hc, ht⟩ := hel i (by omega)
      obtain ⟨_, hcl, hat⟩ := World.cells?_some hc
      obtain ⟨c0, c1, c2, c3, y0, y1, y2, y3, q, rfl, t0, t1, t2, t3⟩ := four_of Tryz.underlying88 (by kernel_rfl) hcl ht
      obtain ⟨a0, e0, -, -⟩ := DataW.trod_int Tryz.underlying3 t0
      obtain ⟨a1, e1, -, z1⟩ := DataW.trod_string Tryz.underlying9 t1
      obtain ⟨a2, e2, -, -⟩ := DataW.trod_int Tryz.underlying3 t2
      obtain ⟨a3, e3, -, -⟩ := DataW.trod_int Tryz.underlying3 t3
      simp at e0 e1 e2 e3
      subst e0 e1 e2 e3
      have h0 := hat 0 (by decide)
      rw [show (x.add (i * 4)).add 0 = x.add (i * 4) from by simp [Addr.add]] at h0
      exact ⟨(a0, a1, a2, a3), ⟨h0, hat 1 (by decide), hat 2 (by decide), hat 3 (by decide)⟩, z1⟩
    haveI : Inhabited (Int × ByteArray × Int × Int) := ⟨(0, ⟨#[]⟩, 0, 0)⟩
    obtain ⟨f, hfx⟩ := Go.Deep.choose_lt key
    refine ⟨len, f, ⟨some x, cap, rfl, hl, hm, ?_⟩, fun i hi => (hfx i hi).2⟩
    by_cases h0 : len = 0
    · exact .inl h0
    right
    obtain ⟨b, off, spot⟩ := x
    have h1 := (hfx 0 (by omega)).1.1
    have hsp : spot = none := by
      cases spot with
      | none => rfl
      | some s =>
        simp [Addr.add, World.cell?] at h1
        split at h1 <;> simp at h1
    subst hsp
    refine ⟨b, off, rfl, ?_, fun i hi => ?_⟩
    · simp [Addr.add, World.cell?] at h1
      cases hb : w.heap[b]? with
      | none => rw [hb] at h1; simp at h1
      | some o => exact (Array.getElem?_eq_some_iff.1 hb).1
    · have := (hfx i hi).1
      simp only [add_none] at this
      exact this

end Go.Proofs.YtjjhahhchimmlaaGreatDoor
