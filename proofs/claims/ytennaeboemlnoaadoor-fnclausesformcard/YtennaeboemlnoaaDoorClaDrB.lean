/-
  What the statements draw: clauses and a head; perhaps clauses.
-/
import Derived.Test.YtennaeboemlnoaaDoorClaDr
namespace Go.Proofs.YtennaeboemlnoaaDoor
open Go.ChangeShapes Go.WideShapes Go.ChangeAt Go.RowKit Go.Joins
set_option linter.unusedVariables false

theorem growThree {a w : World} {g i j k : Nat} {x y z : Value} (h : a.grownBy w (some g)) : a.grownBy (((w.setCell ⟨g, i, none⟩ x).setCell ⟨g, j, none⟩ y).setCell ⟨g, k, none⟩ z) (some g) := by
  have s : ∀ (W : World) (i : Nat) (x : Value), W.grownBy (W.setCell ⟨g, i, none⟩ x) (some g) := fun W i x => ⟨rfl, rfl, rfl, by simp, fun k _ hk => Below.heap_setCell _ _ _ k (fun e => hk (by rw [e]))⟩
  exact gTrans (gTrans (gTrans h (s w i x)) (s _ _ _)) (s _ _ _)
/-- Clauses of the call's own, and a head. -/
def ClaHeadR (w : World) (e : Ending) (w' : World) : Prop :=
  ∃ (v : Value) (l : List C3) (x y z : Int), e = .returned (.tuple #[v, .agg #[.int .i64 x, .int .i64 y, .int .i64 z]]) ∧ l.length ≤ 8 ∧ v.ownBlock ≠ none ∧ ClaRow w' w.heap.size v l ∧ Below w.heap.size w w'

set_option maxHeartbeats 4000000 in
theorem drawClausesDo_any (w : World) (a : Option Addr) (len cap : Nat) (hb : BytesIn w w.heap.size a len cap) :
    Calls Tryd.prog 27 #[.slice a len cap] w (ClaHeadR w) := by
  have HB := Lib.hid ((hb.keep (w' := w.alloc (.cells #[.int .i64 0, .int .i64 0, .int .i64 0] 31)) (fun k hk => Below.heap_alloc _ _ _ hk)).up (g' := w.heap.size + 1) (by omega))
  clear hb
  go_enter Tryd.func27, Tryd.ntmps27
  go_wp2_with fail
  refine (open_any _ _ _ _ (by simpa using HB.out)).mono ?_
  rintro e w1 ⟨rfl, hr, b1⟩
  have hr' : RdOk w1 (w.heap.size + 1) 0 := by simpa using hr
  have HR := Lib.hid hr'
  have s1 := HR.out.lt
  have R1 : Hid (w1.heap[w.heap.size]? = some (.cells #[.int .i64 0, .int .i64 0, .int .i64 0] 31)) := (b1.block _ (by simp)).trans (newBlock w _)
  have B1 : Hid (Below w.heap.size w w1) := (below_alloc1 _ _).trans (b1.mono (by simp))
  clear hr hr' b1
  simp only [World.size_alloc]
  go_wp2_with fail
  refine (l91Clauses_any _ _ _ HR.out (by omega)).mono ?_
  rintro e w2 ⟨v, l, rfl, hrow, hlen, how, hr2, g2⟩
  have HOW := Lib.hid how
  clear how
  have HROW := Lib.hid hrow
  have HR2 := Lib.hid hr2
  have s2 := g2.size
  have R2 : Hid (w2.heap[w.heap.size]? = some (.cells #[.int .i64 0, .int .i64 0, .int .i64 0] 31)) := (g2.block _ (by omega) (someNe (by omega))).trans R1.out
  have B2 : Hid (Below w.heap.size w w2) := B1.out.trans (gBel g2 (by omega) (by omega))
  obtain ⟨va, vc, rfl⟩ := hrow.shape
  clear hr2 hrow
  go_wp2_with fail
  refine (l91Head_any _ _ _ HR2.out (by omega)).mono ?_
  rintro e w3 ⟨x, y, z, hn, rfl, hr3, g3⟩
  have s3 := g3.size
  have HROW3 := Lib.hid (HROW.out.grow g3 s1)
  clear hr3 hn
  have R3 : Hid (w3.heap[w.heap.size]? = some (.cells #[.int .i64 0, .int .i64 0, .int .i64 0] 31)) := (g3.block _ (by omega) (someNe (by omega))).trans R2.out
  have B3 : Hid (Below w.heap.size w w3) := B2.out.trans (gBel g3 (by omega) (by omega))
  clear g2 g3 R1 R2 B1 B2 HR HR2 HROW
  obtain ⟨ra, rb, rc, rf⟩ := trip_cells R3.out
  have HKB : Hid (∀ p q r : Value, ClaRow (((w3.setCell ⟨w.heap.size, 0, none⟩ p).setCell ⟨w.heap.size, 1, none⟩ q).setCell ⟨w.heap.size, 2, none⟩ r) w1.heap.size (.slice va l.length vc) l) := fun p q r => HROW3.out.grow (growThree (gRefl w3 _)) (by omega)
  go_wp2
  exact bodyPost_ret (v := .tuple #[.slice va l.length vc, .agg #[.int .i64 x, .int .i64 y, .int .i64 z]]) (by simp [results, Tryd.results27, go_sem, ra, rb, rc]) rfl
    ⟨_, l, x, y, z, rfl, hlen, HOW.out, (HKB.out _ _ _).mono (by omega), ((B3.out.setCell (by dsimp only; omega) _).setCell (by dsimp only; omega) _).setCell (by dsimp only; omega) _⟩

set_option maxRecDepth 100000 in
set_option maxHeartbeats 4000000 in
theorem drawClausesOk_any (w : World) (a : Option Addr) (len cap : Nat) (hb : BytesIn w w.heap.size a len cap) :
    Calls Tryd.prog 34 #[.slice a len cap] w fun e w' => ∃ (v : Value) (l : List C3), e = .returned v ∧ l.length ≤ 9 ∧ v.ownBlock ≠ none ∧ ClaRow w' w.heap.size v l ∧ Below w.heap.size w w' := by
  have HB := Lib.hid hb
  clear hb
  go_enter Tryd.func34, Tryd.ntmps34
  go_wp2_with fail
  refine (open_any _ _ _ _ HB.out).mono ?_
  rintro e w1 ⟨rfl, hr, b1⟩
  have HR := Lib.hid hr
  have s1 := HR.out.lt
  have B1 := Lib.hid b1
  clear hr b1
  go_wp2_with fail
  refine (l91Clauses_any _ _ _ HR.out (by omega)).mono ?_
  rintro e w2 ⟨v, l, rfl, hrow, hlen, how, hr2, g2⟩
  have HOW := Lib.hid how
  clear how
  have HROW := Lib.hid hrow
  have HR2 := Lib.hid hr2
  have G2 := Lib.hid g2
  clear hrow hr2 HR g2
  go_wp2_with fail
  refine (pick_any _ _ _ _ HR2.out (by omega) (by omega)).mono ?_
  rintro e w3 ⟨x0, x1, x2, rfl, hr3, g3⟩
  have HR3 := Lib.hid hr3
  have G3 := Lib.hid (gTrans G2.out g3)
  have HROW3 := Lib.hid (HROW.out.grow g3 s1)
  clear hr3 g3 HROW HR2 G2
  by_cases h0 : x0 = 0
  · subst h0
    go_wp2_with fail
    refine (l91Fine_any _ _ _ HR3.out (by omega)).mono ?_
    rintro e w4 ⟨s, hs, rfl, hr4, g4⟩
    have HR4 := Lib.hid hr4
    clear hr4
    go_wp2_with fail
    refine (pick_any _ _ _ _ HR4.out (by omega) (by omega)).mono ?_
    rintro e w5 ⟨o, o3, o2, rfl, hr5, g5⟩
    have HR5 := Lib.hid hr5
    clear hr5
    go_wp2_with fail
    refine (pick_any _ _ _ _ HR5.out (by omega) (by omega)).mono ?_
    rintro e w7 ⟨t, t1, t2, rfl, hr7, g7⟩
    have G37 := Lib.hid (gTrans (gTrans g4 g5) g7)
    have G7 := Lib.hid (gTrans G3.out G37.out)
    have HROW7 := Lib.hid (HROW3.out.grow G37.out s1)
    have s7 : Hid (w1.heap.size ≤ w7.heap.size) := G7.out.size
    have B7 : Hid (Below w.heap.size w w7) := B1.out.trans (gBel G7.out (Nat.le_refl _) (by omega))
    clear hr7 g4 g5 g7 HR3 HR4 HR5 G3 G7 G37 HROW3
    go_wp2_with (at_builtin; refine app_cla rfl _ _ rfl w1.heap.size _ l rfl (HROW7.out.below (below_alloc1 _ _)) _ 0 1 [⟨s, o, t - 2, by omega⟩] rfl (oneC (newThr _ ⟨s, o, t - 2, by omega⟩)) (by simp; omega) (by have := s7.out; simp; omega) ?_; rintro v' w8 hrow8 hg8 ho8; have HO8 := Lib.hid (own_step HOW.out ho8); clear ho8; have HR8 := Lib.hid hrow8; have HB8 := Lib.hid ((HROW7.out.below (below_alloc1 w7 (.cells #[.string s, .int .i64 o, .int .i64 (t - 2)] 49))).belRow hg8 (by have := s7.out; simp; omega)); clear hrow8 hg8)
    go_ret
    have s0 := B1.out.size
    exact ⟨_, _, rfl, by simp; omega, HO8.out, HR8.out.mono s0, (B7.out.trans ((below_alloc1 w7 _).mono B7.out.size)).trans (HB8.out.mono s0)⟩
  · have hz : (x0 == 0) = false := by simpa using h0
    have B3 : Hid (Below w.heap.size w w3) := B1.out.trans (gBel G3.out (Nat.le_refl _) (by omega))
    go_wp2
    go_ret
    exact ⟨_, l, rfl, by omega, HOW.out, HROW3.out.mono B1.out.size, B3.out⟩

end Go.Proofs.YtennaeboemlnoaaDoor
