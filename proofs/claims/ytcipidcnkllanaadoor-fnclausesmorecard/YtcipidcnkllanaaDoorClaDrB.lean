/-
  What the statements draw: clauses and a head; perhaps clauses.
-/
import Derived.Test.YtcipidcnkllanaaDoorClaDr
namespace Go.Proofs.YtcipidcnkllanaaDoor
open Go.ChangeShapes Go.WideShapes Go.ChangeAt Go.RowKit Go.Joins
set_option linter.unusedVariables false

theorem growThree {a w : World} {g i j k : Nat} {x y z : Value} (h : a.grownBy w (some g)) : a.grownBy (((w.setCell ⟨g, i, none⟩ x).setCell ⟨g, j, none⟩ y).setCell ⟨g, k, none⟩ z) (some g) := by
  have s : ∀ (W : World) (i : Nat) (x : Value), W.grownBy (W.setCell ⟨g, i, none⟩ x) (some g) := fun W i x => ⟨rfl, rfl, rfl, by simp, fun k _ hk => Below.heap_setCell _ _ _ k (fun e => hk (by rw [e]))⟩
  exact gTrans (gTrans (gTrans h (s w i x)) (s _ _ _)) (s _ _ _)
/-- Clauses of the call's own, and a head. -/
def ClaHeadR (w : World) (e : Ending) (w' : World) : Prop :=
  ∃ (v : Value) (l : List C3) (x y z : Int), e = .returned (.tuple #[v, .agg #[.int .i64 x, .int .i64 y, .int .i64 z]]) ∧ l.length ≤ 8 ∧ v.ownBlock ≠ none ∧ ClaRow w' w.heap.size v l ∧ Below w.heap.size w w'

set_option maxHeartbeats 4000000 in
theorem drawClausesDo_any (w : World) (a : Option Addr) (len cap : Nat) (hb : BytesIn w w.heap.size a len cap) :
    Calls Tryd.prog 4 #[.slice a len cap] w (ClaHeadR w) := by
  have HB := Lib.hid ((hb.keep (w' := w.alloc (.cells #[.int .i64 0, .int .i64 0, .int .i64 0] 25)) (fun k hk => Below.heap_alloc _ _ _ hk)).up (g' := w.heap.size + 1) (by omega))
  clear hb
  go_enter Tryd.func4, Tryd.ntmps4
  go_wp2_with fail
  refine (open_any _ _ _ _ (by simpa using HB.out)).mono ?_
  rintro e w1 ⟨rfl, hr, b1⟩
  have hr' : RdOk w1 (w.heap.size + 1) 0 := by simpa using hr
  have HR := Lib.hid hr'
  have s1 := HR.out.lt
  have R1 : Hid (w1.heap[w.heap.size]? = some (.cells #[.int .i64 0, .int .i64 0, .int .i64 0] 25)) := (b1.block _ (by simp)).trans (newBlock w _)
  have B1 : Hid (Below w.heap.size w w1) := (below_alloc1 _ _).trans (b1.mono (by simp))
  clear hr hr' b1
  simp only [World.size_alloc]
  go_wp2_with fail
  refine (l91Clauses_any _ _ _ HR.out (by omega)).mono ?_
  rintro e w2 ⟨v, l, rfl, hrow, hlen, how, hr2, g2⟩
  have HOW := Lib.hid how
  clear how
  have HROW := Lib.hid hrow
  have HR2 := Lib.hid hr2
  have s2 := g2.size
  have R2 : Hid (w2.heap[w.heap.size]? = some (.cells #[.int .i64 0, .int .i64 0, .int .i64 0] 25)) := (g2.block _ (by omega) (someNe (by omega))).trans R1.out
  have B2 : Hid (Below w.heap.size w w2) := B1.out.trans (gBel g2 (by omega) (by omega))
  obtain ⟨va, vc, rfl⟩ := hrow.shape
  clear hr2 hrow
  go_wp2_with fail
  refine (l91Head_any _ _ _ HR2.out (by omega)).mono ?_
  rintro e w3 ⟨x, y, z, hn, rfl, hr3, g3⟩
  have s3 := g3.size
  have HROW3 := Lib.hid (HROW.out.grow g3 s1)
  clear hr3 hn
  have R3 : Hid (w3.heap[w.heap.size]? = some (.cells #[.int .i64 0, .int .i64 0, .int .i64 0] 25)) := (g3.block _ (by omega) (someNe (by omega))).trans R2.out
  have B3 : Hid (Below w.heap.size w w3) := B2.out.trans (gBel g3 (by omega) (by omega))
  clear g2 g3 R1 R2 B1 B2 HR HR2 HROW
  obtain ⟨ra, rb, rc, rf⟩ := trip_cells R3.out
  have HKB : Hid (∀ p q r : Value, ClaRow (((w3.setCell ⟨w.heap.size, 0, none⟩ p).setCell ⟨w.heap.size, 1, none⟩ q).setCell ⟨w.heap.size, 2, none⟩ r) w1.heap.size (.slice va l.length vc) l) := fun p q r => HROW3.out.grow (growThree (gRefl w3 _)) (by omega)
  go_wp2
  exact bodyPost_ret (v := .tuple #[.slice va l.length vc, .agg #[.int .i64 x, .int .i64 y, .int .i64 z]]) (by simp [results, Tryd.results4, go_sem, ra, rb, rc]) rfl
    ⟨_, l, x, y, z, rfl, hlen, HOW.out, (HKB.out _ _ _).mono (by omega), ((B3.out.setCell (by dsimp only; omega) _).setCell (by dsimp only; omega) _).setCell (by dsimp only; omega) _⟩

end Go.Proofs.YtcipidcnkllanaaDoor
