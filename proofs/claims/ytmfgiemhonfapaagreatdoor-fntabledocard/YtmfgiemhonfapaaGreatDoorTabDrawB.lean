/-
  A table and a head are drawn: the table's memory is the call's own.
-/
import Derived.Test.YtmfgiemhonfapaaGreatDoorTabDr
import Derived.Test.YtmfgiemhonfapaaGreatDoorTabHandle
namespace Go.Proofs.YtmfgiemhonfapaaGreatDoor
open Go.ChangeShapes Go.WideShapes Go.ChangeAt Go.RowKit Go.Joins
set_option linter.unusedVariables false

/-- A table and a head were drawn. -/
def TabHeadR (w : World) (e : Ending) (w' : World) : Prop :=
  ∃ (v : Value) (l : List R4) (x y z : Int), e = .returned (.tuple #[v, .agg #[.int .i64 x, .int .i64 y, .int .i64 z]]) ∧ l.length ≤ 100 ∧ RulRow w' w.heap.size v l ∧ Below w.heap.size w w'

set_option maxRecDepth 100000 in
set_option maxHeartbeats 4000000 in
theorem drawTableAtR_any (w : World) (a : Option Addr) (len cap : Nat) (hb : BytesIn w w.heap.size a len cap) :
    Calls Tryz.prog 8 #[.slice a len cap] w (TabHeadR w) := by
  have HB := Lib.hid ((hb.keep (w' := w.alloc (.cells #[.int .i64 0, .int .i64 0, .int .i64 0] 25)) (fun k hk => Below.heap_alloc _ _ _ hk)).up (g' := w.heap.size + 1) (by omega))
  clear hb
  go_enter Tryz.func8, Tryz.ntmps8
  go_wp2_with fail
  refine (open_any _ _ _ _ (by simpa using HB.out)).mono ?_
  rintro e w1 ⟨rfl, hr, b1⟩
  have hr' : RdOk w1 (w.heap.size + 1) 0 := by simpa using hr
  have HR := Lib.hid hr'
  have s1 := HR.out.lt
  have R1 : Hid (w1.heap[w.heap.size]? = some (.cells #[.int .i64 0, .int .i64 0, .int .i64 0] 25)) := (b1.block _ (by simp)).trans (newBlock w _)
  have B1 : Hid (Below w.heap.size w w1) := (below_alloc1 _ _).trans (b1.mono (by simp))
  clear hr hr' b1
  simp only [World.size_alloc]
  go_wp2_with fail
  refine (l91Table_any _ _ _ HR.out (by omega)).mono ?_
  rintro e w2 ⟨v, l, rfl, hrow, hlen, hr2, g2⟩
  have HW2 := Lib.hid hrow
  have HR2 := Lib.hid hr2
  have s2 := g2.size
  have R2 : Hid (w2.heap[w.heap.size]? = some (.cells #[.int .i64 0, .int .i64 0, .int .i64 0] 25)) := (g2.block _ (by omega) (someNe (by omega))).trans R1.out
  have B2 : Hid (Below w.heap.size w w2) := B1.out.trans (gBel g2 (by omega) (by omega))
  clear hrow hr2
  go_wp2_with fail
  refine (l91Head_any _ _ _ HR2.out (by omega)).mono ?_
  rintro e w3 ⟨x, y, z, hn, rfl, hr3, g3⟩
  have s3 := g3.size
  clear hr3 hn
  have R3 : Hid (w3.heap[w.heap.size]? = some (.cells #[.int .i64 0, .int .i64 0, .int .i64 0] 25)) := (g3.block _ (by omega) (someNe (by omega))).trans R2.out
  have B3 : Hid (Below w.heap.size w w3) := B2.out.trans (gBel g3 (by omega) (by omega))
  have HX3 : Hid (RulRow w3 w1.heap.size v l) := HW2.out.grow g3 s1
  clear g2 g3 R1 R2 B1 B2 HR HR2 HW2
  obtain ⟨ra, rb, rc, rf⟩ := trip_cells R3.out
  go_wp2
  exact bodyPost_ret (v := .tuple #[v, .agg #[.int .i64 x, .int .i64 y, .int .i64 z]]) (by simp [results, Tryz.results8, go_sem, ra, rb, rc]) rfl
    ⟨v, l, x, y, z, rfl, hlen, (HX3.out.grow (gOwnT (gOwnT (gOwnT (gRefl _ _) 0 _) 1 _) 2 _) (by omega)).mono (by omega), ((B3.out.setCell (by exact Nat.le_refl _) _).setCell (by exact Nat.le_refl _) _).setCell (by exact Nat.le_refl _) _⟩

set_option maxRecDepth 100000 in
set_option maxHeartbeats 2000000 in
theorem drawTableDo_any (w : World) (a : Option Addr) (len cap : Nat) (hb : BytesIn w w.heap.size a len cap) :
    Calls Tryz.prog 14 #[.slice a len cap] w (TabHeadR w) := by
  have HB := Lib.hid ((hb.keep (w' := w.alloc (.cells #[.int .i64 0, .int .i64 0, .int .i64 0] 25)) (fun k hk => Below.heap_alloc _ _ _ hk)).up (g' := w.heap.size + 1) (by omega))
  clear hb
  go_enter Tryz.func14, Tryz.ntmps14
  go_wp2_with fail
  refine (drawTableAtR_any _ _ _ _ (by simpa using HB.out)).mono ?_
  rintro e w1 ⟨v, l, x, y, z, rfl, hl, hx, b1⟩
  have R1 := (b1.block _ (by simp)).trans (newBlockM w (.cells #[.int .i64 0, .int .i64 0, .int .i64 0] 25))
  have B1 : Hid (Below w.heap.size w w1) := (below_alloc1 _ _).trans (b1.mono (by simp))
  have s1 := b1.size
  simp at s1
  have HX := Lib.hid hx
  obtain ⟨ra, rb, rc, rf⟩ := cells3 R1
  clear b1 R1 hx
  go_wp2
  exact bodyPost_ret (v := .tuple #[v, .agg #[.int .i64 x, .int .i64 y, .int .i64 z]]) (by simp [results, Tryz.results14, go_sem, ra, rb, rc]) rfl
    ⟨v, l, x, y, z, rfl, hl, (HX.out.grow (gOwnT (gOwnT (gOwnT (gRefl _ _) 0 _) 1 _) 2 _) (by simp)).mono (by simp), ((B1.out.setCell (by exact Nat.le_refl _) _).setCell (by exact Nat.le_refl _) _).setCell (by exact Nat.le_refl _) _⟩

end Go.Proofs.YtmfgiemhonfapaaGreatDoor
