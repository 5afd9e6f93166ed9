/-
  A table is drawn; a table and a number; two tables.
-/
import Derived.Test.YtehgpehhpijkjaaGreatDoorTabDr
import Derived.Test.YtehgpehhpijkjaaGreatDoorTabTrim
namespace Go.Proofs.YtehgpehhpijkjaaGreatDoor
open Go.ChangeShapes Go.WideShapes Go.ChangeAt Go.RowKit Go.Joins
set_option linter.unusedVariables false

/-- A table was drawn. -/
def TabOneR (w : World) (e : Ending) (w' : World) : Prop :=
  ∃ (v : Value) (l : List R4), e = .returned v ∧ l.length ≤ 100 ∧ RulRow w' w.heap.size v l ∧ Below w.heap.size w w'
/-- A table and a number were drawn. -/
def TabNumR (w : World) (e : Ending) (w' : World) : Prop :=
  ∃ (v : Value) (l : List R4) (q : Int), e = .returned (.tuple #[v, .int .i64 q]) ∧ l.length ≤ 100 ∧ -1000 ≤ q ∧ q ≤ 1000 ∧ RulRow w' w.heap.size v l ∧ Below w.heap.size w w'
/-- Two tables were drawn. -/
def TabTwoR (w : World) (e : Ending) (w' : World) : Prop :=
  ∃ (v v' : Value) (l l' : List R4), e = .returned (.tuple #[v, v']) ∧ l.length ≤ 100 ∧ l'.length ≤ 100 ∧ RulRow w' w.heap.size v l ∧ RulRow w' w.heap.size v' l' ∧ Below w.heap.size w w'

set_option maxRecDepth 100000 in
set_option maxHeartbeats 4000000 in
theorem drawTableArea_any (w : World) (a : Option Addr) (len cap : Nat) (hb : BytesIn w w.heap.size a len cap) :
    Calls Tryz.prog 7 #[.slice a len cap] w (TabNumR w) := by
  have HB := Lib.hid hb
  clear hb
  go_enter Tryz.func7, Tryz.ntmps7
  go_wp2_with fail
  refine (open_any _ _ _ _ HB.out).mono ?_
  rintro e w1 ⟨rfl, hr, b1⟩
  have HR := Lib.hid hr
  have s1 := HR.out.lt
  have B1 := Lib.hid b1
  clear hr b1
  go_wp2_with fail
  refine (l91Table_any _ _ _ HR.out (by omega)).mono ?_
  rintro e w2 ⟨v, l, rfl, hrow, hlen, hr2, g2⟩
  have HROW := Lib.hid hrow
  have HR2 := Lib.hid hr2
  have s2 := g2.size
  have B2 : Hid (Below w.heap.size w w2) := B1.out.trans (gBel g2 (Nat.le_refl _) (by omega))
  clear hrow hr2 g2
  obtain ⟨va, vc, rfl⟩ : ∃ va vc, v = .slice va l.length vc := by
    obtain ⟨va, vc, rfl, -⟩ := HROW.out.rls
    exact ⟨va, vc, rfl⟩
  go_wp2_with fail
  refine (pick_any _ _ _ _ HR2.out (by omega) (by omega)).mono ?_
  rintro e w3 ⟨q, q1, q2, rfl, hr3, g3⟩
  have HROW3 := Lib.hid ((HROW.out.grow g3 s1).mono (Nat.le_of_lt s1))
  have B3 : Hid (Below w.heap.size w w3) := B2.out.trans (gBel g3 (Nat.le_refl _) (by omega))
  clear hr3 g3
  go_wp2
  exact bodyPost_ret (v := .tuple #[.slice va l.length vc, .int .i64 (q - 1)]) (by simp [results, Tryz.results7, go_sem]) rfl ⟨_, l, q - 1, rfl, hlen, by omega, by omega, HROW3.out, B3.out⟩

set_option maxRecDepth 100000 in
set_option maxHeartbeats 4000000 in
theorem drawTableTo_any (w : World) (a : Option Addr) (len cap : Nat) (hb : BytesIn w w.heap.size a len cap) :
    Calls Tryz.prog 13 #[.slice a len cap] w (TabNumR w) := by
  have HB := Lib.hid hb
  clear hb
  go_enter Tryz.func13, Tryz.ntmps13
  go_wp2_with fail
  refine (open_any _ _ _ _ HB.out).mono ?_
  rintro e w1 ⟨rfl, hr, b1⟩
  have HR := Lib.hid hr
  have s1 := HR.out.lt
  have B1 := Lib.hid b1
  clear hr b1
  go_wp2_with fail
  refine (l91Table_any _ _ _ HR.out (by omega)).mono ?_
  rintro e w2 ⟨v, l, rfl, hrow, hlen, hr2, g2⟩
  have HROW := Lib.hid hrow
  have HR2 := Lib.hid hr2
  have s2 := g2.size
  have B2 : Hid (Below w.heap.size w w2) := B1.out.trans (gBel g2 (Nat.le_refl _) (by omega))
  clear hrow hr2 g2
  go_wp2_with fail
  refine (pick_any _ _ _ _ HR2.out (by omega) (by omega)).mono ?_
  rintro e w3 ⟨x0, x1, x2, rfl, hr3, g3⟩
  have HROW3 := Lib.hid (HROW.out.grow g3 s1)
  have HR3 := Lib.hid hr3
  have s3 := g3.size
  have B3 : Hid (Below w.heap.size w w3) := B2.out.trans (gBel g3 (Nat.le_refl _) (by omega))
  clear hr3 g3
  go_wp2_with fail
  refine (pick_any _ _ _ _ HR3.out (by omega) (by omega)).mono ?_
  rintro e w4 ⟨y0, y1, y2, rfl, hr4, g4⟩
  have HROW4 := Lib.hid ((HROW3.out.grow g4 s1).mono (Nat.le_of_lt s1))
  have B4 : Hid (Below w.heap.size w w4) := B3.out.trans (gBel g4 (Nat.le_refl _) (by omega))
  clear hr4 g4
  go_wp2
  exact bodyPost_ret (v := .tuple #[v, .int .i64 (x0 - y0 / 11)]) (by simp [results, Tryz.results13, go_sem]) rfl ⟨_, l, x0 - y0 / 11, rfl, hlen, by omega, by omega, HROW4.out, B4.out⟩

theorem six_x : (⟨#[120, 120, 120, 120, 120, 120]⟩ : ByteArray).size ≤ 1048576 := by decide

end Go.Proofs.YtehgpehhpijkjaaGreatDoor
