/-
  What the statements draw: a net and a link's number; perhaps a net.
-/
import Derived.Test.YtbjndcfdcjpkmaaNetDr
namespace Go.Proofs.Ytbjndcfdcjpkmaa
open Go.ChangeShapes Go.WideShapes Go.ChangeAt Go.RowKit Go.Joins
set_option linter.unusedVariables false

/-- A net of the call's own, and a number. -/
def NetOneR (w : World) (e : Ending) (w' : World) : Prop :=
  ∃ (v : Value) (l : List K4) (z : Int), e = .returned (.tuple #[v, .int .i64 z]) ∧ l.length ≤ 9 ∧ -8 ≤ z ∧ z ≤ 9 ∧ LkRow w' w.heap.size v l ∧ Below w.heap.size w w'

set_option maxHeartbeats 4000000 in
theorem drawNetCut_any (w : World) (a : Option Addr) (len cap : Nat) (hb : BytesIn w w.heap.size a len cap) :
    Calls Try.prog 31 #[.slice a len cap] w (NetOneR w) := by
  have HB := Lib.hid hb
  clear hb
  go_enter Try.func31, Try.ntmps31
  go_wp2_with fail
  refine (open_any _ _ _ _ HB.out).mono ?_
  rintro e w1 ⟨rfl, hr, b1⟩
  have HR := Lib.hid hr
  have s1 := HR.out.lt
  have B1 := Lib.hid b1
  clear hr b1
  go_wp2_with fail
  refine (l92Net_any _ _ _ HR.out (by omega)).mono ?_
  rintro e w2 ⟨v, l, rfl, hrow, hlen, hr2, g2⟩
  have HROW := Lib.hid hrow
  have HR2 := Lib.hid hr2
  have G2 := Lib.hid g2
  clear hrow hr2 HR g2
  obtain ⟨va, vc, rfl⟩ : ∃ va vc, v = .slice va l.length vc := by
    rcases HROW.out.form with ⟨rfl, rfl⟩ | ⟨_, _, rfl, -⟩ <;> exact ⟨_, _, rfl⟩
  have hw1 : IntKind.i64.wrap ((l.length : Int) + 1) = (l.length : Int) + 1 := by rw [IntKind.wrap_i64]; omega
  generalize hN : l.length = N at *
  have HN := Lib.hid hN
  clear hN
  go_wp2_with fail
  refine (pick_any _ _ _ _ HR2.out (by omega) (by omega)).mono ?_
  rintro e w3 ⟨x0, x1, x2, rfl, hr3, g3⟩
  have HR3 := Lib.hid hr3
  have G3 := Lib.hid (gTrans G2.out g3)
  have HROW3 := Lib.hid (HROW.out.grow g3 s1)
  clear hr3 g3 HROW HR2 G2
  go_wp2_with fail
  refine (pick_any _ _ _ _ HR3.out (by omega) (by omega)).mono ?_
  rintro e w4 ⟨y0, y1, y2, rfl, hr4, g4⟩
  have G4 := Lib.hid (gTrans G3.out g4)
  have HROW4 := Lib.hid (HROW3.out.grow g4 s1)
  have B4 : Hid (Below w.heap.size w w4) := B1.out.trans (gBel G4.out (Nat.le_refl _) (by omega))
  have hy : 0 ≤ y0.tdiv 23 ∧ y0.tdiv 23 ≤ 1 := by
    rw [Int.tdiv_eq_ediv_of_nonneg y1]; omega
  clear hr4 g4 HROW3 HR3 G3
  go_wp2
  exact bodyPost_ret (v := .tuple #[.slice va N vc, .int .i64 (x0 - y0.tdiv 23)]) (by simp [results, Try.results31, go_sem]) rfl ⟨_, l, _, rfl, by have := HN.out; omega, by omega, by omega, HROW4.out.mono (by omega), B4.out⟩

set_option maxRecDepth 100000 in
set_option maxHeartbeats 4000000 in
theorem drawNetOk_any (w : World) (a : Option Addr) (len cap : Nat) (hb : BytesIn w w.heap.size a len cap) :
    Calls Try.prog 33 #[.slice a len cap] w fun e w' => ∃ (v : Value) (l : List K4), e = .returned v ∧ l.length ≤ 10 ∧ LkRow w' w.heap.size v l ∧ Below w.heap.size w w' := by
  have HB := Lib.hid hb
  clear hb
  go_enter Try.func33, Try.ntmps33
  go_wp2_with fail
  refine (open_any _ _ _ _ HB.out).mono ?_
  rintro e w1 ⟨rfl, hr, b1⟩
  have HR := Lib.hid hr
  have s1 := HR.out.lt
  have B1 := Lib.hid b1
  clear hr b1
  go_wp2_with fail
  refine (l92Net_any _ _ _ HR.out (by omega)).mono ?_
  rintro e w2 ⟨v, l, rfl, hrow, hlen, hr2, g2⟩
  have HROW := Lib.hid hrow
  have HR2 := Lib.hid hr2
  have G2 := Lib.hid g2
  clear hrow hr2 HR g2
  go_wp2_with fail
  refine (pick_any _ _ _ _ HR2.out (by omega) (by omega)).mono ?_
  rintro e w3 ⟨x0, x1, x2, rfl, hr3, g3⟩
  have HR3 := Lib.hid hr3
  have G3 := Lib.hid (gTrans G2.out g3)
  have HROW3 := Lib.hid (HROW.out.grow g3 s1)
  clear hr3 g3 HROW HR2 G2
  by_cases h0 : x0 = 0
  · subst h0
    go_wp2_with fail
    refine (pick_any _ _ _ _ HR3.out (by omega) (by omega)).mono ?_
    rintro e w4 ⟨p, p1, p2, rfl, hr4, g4⟩
    have HR4 := Lib.hid hr4
    clear hr4
    go_wp2_with fail
    refine (pick_any _ _ _ _ HR4.out (by omega) (by omega)).mono ?_
    rintro e w5 ⟨s, s3, s2, rfl, hr5, g5⟩
    have HR5 := Lib.hid hr5
    clear hr5
    go_wp2_with fail
    refine (pick_any _ _ _ _ HR5.out (by omega) (by omega)).mono ?_
    rintro e w6 ⟨o, o1, o2, rfl, hr6, g6⟩
    have HR6 := Lib.hid hr6
    clear hr6
    go_wp2_with fail
    refine (pick_any _ _ _ _ HR6.out (by omega) (by omega)).mono ?_
    rintro e w7 ⟨t, t1, t2, rfl, hr7, g7⟩
    have G37 := Lib.hid (gTrans (gTrans (gTrans g4 g5) g6) g7)
    have G7 := Lib.hid (gTrans G3.out G37.out)
    have HROW7 := Lib.hid (HROW3.out.grow G37.out s1)
    have s7 : Hid (w1.heap.size ≤ w7.heap.size) := G7.out.size
    have B7 : Hid (Below w.heap.size w w7) := B1.out.trans (gBel G7.out (Nat.le_refl _) (by omega))
    clear hr7 g4 g5 g6 g7 HR3 HR4 HR5 HR6 G3 G7 G37 HROW3
    go_wp2_with (at_builtin; refine app_links rfl _ _ rfl w1.heap.size _ l rfl (HROW7.out.below (below_alloc1 _ _)) _ 0 1 [⟨1 + p, s, 1 + o, 1 + t⟩] rfl (oneK (newFourK _ ⟨1 + p, s, 1 + o, 1 + t⟩)) (by simp; omega) (by have := s7.out; simp; omega) ?_; rintro v' w8 hrow8 hg8 -; have HR8 := Lib.hid hrow8; have HB8 := Lib.hid ((HROW7.out.below (below_alloc1 w7 (.cells #[.int .i64 (1 + p), .int .i64 s, .int .i64 (1 + o), .int .i64 (1 + t)] 44))).belRow hg8 (by have := s7.out; simp; omega)); clear hrow8 hg8)
    go_ret
    have s0 := B1.out.size
    exact ⟨_, _, rfl, by simp; omega, HR8.out.mono s0, (B7.out.trans ((below_alloc1 w7 _).mono B7.out.size)).trans (HB8.out.mono s0)⟩
  · have hz : (x0 == 0) = false := by simpa using h0
    have B3 : Hid (Below w.heap.size w w3) := B1.out.trans (gBel G3.out (Nat.le_refl _) (by omega))
    go_wp2
    go_ret
    exact ⟨_, l, rfl, by omega, HROW3.out.mono B1.out.size, B3.out⟩

end Go.Proofs.Ytbjndcfdcjpkmaa
