/-
  The nets that the statements draw with two switches.
-/
import Derived.Test.YtbjndcfdcjpkmaaNetDr

namespace Go.Proofs.Ytbjndcfdcjpkmaa
open Go.ChangeShapes Go.WideShapes Go.ChangeAt Go.RowKit Go.Joins
set_option linter.unusedVariables false

/-- A net of the call's own and two numbers of 0 to 8. -/
def NetTwoR (w : World) (e : Ending) (w' : World) : Prop :=
  ∃ (v : Value) (l : List K4) (x y : Int), e = .returned (.tuple #[v, .int .i64 x, .int .i64 y]) ∧ l.length ≤ 9 ∧ -8 ≤ x ∧ x ≤ 8 ∧ -8 ≤ y ∧ y ≤ 8 ∧ LkRow w' w.heap.size v l ∧ Below w.heap.size w w'

set_option maxRecDepth 100000 in
set_option maxHeartbeats 4000000 in
theorem l92Two_any (w : World) (g : Nat) (hr : RdOk w g 0) :
    Calls Try.prog 39 #[.pointer (some ⟨g, 0, none⟩)] w fun e w' => ∃ (v : Value) (l : List K4) (x y : Int), e = .returned (.tuple #[v, .int .i64 x, .int .i64 y]) ∧ l.length ≤ 9 ∧ -8 ≤ x ∧ x ≤ 8 ∧ -8 ≤ y ∧ y ≤ 8 ∧ LkRow w' w.heap.size v l ∧ w.grownBy w' (some g) := by
  have hlt := hr.lt
  have HR := Lib.hid hr
  clear hr
  go_enter Try.func39, Try.ntmps39
  go_wp2_with fail
  refine (l92Net_any _ _ _ HR.out (by omega)).mono ?_
  rintro e w1 ⟨v, l, rfl, hrow, hlen, hr1, g1⟩
  have HROW := Lib.hid hrow
  have HR1 := Lib.hid hr1
  clear hrow hr1 HR
  obtain ⟨va, vn, vc, rfl⟩ : ∃ va vn vc, v = .slice va vn vc := by
    rcases HROW.out.form with ⟨rfl, -⟩ | ⟨_, _, rfl, -⟩ <;> exact ⟨_, _, _, rfl⟩
  go_wp2_with fail
  refine (pick_any _ _ _ _ HR1.out (by omega) (by omega)).mono ?_
  rintro e w2 ⟨x0, x1, x2, rfl, hr2, g2⟩
  have HR2 := Lib.hid hr2
  clear hr2
  go_wp2_with fail
  refine (pick_any _ _ _ _ HR2.out (by omega) (by omega)).mono ?_
  rintro e w3 ⟨y0, y1, y2, rfl, hr3, g3⟩
  have HR3 := Lib.hid hr3
  clear hr3
  have hy : 0 ≤ y0.tdiv 23 ∧ y0.tdiv 23 ≤ 1 := by
    rw [Int.tdiv_eq_ediv_of_nonneg y1]; omega
  go_wp2_with fail
  refine (pick_any _ _ _ _ HR3.out (by omega) (by omega)).mono ?_
  rintro e w4 ⟨z0, z1, z2, rfl, hr4, g4⟩
  have HR4 := Lib.hid hr4
  clear hr4
  go_wp2_with fail
  refine (pick_any _ _ _ _ HR4.out (by omega) (by omega)).mono ?_
  rintro e w5 ⟨u0, u1, u2, rfl, hr5, g5⟩
  have hu : 0 ≤ u0.tdiv 23 ∧ u0.tdiv 23 ≤ 1 := by
    rw [Int.tdiv_eq_ediv_of_nonneg u1]; omega
  have G5 := Lib.hid (gTrans (gTrans (gTrans g2 g3) g4) g5)
  have HROW5 := Lib.hid (HROW.out.grow G5.out hlt)
  have G := Lib.hid (gTrans g1 G5.out)
  clear g1 g2 g3 g4 g5 hr5 G5 HROW
  go_wp2
  exact bodyPost_ret (v := .tuple #[.slice va vn vc, .int .i64 (1 + x0 + y0.tdiv 23 * 4), .int .i64 (1 + z0 - u0.tdiv 23 * 4)]) (by simp [results, Try.results39, go_sem]) rfl ⟨_, l, _, _, rfl, hlen, by omega, by omega, by omega, by omega, HROW5.out, G.out⟩

set_option maxHeartbeats 2000000 in
theorem drawNetFar_any (w : World) (a : Option Addr) (len cap : Nat) (hb : BytesIn w w.heap.size a len cap) :
    Calls Try.prog 18 #[.slice a len cap] w (NetTwoR w) := by
  have HB := Lib.hid hb
  clear hb
  go_enter Try.func18, Try.ntmps18
  go_wp2_with fail
  refine (open_any _ _ _ _ HB.out).mono ?_
  rintro e w1 ⟨rfl, hr, b1⟩
  have HR := Lib.hid hr
  have s1 := HR.out.lt
  have B1 := Lib.hid b1
  clear hr b1
  go_wp2_with fail
  refine (l92Two_any _ _ HR.out).mono ?_
  rintro e w2 ⟨v, l, x, y, rfl, hl, x0, x1, y0, y1, hrow, g2⟩
  have HROW := Lib.hid (hrow.mono (Nat.le_of_lt s1))
  have B2 : Hid (Below w.heap.size w w2) := B1.out.trans (gBel g2 (Nat.le_refl _) (by omega))
  clear hrow g2
  obtain ⟨va, vn, vc, rfl⟩ : ∃ va vn vc, v = .slice va vn vc := by
    rcases HROW.out.form with ⟨rfl, -⟩ | ⟨_, _, rfl, -⟩ <;> exact ⟨_, _, _, rfl⟩
  go_wp2
  exact bodyPost_ret (v := .tuple #[.slice va vn vc, .int .i64 x, .int .i64 y]) (by simp [results, Try.results18, go_sem]) rfl ⟨_, l, x, y, rfl, hl, x0, x1, y0, y1, HROW.out, B2.out⟩

set_option maxHeartbeats 2000000 in
theorem drawNetWay_any (w : World) (a : Option Addr) (len cap : Nat) (hb : BytesIn w w.heap.size a len cap) :
    Calls Try.prog 24 #[.slice a len cap] w (NetTwoR w) := by
  have HB := Lib.hid hb
  clear hb
  go_enter Try.func24, Try.ntmps24
  go_wp2_with fail
  refine (open_any _ _ _ _ HB.out).mono ?_
  rintro e w1 ⟨rfl, hr, b1⟩
  have HR := Lib.hid hr
  have s1 := HR.out.lt
  have B1 := Lib.hid b1
  clear hr b1
  go_wp2_with fail
  refine (l92Two_any _ _ HR.out).mono ?_
  rintro e w2 ⟨v, l, x, y, rfl, hl, x0, x1, y0, y1, hrow, g2⟩
  have HROW := Lib.hid (hrow.mono (Nat.le_of_lt s1))
  have B2 : Hid (Below w.heap.size w w2) := B1.out.trans (gBel g2 (Nat.le_refl _) (by omega))
  clear hrow g2
  obtain ⟨va, vn, vc, rfl⟩ : ∃ va vn vc, v = .slice va vn vc := by
    rcases HROW.out.form with ⟨rfl, -⟩ | ⟨_, _, rfl, -⟩ <;> exact ⟨_, _, _, rfl⟩
  go_wp2
  exact bodyPost_ret (v := .tuple #[.slice va vn vc, .int .i64 x, .int .i64 y]) (by simp [results, Try.results24, go_sem]) rfl ⟨_, l, x, y, rfl, hl, x0, x1, y0, y1, HROW.out, B2.out⟩

theorem lxFour_any (n : Int) (w : World) :
    Calls Try.prog 22 #[.int .i64 n] w fun e w' => e = .returned (.bool (swB n)) ∧ w = w' := by
  unfold swB inB
  by_cases h0 : 1 ≤ n
  · by_cases h3 : n ≤ 4
    · go_enter Try.func22, Try.ntmps22
      go_wp2
      go_ret
      exact ⟨by simp [h0, h3], rfl⟩
    · have h3' : decide (n ≤ 4) = false := by simpa using h3
      go_enter Try.func22, Try.ntmps22
      go_wp2
      go_ret
      exact ⟨by simp, rfl⟩
  · have h0' : decide (1 ≤ n) = false := by simpa using h0
    go_enter Try.func22, Try.ntmps22
    go_wp2
    go_ret
    exact ⟨by simp, rfl⟩

end Go.Proofs.Ytbjndcfdcjpkmaa
