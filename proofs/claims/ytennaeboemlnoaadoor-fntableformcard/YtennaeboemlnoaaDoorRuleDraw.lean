/-
  What the rules that the statements draw are: small numbers and a short text; the reader's place goes on, and nothing else that was there changes.
-/
import Derived.Test.YtennaeboemlnoaaDoorDrawWild
import Derived.Test.YtennaeboemlnoaaDoorRuleMath
import Derived.Deep.RegionHeld3
namespace Go.Proofs.YtennaeboemlnoaaDoor
open Go.ChangeShapes Go.WideShapes Go.ChangeAt Go.RowKit Go.Joins
set_option linter.unusedVariables false

/-- A drawn rule's numbers are small and its text is short. -/
def SmallR (p : Int) (s : ByteArray) (o t : Int) : Prop := (-10 ≤ p ∧ p ≤ 20) ∧ s.size ≤ 7 ∧ (-10 ≤ o ∧ o ≤ 20) ∧ (-10 ≤ t ∧ t ≤ 20)
/-- A rule is drawn by the reader at block g. -/
def RuleDrawn (g B : Nat) (w : World) (e : Ending) (w' : World) : Prop :=
  ∃ (p : Int) (s : ByteArray) (o t : Int), SmallR p s o t ∧ e = .returned (.agg #[.int .i64 p, .string s, .int .i64 o, .int .i64 t]) ∧ RdOk w' g (B + 13) ∧ w.grownBy w' (some g)

theorem gC {a w : World} {g : Nat} (h : a.grownBy w (some g)) : ∀ b o, b < a.heap.size → g < b → w.cell? ⟨b, o, none⟩ = a.cell? ⟨b, o, none⟩ := fun b o hb hg => gCell h o hb (by omega)
theorem gF {a w : World} {g : Nat} (h : a.grownBy w (some g)) : ∀ b o, b < a.heap.size → g < b → w.frozen? ⟨b, o, none⟩ = a.frozen? ⟨b, o, none⟩ := fun b o hb hg => gFrozen h o hb (by omega)
theorem gZ {a w : World} {g : Nat} (h : a.grownBy w (some g)) : ∀ b, b < a.heap.size → b < w.heap.size := fun b hb => Nat.lt_of_lt_of_le hb h.size
theorem gDrew {a w : World} {row : Option Nat} (h : a.grownBy w row) : a.grownBy w.drew row := gTrans h ⟨rfl, rfl, rfl, Nat.le_refl _, fun _ _ _ => rfl⟩
theorem quad_cells {w : World} {b : Nat} {x y z u : Value} {t : TypeId} (h : w.heap[b]? = some (.cells #[x, y, z, u] t)) :
    w.cell? ⟨b, 0, none⟩ = some x ∧ w.cell? ⟨b, 1, none⟩ = some y ∧ w.cell? ⟨b, 2, none⟩ = some z ∧ w.cell? ⟨b, 3, none⟩ = some u ∧ ∀ o, w.frozen? ⟨b, o, none⟩ = false :=
  ⟨by rw [cell_of_block h]; rfl, by rw [cell_of_block h]; rfl, by rw [cell_of_block h]; rfl, by rw [cell_of_block h]; rfl, fun o => unfrozen_of_block h o⟩

set_option maxHeartbeats 8000000 in
theorem l91Rule_any (w : World) (g B : Nat) (hr : RdOk w g B) (hB : B ≤ 10000000) :
    Calls Tryd.prog 64 #[.pointer (some ⟨g, 0, none⟩)] w (RuleDrawn g B w) := by
  have hlt := hr.lt
  have HR := Lib.hid (hr.alloc (.cells #[.int .i64 0, .string ⟨#[]⟩, .int .i64 0, .int .i64 0] 56))
  clear hr
  go_enter Tryd.func64, Tryd.ntmps64
  go_wp2_with fail
  refine (pick_any _ _ _ _ HR.out (by omega) (by omega)).mono ?_
  rintro e w1 ⟨n1, a1, c1, rfl, hr1, g1⟩
  have HR1 := Lib.hid hr1
  have s1 := g1.size
  simp at s1
  clear hr1
  go_wp2_with fail
  refine (l91Wild_any _ _ _ HR1.out (by omega)).mono ?_
  rintro e w2 ⟨s, hs, rfl, hr2, g2⟩
  have HR2 := Lib.hid hr2
  have s2 := g2.size
  clear hr2
  go_wp2_with fail
  refine (pick_any _ _ _ _ HR2.out (by omega) (by omega)).mono ?_
  rintro e w3 ⟨n3, a3, c3, rfl, hr3, g3⟩
  have HR3 := Lib.hid hr3
  have s3 := g3.size
  clear hr3
  go_wp2_with fail
  refine (pick_any _ _ _ _ HR3.out (by omega) (by omega)).mono ?_
  rintro e w4 ⟨n4, a4, c4, rfl, hr4, g4⟩
  have s4 := g4.size
  have HRx := Lib.hid (hr4.alloc (.cells #[.int .i64 n1, .string s, .int .i64 n3, .int .i64 (n4 - 1)] 56))
  clear hr4
  have G4 : Hid (w.grownBy w4 (some g)) := gTrans (gTrans (gTrans (gTrans (gAlloc (gRefl w _) _) g1) g2) g3) g4
  have R4 : Hid (w4.heap[w.heap.size]? = some (.cells #[.int .i64 0, .string ⟨#[]⟩, .int .i64 0, .int .i64 0] 56)) :=
    (g4.block _ (by omega) (someNe (by omega))).trans ((g3.block _ (by omega) (someNe (by omega))).trans ((g2.block _ (by omega) (someNe (by omega))).trans ((g1.block _ (by simp) (someNe (by omega))).trans (newBlock w _))))
  clear g1 g2 g3 g4
  go_wp2_with fail
  refine (pick_any _ _ _ _ HRx.out (by omega) (by omega)).mono ?_
  rintro e w5 ⟨v, v0, v1, rfl, hr5, g5⟩
  have HR5 := Lib.hid hr5
  have s5 := g5.size
  simp at s5
  clear hr5
  have R5 := Lib.hid ((g5.block _ (by simp; omega) (someNe (by omega))).trans ((Below.heap_alloc _ _ _ (by omega)).trans R4.out))
  have X5 := Lib.hid ((g5.block _ (by simp) (someNe (by omega))).trans (newBlock w4 (.cells #[.int .i64 n1, .string s, .int .i64 n3, .int .i64 (n4 - 1)] 56)))
  have G5 : Hid (w.grownBy w5 (some g)) := gTrans (gAlloc G4.out _) g5
  have zx : w.heap.size < w4.heap.size := by omega
  have nx : w4.heap.size ≠ w.heap.size := by omega
  clear g5 R4 G4
  by_cases hv0 : v = 0
  · subst hv0
    have HRs := Lib.hid (HR5.out.alloc (.cells #[.int .i64 (-1), .int .i64 9, .int .i64 10] 3))
    go_wp2_with fail
    refine (pick_any _ _ _ _ HRs.out (by omega) (by omega)).mono ?_
    rintro e w6 ⟨u, u0, u1, rfl, hr6, g6⟩
    have HR6 := Lib.hid (hr6.le (B' := B + 13) (by omega))
    have s6 := g6.size
    simp at s6
    clear hr6
    obtain ⟨ra, rb, rc, rd, rf⟩ := quad_cells ((g6.block _ (by simp; omega) (someNe (by omega))).trans ((Below.heap_alloc _ _ _ (by omega)).trans R5.out))
    obtain ⟨xa, xb, xc, xd, xf⟩ := quad_cells ((g6.block _ (by simp; omega) (someNe (by omega))).trans ((Below.heap_alloc _ _ _ (by omega)).trans X5.out))
    obtain ⟨la, lb, lc, lf⟩ := trip_cells ((g6.block _ (by simp) (someNe (by omega))).trans (newBlock w5 (.cells #[.int .i64 (-1), .int .i64 9, .int .i64 10] 3)))
    have G6 : Hid (w.grownBy w6 (some g)) := gTrans (gAlloc G5.out _) g6
    clear g6 R5 X5 G5
    obtain rfl | rfl | rfl : u = 0 ∨ u = 1 ∨ u = 2 := by omega
    · go_wp2
      exact bodyPost_ret (v := .agg #[.int .i64 (-1), .string s, .int .i64 n3, .int .i64 (n4 - 1)]) (by simp [results, Tryd.results64, go_sem, ra, rb, rc, rd]) rfl
        ⟨_, _, _, _, ⟨by omega, by omega, by omega, by omega⟩, rfl, (((((HR6.out).setCell (by dsimp only; omega) _).setCell (by dsimp only; omega) _).setCell (by dsimp only; omega) _).setCell (by dsimp only; omega) _).setCell (by dsimp only; omega) _, gSet (gSet (gSet (gSet (gSet (G6.out) (by dsimp only; omega) _) (by dsimp only; omega) _) (by dsimp only; omega) _) (by dsimp only; omega) _) (by dsimp only; omega) _⟩
    · go_wp2
      exact bodyPost_ret (v := .agg #[.int .i64 9, .string s, .int .i64 n3, .int .i64 (n4 - 1)]) (by simp [results, Tryd.results64, go_sem, ra, rb, rc, rd]) rfl
        ⟨_, _, _, _, ⟨by omega, by omega, by omega, by omega⟩, rfl, (((((HR6.out).setCell (by dsimp only; omega) _).setCell (by dsimp only; omega) _).setCell (by dsimp only; omega) _).setCell (by dsimp only; omega) _).setCell (by dsimp only; omega) _, gSet (gSet (gSet (gSet (gSet (G6.out) (by dsimp only; omega) _) (by dsimp only; omega) _) (by dsimp only; omega) _) (by dsimp only; omega) _) (by dsimp only; omega) _⟩
    · go_wp2
      exact bodyPost_ret (v := .agg #[.int .i64 10, .string s, .int .i64 n3, .int .i64 (n4 - 1)]) (by simp [results, Tryd.results64, go_sem, ra, rb, rc, rd]) rfl
        ⟨_, _, _, _, ⟨by omega, by omega, by omega, by omega⟩, rfl, (((((HR6.out).setCell (by dsimp only; omega) _).setCell (by dsimp only; omega) _).setCell (by dsimp only; omega) _).setCell (by dsimp only; omega) _).setCell (by dsimp only; omega) _, gSet (gSet (gSet (gSet (gSet (G6.out) (by dsimp only; omega) _) (by dsimp only; omega) _) (by dsimp only; omega) _) (by dsimp only; omega) _) (by dsimp only; omega) _⟩
  have e0 : (v == 0) = false := by simpa using hv0
  by_cases hv1 : v = 1
  · subst hv1
    have HRs := Lib.hid (HR5.out.alloc (.cells #[.int .i64 (-1), .int .i64 5] 3))
    go_wp2_with fail
    refine (pick_any _ _ _ _ HRs.out (by omega) (by omega)).mono ?_
    rintro e w6 ⟨u, u0, u1, rfl, hr6, g6⟩
    have HR6 := Lib.hid (hr6.le (B' := B + 13) (by omega))
    have s6 := g6.size
    simp at s6
    clear hr6
    obtain ⟨ra, rb, rc, rd, rf⟩ := quad_cells ((g6.block _ (by simp; omega) (someNe (by omega))).trans ((Below.heap_alloc _ _ _ (by omega)).trans R5.out))
    obtain ⟨xa, xb, xc, xd, xf⟩ := quad_cells ((g6.block _ (by simp; omega) (someNe (by omega))).trans ((Below.heap_alloc _ _ _ (by omega)).trans X5.out))
    obtain ⟨la, lb⟩ := duo_cells ((g6.block _ (by simp) (someNe (by omega))).trans (newBlock w5 (.cells #[.int .i64 (-1), .int .i64 5] 3)))
    have G6 : Hid (w.grownBy w6 (some g)) := gTrans (gAlloc G5.out _) g6
    clear g6 R5 X5 G5
    obtain rfl | rfl : u = 0 ∨ u = 1 := by omega
    · go_wp2
      exact bodyPost_ret (v := .agg #[.int .i64 n1, .string s, .int .i64 (-1), .int .i64 (n4 - 1)]) (by simp [results, Tryd.results64, go_sem, ra, rb, rc, rd]) rfl
        ⟨_, _, _, _, ⟨by omega, by omega, by omega, by omega⟩, rfl, (((((HR6.out).setCell (by dsimp only; omega) _).setCell (by dsimp only; omega) _).setCell (by dsimp only; omega) _).setCell (by dsimp only; omega) _).setCell (by dsimp only; omega) _, gSet (gSet (gSet (gSet (gSet (G6.out) (by dsimp only; omega) _) (by dsimp only; omega) _) (by dsimp only; omega) _) (by dsimp only; omega) _) (by dsimp only; omega) _⟩
    · go_wp2
      exact bodyPost_ret (v := .agg #[.int .i64 n1, .string s, .int .i64 5, .int .i64 (n4 - 1)]) (by simp [results, Tryd.results64, go_sem, ra, rb, rc, rd]) rfl
        ⟨_, _, _, _, ⟨by omega, by omega, by omega, by omega⟩, rfl, (((((HR6.out).setCell (by dsimp only; omega) _).setCell (by dsimp only; omega) _).setCell (by dsimp only; omega) _).setCell (by dsimp only; omega) _).setCell (by dsimp only; omega) _, gSet (gSet (gSet (gSet (gSet (G6.out) (by dsimp only; omega) _) (by dsimp only; omega) _) (by dsimp only; omega) _) (by dsimp only; omega) _) (by dsimp only; omega) _⟩
  have e1 : (v == 1) = false := by simpa using hv1
  by_cases hv2 : v = 2
  · subst hv2
    have HRs := Lib.hid (HR5.out.alloc (.cells #[.int .i64 (-2), .int .i64 4] 3))
    go_wp2_with fail
    refine (pick_any _ _ _ _ HRs.out (by omega) (by omega)).mono ?_
    rintro e w6 ⟨u, u0, u1, rfl, hr6, g6⟩
    have HR6 := Lib.hid (hr6.le (B' := B + 13) (by omega))
    have s6 := g6.size
    simp at s6
    clear hr6
    obtain ⟨ra, rb, rc, rd, rf⟩ := quad_cells ((g6.block _ (by simp; omega) (someNe (by omega))).trans ((Below.heap_alloc _ _ _ (by omega)).trans R5.out))
    obtain ⟨xa, xb, xc, xd, xf⟩ := quad_cells ((g6.block _ (by simp; omega) (someNe (by omega))).trans ((Below.heap_alloc _ _ _ (by omega)).trans X5.out))
    obtain ⟨la, lb⟩ := duo_cells ((g6.block _ (by simp) (someNe (by omega))).trans (newBlock w5 (.cells #[.int .i64 (-2), .int .i64 4] 3)))
    have G6 : Hid (w.grownBy w6 (some g)) := gTrans (gAlloc G5.out _) g6
    clear g6 R5 X5 G5
    obtain rfl | rfl : u = 0 ∨ u = 1 := by omega
    · go_wp2
      exact bodyPost_ret (v := .agg #[.int .i64 n1, .string s, .int .i64 n3, .int .i64 (-2)]) (by simp [results, Tryd.results64, go_sem, ra, rb, rc, rd]) rfl
        ⟨_, _, _, _, ⟨by omega, by omega, by omega, by omega⟩, rfl, (((((HR6.out).setCell (by dsimp only; omega) _).setCell (by dsimp only; omega) _).setCell (by dsimp only; omega) _).setCell (by dsimp only; omega) _).setCell (by dsimp only; omega) _, gSet (gSet (gSet (gSet (gSet (G6.out) (by dsimp only; omega) _) (by dsimp only; omega) _) (by dsimp only; omega) _) (by dsimp only; omega) _) (by dsimp only; omega) _⟩
    · go_wp2
      exact bodyPost_ret (v := .agg #[.int .i64 n1, .string s, .int .i64 n3, .int .i64 4]) (by simp [results, Tryd.results64, go_sem, ra, rb, rc, rd]) rfl
        ⟨_, _, _, _, ⟨by omega, by omega, by omega, by omega⟩, rfl, (((((HR6.out).setCell (by dsimp only; omega) _).setCell (by dsimp only; omega) _).setCell (by dsimp only; omega) _).setCell (by dsimp only; omega) _).setCell (by dsimp only; omega) _, gSet (gSet (gSet (gSet (gSet (G6.out) (by dsimp only; omega) _) (by dsimp only; omega) _) (by dsimp only; omega) _) (by dsimp only; omega) _) (by dsimp only; omega) _⟩
  have e2 : (v == 2) = false := by simpa using hv2
  obtain ⟨ra, rb, rc, rd, rf⟩ := quad_cells R5.out
  obtain ⟨xa, xb, xc, xd, xf⟩ := quad_cells X5.out
  have HR6 := Lib.hid (HR5.out.le (B' := B + 13) (by omega))
  go_wp2
  exact bodyPost_ret (v := .agg #[.int .i64 n1, .string s, .int .i64 n3, .int .i64 (n4 - 1)]) (by simp [results, Tryd.results64, go_sem, ra, rb, rc, rd]) rfl
    ⟨_, _, _, _, ⟨by omega, by omega, by omega, by omega⟩, rfl, ((((HR6.out).setCell (by dsimp only; omega) _).setCell (by dsimp only; omega) _).setCell (by dsimp only; omega) _).setCell (by dsimp only; omega) _, gSet (gSet (gSet (gSet (G5.out) (by dsimp only; omega) _) (by dsimp only; omega) _) (by dsimp only; omega) _) (by dsimp only; omega) _⟩

end Go.Proofs.YtennaeboemlnoaaDoor
