/-
  What the heads that the statements draw are: three numbers from -1 to 4; the reader's place goes on, and nothing else that was there changes.
-/
import Derived.Test.YtndmedkkecikoaaHeadB
import Derived.Test.YtndmedkkecikoaaPick
namespace Go.Proofs.Ytndmedkkecikoaa
open Go.ChangeShapes Go.WideShapes Go.ChangeAt Go.RowKit Go.Joins
set_option linter.unusedVariables false

/-- Three numbers from -1 to 4. -/
def Near (a b c : Int) : Prop := (-1 ≤ a ∧ a ≤ 4) ∧ (-1 ≤ b ∧ b ≤ 4) ∧ (-1 ≤ c ∧ c ≤ 4)
/-- A head is drawn by the reader at block g. -/
def HeadDrawn (g B : Nat) (w : World) (e : Ending) (w' : World) : Prop :=
  ∃ a b c : Int, Near a b c ∧ e = .returned (.agg #[.int .i64 a, .int .i64 b, .int .i64 c]) ∧ RdOk w' g (B + 3) ∧ w.grownBy w' (some g)

theorem trip_cells {w : World} {b : Nat} {x y z : Value} {t : TypeId} (h : w.heap[b]? = some (.cells #[x, y, z] t)) :
    w.cell? ⟨b, 0, none⟩ = some x ∧ w.cell? ⟨b, 1, none⟩ = some y ∧ w.cell? ⟨b, 2, none⟩ = some z ∧ ∀ o, w.frozen? ⟨b, o, none⟩ = false :=
  ⟨by rw [cell_of_block h]; rfl, by rw [cell_of_block h]; rfl, by rw [cell_of_block h]; rfl, fun o => unfrozen_of_block h o⟩
theorem duo_cells {w : World} {b : Nat} {x y : Value} {t : TypeId} (h : w.heap[b]? = some (.cells #[x, y] t)) : w.cell? ⟨b, 0, none⟩ = some x ∧ w.cell? ⟨b, 1, none⟩ = some y :=
  ⟨by rw [cell_of_block h]; rfl, by rw [cell_of_block h]; rfl⟩
theorem someNe {a b : Nat} (h : a ≠ b) : some a ≠ some b := fun e => h (by injection e)
theorem newBlock (w : World) (o : Obj) : (w.alloc o).heap[w.heap.size]? = some o := (MapKept.heap_alloc w o).1

set_option maxHeartbeats 1000000 in
theorem l91Head_any (w : World) (g B : Nat) (hr : RdOk w g B) (hB : B ≤ 100000000) :
    Calls Try.prog 53 #[.pointer (some ⟨g, 0, none⟩)] w (HeadDrawn g B w) := by
  have hlt := hr.lt
  have HR := Lib.hid hr
  clear hr
  go_enter Try.func53, Try.ntmps53
  go_wp2_with fail
  refine (pick_any _ _ B _ (HR.out.alloc _) (by omega) (by omega)).mono ?_
  rintro e w1 ⟨n, n0, n1, rfl, hr1, g1⟩
  have HR1 := Lib.hid hr1
  have s1 := g1.size
  simp at s1
  clear hr1
  go_wp2_with fail
  refine (l1Of_any _ n0 (by omega) _).mono ?_
  rintro e w2 ⟨rfl, b2⟩
  have s2 := b2.size
  have HR2 := Lib.hid ((HR1.out.below b2 (by omega)).alloc (.cells #[.int .i64 (n / 16), .int .i64 (n / 4 % 4), .int .i64 (n % 4)] 25))
  go_wp2_with fail
  refine (pick_any _ _ _ _ HR2.out (by omega) (by omega)).mono ?_
  rintro e w3 ⟨v, v0, v1, rfl, hr3, g3⟩
  have HR3 := Lib.hid hr3
  clear hr3
  have s3 := g3.size
  simp at s3
  -- the result's block, and the head's
  have r0 := Lib.hid (newBlock w (.cells #[.int .i64 0, .int .i64 0, .int .i64 0] 25))
  have r1 : Hid (w1.heap[w.heap.size]? = some (.cells #[.int .i64 0, .int .i64 0, .int .i64 0] 25)) := (g1.block _ (by simp) (by intro e; cases e; omega)).trans r0.out
  have r2 : Hid (w2.heap[w.heap.size]? = some (.cells #[.int .i64 0, .int .i64 0, .int .i64 0] 25)) := (b2.block _ (by omega)).trans r1.out
  have r3 : Hid (w3.heap[w.heap.size]? = some (.cells #[.int .i64 0, .int .i64 0, .int .i64 0] 25)) := (g3.block _ (by simp; omega) (by intro e; cases e; omega)).trans ((Below.heap_alloc _ _ _ (by omega)).trans r2.out)
  have h2 := Lib.hid (newBlock w2 (.cells #[.int .i64 (n / 16), .int .i64 (n / 4 % 4), .int .i64 (n % 4)] 25))
  have h3 : Hid (w3.heap[w2.heap.size]? = some (.cells #[.int .i64 (n / 16), .int .i64 (n / 4 % 4), .int .i64 (n % 4)] 25)) := (g3.block _ (by simp) (by intro e; cases e; omega)).trans h2.out
  have G3 : Hid (w.grownBy w3 (some g)) := gTrans (gAlloc (gBelow (gTrans (gAlloc (gRefl w _) _) g1) b2 (by omega)) _) g3
  have z0 : w.heap.size < w2.heap.size := by omega
  have ne2 : w2.heap.size ≠ w.heap.size := by omega
  clear r0 r1 r2 h2 HR1 HR2 g1 g3 b2
  by_cases hv0 : v = 0
  · subst hv0
    have HRs := Lib.hid (HR3.out.alloc (.cells #[.int .i64 (-1), .int .i64 4] 3))
    clear HR3
    go_wp2_with fail
    refine (pick_any _ _ _ _ HRs.out (by omega) (by omega)).mono ?_
    rintro e w4 ⟨u, u0, u1, rfl, hr4, g4⟩
    have HR4 := Lib.hid hr4
    clear hr4
    have s4 := g4.size
    simp at s4
    have r4 := trip_cells ((g4.block _ (by simp; omega) (by intro e; cases e; omega)).trans ((Below.heap_alloc _ _ _ (by omega)).trans r3.out))
    have h4 := trip_cells ((g4.block _ (by simp; omega) (by intro e; cases e; omega)).trans ((Below.heap_alloc _ _ _ (by omega)).trans h3.out))
    have l4 := duo_cells ((g4.block _ (by simp) (by intro e; cases e; omega)).trans (newBlock w3 (.cells #[.int .i64 (-1), .int .i64 4] 3)))
    obtain ⟨ra, rb, rc, rf⟩ := r4
    obtain ⟨ha, hb, hc, hf⟩ := h4
    obtain ⟨la, lb⟩ := l4
    have G4 : Hid (w.grownBy w4 (some g)) := gTrans (gAlloc G3.out _) g4
    clear g4 r3 h3 G3
    obtain rfl | rfl : u = 0 ∨ u = 1 := by omega
    · go_wp2
      exact bodyPost_ret (v := .agg #[.int .i64 (-1), .int .i64 (n / 4 % 4), .int .i64 (n % 4)]) (by simp [results, Try.results53, go_sem, ra, rb, rc]) rfl
        ⟨_, _, _, ⟨by omega, by omega, by omega⟩, rfl, ((((HR4.out).setCell (by dsimp only; omega) _).setCell (by dsimp only; omega) _).setCell (by dsimp only; omega) _).setCell (by dsimp only; omega) _, gSet (gSet (gSet (gSet G4.out (by dsimp only; omega) _) (by dsimp only; omega) _) (by dsimp only; omega) _) (by dsimp only; omega) _⟩
    · go_wp2
      exact bodyPost_ret (v := .agg #[.int .i64 4, .int .i64 (n / 4 % 4), .int .i64 (n % 4)]) (by simp [results, Try.results53, go_sem, ra, rb, rc]) rfl
        ⟨_, _, _, ⟨by omega, by omega, by omega⟩, rfl, ((((HR4.out).setCell (by dsimp only; omega) _).setCell (by dsimp only; omega) _).setCell (by dsimp only; omega) _).setCell (by dsimp only; omega) _, gSet (gSet (gSet (gSet G4.out (by dsimp only; omega) _) (by dsimp only; omega) _) (by dsimp only; omega) _) (by dsimp only; omega) _⟩
  · have e0 : (v == 0) = false := by simpa using hv0
    by_cases hv1 : v = 1
    · subst hv1
      have HRs := Lib.hid (HR3.out.alloc (.cells #[.int .i64 (-1), .int .i64 4] 3))
      clear HR3
      go_wp2_with fail
      refine (pick_any _ _ _ _ HRs.out (by omega) (by omega)).mono ?_
      rintro e w4 ⟨u, u0, u1, rfl, hr4, g4⟩
      have HR4 := Lib.hid hr4
      clear hr4
      have s4 := g4.size
      simp at s4
      have r4 := trip_cells ((g4.block _ (by simp; omega) (by intro e; cases e; omega)).trans ((Below.heap_alloc _ _ _ (by omega)).trans r3.out))
      have h4 := trip_cells ((g4.block _ (by simp; omega) (by intro e; cases e; omega)).trans ((Below.heap_alloc _ _ _ (by omega)).trans h3.out))
      have l4 := duo_cells ((g4.block _ (by simp) (by intro e; cases e; omega)).trans (newBlock w3 (.cells #[.int .i64 (-1), .int .i64 4] 3)))
      obtain ⟨ra, rb, rc, rf⟩ := r4
      obtain ⟨ha, hb, hc, hf⟩ := h4
      obtain ⟨la, lb⟩ := l4
      have G4 : Hid (w.grownBy w4 (some g)) := gTrans (gAlloc G3.out _) g4
      clear g4 r3 h3 G3
      obtain rfl | rfl : u = 0 ∨ u = 1 := by omega
      · go_wp2
        exact bodyPost_ret (v := .agg #[.int .i64 (n / 16), .int .i64 (n / 4 % 4), .int .i64 (-1)]) (by simp [results, Try.results53, go_sem, ra, rb, rc]) rfl
          ⟨_, _, _, ⟨by omega, by omega, by omega⟩, rfl, ((((HR4.out).setCell (by dsimp only; omega) _).setCell (by dsimp only; omega) _).setCell (by dsimp only; omega) _).setCell (by dsimp only; omega) _, gSet (gSet (gSet (gSet G4.out (by dsimp only; omega) _) (by dsimp only; omega) _) (by dsimp only; omega) _) (by dsimp only; omega) _⟩
      · go_wp2
        exact bodyPost_ret (v := .agg #[.int .i64 (n / 16), .int .i64 (n / 4 % 4), .int .i64 4]) (by simp [results, Try.results53, go_sem, ra, rb, rc]) rfl
          ⟨_, _, _, ⟨by omega, by omega, by omega⟩, rfl, ((((HR4.out).setCell (by dsimp only; omega) _).setCell (by dsimp only; omega) _).setCell (by dsimp only; omega) _).setCell (by dsimp only; omega) _, gSet (gSet (gSet (gSet G4.out (by dsimp only; omega) _) (by dsimp only; omega) _) (by dsimp only; omega) _) (by dsimp only; omega) _⟩
    · have e1 : (v == 1) = false := by simpa using hv1
      obtain ⟨ra, rb, rc, rf⟩ := trip_cells r3.out
      obtain ⟨ha, hb, hc, hf⟩ := trip_cells h3.out
      have HR5 := Lib.hid (HR3.out.le (B' := B + 3) (by omega))
      clear HR3
      go_wp2
      exact bodyPost_ret (v := .agg #[.int .i64 (n / 16), .int .i64 (n / 4 % 4), .int .i64 (n % 4)]) (by simp [results, Try.results53, go_sem, ra, rb, rc]) rfl
        ⟨_, _, _, ⟨by omega, by omega, by omega⟩, rfl, (((HR5.out).setCell (by dsimp only; omega) _).setCell (by dsimp only; omega) _).setCell (by dsimp only; omega) _, gSet (gSet (gSet G3.out (by dsimp only; omega) _) (by dsimp only; omega) _) (by dsimp only; omega) _⟩

/-- A head is drawn from a code. -/
def HeadCoded (w : World) (e : Ending) (w' : World) : Prop := ∃ a b c : Int, Near a b c ∧ e = .returned (.agg #[.int .i64 a, .int .i64 b, .int .i64 c]) ∧ Below w.heap.size w w'

end Go.Proofs.Ytndmedkkecikoaa
