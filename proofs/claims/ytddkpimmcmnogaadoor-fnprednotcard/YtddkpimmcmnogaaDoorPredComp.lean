/-
  What the program's reading of a condition that is made of others returns.
-/
import Derived.Test.YtddkpimmcmnogaaDoorPredField
import Derived.LoopN
import Derived.OwnWalk
import Derived.Deep.Onto
namespace Go.Proofs.YtddkpimmcmnogaaDoor
open Go.ChangeShapes Go.WideShapes Go.ChangeAt Go.RowKit Go.Joins
set_option linter.unusedVariables false

/-- A row of one condition, and of two. -/
theorem rowOne {w : World} {base : Nat} {v x0 x1 x2 : Value} (h : w.ownsRow base 47 3 v 1 [x0, x1, x2]) :
    ∃ g cap : Nat, v = .slice (some ⟨g, 0, none⟩) 1 cap ∧ base ≤ g ∧ g < w.heap.size ∧ w.cell? ⟨g, 0, none⟩ = some x0 ∧ w.cell? ⟨g, 1, none⟩ = some x1 ∧ w.cell? ⟨g, 2, none⟩ = some x2 := by
  have h0 := h
  obtain ⟨hl, h1 | ⟨g, cap, cur, rfl, hb, hg, hc, hm, hs, ht⟩⟩ := h
  · exact absurd h1.2 (by omega)
  · exact ⟨g, cap, rfl, hb, (World.ownsRow.lt h0 g rfl).2, World.ownsRow.cellAt h0 0 (by simp), World.ownsRow.cellAt h0 1 (by simp), World.ownsRow.cellAt h0 2 (by simp)⟩
theorem rowTwo {w : World} {base : Nat} {v x0 x1 x2 y0 y1 y2 : Value} (h : w.ownsRow base 47 3 v 2 [x0, x1, x2, y0, y1, y2]) :
    ∃ g cap : Nat, v = .slice (some ⟨g, 0, none⟩) 2 cap ∧ base ≤ g ∧ g < w.heap.size ∧ (w.cell? ⟨g, 0, none⟩ = some x0 ∧ w.cell? ⟨g, 1, none⟩ = some x1 ∧ w.cell? ⟨g, 2, none⟩ = some x2) ∧ w.cell? ⟨g, 3, none⟩ = some y0 ∧ w.cell? ⟨g, 4, none⟩ = some y1 ∧ w.cell? ⟨g, 5, none⟩ = some y2 := by
  have h0 := h
  obtain ⟨hl, h1 | ⟨g, cap, cur, rfl, hb, hg, hc, hm, hs, ht⟩⟩ := h
  · exact absurd h1.2 (by omega)
  · exact ⟨g, cap, rfl, hb, (World.ownsRow.lt h0 g rfl).2, ⟨World.ownsRow.cellAt h0 0 (by simp), World.ownsRow.cellAt h0 1 (by simp), World.ownsRow.cellAt h0 2 (by simp)⟩, World.ownsRow.cellAt h0 3 (by simp), World.ownsRow.cellAt h0 4 (by simp), World.ownsRow.cellAt h0 5 (by simp)⟩
/-- The three cells of a result's block. -/
theorem trioCellsP {w : World} {b : Nat} {t : TypeId} {x y z : Value} (h : w.heap[b]? = some (.cells #[x, y, z] t)) :
    w.cell? ⟨b, 0, none⟩ = some x ∧ w.cell? ⟨b, 1, none⟩ = some y ∧ w.cell? ⟨b, 2, none⟩ = some z ∧ ∀ j, w.frozen? ⟨b, j, none⟩ = false :=
  ⟨by rw [cell_of_block h]; rfl, by rw [cell_of_block h]; rfl, by rw [cell_of_block h]; rfl, fun j => unfrozen_of_block h j⟩

set_option maxRecDepth 100000 in
set_option maxHeartbeats 4000000 in
theorem readComp_neg (a : Cnd) (r : List UInt8) (hl : a.txt.length + r.length ≤ 1048576) (ep : Addr) (w : World) (hE : w.cell? ⟨0, 0, none⟩ = some (errV ep))
    (hA : ∀ W : World, W.cell? ⟨0, 0, none⟩ = some (errV ep) → Calls Tryd.prog 61 #[.string (bs (a.txt ++ r))] W (Read a r W)) :
    Calls Tryd.prog 80 #[.string (bs (33 :: (a.txt ++ r))), .int .i64 1] w (Read (.neg a) r w) := by
  have hg := World.block_lt_of_cell? _ _ hE
  have f2 := slice1 33 (a.txt ++ r)
  have hsz : (bs (33 :: (a.txt ++ r))).size = a.txt.length + r.length + 1 := by simp [bs_size]
  have hsr : (bs r).size = r.length := bs_size _
  have f3 : ∀ W : World, (Instr.slice 9 (.string (bs (33 :: (a.txt ++ r)))) none (some (.int .i64 (((bs (33 :: (a.txt ++ r))).size : Int) - ((bs r).size : Int)))) none).run Tryd.prog W = .ok (.string (bs (Cnd.neg a).txt)) W := fun W => by
    rw [hsz, hsr, show ((a.txt.length + r.length + 1 : Nat) : Int) - (r.length : Int) = ((33 :: a.txt).length : Int) from by simp; omega]
    exact sliceTo (33 :: a.txt) r W
  have hs0 : 0 < (bs (33 :: (a.txt ++ r))).size := by omega
  have hb1 : (bs (33 :: (a.txt ++ r)))[0]'hs0 = 33 := rfl
  have hL : (bs (33 :: (a.txt ++ r))).size ≤ 2000000 := by omega
  have hu : (bs r).size ≤ (bs (33 :: (a.txt ++ r))).size := by omega
  have HA : Hid (∀ W : World, Below w.heap.size w W → Calls Tryd.prog 61 #[.string (bs (a.txt ++ r))] W (Read a r W)) := fun W hb => hA W (cellLater hE hb)
  obtain ⟨i0, hi, hz0, hz1, hz2⟩ := info_parts infoPred
  have HI := Lib.hid hi
  have HZ0 := Lib.hid hz0
  have HZ1 := Lib.hid hz1
  have HZ2 := Lib.hid hz2
  clear hA hi hz0 hz1 hz2 hsz hsr hE
  have HG : Hid (∀ (W : World) (q : Addr) (x1 x2 : Value), (∃ r cap : Nat, x1 = .slice (some ⟨r, 0, none⟩) 1 cap ∧ w.heap.size ≤ r ∧ ∃ y0 y1 y2, W.cell? ⟨r, 0, none⟩ = some y0 ∧ W.cell? ⟨r, 1, none⟩ = some y1 ∧ W.cell? ⟨r, 2, none⟩ = some y2 ∧ CRep W w.heap.size a y0 y1 y2) → FnOk W w.heap.size x2 (evn (.neg a)) → CRep W w.heap.size (.neg a) (.string (bs (Cnd.neg a).txt)) x1 x2) :=
    fun W q x1 x2 h1 h2 => ⟨rfl, h1, h2⟩
  generalize bs (Cnd.neg a).txt = tw at *
  generalize bs (33 :: (a.txt ++ r)) = s at *
  generalize bs (a.txt ++ r) = t at *
  unfold Read at HA ⊢
  generalize bs r = u at *
  go_enter Tryd.func80, Tryd.ntmps80
  go_wp2_with fail
  refine wp_loop_rounds 2 ?_
  rw [rounds_succ]
  go_wp2_with fail
  refine (HA.out _ (below_alloc1 _ _)).mono ?_
  rintro e w1 ⟨x0, x1, x2, rfl, hR, b1⟩
  have HR : Hid (CRep w1 (w.heap.size + 1) a x0 x1 x2) := by
    show CRep w1 (w.heap.size + 1) a x0 x1 x2
    simpa using hR
  obtain ⟨ad, n1, c1, k1, caps, rfl, rfl, rfl⟩ := hR.form
  have s1 := b1.size
  simp at s1
  have R1 : Hid (w1.heap[w.heap.size]? = some (.cells #[.string ⟨#[]⟩, .slice none 0 0, .nilFunc] 47)) := (b1.block _ (by simp)).trans (heap_alloc_new w _)
  have B1 : Hid (Below w.heap.size w w1) := (below_alloc1 _ _).trans (b1.mono (by simp))
  clear hR b1 HA
  generalize bs a.txt = ta at *
  go_wp2_with (at_builtin; refine wpList_append_own _ rfl _ _ 44 rfl w1.heap.size 47 i0 (.agg #[.string ⟨#[]⟩, .slice none 0 0, .nilFunc]) 3 48 Tryd.underlying44 HI.out HZ0.out HZ1.out HZ2.out rfl (by decide) _ _ _ rfl (World.ownsRow_nil _ _ _ _) ⟨w1.heap.size + 1, 0, none⟩ 1 1 [.string ta, .slice ad n1 c1, .func (.func k1) #[] caps] rfl rfl ?c1 ?c2 ?c3 ?c4 ?c5 ?_)
  case c1 =>
    intro j u hj
    match j, hj with
    | 0, hj => simp at hj; subst hj; simp [Addr.add]
    | 1, hj => simp at hj; subst hj; simp [Addr.add]
    | 2, hj => simp at hj; subst hj; simp [Addr.add]
  case c2 => intro u hu; simp at hu; rcases hu with rfl | rfl | rfl <;> rfl
  case c3 => unfold maxLen; omega
  case c4 => omega
  case c5 => simp; omega
  intro v' w5 hown5 hg5 hnil5
  clear hnil5
  have s5 := hg5.size
  simp at s5
  have B5 : Hid (Below w1.heap.size w1 w5) := (below_alloc2 _ _ _).trans ⟨hg5.os, hg5.tape, hg5.output, hg5.size, fun i hi => hg5.block i (by simp; omega) (by simp [Value.ownBlock])⟩
  obtain ⟨g, cap, rfl, hgb, hgl, e0, e1, e2⟩ := rowOne hown5
  have E0 := Lib.hid e0
  have E1 := Lib.hid e1
  have E2 := Lib.hid e2
  clear hown5 hg5 e0 e1 e2
  go_wp2_with fail
  rw [rounds_succ]
  go_wp2_with fail
  refine (compoundHolds_any 33 (.inl rfl) _ _ _ _ rfl _).mono ?_
  rintro e w6 ⟨rfl, hc6, b6⟩
  have s6 := b6.size
  have R6 : Hid (w6.heap[w.heap.size]? = some (.cells #[.string ⟨#[]⟩, .slice none 0 0, .nilFunc] 47)) := (b6.block _ (by omega)).trans ((B5.out.block _ (by omega)).trans R1.out)
  have hlt := World.block_lt_of_cell? _ _ hc6
  simp at hlt
  have HC6 := Lib.hid hc6
  have A6 : Hid (Ag (w.heap.size + 1) w1 w6) := (Ag.of B5.out (Nat.le_refl _)).trans (Ag.of b6 (Nat.le_refl _))
  have HB6 : Hid (Below w.heap.size w w6) := B1.out.trans ((B5.out.mono (by omega)).trans (b6.mono (by omega)))
  have K0 : Hid (w6.cell? ⟨g, 0, none⟩ = some (.string ta)) := cellLater E0.out b6
  have K1 : Hid (w6.cell? ⟨g, 1, none⟩ = some (.slice ad n1 c1)) := cellLater E1.out b6
  have K2 : Hid (w6.cell? ⟨g, 2, none⟩ = some (.func (.func k1) #[] caps)) := cellLater E2.out b6
  obtain ⟨ra, rb, rc, rf⟩ := trioCellsP R6.out
  have z0 : w.heap.size < w6.heap.size := by omega
  have hng : g ≠ w.heap.size := by omega
  have hnb : w5.heap.size ≠ w.heap.size := by omega
  clear hc6 b6 B5 B1 R1 E0 E1 E2 R6
  go_wp2
  have AF : Ag (w.heap.size + 1) w6 (((w6.setCell ⟨w.heap.size, 0, none⟩ (.string tw)).setCell ⟨w.heap.size, 1, none⟩ (.slice (some ⟨g, 0, none⟩) 1 cap)).setCell ⟨w.heap.size, 2, none⟩ (.func (.func 90) #[] #[.pointer (some ⟨w5.heap.size, 0, none⟩)])) :=
    (((Ag.refl _ _).set (by show w.heap.size < _; omega) _).set (by show w.heap.size < _; omega) _).set (by show w.heap.size < _; omega) _
  refine bodyPost_ret (v := .tuple #[.agg #[.string tw, .slice (some ⟨g, 0, none⟩) 1 cap, .func (.func 90) #[] #[.pointer (some ⟨w5.heap.size, 0, none⟩)]], .string u, .nilIface]) (by simp [results, Tryd.results80, go_sem, ra, rb, rc]) rfl ?_
  have hRf := CRep.mono (base' := w.heap.size) (by omega) (CRep.later (A6.out.trans AF) HR.out)
  have k0 := cellAg K0.out (by omega) AF
  have k1 := cellAg K1.out (by omega) AF
  have k2 := cellAg K2.out (by omega) AF
  have k6 := cellAg HC6.out (by omega) AF
  exact ⟨_, _, _, rfl, HG.out _ ⟨0, 0, none⟩ _ _ ⟨g, cap, rfl, by omega, _, _, _, k0, k1, k2, hRf⟩ (negFn_ok a _ _ g cap _ _ (by omega) (by omega) k6 k2 hRf.fn),
    ((HB6.out.setCell (Nat.le_refl _) _).setCell (Nat.le_refl _) _).setCell (Nat.le_refl _) _⟩

end Go.Proofs.YtddkpimmcmnogaaDoor
