/-
  What the program's reading of the condition with which a text begins returns.
-/
import Derived.Test.YtddkpimmcmnogaaDoorPredCompB
namespace Go.Proofs.YtddkpimmcmnogaaDoor
open Go.ChangeShapes Go.WideShapes Go.ChangeAt Go.RowKit Go.Joins
set_option linter.unusedVariables false

set_option maxRecDepth 100000 in
set_option maxHeartbeats 4000000 in
theorem readComp_fail1 (k : UInt8) (l : List UInt8) (hl : l.length ≤ 1048576) (n : Int) (hn : 0 < n) (ep : Addr) (w : World) (hE : w.cell? ⟨0, 0, none⟩ = some (errV ep))
    (hA : ∀ W : World, W.cell? ⟨0, 0, none⟩ = some (errV ep) → Calls Tryd.prog 61 #[.string (bs l)] W (Fails ep W)) :
    Calls Tryd.prog 80 #[.string (bs (k :: l)), .int .i64 n] w (Fails ep w) := by
  have hg := World.block_lt_of_cell? _ _ hE
  have f2 := slice1 k l
  have HA : Hid (∀ W : World, Below w.heap.size w W → Calls Tryd.prog 61 #[.string (bs l)] W (Fails ep W)) := fun W hb => hA W (cellLater hE hb)
  have hL : (bs (k :: l)).size ≤ 2000000 := by rw [bs_size]; simp; omega
  clear hA hE hl
  unfold Fails errV at *
  generalize bs (k :: l) = s at *
  generalize bs l = t at *
  go_enter Tryd.func80, Tryd.ntmps80
  go_wp2_with fail
  refine wp_loop_rounds 1 ?_
  rw [rounds_succ]
  go_wp2_with fail
  refine (HA.out _ (below_alloc1 _ _)).mono ?_
  rintro e w1 ⟨rfl, b1⟩
  have s1 := b1.size
  simp at s1
  have R1 : Hid (w1.heap[w.heap.size]? = some (.cells #[.string ⟨#[]⟩, .slice none 0 0, .nilFunc] 47)) := (b1.block _ (by simp)).trans (heap_alloc_new w _)
  have B1 : Hid (Below w.heap.size w w1) := (below_alloc1 _ _).trans (b1.mono (by simp))
  obtain ⟨ra, rb, rc, rf⟩ := trioCellsP R1.out
  have z0 : w.heap.size < w1.heap.size := by omega
  have n0 : w.heap.size ≠ w1.heap.size := by omega
  clear b1 HA R1
  go_wp2
  refine bodyPost_ret (v := .tuple #[.agg #[.string ⟨#[]⟩, .slice none 0 0, .nilFunc], .string ⟨#[]⟩, .iface 126 (.pointer (some ep))]) (by simp [results, Tryd.results80, go_sem, ra, rb, rc, z0]) rfl ?_
  exact ⟨rfl, by repeat (first | exact B1.out | refine Below.drew ?_ | refine Below.setCell ?_ (by first | exact Nat.le_refl _ | (simp; omega)) _ | refine Below.alloc ?_ (by first | omega | (simp; omega)) _)⟩

set_option maxHeartbeats 1000000 in
theorem first_one (x : UInt8) (b : Bool) (hx : x = 48 ∧ b = false ∨ x = 49 ∧ b = true) (r : List UInt8) (hl : r.length ≤ 1048576) (w : World) :
    Calls Tryd.prog 61 #[.string (bs (x :: r))] w (Read (.one b) r w) := by
  have f2 := slice1 x r
  have f3 : ∀ W : World, (Instr.slice 9 (.string (bs (x :: r))) none (some (.int .i64 1)) none).run Tryd.prog W = .ok (.string (bs [x])) W := sliceTo [x] r
  have hs0 : 0 < (bs (x :: r)).size := by simp [bs_size]
  have hb1 : (bs (x :: r))[0]'hs0 = x := rfl
  have hq : ((bs (x :: r)).toList == []) = false := by rw [bs_toList]; rfl
  have hL : (bs (x :: r)).size ≤ 2000000 := by rw [bs_size]; simp; omega
  have HC : Hid (∀ W : World, Calls Tryd.prog 75 #[.string (bs [x])] W fun e w' => ∃ x0 x1 x2, e = .returned (.agg #[x0, x1, x2]) ∧ CRep w' W.heap.size (.one b) x0 x1 x2 ∧ Below W.heap.size W w') := by
    have h := constantPred_any b
    rcases hx with ⟨rfl, rfl⟩ | ⟨rfl, rfl⟩
    · exact h
    · exact h
  have HC2 : Hid (Calls Tryd.prog 75 #[.string (bs [x])] (w.alloc (.cells #[.string ⟨#[]⟩, .slice none 0 0, .nilFunc] 47)).drew fun e w1 => ∃ (ad : Option Addr) (n1 c1 k1 : Nat) (caps : Array Value),
      e = .returned (.agg #[.string (bs (Cnd.one b).txt), .slice ad n1 c1, .func (.func k1) #[] caps]) ∧ Hid (CRep w1 (w.heap.size + 1) (.one b) (.string (bs (Cnd.one b).txt)) (.slice ad n1 c1) (.func (.func k1) #[] caps)) ∧ Hid (Below w.heap.size w w1) ∧
      w1.cell? ⟨w.heap.size, 0, none⟩ = some (.string ⟨#[]⟩) ∧ w1.cell? ⟨w.heap.size, 1, none⟩ = some (.slice none 0 0) ∧ w1.cell? ⟨w.heap.size, 2, none⟩ = some .nilFunc ∧ (∀ j, w1.frozen? ⟨w.heap.size, j, none⟩ = false) ∧ w.heap.size < w1.heap.size) := by
    refine (HC.out _).mono ?_
    rintro e w1 ⟨x0, x1, x2, rfl, hR, b1⟩
    obtain ⟨ad, n1, c1, k1, caps, rfl, rfl, rfl⟩ := hR.form
    have s1 := b1.size
    obtain ⟨ra, rb, rc, rf⟩ := trioCellsP ((b1.block w.heap.size (by simp [World.drew])).trans (heap_alloc_new w _))
    have hs : ((w.alloc (.cells #[.string ⟨#[]⟩, .slice none 0 0, .nilFunc] 47)).drew).heap.size = w.heap.size + 1 := by simp [World.drew]
    rw [hs] at hR b1 s1
    exact ⟨ad, n1, c1, k1, caps, rfl, hR, (below_alloc1 _ _).drew.trans (b1.mono (by omega)), ra, rb, rc, rf, by omega⟩
  have HG : Hid (∀ (W : World) (x1 x2 : Value), CRep W w.heap.size (.one b) (.string (bs (Cnd.one b).txt)) x1 x2 → CRep W w.heap.size (.one b) (.string (bs (Cnd.one b).txt)) x1 x2) := fun W x1 x2 h => h
  unfold Read
  clear HC hl
  generalize bs (x :: r) = s at *
  generalize bs [x] = s1 at *
  generalize bs (Cnd.one b).txt = tw at *
  generalize bs r = u at *
  rcases hx with ⟨rfl, rfl⟩ | ⟨rfl, rfl⟩
  all_goals
    go_enter Tryd.func61, Tryd.ntmps61
    go_wp2_with fail
    go_region_with (go_at_call 75; (with_reducible refine HC2.out.mono ?_); rintro e w1 ⟨ad, n1, c1, k1, caps, rfl, HR, B1, ra, rb, rc, rf, z0⟩)
    go_wp2
    refine bodyPost_ret (v := .tuple #[.agg #[.string tw, .slice ad n1 c1, .func (.func k1) #[] caps], .string u, .nilIface]) (by simp [results, Tryd.results61, go_sem, ra, rb, rc]) rfl ?_
    refine ⟨_, _, _, rfl, CRep.mono (base := w.heap.size + 1) (by omega) (CRep.later (w := w1) ?_ HR.out), ?_⟩
    · repeat (first | exact Ag.refl _ _ | refine Ag.set ?_ (by show w.heap.size < _; omega) _ | refine Ag.drew ?_)
    · repeat (first | exact B1.out | refine Below.drew ?_ | refine Below.setCell ?_ (by first | exact Nat.le_refl _ | (simp; omega)) _ | refine Below.alloc ?_ (by first | omega | (simp; omega)) _)

end Go.Proofs.YtddkpimmcmnogaaDoor
