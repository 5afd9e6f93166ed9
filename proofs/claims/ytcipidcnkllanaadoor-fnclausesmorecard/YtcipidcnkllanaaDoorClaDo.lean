/-
  Clauses: ClausesDo, both.
-/
import Derived.Test.YtcipidcnkllanaaDoorClaDoJ
namespace Go.Proofs.YtcipidcnkllanaaDoor
open Go.ChangeShapes Go.WideShapes Go.ChangeAt Go.RowKit Go.Joins
set_option linter.unusedVariables false

/-- The three fields of the head, and the port. -/
def cd4 (l : List C3) (x y z : Int) : Int × Int × Int × Int := bif clB l && okB x y z then (x, y, (doC l x y z).1, (doC l x y z).2) else (0, 0, 0, 0)
def cdV (p : Int × Int × Int × Int) : Value := .tuple #[.agg #[.int .i64 p.1, .int .i64 p.2.1, .int .i64 p.2.2.1], .int .i64 p.2.2.2]
theorem two_heads (w : World) (a b c d e f : Value) (t : TypeId) :
    Below w.heap.size w ((w.alloc (.cells #[a, b, c] t)).alloc (.cells #[d, e, f] t)) ∧ ((w.alloc (.cells #[a, b, c] t)).alloc (.cells #[d, e, f] t)).heap.size = w.heap.size + 2 ∧ ((w.alloc (.cells #[a, b, c] t)).alloc (.cells #[d, e, f] t)).heap[w.heap.size]? = some (.cells #[a, b, c] t) ∧ ((w.alloc (.cells #[a, b, c] t)).alloc (.cells #[d, e, f] t)).heap[w.heap.size + 1]? = some (.cells #[d, e, f] t) := by
  have hA := below_alloc1 w (.cells #[a, b, c] t)
  have hA2 := below_alloc1 (w.alloc (.cells #[a, b, c] t)) (.cells #[d, e, f] t)
  have hn1 := heap_alloc_new w (.cells #[a, b, c] t)
  have hn2 := heap_alloc_new (w.alloc (.cells #[a, b, c] t)) (.cells #[d, e, f] t)
  rw [World.size_alloc] at hn2
  exact ⟨belStep hA hA2, by simp, (hA2.block w.heap.size (by simp)).trans hn1, hn2⟩

set_option maxRecDepth 100000 in
set_option maxHeartbeats 4000000 in
theorem sClausesDo_any (w : World) (v : Value) (l : List C3) (h : Cls w w.heap.size v l) (hn : l.length ≤ 1048576) (x y z : Int) :
    Calls Tryd.prog 5 #[v, .agg #[.int .i64 x, .int .i64 y, .int .i64 z]] w fun e w' => e = .returned (cdV (cd4 l x y z)) ∧ Below w.heap.size w w' := by
  obtain ⟨a, cap, hv, -⟩ := id h
  have HCL : Hid (∀ W, Below w.heap.size w W → Cls W W.heap.size v l) := fun W hW => (h.below hW (Nat.le_refl _)).mono hW.size
  have HO := Lib.hid (fun W h => sClausesOk_any W v l h hn)
  have HHO := Lib.hid (fun W => sHeadOk_any x y z W)
  obtain ⟨hB, hS, hH, hR⟩ := two_heads w (.int .i64 x) (.int .i64 y) (.int .i64 z) (.int .i64 0) (.int .i64 0) (.int .i64 0) 25
  have HB := Lib.hid hB
  have HS := Lib.hid hS
  have HH := Lib.hid hH
  have HR := Lib.hid hR
  subst hv
  clear h hB hS hH hR
  cases hok : clB l
  · have hE : cd4 l x y z = (0, 0, 0, 0) := by unfold cd4; rw [hok]; rfl
    rw [hE]
    unfold cdV
    dsimp only
    rw [hok] at HO
    clear hE hok
    go_enter Tryd.func5, Tryd.ntmps5
    go_wp2_with fail
    generalize (w.alloc (.cells #[.int .i64 x, .int .i64 y, .int .i64 z] 25)).alloc (.cells #[.int .i64 0, .int .i64 0, .int .i64 0] 25) = W0 at *
    refine (HO.out _ (HCL.out _ HB.out)).mono ?_
    rintro e w1 ⟨rfl, b1⟩
    have HB1 := Lib.hid (belStep HB.out b1)
    have hR1 := (b1.block (w.heap.size + 1) (by have := HS.out; omega)).trans HR.out
    have hs1 : w.heap.size + 2 ≤ w1.heap.size := by have := b1.size; have := HS.out; omega
    obtain ⟨r0, r1, r2, rf⟩ := three_cells hR1
    clear b1 hR1
    go_wp2
    exact bodyPost_ret (v := .tuple #[.agg #[.int .i64 0, .int .i64 0, .int .i64 0], .int .i64 0]) (by simp [results, Tryd.results5, go_sem, r0, r1, r2]) rfl ⟨rfl, ((HB1.out.setCell (by dsimp only; omega) _).setCell (by dsimp only; omega) _).setCell (by dsimp only; omega) _⟩
  rw [hok] at HO
  cases hok2 : okB x y z
  · have hE : cd4 l x y z = (0, 0, 0, 0) := by unfold cd4; rw [hok, hok2]; rfl
    rw [hE]
    unfold cdV
    dsimp only
    rw [hok2] at HHO
    clear hE hok hok2
    go_enter Tryd.func5, Tryd.ntmps5
    go_wp2_with fail
    generalize (w.alloc (.cells #[.int .i64 x, .int .i64 y, .int .i64 z] 25)).alloc (.cells #[.int .i64 0, .int .i64 0, .int .i64 0] 25) = W0 at *
    refine (HO.out _ (HCL.out _ HB.out)).mono ?_
    rintro e w1 ⟨rfl, b1⟩
    have HB1 := Lib.hid (belStep HB.out b1)
    have HR1 := Lib.hid ((b1.block (w.heap.size + 1) (by have := HS.out; omega)).trans HR.out)
    have hH1 := (b1.block w.heap.size (by have := HS.out; omega)).trans HH.out
    have hs1 : w.heap.size + 2 ≤ w1.heap.size := by have := b1.size; have := HS.out; omega
    obtain ⟨h0, h1, h2, hf⟩ := three_cells hH1
    clear b1 hH1
    go_wp2_with fail
    refine (HHO.out _).mono ?_
    rintro e w2 ⟨rfl, b2⟩
    have HB2 := Lib.hid (belStep HB1.out b2)
    have hR2 := (b2.block (w.heap.size + 1) (by omega)).trans HR1.out
    have hs2 := b2.size
    obtain ⟨r0, r1, r2, rf⟩ := three_cells hR2
    clear b2 hR2 h0 h1 h2 hf
    go_wp2
    exact bodyPost_ret (v := .tuple #[.agg #[.int .i64 0, .int .i64 0, .int .i64 0], .int .i64 0]) (by simp [results, Tryd.results5, go_sem, r0, r1, r2]) rfl ⟨rfl, ((HB2.out.setCell (by dsimp only; omega) _).setCell (by dsimp only; omega) _).setCell (by dsimp only; omega) _⟩
  · have hE : cd4 l x y z = (x, y, (doC l x y z).1, (doC l x y z).2) := by unfold cd4; rw [hok, hok2]; rfl
    rw [hE]
    unfold cdV
    dsimp only
    rw [hok2] at HHO
    have HD := Lib.hid (fun W h => l13Do_any W (.slice a l.length cap) l h hok x y z)
    clear hE hok hok2
    generalize (doC l x y z).1 = q at *
    generalize (doC l x y z).2 = o at *
    go_enter Tryd.func5, Tryd.ntmps5
    go_wp2_with fail
    generalize (w.alloc (.cells #[.int .i64 x, .int .i64 y, .int .i64 z] 25)).alloc (.cells #[.int .i64 0, .int .i64 0, .int .i64 0] 25) = W0 at *
    refine (HO.out _ (HCL.out _ HB.out)).mono ?_
    rintro e w1 ⟨rfl, b1⟩
    have HB1 := Lib.hid (belStep HB.out b1)
    have HR1 := Lib.hid ((b1.block (w.heap.size + 1) (by have := HS.out; omega)).trans HR.out)
    have HH1 := Lib.hid ((b1.block w.heap.size (by have := HS.out; omega)).trans HH.out)
    have hs1 : w.heap.size + 2 ≤ w1.heap.size := by have := b1.size; have := HS.out; omega
    obtain ⟨h0, h1, h2, hf⟩ := three_cells HH1.out
    clear b1
    go_wp2_with fail
    refine (HHO.out _).mono ?_
    rintro e w2 ⟨rfl, b2⟩
    have HB2 := Lib.hid (belStep HB1.out b2)
    have HR2 := Lib.hid ((b2.block (w.heap.size + 1) (by omega)).trans HR1.out)
    have hH2 := (b2.block w.heap.size (by omega)).trans HH1.out
    have hs2 := b2.size
    clear h0 h1 h2 hf b2
    obtain ⟨h0, h1, h2, hf⟩ := three_cells hH2
    clear hH2
    go_wp2_with fail
    refine (HD.out _ (HCL.out _ HB2.out)).mono ?_
    rintro e w3 ⟨rfl, b3⟩
    have HB3 := Lib.hid (belStep HB2.out b3)
    have hR3 := (b3.block (w.heap.size + 1) (by omega)).trans HR2.out
    have hs3 := b3.size
    clear h0 h1 h2 hf b3
    obtain ⟨r0, r1, r2, rf⟩ := three_cells hR3
    clear hR3
    go_wp2
    exact bodyPost_ret (v := .tuple #[.agg #[.int .i64 x, .int .i64 y, .int .i64 q], .int .i64 o]) (by simp [results, Tryd.results5, go_sem, r0, r1, r2]) rfl ⟨rfl, ((HB3.out.setCell (by dsimp only; omega) _).setCell (by dsimp only; omega) _).setCell (by dsimp only; omega) _⟩

set_option maxRecDepth 100000 in
set_option maxHeartbeats 4000000 in
theorem iClausesDo_any (w : World) (v : Value) (l : List C3) (h : Cls w w.heap.size v l) (hn : l.length ≤ 1048576) (x y z : Int) (ep : Addr) (hE : w.cell? ⟨0, 0, none⟩ = some (errV ep)) :
    Calls Tryd.prog 6 #[v, .agg #[.int .i64 x, .int .i64 y, .int .i64 z]] w fun e w' => e = .returned (cdV (cd4 l x y z)) ∧ Below w.heap.size w w' := by
  obtain ⟨a, cap, hv, -⟩ := id h
  have HCL : Hid (∀ W, Below w.heap.size w W → Calls Tryd.prog 14 #[v] W fun e w' => ∃ u, e = .returned (.tuple #[u, .bool (clB l)]) ∧ Below W.heap.size W w' ∧ (clB l = true → RdyOk w' W.heap.size u l)) := fun W hW => readClauses_any W v l ((h.below hW (Nat.le_refl _)).mono hW.size) hn ep (cellLater hE hW)
  obtain ⟨hB, hS, hH, hR⟩ := two_heads w (.int .i64 x) (.int .i64 y) (.int .i64 z) (.int .i64 0) (.int .i64 0) (.int .i64 0) 25
  have HB := Lib.hid hB
  have HS := Lib.hid hS
  have HH := Lib.hid hH
  have HR := Lib.hid hR
  subst hv
  clear h hB hS hH hR hE
  cases hok2 : okB x y z
  · have hE : cd4 l x y z = (0, 0, 0, 0) := by unfold cd4; rw [hok2, Bool.and_false]; rfl
    rw [hE]
    unfold cdV
    dsimp only
    have HBO := Lib.hid (fun W => bitsOf_no x y z hok2 W)
    clear hE hok2
    generalize clB l = ok at *
    go_enter Tryd.func6, Tryd.ntmps6
    go_wp2_with fail
    generalize (w.alloc (.cells #[.int .i64 x, .int .i64 y, .int .i64 z] 25)).alloc (.cells #[.int .i64 0, .int .i64 0, .int .i64 0] 25) = W0 at *
    refine (HCL.out _ HB.out).mono ?_
    rintro e w1 ⟨u, rfl, b1, -⟩
    have HB1 := Lib.hid (belStep HB.out b1)
    have HR1 := Lib.hid ((b1.block (w.heap.size + 1) (by have := HS.out; omega)).trans HR.out)
    have hH1 := (b1.block w.heap.size (by have := HS.out; omega)).trans HH.out
    have hs1 : w.heap.size + 2 ≤ w1.heap.size := by have := b1.size; have := HS.out; omega
    obtain ⟨h0, h1, h2, hf⟩ := three_cells hH1
    clear b1 hH1
    go_wp2_with fail
    refine (HBO.out _).mono ?_
    rintro e w2 ⟨rfl, b2⟩
    have HB2 := Lib.hid (belStep HB1.out b2)
    have hR2 := (b2.block (w.heap.size + 1) (by omega)).trans HR1.out
    have hs2 := b2.size
    obtain ⟨r0, r1, r2, rf⟩ := three_cells hR2
    clear b2 hR2 h0 h1 h2 hf
    cases ok
    all_goals
      go_wp2
      exact bodyPost_ret (v := .tuple #[.agg #[.int .i64 0, .int .i64 0, .int .i64 0], .int .i64 0]) (by simp [results, Tryd.results6, go_sem, r0, r1, r2]) rfl ⟨rfl, ((HB2.out.setCell (by dsimp only; omega) _).setCell (by dsimp only; omega) _).setCell (by dsimp only; omega) _⟩
  have HBO := Lib.hid (fun W => bitsOf_yes x y z hok2 W)
  cases hok : clB l
  · have hE : cd4 l x y z = (0, 0, 0, 0) := by unfold cd4; rw [hok]; rfl
    rw [hE]
    unfold cdV
    dsimp only
    rw [hok] at HCL
    clear hE hok hok2
    generalize 16 * x + 4 * y + z = m at *
    go_enter Tryd.func6, Tryd.ntmps6
    go_wp2_with fail
    generalize (w.alloc (.cells #[.int .i64 x, .int .i64 y, .int .i64 z] 25)).alloc (.cells #[.int .i64 0, .int .i64 0, .int .i64 0] 25) = W0 at *
    refine (HCL.out _ HB.out).mono ?_
    rintro e w1 ⟨u, rfl, b1, -⟩
    have HB1 := Lib.hid (belStep HB.out b1)
    have HR1 := Lib.hid ((b1.block (w.heap.size + 1) (by have := HS.out; omega)).trans HR.out)
    have hH1 := (b1.block w.heap.size (by have := HS.out; omega)).trans HH.out
    have hs1 : w.heap.size + 2 ≤ w1.heap.size := by have := b1.size; have := HS.out; omega
    obtain ⟨h0, h1, h2, hf⟩ := three_cells hH1
    clear b1 hH1
    go_wp2_with fail
    refine (HBO.out _).mono ?_
    rintro e w2 ⟨rfl, b2⟩
    have HB2 := Lib.hid (belStep HB1.out b2)
    have hR2 := (b2.block (w.heap.size + 1) (by omega)).trans HR1.out
    have hs2 := b2.size
    obtain ⟨r0, r1, r2, rf⟩ := three_cells hR2
    clear b2 hR2 h0 h1 h2 hf
    go_wp2
    exact bodyPost_ret (v := .tuple #[.agg #[.int .i64 0, .int .i64 0, .int .i64 0], .int .i64 0]) (by simp [results, Tryd.results6, go_sem, r0, r1, r2]) rfl ⟨rfl, ((HB2.out.setCell (by dsimp only; omega) _).setCell (by dsimp only; omega) _).setCell (by dsimp only; omega) _⟩
  · have hE : cd4 l x y z = (x, y, (doC l x y z).1, (doC l x y z).2) := by unfold cd4; rw [hok, hok2]; rfl
    rw [hE]
    unfold cdV
    dsimp only
    obtain ⟨⟨x0, x3⟩, ⟨y0, y3⟩, ⟨z0, z3⟩⟩ := okB_true hok2
    have HDO : Hid (∀ W base u, RdyOk W base u l → Calls Tryd.prog 16 #[u, .int .u8 (16 * x + 4 * y + z)] W fun e w' => e = .returned (.tuple #[.agg #[.int .i64 x, .int .i64 y, .int .i64 (doC l x y z).1], .int .i64 (doC l x y z).2]) ∧ Below W.heap.size W w') := fun W base u hr => by
      have := handleCl_any W base u l hr hok (16 * x + 4 * y + z) (by omega) (by omega)
      rwa [show (16 * x + 4 * y + z) / 16 = x from by omega, show (16 * x + 4 * y + z) / 4 % 4 = y from by omega, show (16 * x + 4 * y + z) % 4 = z from by omega] at this
    rw [hok] at HCL
    clear hE hok hok2 x0 x3 y0 y3 z0 z3
    generalize (doC l x y z).1 = q at *
    generalize (doC l x y z).2 = o at *
    generalize 16 * x + 4 * y + z = m at *
    go_enter Tryd.func6, Tryd.ntmps6
    go_wp2_with fail
    generalize (w.alloc (.cells #[.int .i64 x, .int .i64 y, .int .i64 z] 25)).alloc (.cells #[.int .i64 0, .int .i64 0, .int .i64 0] 25) = W0 at *
    refine (HCL.out _ HB.out).mono ?_
    rintro e w1 ⟨u, rfl, b1, hrd⟩
    have HRD := Lib.hid (hrd (by trivial))
    have HB1 := Lib.hid (belStep HB.out b1)
    have HR1 := Lib.hid ((b1.block (w.heap.size + 1) (by have := HS.out; omega)).trans HR.out)
    have hH1 := (b1.block w.heap.size (by have := HS.out; omega)).trans HH.out
    have hs1 : w.heap.size + 2 ≤ w1.heap.size := by have := b1.size; have := HS.out; omega
    obtain ⟨h0, h1, h2, hf⟩ := three_cells hH1
    clear b1 hH1 hrd
    go_wp2_with fail
    refine (HBO.out _).mono ?_
    rintro e w2 ⟨rfl, b2⟩
    have HRD2 : Hid (RdyOk w2 W0.heap.size u l) := by
      obtain ⟨L, e1, e2, e3⟩ := HRD.out
      refine ⟨L, e1, e2.below b2, fun i hi => ?_⟩
      obtain ⟨x', c, g1, g2, g3, g4, g5⟩ := e3 i hi
      exact ⟨x', c, g1, g2, g3, g4, g5.below b2⟩
    have HB2 := Lib.hid (belStep HB1.out b2)
    have HR2 := Lib.hid ((b2.block (w.heap.size + 1) (by omega)).trans HR1.out)
    have hs2 := b2.size
    clear b2 h0 h1 h2 hf
    go_wp2_with fail
    refine (HDO.out _ _ _ HRD2.out).mono ?_
    rintro e w3 ⟨rfl, b3⟩
    have HB3 := Lib.hid (belStep HB2.out b3)
    have hR3 := (b3.block (w.heap.size + 1) (by omega)).trans HR2.out
    have hs3 := b3.size
    obtain ⟨r0, r1, r2, rf⟩ := three_cells hR3
    clear b3 hR3
    go_wp2
    exact bodyPost_ret (v := .tuple #[.agg #[.int .i64 x, .int .i64 y, .int .i64 q], .int .i64 o]) (by simp [results, Tryd.results6, go_sem, r0, r1, r2]) rfl ⟨rfl, ((HB3.out.setCell (by dsimp only; omega) _).setCell (by dsimp only; omega) _).setCell (by dsimp only; omega) _⟩

end Go.Proofs.YtcipidcnkllanaaDoor
