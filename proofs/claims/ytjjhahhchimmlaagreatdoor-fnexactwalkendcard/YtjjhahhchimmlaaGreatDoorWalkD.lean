/-
  A packet's step: the program's.
-/
import Derived.Test.YtjjhahhchimmlaaGreatDoorWalkC
import Derived.Test.YtjjhahhchimmlaaGreatDoorWalkF
namespace Go.Proofs.YtjjhahhchimmlaaGreatDoor
open Go.ChangeShapes Go.WideShapes Go.ChangeAt Go.RowKit Go.Joins
set_option linter.unusedVariables false

/-- Where a port leads, and how one goes on. -/
def ldF (l : List K4) (s t : Int) : Int × Int := if t = 4 then (s, 2) else if (peerF l s t).1 = 0 then (s, 3) else ((peerF l s t).1, 1)

set_option maxRecDepth 100000 in
set_option maxHeartbeats 4000000 in
theorem leadF_any (w : World) (g : Nat) (l : List K4) (hc : ∀ i, i < 40 → w.cell? ⟨g, i, none⟩ = some (.int .i64 (pk l i))) (hnet : netB l = true) (s t : Nat) (hs1 : 1 ≤ s) (hs4 : s ≤ 4) (ht4 : t ≤ 4) :
    Calls Tryz.prog 57 #[.pointer (some ⟨g, 0, none⟩), .int .i64 s, .int .i64 t] w fun e w' => e = .returned (.tuple #[.int .i64 (ldF l s t).1, .int .i64 (ldF l s t).2]) ∧ Below w.heap.size w w' := by
  have hs5 : (s : Int) < 5 := by omega
  by_cases o4 : t = 4
  · subst o4
    have hL : ldF l s (4 : Nat) = ((s : Int), 2) := if_pos (by rfl)
    rw [hL]
    go_enter Tryz.func57, Tryz.ntmps57
    go_wp2
    exact bodyPost_ret (v := .tuple #[.int .i64 s, .int .i64 2]) (by simp [results, Tryz.results57, go_sem]) rfl ⟨rfl, Below.refl _ _⟩
  have t3 : t ≤ 3 := by omega
  have hpp := pk_peer hnet s t t3
  have hpo := peer_ok hnet (s : Int) (t : Int)
  rw [← hpp] at hpo
  have hL : ldF l s t = if pk l (s * 8 + t * 2) = 0 then ((s : Int), 3) else (pk l (s * 8 + t * 2), 1) := by
    unfold ldF
    rw [if_neg (by omega), ← hpp]
  have y0 := hc (s * 8 + t * 2) (by omega)
  have y1 := hc (s * 8 + t * 2 + 1) (by omega)
  rw [hL]
  clear hc hL hpp hnet
  have gl : g < w.heap.size := World.block_lt_of_cell? w ⟨g, _, none⟩ y0
  have e4 : ((t : Int) == 4) = false := by simp; omega
  have tz4 : (t : Int) < 4 := by omega
  generalize pk l (s * 8 + t * 2) = q at *
  generalize pk l (s * 8 + t * 2 + 1) = p2 at *
  have hA := below_alloc1 w (.cells #[.int .i64 q, .int .i64 p2] 65)
  rcases hpo with h0 | ⟨-, -, ⟨x1, -⟩, -⟩
  · injection h0 with a b
    subst a b
    rw [if_pos rfl]
    go_enter Tryz.func57, Tryz.ntmps57
    go_wp2
    exact bodyPost_ret (v := .tuple #[.int .i64 s, .int .i64 3]) (by simp [results, Tryz.results57, go_sem]) rfl ⟨rfl, below_alloc1 _ _⟩
  · have hq : q ≠ 0 := by omega
    rw [if_neg hq]
    go_enter Tryz.func57, Tryz.ntmps57
    go_wp2
    exact bodyPost_ret (v := .tuple #[.int .i64 q, .int .i64 1]) (by simp [results, Tryz.results57, go_sem]) rfl ⟨rfl, below_alloc1 _ _⟩

set_option maxRecDepth 100000 in
set_option maxHeartbeats 8000000 in
theorem forward_any (w : World) (g : Nat) (gs : Nat → Nat) (l : List K4) (L : List (List R4)) (hf : Fb2 w g (pk l) gs 4) (hR : ∀ j, j < 4 → LR w (gs j) (tbAt L j)) (hn : ∀ j, j < 4 → (tbAt L j).length ≤ 1048576) (hok : ∀ j, j < 4 → ∀ i, i < (tbAt L j).length → okR (ruAt (tbAt L j) i) = true) (hnet : netB l = true) (hE : EtOk w)
    (j : Nat) (hj : j < 4) (a b c : Int) :
    Calls Tryz.prog 35 #[.pointer (some ⟨g, 0, none⟩), .agg #[.int .i64 ((j : Int) + 1), .int .i64 a, .int .i64 b, .int .i64 c]] w fun e w' => e = .returned (stV l L j a b c) ∧ Below w.heap.size w w' := by
  have HD : Hid (∀ W, Below w.heap.size w W → Calls Tryz.prog 56 #[lstV (gs j), .agg #[.int .i64 a, .int .i64 b, .int .i64 c]] W fun e w' => e = .returned (hdV a b c (tbAt L j)) ∧ Below W.heap.size W w') :=
    fun W hb => handle_any W (gs j) _ (hn j hj) ((hR j hj).below hb) a b c (hE.below hb)
  rw [hdV_eq] at HD
  have hport := do_port (hok j hj) a b c
  have hlt := hf.lt
  have hc : ∀ i, i < 40 → w.cell? ⟨g, i, none⟩ = some (.int .i64 (pk l i)) := fun i hi => hf.net hi
  obtain ⟨d0, d1⟩ := hf.tab hj
  unfold fnC at d0
  unfold stV lstV at *
  clear hR hn hok hf hE
  generalize gs j = r at *
  generalize atI a b c (tbAt L j) = z at *
  generalize (doI a b c (tbAt L j)).1.1 = A at *
  generalize (doI a b c (tbAt L j)).1.2.1 = B at *
  generalize (doI a b c (tbAt L j)).1.2.2 = C at *
  generalize (doI a b c (tbAt L j)).2 = o at *
  obtain ⟨t, rfl, ht4⟩ : ∃ t : Nat, o = (t : Int) ∧ t ≤ 4 := ⟨o.toNat, by omega, by omega⟩
  obtain ⟨s, hs, hs4⟩ : ∃ s : Nat, (j : Int) + 1 = (s : Int) ∧ s = j + 1 := ⟨j + 1, by omega, rfl⟩
  rw [hs] at *
  have hw1 : IntKind.i64.wrap ((s : Int) - 1) = (j : Int) := by rw [IntKind.wrap_i64]; omega
  have hjz : (j : Int) < 4 := by omega
  have HLD : Hid (∀ W, Below w.heap.size w W → Calls Tryz.prog 57 #[.pointer (some ⟨g, 0, none⟩), .int .i64 s, .int .i64 t] W fun e w' => e = .returned (.tuple #[.int .i64 (ldF l s t).1, .int .i64 (ldF l s t).2]) ∧ Below W.heap.size W w') :=
    fun W hb => leadF_any W g l (fun i hi => (belCell hb _ _ hlt).trans (hc i hi)) hnet s t (by omega) (by omega) ht4
  have HW : Hid (stW s a b c A B C t (peerF l (s : Int) (t : Int)).1 = if (ldF l s t).2 = 3 then .tuple #[spV s a b c, .int .i64 3] else .tuple #[spV (ldF l s t).1 A B C, .int .i64 (ldF l s t).2]) := by
    show _ = _
    unfold stW ldF
    by_cases h4 : (t : Int) = 4
    · simp only [if_pos h4]; rfl
    · simp only [if_neg h4]
      by_cases h0 : (peerF l (s : Int) (t : Int)).1 = 0
      · simp only [if_pos h0]; rfl
      · simp only [if_neg h0]; rfl
  rw [HW.out]
  clear hc hnet HW
  generalize (ldF l s t).1 = y at *
  generalize (ldF l s t).2 = cd at *
  unfold spV
  have HTR : Hid (∀ w', Below ((w.alloc (.cells #[.int .i64 (s : Int), .int .i64 a, .int .i64 b, .int .i64 c] 32)).alloc (.cells #[.int .i64 0, .int .i64 0, .int .i64 0, .int .i64 0] 32)).heap.size ((w.alloc (.cells #[.int .i64 (s : Int), .int .i64 a, .int .i64 b, .int .i64 c] 32)).alloc (.cells #[.int .i64 0, .int .i64 0, .int .i64 0, .int .i64 0] 32)) w' →
      (w'.cell? ⟨w.heap.size, 0, none⟩ = some (.int .i64 (s : Int)) ∧ w'.cell? ⟨w.heap.size, 1, none⟩ = some (.int .i64 a) ∧ w'.cell? ⟨w.heap.size, 2, none⟩ = some (.int .i64 b) ∧ w'.cell? ⟨w.heap.size, 3, none⟩ = some (.int .i64 c)) ∧ (w'.cell? ⟨w.heap.size + 1, 0, none⟩ = some (.int .i64 0) ∧ w'.cell? ⟨w.heap.size + 1, 1, none⟩ = some (.int .i64 0) ∧ w'.cell? ⟨w.heap.size + 1, 2, none⟩ = some (.int .i64 0) ∧ w'.cell? ⟨w.heap.size + 1, 3, none⟩ = some (.int .i64 0) ∧ ∀ j, w'.frozen? ⟨w.heap.size + 1, j, none⟩ = false) ∧ w.heap.size + 1 + 1 ≤ w'.heap.size ∧ (w'.cell? ⟨g, 40 + j * 2, none⟩ = some (.func (.func 77) #[] #[]) ∧ w'.cell? ⟨g, 40 + j * 2 + 1, none⟩ = some (.pointer (some ⟨r, 0, none⟩))) ∧ Below w.heap.size w w') := fun w1 hb => by
    obtain ⟨h1, h2, h3, h4⟩ := twoBlocks hb
    obtain ⟨x0, x1, x2, x3, -⟩ := quad4 h1
    have k := belCell h3
    exact ⟨⟨x0, x1, x2, x3⟩, quad4 h2, by omega, ⟨(k _ _ hlt).trans d0, (k _ _ hlt).trans d1⟩, h3⟩
  have HLT := Lib.hid hlt
  clear d0 d1 hs hs4 hlt
  go_enter Tryz.func35, Tryz.ntmps35
  go_wp2
  generalize hW0 : ((w.alloc (.cells #[.int .i64 (s : Int), .int .i64 a, .int .i64 b, .int .i64 c] 32)).alloc (.cells #[.int .i64 0, .int .i64 0, .int .i64 0, .int .i64 0] 32)) = W0 at *
  clear hW0
  obtain ⟨⟨x0, x1, x2, x3⟩, -, hsz, ⟨d0, d1⟩, -⟩ := HTR.out _ (Below.refl _ _)
  have HS : Hid (∀ w', Below W0.heap.size W0 w' → (w'.cell? ⟨w.heap.size, 0, none⟩ = some (.int .i64 (s : Int)) ∧ w'.cell? ⟨w.heap.size, 1, none⟩ = some (.int .i64 a) ∧ w'.cell? ⟨w.heap.size, 2, none⟩ = some (.int .i64 b) ∧ w'.cell? ⟨w.heap.size, 3, none⟩ = some (.int .i64 c) ∧ w'.cell? ⟨g, 40 + j * 2, none⟩ = some (.func (.func 77) #[] #[]) ∧ w'.cell? ⟨g, 40 + j * 2 + 1, none⟩ = some (.pointer (some ⟨r, 0, none⟩)) ∧ Below W0.heap.size W0 w')) := fun w' hb => by
    obtain ⟨⟨x0, x1, x2, x3⟩, -, -, ⟨d0, d1⟩, -⟩ := HTR.out _ hb
    exact ⟨x0, x1, x2, x3, d0, d1, hb⟩
  have BW0 : Hid (Below w.heap.size w W0) := (HTR.out _ (Below.refl _ _)).2.2.2.2
  go_region_held3 (fun w' => w'.cell? ⟨w.heap.size, 0, none⟩ = some (.int .i64 (s : Int)) ∧ w'.cell? ⟨w.heap.size, 1, none⟩ = some (.int .i64 a) ∧ w'.cell? ⟨w.heap.size, 2, none⟩ = some (.int .i64 b) ∧ w'.cell? ⟨w.heap.size, 3, none⟩ = some (.int .i64 c) ∧ w'.cell? ⟨g, 40 + j * 2, none⟩ = some (.func (.func 77) #[] #[]) ∧ w'.cell? ⟨g, 40 + j * 2 + 1, none⟩ = some (.pointer (some ⟨r, 0, none⟩)) ∧ Below W0.heap.size W0 w')
    (first | assumption | exact HS.out _ ((Below.refl _ _).drew) | exact HS.out _ Bc.out | exact HS.out _ (Below.alloc Bc.out (Below.size Bc.out) _) | exact HS.out _ (Below.alloc ((Below.refl _ _).drew) (Nat.le_refl _) _) | exact HS.out _ (((Bc.out.setCell (by dsimp only; first | exact Nat.le_refl _ | exact Bc.out.size) _).setCell (by dsimp only; first | exact Nat.le_refl _ | exact Bc.out.size) _).setCell (by dsimp only; first | exact Nat.le_refl _ | exact Bc.out.size) _))
    (first
      | (go_at_call 56; ((with_reducible refine (HD.out _ ?_).mono ?_); (go_split_ands; exact belStep BW0.out (by assumption)); rintro e wc ⟨rfl, hq⟩; go_split_ands; have Bc := Lib.hid (belStep (show Below W0.heap.size W0 _ by assumption) hq); (first | have NX := Lib.hid (wcNew hq) | have NX := Lib.hid (wcNewD hq) | skip); (first | obtain ⟨n0, n1, n2, nf⟩ := NX.out | skip))))
  have F := Lib.hid (And.intro (trio3 (newBlockM wc (.cells #[.int .i64 A, .int .i64 B, .int .i64 C] 30))) (HTR.out _ (Bc.out.alloc Bc.out.size (.cells #[.int .i64 A, .int .i64 B, .int .i64 C] 30))))
  generalize (wc.alloc (.cells #[.int .i64 A, .int .i64 B, .int .i64 C] 30)) = D at F ⊢
  generalize wc.heap.size = hb at F ⊢
  clear Bc hq BW0 HS HTR
  rotate_left
  have F := Lib.hid (And.intro (wcSet (x := .int .i64 A) (y := .int .i64 B) (q := .int .i64 C) n0 n1 n2) (HTR.out _ (((Bc.out.setCell (p := ⟨W0.heap.size, 0, none⟩) (Nat.le_refl _) (.int .i64 A)).setCell (p := ⟨W0.heap.size, 1, none⟩) (Nat.le_refl _) (.int .i64 B)).setCell (p := ⟨W0.heap.size, 2, none⟩) (Nat.le_refl _) (.int .i64 C))))
  generalize (((wc.setCell ⟨W0.heap.size, 0, none⟩ (.int .i64 A)).setCell ⟨W0.heap.size, 1, none⟩ (.int .i64 B)).setCell ⟨W0.heap.size, 2, none⟩ (.int .i64 C)) = D at F ⊢
  generalize W0.heap.size = hb at F ⊢
  clear n0 n1 n2 nf NX Bc hq BW0 HS HTR
  rotate_left
  all_goals
    obtain ⟨⟨h0, h1, h2⟩, ⟨x0, x1, x2, x3⟩, ⟨r0, r1, r2, r3, rf⟩, hsz, -, bw⟩ := F.out
    have gh : hb < D.heap.size := World.block_lt_of_cell? D ⟨hb, 0, none⟩ h0
    have g1 : w.heap.size < D.heap.size := by omega
    have g2 : w.heap.size + 1 < D.heap.size := by omega
    have BW := Lib.hid bw
    have CD : Hid (∀ w', Below D.heap.size D w' → (w'.cell? ⟨hb, 0, none⟩ = some (.int .i64 A) ∧ w'.cell? ⟨hb, 1, none⟩ = some (.int .i64 B) ∧ w'.cell? ⟨hb, 2, none⟩ = some (.int .i64 C)) ∧ (w'.cell? ⟨w.heap.size, 0, none⟩ = some (.int .i64 (s : Int)) ∧ w'.cell? ⟨w.heap.size, 1, none⟩ = some (.int .i64 a) ∧ w'.cell? ⟨w.heap.size, 2, none⟩ = some (.int .i64 b) ∧ w'.cell? ⟨w.heap.size, 3, none⟩ = some (.int .i64 c)) ∧ (w'.cell? ⟨w.heap.size + 1, 0, none⟩ = some (.int .i64 0) ∧ w'.cell? ⟨w.heap.size + 1, 1, none⟩ = some (.int .i64 0) ∧ w'.cell? ⟨w.heap.size + 1, 2, none⟩ = some (.int .i64 0) ∧ w'.cell? ⟨w.heap.size + 1, 3, none⟩ = some (.int .i64 0) ∧ ∀ j, w'.frozen? ⟨w.heap.size + 1, j, none⟩ = false) ∧ hb < w'.heap.size ∧ w.heap.size < w'.heap.size ∧ w.heap.size + 1 < w'.heap.size) := fun W hb' => by
      have k := belCell hb'
      have := hb'.size
      exact ⟨⟨(k _ _ gh).trans h0, (k _ _ gh).trans h1, (k _ _ gh).trans h2⟩, ⟨(k _ _ g1).trans x0, (k _ _ g1).trans x1, (k _ _ g1).trans x2, (k _ _ g1).trans x3⟩, ⟨(k _ _ g2).trans r0, (k _ _ g2).trans r1, (k _ _ g2).trans r2, (k _ _ g2).trans r3, fun j => (World.frozen?_of_block (hb'.block _ g2)).trans (rf j)⟩, by omega, by omega, by omega⟩
    clear bw F HD h0 h1 h2 x1 x2 x3 r0 r1 r2 r3 rf gh hsz g1 g2
    go_wp2_with fail
    refine (HLD.out _ BW.out).mono ?_
    rintro e E ⟨rfl, bE⟩
    obtain ⟨⟨h0, h1, h2⟩, ⟨y0, y1, y2, y3⟩, ⟨r0, r1, r2, r3, rf⟩, gh, g1, g2⟩ := CD.out _ bE
    have BE := Lib.hid (belStep BW.out bE)
    clear bE BW CD HLD x0
    by_cases h3 : cd = 3
    · subst h3
      go_wp2
      exact bodyPost_ret (v := .tuple #[.agg #[.int .i64 (s : Int), .int .i64 a, .int .i64 b, .int .i64 c], .int .i64 3]) (by simp [results, Tryz.results35, go_sem, r0, r1, r2, r3]) rfl ⟨by first | rfl | rw [if_pos rfl], ((((BE.out.setCell (by exact Nat.le_succ _) _).setCell (by exact Nat.le_succ _) _).setCell (by exact Nat.le_succ _) _).setCell (by exact Nat.le_succ _) _)⟩
    · have e3 : (cd == 3) = false := by simpa using h3
      go_wp2
      exact bodyPost_ret (v := .tuple #[.agg #[.int .i64 y, .int .i64 A, .int .i64 B, .int .i64 C], .int .i64 cd]) (by simp [results, Tryz.results35, go_sem, r0, r1, r2, r3]) rfl ⟨by first | rfl | rw [if_neg h3], ((((BE.out.setCell (by exact Nat.le_succ _) _).setCell (by exact Nat.le_succ _) _).setCell (by exact Nat.le_succ _) _).setCell (by exact Nat.le_succ _) _)⟩

end Go.Proofs.YtjjhahhchimmlaaGreatDoor
