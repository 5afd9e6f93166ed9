/-
  A packet's step: the program's.
  WalkStep: the model's answer and the program's.
  WalkStep: the program's answer.
-/
import Derived.Test.YtjjhahhchimmlaaGreatDoorWalkBC
import Derived.Test.YtjjhahhchimmlaaGreatDoorWalkAF

namespace Go.Proofs.YtjjhahhchimmlaaGreatDoor
open Go.ChangeShapes Go.WideShapes Go.ChangeAt Go.RowKit Go.Joins
set_option linter.unusedVariables false

/-- Where a port leads, and how one goes on. -/
def ldF (l : List K4) (s t : Int) : Int × Int := if t = 4 then (s, 2) else if (peerF l s t).1 = 0 then (s, 3) else ((peerF l s t).1, 1)

set_option maxRecDepth 100000 in
set_option maxHeartbeats 4000000 in
theorem leadF_any (w : World) (g : Nat) (l : List K4) (hc : ∀ i, i < 40 → w.cell? ⟨g, i, none⟩ = some (.int .i64 (pk l i))) (hnet : netB l = true) (s t : Nat) (hs1 : 1 ≤ s) (hs4 : s ≤ 4) (ht4 : t ≤ 4) :
    Calls Tryz.prog 57 #[.pointer (some ⟨g, 0, none⟩), .int .i64 s, .int .i64 t] w fun e w' => e = .returned (.tuple #[.int .i64 (ldF l s t).1, .int .i64 (ldF l s t).2]) ∧ Below w.heap.size w w' := by
  have hs5 : (s : Int) < 5 := by omega
  by_cases o4 : t = 4
  · subst o4
    have hL : ldF l s (4 : Nat) = ((s : Int), 2) := if_pos (by rfl)
    rw [hL]
    go_enter Tryz.func57, Tryz.ntmps57
    go_wp2
    exact bodyPost_ret (v := .tuple #[.int .i64 s, .int .i64 2]) (by simp [results, Tryz.results57, go_sem]) rfl ⟨rfl, Below.refl _ _⟩
  have t3 : t ≤ 3 := by omega
  have hpp := pk_peer hnet s t t3
  have hpo := peer_ok hnet (s : Int) (t : Int)
  rw [← hpp] at hpo
  have hL : ldF l s t = if pk l (s * 8 + t * 2) = 0 then ((s : Int), 3) else (pk l (s * 8 + t * 2), 1) := by
    unfold ldF
    rw [if_neg (by omega), ← hpp]
  have y0 := hc (s * 8 + t * 2) (by omega)
  have y1 := hc (s * 8 + t * 2 + 1) (by omega)
  rw [hL]
  clear hc hL hpp hnet
  have gl : g < w.heap.size := World.block_lt_of_cell? w ⟨g, _, none⟩ y0
  have e4 : ((t : Int) == 4) = false := by simp; omega
  have tz4 : (t : Int) < 4 := by omega
  generalize pk l (s * 8 + t * 2) = q at *
  generalize pk l (s * 8 + t * 2 + 1) = p2 at *
  have hA := below_alloc1 w (.cells #[.int .i64 q, .int .i64 p2] 65)
  rcases hpo with h0 | ⟨-, -, ⟨x1, -⟩, -⟩
  · injection h0 with a b
    subst a b
    rw [if_pos rfl]
    go_enter Tryz.func57, Tryz.ntmps57
    go_wp2
    exact bodyPost_ret (v := .tuple #[.int .i64 s, .int .i64 3]) (by simp [results, Tryz.results57, go_sem]) rfl ⟨rfl, below_alloc1 _ _⟩
  · have hq : q ≠ 0 := by omega
    rw [if_neg hq]
    go_enter Tryz.func57, Tryz.ntmps57
    go_wp2
    exact bodyPost_ret (v := .tuple #[.int .i64 q, .int .i64 1]) (by simp [results, Tryz.results57, go_sem]) rfl ⟨rfl, below_alloc1 _ _⟩

set_option maxRecDepth 100000 in
set_option maxHeartbeats 8000000 in
theorem forward_any (w : World) (g : Nat) (gs : Nat → Nat) (l : List K4) (L : List (List R4)) (hf : Fb2 w g (pk l) gs 4) (hR : ∀ j, j < 4 → LR w (gs j) (tbAt L j)) (hn : ∀ j, j < 4 → (tbAt L j).length ≤ 1048576) (hok : ∀ j, j < 4 → ∀ i, i < (tbAt L j).length → okR (ruAt (tbAt L j) i) = true) (hnet : netB l = true) (hE : EtOk w)
    (j : Nat) (hj : j < 4) (a b c : Int) :
    Calls Tryz.prog 35 #[.pointer (some ⟨g, 0, none⟩), .agg #[.int .i64 ((j : Int) + 1), .int .i64 a, .int .i64 b, .int .i64 c]] w fun e w' => e = .returned (stV l L j a b c) ∧ Below w.heap.size w w' := by
  have HD : Hid (∀ W, Below w.heap.size w W → Calls Tryz.prog 56 #[lstV (gs j), .agg #[.int .i64 a, .int .i64 b, .int .i64 c]] W fun e w' => e = .returned (hdV a b c (tbAt L j)) ∧ Below W.heap.size W w') :=
    fun W hb => handle_any W (gs j) _ (hn j hj) ((hR j hj).below hb) a b c (hE.below hb)
  rw [hdV_eq] at HD
  have hport := do_port (hok j hj) a b c
  have hlt := hf.lt
  have hc : ∀ i, i < 40 → w.cell? ⟨g, i, none⟩ = some (.int .i64 (pk l i)) := fun i hi => hf.net hi
  obtain ⟨d0, d1⟩ := hf.tab hj
  unfold fnC at d0
  unfold stV lstV at *
  clear hR hn hok hf hE
  generalize gs j = r at *
  generalize atI a b c (tbAt L j) = z at *
  generalize (doI a b c (tbAt L j)).1.1 = A at *
  generalize (doI a b c (tbAt L j)).1.2.1 = B at *
  generalize (doI a b c (tbAt L j)).1.2.2 = C at *
  generalize (doI a b c (tbAt L j)).2 = o at *
  obtain ⟨t, rfl, ht4⟩ : ∃ t : Nat, o = (t : Int) ∧ t ≤ 4 := ⟨o.toNat, by omega, by omega⟩
  obtain ⟨s, hs, hs4⟩ : ∃ s : Nat, (j : Int) + 1 = (s : Int) ∧ s = j + 1 := ⟨j + 1, by omega, rfl⟩
  rw [hs] at *
  have hw1 : IntKind.i64.wrap ((s : Int) - 1) = (j : Int) := by rw [IntKind.wrap_i64]; omega
  have hjz : (j : Int) < 4 := by omega
  have HLD : Hid (∀ W, Below w.heap.size w W → Calls Tryz.prog 57 #[.pointer (some ⟨g, 0, none⟩), .int .i64 s, .int .i64 t] W fun e w' => e = .returned (.tuple #[.int .i64 (ldF l s t).1, .int .i64 (ldF l s t).2]) ∧ Below W.heap.size W w') :=
    fun W hb => leadF_any W g l (fun i hi => (belCell hb _ _ hlt).trans (hc i hi)) hnet s t (by omega) (by omega) ht4
  have HW : Hid (stW s a b c A B C t (peerF l (s : Int) (t : Int)).1 = if (ldF l s t).2 = 3 then .tuple #[spV s a b c, .int .i64 3] else .tuple #[spV (ldF l s t).1 A B C, .int .i64 (ldF l s t).2]) := by
    show _ = _
    unfold stW ldF
    by_cases h4 : (t : Int) = 4
    · simp only [if_pos h4]; rfl
    · simp only [if_neg h4]
      by_cases h0 : (peerF l (s : Int) (t : Int)).1 = 0
      · simp only [if_pos h0]; rfl
      · simp only [if_neg h0]; rfl
  rw [HW.out]
  clear hc hnet HW
  generalize (ldF l s t).1 = y at *
  generalize (ldF l s t).2 = cd at *
  unfold spV
  have HTR : Hid (∀ w', Below ((w.alloc (.cells #[.int .i64 (s : Int), .int .i64 a, .int .i64 b, .int .i64 c] 32)).alloc (.cells #[.int .i64 0, .int .i64 0, .int .i64 0, .int .i64 0] 32)).heap.size ((w.alloc (.cells #[.int .i64 (s : Int), .int .i64 a, .int .i64 b, .int .i64 c] 32)).alloc (.cells #[.int .i64 0, .int .i64 0, .int .i64 0, .int .i64 0] 32)) w' →
      (w'.cell? ⟨w.heap.size, 0, none⟩ = some (.int .i64 (s : Int)) ∧ w'.cell? ⟨w.heap.size, 1, none⟩ = some (.int .i64 a) ∧ w'.cell? ⟨w.heap.size, 2, none⟩ = some (.int .i64 b) ∧ w'.cell? ⟨w.heap.size, 3, none⟩ = some (.int .i64 c)) ∧ (w'.cell? ⟨w.heap.size + 1, 0, none⟩ = some (.int .i64 0) ∧ w'.cell? ⟨w.heap.size + 1, 1, none⟩ = some (.int .i64 0) ∧ w'.cell? ⟨w.heap.size + 1, 2, none⟩ = some (.int .i64 0) ∧ w'.cell? ⟨w.heap.size + 1, 3, none⟩ = some (.int .i64 0) ∧ ∀ j, w'.frozen? ⟨w.heap.size + 1, j, none⟩ = false) ∧ w.heap.size + 1 + 1 ≤ w'.heap.size ∧ (w'.cell? ⟨g, 40 + j * 2, none⟩ = some (.func (.func 77) #[] #[]) ∧ w'.cell? ⟨g, 40 + j * 2 + 1, none⟩ = some (.pointer (some ⟨r, 0, none⟩))) ∧ Below w.heap.size w w') := fun w1 hb => by
    obtain ⟨h1, h2, h3, h4⟩ := twoBlocks hb
    obtain ⟨x0, x1, x2, x3, -⟩ := quad4 h1
    have k := belCell h3
    exact ⟨⟨x0, x1, x2, x3⟩, quad4 h2, by omega, ⟨(k _ _ hlt).trans d0, (k _ _ hlt).trans d1⟩, h3⟩
  have HLT := Lib.hid hlt
  clear d0 d1 hs hs4 hlt
  go_enter Tryz.func35, Tryz.ntmps35
  go_wp2
  generalize hW0 : ((w.alloc (.cells #[.int .i64 (s : Int), .int .i64 a, .int .i64 b, .int .i64 c] 32)).alloc (.cells #[.int .i64 0, .int .i64 0, .int .i64 0, .int .i64 0] 32)) = W0 at *
  clear hW0
  obtain ⟨⟨x0, x1, x2, x3⟩, -, hsz, ⟨d0, d1⟩, -⟩ := HTR.out _ (Below.refl _ _)
  have HS : Hid (∀ w', Below W0.heap.size W0 w' → (w'.cell? ⟨w.heap.size, 0, none⟩ = some (.int .i64 (s : Int)) ∧ w'.cell? ⟨w.heap.size, 1, none⟩ = some (.int .i64 a) ∧ w'.cell? ⟨w.heap.size, 2, none⟩ = some (.int .i64 b) ∧ w'.cell? ⟨w.heap.size, 3, none⟩ = some (.int .i64 c) ∧ w'.cell? ⟨g, 40 + j * 2, none⟩ = some (.func (.func 77) #[] #[]) ∧ w'.cell? ⟨g, 40 + j * 2 + 1, none⟩ = some (.pointer (some ⟨r, 0, none⟩)) ∧ Below W0.heap.size W0 w')) := fun w' hb => by
    obtain ⟨⟨x0, x1, x2, x3⟩, -, -, ⟨d0, d1⟩, -⟩ := HTR.out _ hb
    exact ⟨x0, x1, x2, x3, d0, d1, hb⟩
  have BW0 : Hid (Below w.heap.size w W0) := (HTR.out _ (Below.refl _ _)).2.2.2.2
  go_region_held3 (fun w' => w'.cell? ⟨w.heap.size, 0, none⟩ = some (.int .i64 (s : Int)) ∧ w'.cell? ⟨w.heap.size, 1, none⟩ = some (.int .i64 a) ∧ w'.cell? ⟨w.heap.size, 2, none⟩ = some (.int .i64 b) ∧ w'.cell? ⟨w.heap.size, 3, none⟩ = some (.int .i64 c) ∧ w'.cell? ⟨g, 40 + j * 2, none⟩ = some (.func (.func 77) #[] #[]) ∧ w'.cell? ⟨g, 40 + j * 2 + 1, none⟩ = some (.pointer (some ⟨r, 0, none⟩)) ∧ Below W0.heap.size W0 w')
    (first | assumption | exact HS.out _ ((Below.refl _ _).drew) | exact HS.out _ Bc.out | exact HS.out _ (Below.alloc Bc.out (Below.size Bc.out) _) | exact HS.out _ (Below.alloc ((Below.refl _ _).drew) (Nat.le_refl _) _) | exact HS.out _ (((Bc.out.setCell (by dsimp only; first | exact Nat.le_refl _ | exact Bc.out.size) _).setCell (by dsimp only; first | exact Nat.le_refl _ | exact Bc.out.size) _).setCell (by dsimp only; first | exact Nat.le_refl _ | exact Bc.out.size) _))
    (first
      | (go_at_call 56; ((with_reducible refine (HD.out _ ?_).mono ?_); (go_split_ands; exact belStep BW0.out (by assumption)); rintro e wc ⟨rfl, hq⟩; go_split_ands; have Bc := Lib.hid (belStep (show Below W0.heap.size W0 _ by assumption) hq); (first | have NX := Lib.hid (wcNew hq) | have NX := Lib.hid (wcNewD hq) | skip); (first | obtain ⟨n0, n1, n2, nf⟩ := NX.out | skip))))
  have F := Lib.hid (And.intro (trio3 (newBlockM wc (.cells #[.int .i64 A, .int .i64 B, .int .i64 C] 30))) (HTR.out _ (Bc.out.alloc Bc.out.size (.cells #[.int .i64 A, .int .i64 B, .int .i64 C] 30))))
  generalize (wc.alloc (.cells #[.int .i64 A, .int .i64 B, .int .i64 C] 30)) = D at F ⊢
  generalize wc.heap.size = hb at F ⊢
  clear Bc hq BW0 HS HTR
  rotate_left
  have F := Lib.hid (And.intro (wcSet (x := .int .i64 A) (y := .int .i64 B) (q := .int .i64 C) n0 n1 n2) (HTR.out _ (((Bc.out.setCell (p := ⟨W0.heap.size, 0, none⟩) (Nat.le_refl _) (.int .i64 A)).setCell (p := ⟨W0.heap.size, 1, none⟩) (Nat.le_refl _) (.int .i64 B)).setCell (p := ⟨W0.heap.size, 2, none⟩) (Nat.le_refl _) (.int .i64 C))))
  generalize (((wc.setCell ⟨W0.heap.size, 0, none⟩ (.int .i64 A)).setCell ⟨W0.heap.size, 1, none⟩ (.int .i64 B)).setCell ⟨W0.heap.size, 2, none⟩ (.int .i64 C)) = D at F ⊢
  generalize W0.heap.size = hb at F ⊢
  clear n0 n1 n2 nf NX Bc hq BW0 HS HTR
  rotate_left
  all_goals
    obtain ⟨⟨h0, h1, h2⟩, ⟨x0, x1, x2, x3⟩, ⟨r0, r1, r2, r3, rf⟩, hsz, -, bw⟩ := F.out
    have gh : hb < D.heap.size := World.block_lt_of_cell? D ⟨hb, 0, none⟩ h0
    have g1 : w.heap.size < D.heap.size := by omega
    have g2 : w.heap.size + 1 < D.heap.size := by omega
    have BW := Lib.hid bw
    have CD : Hid (∀ w', Below D.heap.size D w' → (w'.cell? ⟨hb, 0, none⟩ = some (.int .i64 A) ∧ w'.cell? ⟨hb, 1, none⟩ = some (.int .i64 B) ∧ w'.cell? ⟨hb, 2, none⟩ = some (.int .i64 C)) ∧ (w'.cell? ⟨w.heap.size, 0, none⟩ = some (.int .i64 (s : Int)) ∧ w'.cell? ⟨w.heap.size, 1, none⟩ = some (.int .i64 a) ∧ w'.cell? ⟨w.heap.size, 2, none⟩ = some (.int .i64 b) ∧ w'.cell? ⟨w.heap.size, 3, none⟩ = some (.int .i64 c)) ∧ (w'.cell? ⟨w.heap.size + 1, 0, none⟩ = some (.int .i64 0) ∧ w'.cell? ⟨w.heap.size + 1, 1, none⟩ = some (.int .i64 0) ∧ w'.cell? ⟨w.heap.size + 1, 2, none⟩ = some (.int .i64 0) ∧ w'.cell? ⟨w.heap.size + 1, 3, none⟩ = some (.int .i64 0) ∧ ∀ j, w'.frozen? ⟨w.heap.size + 1, j, none⟩ = false) ∧ hb < w'.heap.size ∧ w.heap.size < w'.heap.size ∧ w.heap.size + 1 < w'.heap.size) := fun W hb' => by
      have k := belCell hb'
      have := hb'.size
      exact ⟨⟨(k _ _ gh).trans h0, (k _ _ gh).trans h1, (k _ _ gh).trans h2⟩, ⟨(k _ _ g1).trans x0, (k _ _ g1).trans x1, (k _ _ g1).trans x2, (k _ _ g1).trans x3⟩, ⟨(k _ _ g2).trans r0, (k _ _ g2).trans r1, (k _ _ g2).trans r2, (k _ _ g2).trans r3, fun j => (World.frozen?_of_block (hb'.block _ g2)).trans (rf j)⟩, by omega, by omega, by omega⟩
    clear bw F HD h0 h1 h2 x1 x2 x3 r0 r1 r2 r3 rf gh hsz g1 g2
    go_wp2_with fail
    refine (HLD.out _ BW.out).mono ?_
    rintro e E ⟨rfl, bE⟩
    obtain ⟨⟨h0, h1, h2⟩, ⟨y0, y1, y2, y3⟩, ⟨r0, r1, r2, r3, rf⟩, gh, g1, g2⟩ := CD.out _ bE
    have BE := Lib.hid (belStep BW.out bE)
    clear bE BW CD HLD x0
    by_cases h3 : cd = 3
    · subst h3
      go_wp2
      exact bodyPost_ret (v := .tuple #[.agg #[.int .i64 (s : Int), .int .i64 a, .int .i64 b, .int .i64 c], .int .i64 3]) (by simp [results, Tryz.results35, go_sem, r0, r1, r2, r3]) rfl ⟨by first | rfl | rw [if_pos rfl], ((((BE.out.setCell (by exact Nat.le_succ _) _).setCell (by exact Nat.le_succ _) _).setCell (by exact Nat.le_succ _) _).setCell (by exact Nat.le_succ _) _)⟩
    · have e3 : (cd == 3) = false := by simpa using h3
      go_wp2
      exact bodyPost_ret (v := .tuple #[.agg #[.int .i64 y, .int .i64 A, .int .i64 B, .int .i64 C], .int .i64 cd]) (by simp [results, Tryz.results35, go_sem, r0, r1, r2, r3]) rfl ⟨by first | rfl | rw [if_neg h3], ((((BE.out.setCell (by exact Nat.le_succ _) _).setCell (by exact Nat.le_succ _) _).setCell (by exact Nat.le_succ _) _).setCell (by exact Nat.le_succ _) _)⟩

end Go.Proofs.YtjjhahhchimmlaaGreatDoor

namespace Go.Proofs.YtjjhahhchimmlaaGreatDoor
open Go.ChangeShapes Go.WideShapes Go.ChangeAt Go.RowKit Go.Joins
set_option linter.unusedVariables false

theorem cf_true {L : List (List R4)} (h : cfB L = true) : L.length = 4 ∧ ∀ j, j < 4 → tOk (tbAt L j) = true := by
  simp only [cfB, Bool.and_eq_true, decide_eq_true_eq] at h
  refine ⟨h.2, fun j hj => ?_⟩
  have := List.all_eq_true.1 h.1 (L[j]'(by omega)) (List.getElem_mem _)
  unfold tbAt
  rwa [List.getD_eq_getElem?_getD, List.getElem?_eq_getElem (by omega)]
/-- What WalkStep answers. -/
def wsV (l : List K4) (L : List (List R4)) (x a b c : Int) : Value :=
  bif netB l && (cfB L && spB x a b c) then stV l L (x - 1).toNat a b c else .tuple #[spV 0 0 0 0, .int .i64 0]
/-- A step's answer is a packet and a word. -/
theorem stV_form (l : List K4) (L : List (List R4)) (j : Nat) (a b c : Int) : ∃ x A B C h : Int, stV l L j a b c = .tuple #[.agg #[.int .i64 x, .int .i64 A, .int .i64 B, .int .i64 C], .int .i64 h] := by
  unfold stV stW spV
  split
  · exact ⟨_, _, _, _, _, rfl⟩
  · split
    · exact ⟨_, _, _, _, _, rfl⟩
    · exact ⟨_, _, _, _, _, rfl⟩
theorem wsV_form (l : List K4) (L : List (List R4)) (x a b c : Int) : ∃ y A B C h : Int, wsV l L x a b c = .tuple #[.agg #[.int .i64 y, .int .i64 A, .int .i64 B, .int .i64 C], .int .i64 h] := by
  unfold wsV
  cases netB l && (cfB L && spB x a b c)
  · exact ⟨_, _, _, _, _, rfl⟩
  · exact stV_form l L _ a b c
theorem sp_true {x a b c : Int} (h : spB x a b c = true) : (∃ j : Nat, j < 4 ∧ x = (j : Int) + 1 ∧ (x - 1).toNat = j) ∧ okB a b c = true := by
  simp only [spB, Bool.and_eq_true] at h
  obtain ⟨s, rfl, s1, s4⟩ := sw_nat h.1
  exact ⟨⟨s - 1, by omega, by omega, by omega⟩, h.2⟩

set_option maxRecDepth 100000 in
set_option maxHeartbeats 8000000 in
theorem sWalkStep_any (w : World) (v u : Value) (l : List K4) (L : List (List R4)) (hl : Lks w w.heap.size v l) (h : Cfs w w.heap.size u L) (hln : l.length ≤ 1048576) (hn : L.length ≤ 1048576) (hL : ∀ i, i < L.length → (tbAt L i).length ≤ 1048576) (x a b c : Int) :
    Calls Tryz.prog 8 #[v, u, .agg #[.int .i64 x, .int .i64 a, .int .i64 b, .int .i64 c]] w fun e w' => e = .returned (wsV l L x a b c) ∧ Below w.heap.size w w' := by
  have HL : Hid (∀ W, Below w.heap.size w W → Lks W W.heap.size v l) := fun W hb => (hl.below hb (Nat.le_refl _)).mono hb.size
  have HU : Hid (∀ W, Below w.heap.size w W → Cfs W W.heap.size u L) := fun W hb => (h.below hb (Nat.le_refl _)).mono hb.size
  have HN : Hid (∀ W, Below w.heap.size w W → Calls Tryz.prog 26 #[v] W fun e w' => e = .returned (.bool (netB l)) ∧ Below W.heap.size W w') := fun W hb => sNetOk_any W v l (HL.out W hb) hln
  have HC : Hid (∀ W, Below w.heap.size w W → Calls Tryz.prog 27 #[u] W fun e w' => e = .returned (.bool (cfB L)) ∧ Below W.heap.size W w') := fun W hb => sConfOk_any W u L (HU.out W hb) hn hL
  have HP := Lib.hid (fun W => l22Spot_any x a b c W)
  have HST : Hid (netB l = true → cfB L = true → spB x a b c = true → ∀ W, Below w.heap.size w W → Calls Tryz.prog 29 #[v, u, .agg #[.int .i64 x, .int .i64 a, .int .i64 b, .int .i64 c]] W fun e w' => e = .returned (wsV l L x a b c) ∧ Below W.heap.size W w') := fun e1 e2 e3 W hb => by
    obtain ⟨c4, ct⟩ := cf_true e2
    obtain ⟨⟨j, hj, hx, hxj⟩, ho⟩ := sp_true e3
    have hV : wsV l L x a b c = stV l L j a b c := by rw [wsV, e1, e2, e3, hxj]; rfl
    rw [hV, hx]
    exact l22Step_any W v u l L (HL.out W hb) (HU.out W hb) c4 (fun j hj => hL j (by omega)) (fun j hj => tOk_at (ct j hj)) e1 j hj a b c ho
  have HZ : Hid ((netB l && (cfB L && spB x a b c)) = false → wsV l L x a b c = .tuple #[spV 0 0 0 0, .int .i64 0]) := fun e => by rw [wsV, e]; rfl
  obtain ⟨y, A, B, C, hw, hV⟩ := wsV_form l L x a b c
  rw [hV] at HST HZ
  rw [hV]
  clear hl h hL hn hln HL HU hV
  have HTR : Hid (∀ w', Below ((w.alloc (.cells #[.int .i64 x, .int .i64 a, .int .i64 b, .int .i64 c] 32)).alloc (.cells #[.int .i64 0, .int .i64 0, .int .i64 0, .int .i64 0] 32)).heap.size ((w.alloc (.cells #[.int .i64 x, .int .i64 a, .int .i64 b, .int .i64 c] 32)).alloc (.cells #[.int .i64 0, .int .i64 0, .int .i64 0, .int .i64 0] 32)) w' → (w'.cell? ⟨w.heap.size, 0, none⟩ = some (.int .i64 x) ∧ w'.cell? ⟨w.heap.size, 1, none⟩ = some (.int .i64 a) ∧ w'.cell? ⟨w.heap.size, 2, none⟩ = some (.int .i64 b) ∧ w'.cell? ⟨w.heap.size, 3, none⟩ = some (.int .i64 c)) ∧ (w'.cell? ⟨w.heap.size + 1, 0, none⟩ = some (.int .i64 0) ∧ w'.cell? ⟨w.heap.size + 1, 1, none⟩ = some (.int .i64 0) ∧ w'.cell? ⟨w.heap.size + 1, 2, none⟩ = some (.int .i64 0) ∧ w'.cell? ⟨w.heap.size + 1, 3, none⟩ = some (.int .i64 0) ∧ ∀ j, w'.frozen? ⟨w.heap.size + 1, j, none⟩ = false) ∧ w.heap.size < w'.heap.size ∧ w.heap.size + 1 < w'.heap.size ∧ Below w.heap.size w w') := fun w1 hb => by
    obtain ⟨h1, h2, h3, h4⟩ := twoBlocks hb
    obtain ⟨x0, x1, x2, x3, -⟩ := quad4 h1
    exact ⟨⟨x0, x1, x2, x3⟩, quad4 h2, by omega, by omega, h3⟩
  generalize netB l = o1 at *
  generalize cfB L = o2 at *
  generalize spB x a b c = o3 at *
  cases o1
  · have HE := Lib.hid (HZ.out rfl)
    clear HZ HST HC HP
    go_enter Tryz.func8, Tryz.ntmps8
    go_wp2_with fail
    refine (HN.out _ (HTR.out _ (Below.refl _ _)).2.2.2.2).mono ?_
    rintro e w1 ⟨rfl, b1⟩
    obtain ⟨⟨x0, x1, x2, x3⟩, ⟨r0, r1, r2, r3, rf⟩, g1, g2, bw⟩ := HTR.out _ b1
    have B1 := Lib.hid bw
    clear b1 bw
    go_wp2
    exact bodyPost_ret (v := .tuple #[.agg #[.int .i64 0, .int .i64 0, .int .i64 0, .int .i64 0], .int .i64 0]) (by simp [results, Tryz.results8, go_sem, r0, r1, r2, r3]) rfl ⟨by rw [HE.out]; rfl, ((((B1.out.setCell (by exact Nat.le_succ _) _).setCell (by exact Nat.le_succ _) _).setCell (by exact Nat.le_succ _) _).setCell (by exact Nat.le_succ _) _)⟩
  cases o2
  · have HE := Lib.hid (HZ.out rfl)
    clear HZ HST HP
    go_enter Tryz.func8, Tryz.ntmps8
    go_wp2_with fail
    refine (HN.out _ (HTR.out _ (Below.refl _ _)).2.2.2.2).mono ?_
    rintro e w1 ⟨rfl, b1⟩
    have BB1 := Lib.hid b1
    clear b1
    go_wp2_with fail
    refine (HC.out _ (HTR.out _ BB1.out).2.2.2.2).mono ?_
    rintro e w2 ⟨rfl, b2⟩
    obtain ⟨⟨x0, x1, x2, x3⟩, ⟨r0, r1, r2, r3, rf⟩, g1, g2, bw⟩ := HTR.out _ (belStep BB1.out b2)
    have B1 := Lib.hid bw
    clear b2 bw
    go_wp2
    exact bodyPost_ret (v := .tuple #[.agg #[.int .i64 0, .int .i64 0, .int .i64 0, .int .i64 0], .int .i64 0]) (by simp [results, Tryz.results8, go_sem, r0, r1, r2, r3]) rfl ⟨by rw [HE.out]; rfl, ((((B1.out.setCell (by exact Nat.le_succ _) _).setCell (by exact Nat.le_succ _) _).setCell (by exact Nat.le_succ _) _).setCell (by exact Nat.le_succ _) _)⟩
  cases o3
  · have HE := Lib.hid (HZ.out rfl)
    clear HZ HST
    go_enter Tryz.func8, Tryz.ntmps8
    go_wp2_with fail
    refine (HN.out _ (HTR.out _ (Below.refl _ _)).2.2.2.2).mono ?_
    rintro e w1 ⟨rfl, b1⟩
    have BB1 := Lib.hid b1
    clear b1
    go_wp2_with fail
    refine (HC.out _ (HTR.out _ BB1.out).2.2.2.2).mono ?_
    rintro e w2 ⟨rfl, b2⟩
    obtain ⟨⟨x0, x1, x2, x3⟩, ⟨r0, r1, r2, r3, rf⟩, g1, g2, bw⟩ := HTR.out _ (belStep BB1.out b2)
    have BB2 := Lib.hid (belStep BB1.out b2)
    clear b2 bw r0 r1 r2 r3 rf
    go_wp2_with fail
    refine (HP.out _).mono ?_
    rintro e w3 ⟨rfl, b3⟩
    obtain ⟨⟨x0, x1, x2, x3⟩, ⟨r0, r1, r2, r3, rf⟩, g1, g2, bw⟩ := HTR.out _ (belStep BB2.out b3)
    have B1 := Lib.hid bw
    clear b3 bw
    go_wp2
    exact bodyPost_ret (v := .tuple #[.agg #[.int .i64 0, .int .i64 0, .int .i64 0, .int .i64 0], .int .i64 0]) (by simp [results, Tryz.results8, go_sem, r0, r1, r2, r3]) rfl ⟨by rw [HE.out]; rfl, ((((B1.out.setCell (by exact Nat.le_succ _) _).setCell (by exact Nat.le_succ _) _).setCell (by exact Nat.le_succ _) _).setCell (by exact Nat.le_succ _) _)⟩
  · have HS := Lib.hid (HST.out rfl rfl rfl)
    clear HZ HST
    go_enter Tryz.func8, Tryz.ntmps8
    go_wp2_with fail
    refine (HN.out _ (HTR.out _ (Below.refl _ _)).2.2.2.2).mono ?_
    rintro e w1 ⟨rfl, b1⟩
    have BB1 := Lib.hid b1
    clear b1
    go_wp2_with fail
    refine (HC.out _ (HTR.out _ BB1.out).2.2.2.2).mono ?_
    rintro e w2 ⟨rfl, b2⟩
    obtain ⟨⟨x0, x1, x2, x3⟩, ⟨r0, r1, r2, r3, rf⟩, g1, g2, bw⟩ := HTR.out _ (belStep BB1.out b2)
    have BB2 := Lib.hid (belStep BB1.out b2)
    clear b2 bw r0 r1 r2 r3 rf
    go_wp2_with fail
    refine (HP.out _).mono ?_
    rintro e w3 ⟨rfl, b3⟩
    clear x0 x1 x2 x3 g1 g2
    obtain ⟨⟨x0, x1, x2, x3⟩, ⟨r0, r1, r2, r3, rf⟩, g1, g2, bw⟩ := HTR.out _ (belStep BB2.out b3)
    have BB3 := Lib.hid (belStep BB2.out b3)
    have BW := Lib.hid bw
    clear b3 bw r0 r1 r2 r3 rf
    go_wp2_with fail
    refine (HS.out _ BW.out).mono ?_
    rintro e w4 ⟨rfl, b4⟩
    clear x0 x1 x2 x3 g1 g2
    obtain ⟨⟨x0, x1, x2, x3⟩, ⟨r0, r1, r2, r3, rf⟩, g1, g2, bw⟩ := HTR.out _ (belStep BB3.out b4)
    have B1 := Lib.hid bw
    clear b4 bw
    go_wp2
    exact bodyPost_ret (v := .tuple #[.agg #[.int .i64 y, .int .i64 A, .int .i64 B, .int .i64 C], .int .i64 hw]) (by simp [results, Tryz.results8, go_sem, r0, r1, r2, r3]) rfl ⟨rfl, ((((B1.out.setCell (by exact Nat.le_succ _) _).setCell (by exact Nat.le_succ _) _).setCell (by exact Nat.le_succ _) _).setCell (by exact Nat.le_succ _) _)⟩

end Go.Proofs.YtjjhahhchimmlaaGreatDoor

namespace Go.Proofs.YtjjhahhchimmlaaGreatDoor
open Go.ChangeShapes Go.WideShapes Go.ChangeAt Go.RowKit Go.Joins
set_option linter.unusedVariables false

set_option maxRecDepth 100000 in
set_option maxHeartbeats 8000000 in
theorem iWalkStep_any (w : World) (v u : Value) (l : List K4) (L : List (List R4)) (hl : Lks w w.heap.size v l) (h : Cfs w w.heap.size u L) (hn : L.length ≤ 1048576) (hL : ∀ i, i < L.length → (tbAt L i).length ≤ 1048576) (hE : EtOk w) (x a b c : Int) :
    Calls Tryz.prog 12 #[v, u, .agg #[.int .i64 x, .int .i64 a, .int .i64 b, .int .i64 c]] w fun e w' => e = .returned (wsV l L x a b c) ∧ Below w.heap.size w w' := by
  have HF : Hid (∀ W, Below w.heap.size w W → Calls Tryz.prog 33 #[v, u] W (FabRd l L W)) := fun W hb => readFabric_any W v u l L ((hl.below hb (Nat.le_refl _)).mono hb.size) ((h.below hb (Nat.le_refl _)).mono hb.size) hn hL (hE.below hb)
  unfold FabRd at HF
  have HP := Lib.hid (fun W => spotOk_any x a b c W)
  have HST : Hid (netB l = true → cfB L = true → spB x a b c = true → ∀ W g gs, Below w.heap.size w W → Fb2 W g (pk l) gs 4 → (∀ j, j < 4 → LR W (gs j) (tbAt L j)) → Calls Tryz.prog 35 #[.pointer (some ⟨g, 0, none⟩), .agg #[.int .i64 x, .int .i64 a, .int .i64 b, .int .i64 c]] W fun e w' => e = .returned (wsV l L x a b c) ∧ Below W.heap.size W w') := fun e1 e2 e3 W g gs hb hf hR => by
    obtain ⟨c4, ct⟩ := cf_true e2
    obtain ⟨⟨j, hj, hx, hxj⟩, ho⟩ := sp_true e3
    have hV : wsV l L x a b c = stV l L j a b c := by rw [wsV, e1, e2, e3, hxj]; rfl
    rw [hV, hx]
    exact forward_any W g gs l L hf hR (fun j hj => hL j (by omega)) (fun j hj => tOk_at (ct j hj)) e1 (hE.below hb) j hj a b c
  have HZ : Hid ((netB l && (cfB L && spB x a b c)) = false → wsV l L x a b c = .tuple #[spV 0 0 0 0, .int .i64 0]) := fun e => by rw [wsV, e]; rfl
  obtain ⟨y, A, B, C, hw, hV⟩ := wsV_form l L x a b c
  rw [hV] at HST HZ
  rw [hV]
  clear hl h hL hn hV hE
  have HTR : Hid (∀ w', Below ((w.alloc (.cells #[.int .i64 x, .int .i64 a, .int .i64 b, .int .i64 c] 32)).alloc (.cells #[.int .i64 0, .int .i64 0, .int .i64 0, .int .i64 0] 32)).heap.size ((w.alloc (.cells #[.int .i64 x, .int .i64 a, .int .i64 b, .int .i64 c] 32)).alloc (.cells #[.int .i64 0, .int .i64 0, .int .i64 0, .int .i64 0] 32)) w' → (w'.cell? ⟨w.heap.size, 0, none⟩ = some (.int .i64 x) ∧ w'.cell? ⟨w.heap.size, 1, none⟩ = some (.int .i64 a) ∧ w'.cell? ⟨w.heap.size, 2, none⟩ = some (.int .i64 b) ∧ w'.cell? ⟨w.heap.size, 3, none⟩ = some (.int .i64 c)) ∧ (w'.cell? ⟨w.heap.size + 1, 0, none⟩ = some (.int .i64 0) ∧ w'.cell? ⟨w.heap.size + 1, 1, none⟩ = some (.int .i64 0) ∧ w'.cell? ⟨w.heap.size + 1, 2, none⟩ = some (.int .i64 0) ∧ w'.cell? ⟨w.heap.size + 1, 3, none⟩ = some (.int .i64 0) ∧ ∀ j, w'.frozen? ⟨w.heap.size + 1, j, none⟩ = false) ∧ w.heap.size < w'.heap.size ∧ w.heap.size + 1 < w'.heap.size ∧ Below w.heap.size w w') := fun w1 hb => by
    obtain ⟨h1, h2, h3, h4⟩ := twoBlocks hb
    obtain ⟨x0, x1, x2, x3, -⟩ := quad4 h1
    exact ⟨⟨x0, x1, x2, x3⟩, quad4 h2, by omega, by omega, h3⟩
  generalize netB l = o1 at *
  generalize cfB L = o2 at *
  generalize spB x a b c = o3 at *
  cases ho : (o1 && o2)
  · have HE := Lib.hid (HZ.out (by rw [← Bool.and_assoc, ho]; rfl))
    rw [ho] at HF
    clear HZ HST HP ho
    go_enter Tryz.func12, Tryz.ntmps12
    go_wp2_with fail
    refine (HF.out _ (HTR.out _ (Below.refl _ _)).2.2.2.2).mono ?_
    rintro e w1 ⟨P, gs, k, rfl, hP, hk, b1⟩
    have BB1 := Lib.hid b1
    have HPP := Lib.hid hP
    have HKK := Lib.hid hk
    clear b1 hP hk
    go_wp2_with (refine fb_alloc rfl rfl ?_)
    intro w2 p2 b2 s2
    go_wp2_with (refine fb_store rfl _ _ rfl _ rfl _ _ _ rfl _ _ _ p2 ?_)
    intro w3 p3 g3
    have b13 := b2.trans (ct_grown g3 (Nat.le_refl _) b2.size)
    obtain ⟨⟨x0, x1, x2, x3⟩, ⟨r0, r1, r2, r3, rf⟩, g1, g2, bw⟩ := HTR.out _ (belStep BB1.out b13)
    have B13 := Lib.hid b13
    have BB3 := Lib.hid (belStep BB1.out b13)
    have P3 := Lib.hid p3
    have B3 := Lib.hid bw
    clear p2 b2 s2 p3 g3 b13 bw
    go_wp2
    exact bodyPost_ret (v := .tuple #[.agg #[.int .i64 0, .int .i64 0, .int .i64 0, .int .i64 0], .int .i64 0]) (by simp [results, Tryz.results12, go_sem, r0, r1, r2, r3]) rfl ⟨by rw [HE.out]; rfl, ((((B3.out.setCell (by exact Nat.le_succ _) _).setCell (by exact Nat.le_succ _) _).setCell (by exact Nat.le_succ _) _).setCell (by exact Nat.le_succ _) _)⟩
  obtain ⟨rfl, rfl⟩ : o1 = true ∧ o2 = true := by simpa using ho
  rw [ho] at HF
  clear ho
  cases o3
  · have HE := Lib.hid (HZ.out rfl)
    clear HZ HST
    go_enter Tryz.func12, Tryz.ntmps12
    go_wp2_with fail
    refine (HF.out _ (HTR.out _ (Below.refl _ _)).2.2.2.2).mono ?_
    rintro e w1 ⟨P, gs, k, rfl, hP, hk, b1⟩
    have BB1 := Lib.hid b1
    have HPP := Lib.hid hP
    have HKK := Lib.hid hk
    clear b1 hP hk
    go_wp2_with (refine fb_alloc rfl rfl ?_)
    intro w2 p2 b2 s2
    go_wp2_with (refine fb_store rfl _ _ rfl _ rfl _ _ _ rfl _ _ _ p2 ?_)
    intro w3 p3 g3
    have b13 := b2.trans (ct_grown g3 (Nat.le_refl _) b2.size)
    obtain ⟨⟨x0, x1, x2, x3⟩, ⟨r0, r1, r2, r3, rf⟩, g1, g2, bw⟩ := HTR.out _ (belStep BB1.out b13)
    have B13 := Lib.hid b13
    have BB3 := Lib.hid (belStep BB1.out b13)
    have P3 := Lib.hid p3
    have B3 := Lib.hid bw
    clear p2 b2 s2 p3 g3 b13 bw
    clear r0 r1 r2 r3 rf
    go_wp2_with fail
    refine (HP.out _).mono ?_
    rintro e w4 ⟨rfl, b4⟩
    clear x0 x1 x2 x3 g1 g2
    obtain ⟨⟨x0, x1, x2, x3⟩, ⟨r0, r1, r2, r3, rf⟩, g1, g2, bw⟩ := HTR.out _ (belStep BB3.out b4)
    have B4 := Lib.hid bw
    clear b4 bw
    go_wp2
    exact bodyPost_ret (v := .tuple #[.agg #[.int .i64 0, .int .i64 0, .int .i64 0, .int .i64 0], .int .i64 0]) (by simp [results, Tryz.results12, go_sem, r0, r1, r2, r3]) rfl ⟨by rw [HE.out]; rfl, ((((B4.out.setCell (by exact Nat.le_succ _) _).setCell (by exact Nat.le_succ _) _).setCell (by exact Nat.le_succ _) _).setCell (by exact Nat.le_succ _) _)⟩
  · have HS := Lib.hid (HST.out rfl rfl rfl)
    clear HZ HST
    go_enter Tryz.func12, Tryz.ntmps12
    go_wp2_with fail
    refine (HF.out _ (HTR.out _ (Below.refl _ _)).2.2.2.2).mono ?_
    rintro e w1 ⟨P, gs, k, rfl, hP, hk, b1⟩
    have BB1 := Lib.hid b1
    have HPP := Lib.hid hP
    have HKK := Lib.hid hk
    clear b1 hP hk
    go_wp2_with (refine fb_alloc rfl rfl ?_)
    intro w2 p2 b2 s2
    go_wp2_with (refine fb_store rfl _ _ rfl _ rfl _ _ _ rfl _ _ _ p2 ?_)
    intro w3 p3 g3
    have b13 := b2.trans (ct_grown g3 (Nat.le_refl _) b2.size)
    obtain ⟨⟨x0, x1, x2, x3⟩, ⟨r0, r1, r2, r3, rf⟩, g1, g2, bw⟩ := HTR.out _ (belStep BB1.out b13)
    have B13 := Lib.hid b13
    have BB3 := Lib.hid (belStep BB1.out b13)
    have P3 := Lib.hid p3
    have B3 := Lib.hid bw
    clear p2 b2 s2 p3 g3 b13 bw
    obtain rfl := HPP.out trivial
    obtain ⟨rfl, hlr⟩ := HKK.out trivial
    have HR3 : Hid (∀ j, j < 4 → LR w3 (gs j) (tbAt L j)) := fun j hj => (hlr j hj).2.below B13.out
    have g3 := P3.out.lt
    clear r0 r1 r2 r3 rf hlr HKK
    go_wp2_with fail
    refine (HP.out _).mono ?_
    rintro e w4 ⟨rfl, b4⟩
    clear x0 x1 x2 x3 g1 g2
    obtain ⟨⟨x0, x1, x2, x3⟩, ⟨r0, r1, r2, r3, rf⟩, g1, g2, bw⟩ := HTR.out _ (belStep BB3.out b4)
    have BB4 := Lib.hid (belStep BB3.out b4)
    have BW := Lib.hid bw
    have P4 := Lib.hid (P3.out.below b4 g3)
    have HR4 : Hid (∀ j, j < 4 → LR w4 (gs j) (tbAt L j)) := fun j hj => (HR3.out j hj).below b4
    clear b4 bw r0 r1 r2 r3 rf g3
    go_wp2_with fail
    refine (HS.out _ _ gs BW.out P4.out HR4.out).mono ?_
    rintro e w5 ⟨rfl, b5⟩
    clear x0 x1 x2 x3 g1 g2
    obtain ⟨⟨x0, x1, x2, x3⟩, ⟨r0, r1, r2, r3, rf⟩, g1, g2, bw⟩ := HTR.out _ (belStep BB4.out b5)
    have B5 := Lib.hid bw
    clear b5 bw
    go_wp2
    exact bodyPost_ret (v := .tuple #[.agg #[.int .i64 y, .int .i64 A, .int .i64 B, .int .i64 C], .int .i64 hw]) (by simp [results, Tryz.results12, go_sem, r0, r1, r2, r3]) rfl ⟨rfl, ((((B5.out.setCell (by exact Nat.le_succ _) _).setCell (by exact Nat.le_succ _) _).setCell (by exact Nat.le_succ _) _).setCell (by exact Nat.le_succ _) _)⟩

end Go.Proofs.YtjjhahhchimmlaaGreatDoor
