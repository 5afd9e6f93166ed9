/-
  WalkStep: the model's answer and the program's.
-/
import Derived.Test.YtjjhahhchimmlaaGreatDoorWalkD
namespace Go.Proofs.YtjjhahhchimmlaaGreatDoor
open Go.ChangeShapes Go.WideShapes Go.ChangeAt Go.RowKit Go.Joins
set_option linter.unusedVariables false

theorem cf_true {L : List (List R4)} (h : cfB L = true) : L.length = 4 ∧ ∀ j, j < 4 → tOk (tbAt L j) = true := by
  simp only [cfB, Bool.and_eq_true, decide_eq_true_eq] at h
  refine ⟨h.2, fun j hj => ?_⟩
  have := List.all_eq_true.1 h.1 (L[j]'(by omega)) (List.getElem_mem _)
  unfold tbAt
  rwa [List.getD_eq_getElem?_getD, List.getElem?_eq_getElem (by omega)]
/-- What WalkStep answers. -/
def wsV (l : List K4) (L : List (List R4)) (x a b c : Int) : Value :=
  bif netB l && (cfB L && spB x a b c) then stV l L (x - 1).toNat a b c else .tuple #[spV 0 0 0 0, .int .i64 0]
/-- A step's answer is a packet and a word. -/
theorem stV_form (l : List K4) (L : List (List R4)) (j : Nat) (a b c : Int) : ∃ x A B C h : Int, stV l L j a b c = .tuple #[.agg #[.int .i64 x, .int .i64 A, .int .i64 B, .int .i64 C], .int .i64 h] := by
  unfold stV stW spV
  split
  · exact ⟨_, _, _, _, _, rfl⟩
  · split
    · exact ⟨_, _, _, _, _, rfl⟩
    · exact ⟨_, _, _, _, _, rfl⟩
theorem wsV_form (l : List K4) (L : List (List R4)) (x a b c : Int) : ∃ y A B C h : Int, wsV l L x a b c = .tuple #[.agg #[.int .i64 y, .int .i64 A, .int .i64 B, .int .i64 C], .int .i64 h] := by
  unfold wsV
  cases netB l && (cfB L && spB x a b c)
  · exact ⟨_, _, _, _, _, rfl⟩
  · exact stV_form l L _ a b c
theorem sp_true {x a b c : Int} (h : spB x a b c = true) : (∃ j : Nat, j < 4 ∧ x = (j : Int) + 1 ∧ (x - 1).toNat = j) ∧ okB a b c = true := by
  simp only [spB, Bool.and_eq_true] at h
  obtain ⟨s, rfl, s1, s4⟩ := sw_nat h.1
  exact ⟨⟨s - 1, by omega, by omega, by omega⟩, h.2⟩

set_option maxRecDepth 100000 in
set_option maxHeartbeats 8000000 in
theorem sWalkStep_any (w : World) (v u : Value) (l : List K4) (L : List (List R4)) (hl : Lks w w.heap.size v l) (h : Cfs w w.heap.size u L) (hln : l.length ≤ 1048576) (hn : L.length ≤ 1048576) (hL : ∀ i, i < L.length → (tbAt L i).length ≤ 1048576) (x a b c : Int) :
    Calls Tryz.prog 8 #[v, u, .agg #[.int .i64 x, .int .i64 a, .int .i64 b, .int .i64 c]] w fun e w' => e = .returned (wsV l L x a b c) ∧ Below w.heap.size w w' := by
  have HL : Hid (∀ W, Below w.heap.size w W → Lks W W.heap.size v l) := fun W hb => (hl.below hb (Nat.le_refl _)).mono hb.size
  have HU : Hid (∀ W, Below w.heap.size w W → Cfs W W.heap.size u L) := fun W hb => (h.below hb (Nat.le_refl _)).mono hb.size
  have HN : Hid (∀ W, Below w.heap.size w W → Calls Tryz.prog 26 #[v] W fun e w' => e = .returned (.bool (netB l)) ∧ Below W.heap.size W w') := fun W hb => sNetOk_any W v l (HL.out W hb) hln
  have HC : Hid (∀ W, Below w.heap.size w W → Calls Tryz.prog 27 #[u] W fun e w' => e = .returned (.bool (cfB L)) ∧ Below W.heap.size W w') := fun W hb => sConfOk_any W u L (HU.out W hb) hn hL
  have HP := Lib.hid (fun W => l22Spot_any x a b c W)
  have HST : Hid (netB l = true → cfB L = true → spB x a b c = true → ∀ W, Below w.heap.size w W → Calls Tryz.prog 29 #[v, u, .agg #[.int .i64 x, .int .i64 a, .int .i64 b, .int .i64 c]] W fun e w' => e = .returned (wsV l L x a b c) ∧ Below W.heap.size W w') := fun e1 e2 e3 W hb => by
    obtain ⟨c4, ct⟩ := cf_true e2
    obtain ⟨⟨j, hj, hx, hxj⟩, ho⟩ := sp_true e3
    have hV : wsV l L x a b c = stV l L j a b c := by rw [wsV, e1, e2, e3, hxj]; rfl
    rw [hV, hx]
    exact l22Step_any W v u l L (HL.out W hb) (HU.out W hb) c4 (fun j hj => hL j (by omega)) (fun j hj => tOk_at (ct j hj)) e1 j hj a b c ho
  have HZ : Hid ((netB l && (cfB L && spB x a b c)) = false → wsV l L x a b c = .tuple #[spV 0 0 0 0, .int .i64 0]) := fun e => by rw [wsV, e]; rfl
  obtain ⟨y, A, B, C, hw, hV⟩ := wsV_form l L x a b c
  rw [hV] at HST HZ
  rw [hV]
  clear hl h hL hn hln HL HU hV
  have HTR : Hid (∀ w', Below ((w.alloc (.cells #[.int .i64 x, .int .i64 a, .int .i64 b, .int .i64 c] 32)).alloc (.cells #[.int .i64 0, .int .i64 0, .int .i64 0, .int .i64 0] 32)).heap.size ((w.alloc (.cells #[.int .i64 x, .int .i64 a, .int .i64 b, .int .i64 c] 32)).alloc (.cells #[.int .i64 0, .int .i64 0, .int .i64 0, .int .i64 0] 32)) w' → (w'.cell? ⟨w.heap.size, 0, none⟩ = some (.int .i64 x) ∧ w'.cell? ⟨w.heap.size, 1, none⟩ = some (.int .i64 a) ∧ w'.cell? ⟨w.heap.size, 2, none⟩ = some (.int .i64 b) ∧ w'.cell? ⟨w.heap.size, 3, none⟩ = some (.int .i64 c)) ∧ (w'.cell? ⟨w.heap.size + 1, 0, none⟩ = some (.int .i64 0) ∧ w'.cell? ⟨w.heap.size + 1, 1, none⟩ = some (.int .i64 0) ∧ w'.cell? ⟨w.heap.size + 1, 2, none⟩ = some (.int .i64 0) ∧ w'.cell? ⟨w.heap.size + 1, 3, none⟩ = some (.int .i64 0) ∧ ∀ j, w'.frozen? ⟨w.heap.size + 1, j, none⟩ = false) ∧ w.heap.size < w'.heap.size ∧ w.heap.size + 1 < w'.heap.size ∧ Below w.heap.size w w') := fun w1 hb => by
    obtain ⟨h1, h2, h3, h4⟩ := twoBlocks hb
    obtain ⟨x0, x1, x2, x3, -⟩ := quad4 h1
    exact ⟨⟨x0, x1, x2, x3⟩, quad4 h2, by omega, by omega, h3⟩
  generalize netB l = o1 at *
  generalize cfB L = o2 at *
  generalize spB x a b c = o3 at *
  cases o1
  · have HE := Lib.hid (HZ.out rfl)
    clear HZ HST HC HP
    go_enter Tryz.func8, Tryz.ntmps8
    go_wp2_with fail
    refine (HN.out _ (HTR.out _ (Below.refl _ _)).2.2.2.2).mono ?_
    rintro e w1 ⟨rfl, b1⟩
    obtain ⟨⟨x0, x1, x2, x3⟩, ⟨r0, r1, r2, r3, rf⟩, g1, g2, bw⟩ := HTR.out _ b1
    have B1 := Lib.hid bw
    clear b1 bw
    go_wp2
    exact bodyPost_ret (v := .tuple #[.agg #[.int .i64 0, .int .i64 0, .int .i64 0, .int .i64 0], .int .i64 0]) (by simp [results, Tryz.results8, go_sem, r0, r1, r2, r3]) rfl ⟨by rw [HE.out]; rfl, ((((B1.out.setCell (by exact Nat.le_succ _) _).setCell (by exact Nat.le_succ _) _).setCell (by exact Nat.le_succ _) _).setCell (by exact Nat.le_succ _) _)⟩
  cases o2
  · have HE := Lib.hid (HZ.out rfl)
    clear HZ HST HP
    go_enter Tryz.func8, Tryz.ntmps8
    go_wp2_with fail
    refine (HN.out _ (HTR.out _ (Below.refl _ _)).2.2.2.2).mono ?_
    rintro e w1 ⟨rfl, b1⟩
    have BB1 := Lib.hid b1
    clear b1
    go_wp2_with fail
    refine (HC.out _ (HTR.out _ BB1.out).2.2.2.2).mono ?_
    rintro e w2 ⟨rfl, b2⟩
    obtain ⟨⟨x0, x1, x2, x3⟩, ⟨r0, r1, r2, r3, rf⟩, g1, g2, bw⟩ := HTR.out _ (belStep BB1.out b2)
    have B1 := Lib.hid bw
    clear b2 bw
    go_wp2
    exact bodyPost_ret (v := .tuple #[.agg #[.int .i64 0, .int .i64 0, .int .i64 0, .int .i64 0], .int .i64 0]) (by simp [results, Tryz.results8, go_sem, r0, r1, r2, r3]) rfl ⟨by rw [HE.out]; rfl, ((((B1.out.setCell (by exact Nat.le_succ _) _).setCell (by exact Nat.le_succ _) _).setCell (by exact Nat.le_succ _) _).setCell (by exact Nat.le_succ _) _)⟩
  cases o3
  · have HE := Lib.hid (HZ.out rfl)
    clear HZ HST
    go_enter Tryz.func8, Tryz.ntmps8
    go_wp2_with fail
    refine (HN.out _ (HTR.out _ (Below.refl _ _)).2.2.2.2).mono ?_
    rintro e w1 ⟨rfl, b1⟩
    have BB1 := Lib.hid b1
    clear b1
    go_wp2_with fail
    refine (HC.out _ (HTR.out _ BB1.out).2.2.2.2).mono ?_
    rintro e w2 ⟨rfl, b2⟩
    obtain ⟨⟨x0, x1, x2, x3⟩, ⟨r0, r1, r2, r3, rf⟩, g1, g2, bw⟩ := HTR.out _ (belStep BB1.out b2)
    have BB2 := Lib.hid (belStep BB1.out b2)
    clear b2 bw r0 r1 r2 r3 rf
    go_wp2_with fail
    refine (HP.out _).mono ?_
    rintro e w3 ⟨rfl, b3⟩
    obtain ⟨⟨x0, x1, x2, x3⟩, ⟨r0, r1, r2, r3, rf⟩, g1, g2, bw⟩ := HTR.out _ (belStep BB2.out b3)
    have B1 := Lib.hid bw
    clear b3 bw
    go_wp2
    exact bodyPost_ret (v := .tuple #[.agg #[.int .i64 0, .int .i64 0, .int .i64 0, .int .i64 0], .int .i64 0]) (by simp [results, Tryz.results8, go_sem, r0, r1, r2, r3]) rfl ⟨by rw [HE.out]; rfl, ((((B1.out.setCell (by exact Nat.le_succ _) _).setCell (by exact Nat.le_succ _) _).setCell (by exact Nat.le_succ _) _).setCell (by exact Nat.le_succ _) _)⟩
  · have HS := Lib.hid (HST.out rfl rfl rfl)
    clear HZ HST
    go_enter Tryz.func8, Tryz.ntmps8
    go_wp2_with fail
    refine (HN.out _ (HTR.out _ (Below.refl _ _)).2.2.2.2).mono ?_
    rintro e w1 ⟨rfl, b1⟩
    have BB1 := Lib.hid b1
    clear b1
    go_wp2_with fail
    refine (HC.out _ (HTR.out _ BB1.out).2.2.2.2).mono ?_
    rintro e w2 ⟨rfl, b2⟩
    obtain ⟨⟨x0, x1, x2, x3⟩, ⟨r0, r1, r2, r3, rf⟩, g1, g2, bw⟩ := HTR.out _ (belStep BB1.out b2)
    have BB2 := Lib.hid (belStep BB1.out b2)
    clear b2 bw r0 r1 r2 r3 rf
    go_wp2_with fail
    refine (HP.out _).mono ?_
    rintro e w3 ⟨rfl, b3⟩
    clear x0 x1 x2 x3 g1 g2
    obtain ⟨⟨x0, x1, x2, x3⟩, ⟨r0, r1, r2, r3, rf⟩, g1, g2, bw⟩ := HTR.out _ (belStep BB2.out b3)
    have BB3 := Lib.hid (belStep BB2.out b3)
    have BW := Lib.hid bw
    clear b3 bw r0 r1 r2 r3 rf
    go_wp2_with fail
    refine (HS.out _ BW.out).mono ?_
    rintro e w4 ⟨rfl, b4⟩
    clear x0 x1 x2 x3 g1 g2
    obtain ⟨⟨x0, x1, x2, x3⟩, ⟨r0, r1, r2, r3, rf⟩, g1, g2, bw⟩ := HTR.out _ (belStep BB3.out b4)
    have B1 := Lib.hid bw
    clear b4 bw
    go_wp2
    exact bodyPost_ret (v := .tuple #[.agg #[.int .i64 y, .int .i64 A, .int .i64 B, .int .i64 C], .int .i64 hw]) (by simp [results, Tryz.results8, go_sem, r0, r1, r2, r3]) rfl ⟨rfl, ((((B1.out.setCell (by exact Nat.le_succ _) _).setCell (by exact Nat.le_succ _) _).setCell (by exact Nat.le_succ _) _).setCell (by exact Nat.le_succ _) _)⟩

end Go.Proofs.YtjjhahhchimmlaaGreatDoor
