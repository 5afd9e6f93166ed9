/-
  Walks: the model's end.
  WalkEnd: the model's answer.
  WalkAll: the model's answer.
-/
import Derived.Test.YtjjhahhchimmlaaGreatDoorWalkRd

namespace Go.Proofs.YtjjhahhchimmlaaGreatDoor
open Go.ChangeShapes Go.WideShapes Go.ChangeAt Go.RowKit Go.Joins
set_option linter.unusedVariables false

/-- The number of an end. -/
def endI (p : Pk × Int) : Int := if p.2 = 2 then p.1.x else if p.2 = 4 then -1 else 0

set_option maxRecDepth 100000 in
set_option maxHeartbeats 2000000 in
theorem l22End_any (w : World) (v u : Value) (l : List K4) (L : List (List R4)) (s0 : Pk) (hs0 : s0.ok) (hv : ∃ a n c, v = .slice a n c) (hu : ∃ a n c, u = .slice a n c)
    (hST : ∀ W (s : Pk), Below w.heap.size w W → s.ok → Calls Tryz.prog 29 #[v, u, .agg #[.int .i64 s.x, .int .i64 s.a, .int .i64 s.b, .int .i64 s.c]] W fun e w' => e = .returned (.tuple #[(stP l L s).1.v, .int .i64 (stP l L s).2]) ∧ Below W.heap.size W w') (hok : ∀ s : Pk, s.ok → (stP l L s).2 = 1 → (stP l L s).1.ok) :
    Calls Tryz.prog 42 #[v, u, .agg #[.int .i64 s0.x, .int .i64 s0.a, .int .i64 s0.b, .int .i64 s0.c]] w fun e w' => e = .returned (.int .i64 (endI (wkL l L 16 s0).2)) ∧ Below w.heap.size w w' := by
  have hA := below_alloc1 w (.cells #[.int .i64 s0.x, .int .i64 s0.a, .int .i64 s0.b, .int .i64 s0.c] 32)
  have HC := Lib.hid (l22All_any (w.alloc (.cells #[.int .i64 s0.x, .int .i64 s0.a, .int .i64 s0.b, .int .i64 s0.c] 32)) v u l L s0 hs0 hv hu (fun W s hb hs => hST W s (belStep hA hb) hs) hok)
  have HA := Lib.hid hA
  clear hST hok hs0 hv hu hA
  unfold Pk.v at HC
  generalize wkL l L 16 s0 = R at *
  obtain ⟨P, t, how⟩ := R
  dsimp only at *
  go_enter Tryz.func42, Tryz.ntmps42
  go_wp2_with fail
  refine HC.out.mono ?_
  rintro e w1 ⟨r, rfl, -, b1⟩
  have B1 := Lib.hid (belStep HA.out b1)
  clear b1 HC
  by_cases h2 : how = 2
  · have HE : Hid (endI (t, how) = t.x) := by show _ = _; rw [endI, if_pos h2]
    subst h2
    go_wp2
    go_ret
    exact ⟨by rw [HE.out]; rfl, B1.out.alloc B1.out.size _⟩
  · have e2 : (how == 2) = false := by simp [h2]
    by_cases h4 : how = 4
    · have HE : Hid (endI (t, how) = -1) := by show _ = _; rw [endI, if_neg h2, if_pos h4]
      subst h4
      go_wp2
      go_ret
      exact ⟨by rw [HE.out]; rfl, B1.out.alloc B1.out.size _⟩
    · have e4 : (how == 4) = false := by simp [h4]
      have HE : Hid (endI (t, how) = 0) := by show _ = _; rw [endI, if_neg h2, if_neg h4]
      go_wp2
      go_ret
      exact ⟨by rw [HE.out]; rfl, B1.out.alloc B1.out.size _⟩

end Go.Proofs.YtjjhahhchimmlaaGreatDoor

namespace Go.Proofs.YtjjhahhchimmlaaGreatDoor
open Go.ChangeShapes Go.WideShapes Go.ChangeAt Go.RowKit Go.Joins
set_option linter.unusedVariables false

/-- What WalkEnd answers. -/
def weI (l : List K4) (L : List (List R4)) (x a b c : Int) : Int := bif netB l && (cfB L && spB x a b c) then endI (wkL l L 16 ⟨x, a, b, c⟩).2 else -2

set_option maxRecDepth 100000 in
set_option maxHeartbeats 8000000 in
theorem sWalkEnd_any (w : World) (v u : Value) (l : List K4) (L : List (List R4)) (hl : Lks w w.heap.size v l) (h : Cfs w w.heap.size u L) (hln : l.length ≤ 1048576) (hn : L.length ≤ 1048576) (hL : ∀ i, i < L.length → (tbAt L i).length ≤ 1048576) (x a b c : Int) :
    Calls Tryz.prog 23 #[v, u, .agg #[.int .i64 x, .int .i64 a, .int .i64 b, .int .i64 c]] w fun e w' => e = .returned (.int .i64 (weI l L x a b c)) ∧ Below w.heap.size w w' := by
  have HL : Hid (∀ W, Below w.heap.size w W → Lks W W.heap.size v l) := fun W hb => (hl.below hb (Nat.le_refl _)).mono hb.size
  have HU : Hid (∀ W, Below w.heap.size w W → Cfs W W.heap.size u L) := fun W hb => (h.below hb (Nat.le_refl _)).mono hb.size
  have HN : Hid (∀ W, Below w.heap.size w W → Calls Tryz.prog 26 #[v] W fun e w' => e = .returned (.bool (netB l)) ∧ Below W.heap.size W w') := fun W hb => sNetOk_any W v l (HL.out W hb) hln
  have HC : Hid (∀ W, Below w.heap.size w W → Calls Tryz.prog 27 #[u] W fun e w' => e = .returned (.bool (cfB L)) ∧ Below W.heap.size W w') := fun W hb => sConfOk_any W u L (HU.out W hb) hn hL
  have HP := Lib.hid (fun W => l22Spot_any x a b c W)
  have hsv : ∃ a n c, v = .slice a n c := by obtain ⟨a, c, hv, -⟩ := hl; exact ⟨_, _, _, hv⟩
  have hsu : ∃ a n c, u = .slice a n c := by obtain ⟨a, c, hv, -⟩ := h; exact ⟨_, _, _, hv⟩
  have HST : Hid (netB l = true → cfB L = true → spB x a b c = true → ∀ W, Below w.heap.size w W → Calls Tryz.prog 42 #[v, u, .agg #[.int .i64 x, .int .i64 a, .int .i64 b, .int .i64 c]] W fun e w' => e = .returned (.int .i64 (weI l L x a b c)) ∧ Below W.heap.size W w') := fun e1 e2 e3 W hb => by
    obtain ⟨c4, ct⟩ := cf_true e2
    have hV : weI l L x a b c = endI (wkL l L 16 ⟨x, a, b, c⟩).2 := by rw [weI, e1, e2, e3]; rfl
    rw [hV]
    refine l22End_any W v u l L ⟨x, a, b, c⟩ e3 hsv hsu (fun W' s hb' hs => ?_) (fun s hs h1 => step_ok e1 e2 hs h1)
    obtain ⟨⟨j, hj, hx, hxj⟩, ho⟩ := sp_true hs
    have := l22Step_any W' v u l L (HL.out W' (belStep hb hb')) (HU.out W' (belStep hb hb')) c4 (fun j hj => hL j (by omega)) (fun j hj => tOk_at (ct j hj)) e1 j hj s.a s.b s.c ho
    rw [stV_step, ← hx] at this
    exact this
  have HZ : Hid ((netB l && (cfB L && spB x a b c)) = false → weI l L x a b c = -2) := fun e => by rw [weI, e]; rfl
  generalize weI l L x a b c = res at *
  clear hl h hL hn hln HL HU hsv hsu
  have HTR : Hid (∀ w', Below (w.alloc (.cells #[.int .i64 x, .int .i64 a, .int .i64 b, .int .i64 c] 32)).heap.size (w.alloc (.cells #[.int .i64 x, .int .i64 a, .int .i64 b, .int .i64 c] 32)) w' → (w'.cell? ⟨w.heap.size, 0, none⟩ = some (.int .i64 x) ∧ w'.cell? ⟨w.heap.size, 1, none⟩ = some (.int .i64 a) ∧ w'.cell? ⟨w.heap.size, 2, none⟩ = some (.int .i64 b) ∧ w'.cell? ⟨w.heap.size, 3, none⟩ = some (.int .i64 c)) ∧ w.heap.size < w'.heap.size ∧ Below w.heap.size w w') := fun w1 hb => by
    have hs := hb.size
    simp at hs
    obtain ⟨x0, x1, x2, x3, -⟩ := quad4 ((hb.block _ (by simp)).trans (newBlockM w (.cells #[.int .i64 x, .int .i64 a, .int .i64 b, .int .i64 c] 32)))
    exact ⟨⟨x0, x1, x2, x3⟩, by omega, (below_alloc1 w _).trans (hb.mono (by simp))⟩
  generalize netB l = o1 at *
  generalize cfB L = o2 at *
  generalize spB x a b c = o3 at *
  cases o1
  · have HE := Lib.hid (HZ.out rfl)
    clear HZ HST HC HP
    go_enter Tryz.func23, Tryz.ntmps23
    go_wp2_with fail
    refine (HN.out _ (HTR.out _ (Below.refl _ _)).2.2).mono ?_
    rintro e w1 ⟨rfl, b1⟩
    obtain ⟨⟨x0, x1, x2, x3⟩, g1, bw⟩ := HTR.out _ b1
    have B1 := Lib.hid bw
    clear b1 bw
    go_wp2
    go_ret
    exact ⟨by rw [HE.out]; rfl, B1.out⟩
  cases o2
  · have HE := Lib.hid (HZ.out rfl)
    clear HZ HST HP
    go_enter Tryz.func23, Tryz.ntmps23
    go_wp2_with fail
    refine (HN.out _ (HTR.out _ (Below.refl _ _)).2.2).mono ?_
    rintro e w1 ⟨rfl, b1⟩
    have BB1 := Lib.hid b1
    clear b1
    go_wp2_with fail
    refine (HC.out _ (HTR.out _ BB1.out).2.2).mono ?_
    rintro e w2 ⟨rfl, b2⟩
    obtain ⟨⟨x0, x1, x2, x3⟩, g1, bw⟩ := HTR.out _ (belStep BB1.out b2)
    have B1 := Lib.hid bw
    clear b2 bw
    go_wp2
    go_ret
    exact ⟨by rw [HE.out]; rfl, B1.out⟩
  cases o3
  · have HE := Lib.hid (HZ.out rfl)
    clear HZ HST
    go_enter Tryz.func23, Tryz.ntmps23
    go_wp2_with fail
    refine (HN.out _ (HTR.out _ (Below.refl _ _)).2.2).mono ?_
    rintro e w1 ⟨rfl, b1⟩
    have BB1 := Lib.hid b1
    clear b1
    go_wp2_with fail
    refine (HC.out _ (HTR.out _ BB1.out).2.2).mono ?_
    rintro e w2 ⟨rfl, b2⟩
    obtain ⟨⟨x0, x1, x2, x3⟩, g1, bw⟩ := HTR.out _ (belStep BB1.out b2)
    have BB2 := Lib.hid (belStep BB1.out b2)
    clear b2 bw
    go_wp2_with fail
    refine (HP.out _).mono ?_
    rintro e w3 ⟨rfl, b3⟩
    have B1 := Lib.hid (HTR.out _ (belStep BB2.out b3)).2.2
    clear b3
    go_wp2
    go_ret
    exact ⟨by rw [HE.out]; rfl, B1.out⟩
  · have HS := Lib.hid (HST.out rfl rfl rfl)
    clear HZ HST
    go_enter Tryz.func23, Tryz.ntmps23
    go_wp2_with fail
    refine (HN.out _ (HTR.out _ (Below.refl _ _)).2.2).mono ?_
    rintro e w1 ⟨rfl, b1⟩
    have BB1 := Lib.hid b1
    clear b1
    go_wp2_with fail
    refine (HC.out _ (HTR.out _ BB1.out).2.2).mono ?_
    rintro e w2 ⟨rfl, b2⟩
    obtain ⟨⟨x0, x1, x2, x3⟩, g1, bw⟩ := HTR.out _ (belStep BB1.out b2)
    have BB2 := Lib.hid (belStep BB1.out b2)
    clear b2 bw
    go_wp2_with fail
    refine (HP.out _).mono ?_
    rintro e w3 ⟨rfl, b3⟩
    clear x0 x1 x2 x3 g1
    obtain ⟨⟨x0, x1, x2, x3⟩, g1, bw⟩ := HTR.out _ (belStep BB2.out b3)
    have BW := Lib.hid bw
    clear b3 bw
    go_wp2_with fail
    refine (HS.out _ BW.out).mono ?_
    rintro e w4 ⟨rfl, b4⟩
    have B1 := Lib.hid (belStep BW.out b4)
    clear b4
    go_wp2
    go_ret
    exact ⟨rfl, B1.out⟩

end Go.Proofs.YtjjhahhchimmlaaGreatDoor

namespace Go.Proofs.YtjjhahhchimmlaaGreatDoor
open Go.ChangeShapes Go.WideShapes Go.ChangeAt Go.RowKit Go.Joins
set_option linter.unusedVariables false

/-- What WalkAll answers. -/
def waR (l : List K4) (L : List (List R4)) (x a b c : Int) : List Pk × Pk × Int := bif netB l && (cfB L && spB x a b c) then wkL l L 16 ⟨x, a, b, c⟩ else ([], ⟨0, 0, 0, 0⟩, 0)
theorem emptyRow {base : Nat} (W : World) (hb : base ≤ W.heap.size) {g : Nat} (hg : W.heap.size = g) : PkRow (W.alloc (.cells #[] 32)) base (.slice (some ⟨g, 0, none⟩) 0 0) [] := by
  subst hg
  exact World.ownsRow_lit (base := base) (e := 32) (size := 4) W #[] 0 hb (by unfold maxLen; omega) rfl

set_option maxRecDepth 100000 in
set_option maxHeartbeats 8000000 in
theorem sWalkAll_any (w : World) (v u : Value) (l : List K4) (L : List (List R4)) (hl : Lks w w.heap.size v l) (h : Cfs w w.heap.size u L) (hln : l.length ≤ 1048576) (hn : L.length ≤ 1048576) (hL : ∀ i, i < L.length → (tbAt L i).length ≤ 1048576) (x a b c : Int) :
    Calls Tryz.prog 16 #[v, u, .agg #[.int .i64 x, .int .i64 a, .int .i64 b, .int .i64 c]] w fun e w' => ∃ r, e = .returned (.tuple #[r, (waR l L x a b c).2.1.v, .int .i64 (waR l L x a b c).2.2]) ∧ PkRow w' w.heap.size r (waR l L x a b c).1 ∧ Below w.heap.size w w' := by
  have HL : Hid (∀ W, Below w.heap.size w W → Lks W W.heap.size v l) := fun W hb => (hl.below hb (Nat.le_refl _)).mono hb.size
  have HU : Hid (∀ W, Below w.heap.size w W → Cfs W W.heap.size u L) := fun W hb => (h.below hb (Nat.le_refl _)).mono hb.size
  have HN : Hid (∀ W, Below w.heap.size w W → Calls Tryz.prog 26 #[v] W fun e w' => e = .returned (.bool (netB l)) ∧ Below W.heap.size W w') := fun W hb => sNetOk_any W v l (HL.out W hb) hln
  have HC : Hid (∀ W, Below w.heap.size w W → Calls Tryz.prog 27 #[u] W fun e w' => e = .returned (.bool (cfB L)) ∧ Below W.heap.size W w') := fun W hb => sConfOk_any W u L (HU.out W hb) hn hL
  have HP := Lib.hid (fun W => l22Spot_any x a b c W)
  have hsv : ∃ a n c, v = .slice a n c := by obtain ⟨a, c, hv, -⟩ := hl; exact ⟨_, _, _, hv⟩
  have hsu : ∃ a n c, u = .slice a n c := by obtain ⟨a, c, hv, -⟩ := h; exact ⟨_, _, _, hv⟩
  have HST : Hid (netB l = true → cfB L = true → spB x a b c = true → ∀ W, Below w.heap.size w W → Calls Tryz.prog 39 #[v, u, .agg #[.int .i64 x, .int .i64 a, .int .i64 b, .int .i64 c]] W fun e w' => ∃ r, e = .returned (.tuple #[r, (waR l L x a b c).2.1.v, .int .i64 (waR l L x a b c).2.2]) ∧ PkRow w' W.heap.size r (waR l L x a b c).1 ∧ Below W.heap.size W w') := fun e1 e2 e3 W hb => by
    obtain ⟨c4, ct⟩ := cf_true e2
    have hV : waR l L x a b c = wkL l L 16 ⟨x, a, b, c⟩ := by rw [waR, e1, e2, e3]; rfl
    rw [hV]
    refine l22All_any W v u l L ⟨x, a, b, c⟩ e3 hsv hsu (fun W' s hb' hs => ?_) (fun s hs h1 => step_ok e1 e2 hs h1)
    obtain ⟨⟨j, hj, hx, hxj⟩, ho⟩ := sp_true hs
    have := l22Step_any W' v u l L (HL.out W' (belStep hb hb')) (HU.out W' (belStep hb hb')) c4 (fun j hj => hL j (by omega)) (fun j hj => tOk_at (ct j hj)) e1 j hj s.a s.b s.c ho
    rw [stV_step, ← hx] at this
    exact this
  have HZ : Hid ((netB l && (cfB L && spB x a b c)) = false → waR l L x a b c = ([], ⟨0, 0, 0, 0⟩, 0)) := fun e => by rw [waR, e]; rfl
  unfold Pk.v at *
  generalize waR l L x a b c = R at *
  clear hl h hL hn hln HL HU hsv hsu
  have HTR : Hid (∀ w', Below ((w.alloc (.cells #[.int .i64 x, .int .i64 a, .int .i64 b, .int .i64 c] 32)).alloc (.cells #[.int .i64 0, .int .i64 0, .int .i64 0, .int .i64 0] 32)).heap.size ((w.alloc (.cells #[.int .i64 x, .int .i64 a, .int .i64 b, .int .i64 c] 32)).alloc (.cells #[.int .i64 0, .int .i64 0, .int .i64 0, .int .i64 0] 32)) w' → (w'.cell? ⟨w.heap.size, 0, none⟩ = some (.int .i64 x) ∧ w'.cell? ⟨w.heap.size, 1, none⟩ = some (.int .i64 a) ∧ w'.cell? ⟨w.heap.size, 2, none⟩ = some (.int .i64 b) ∧ w'.cell? ⟨w.heap.size, 3, none⟩ = some (.int .i64 c)) ∧ (w'.cell? ⟨w.heap.size + 1, 0, none⟩ = some (.int .i64 0) ∧ w'.cell? ⟨w.heap.size + 1, 1, none⟩ = some (.int .i64 0) ∧ w'.cell? ⟨w.heap.size + 1, 2, none⟩ = some (.int .i64 0) ∧ w'.cell? ⟨w.heap.size + 1, 3, none⟩ = some (.int .i64 0) ∧ ∀ j, w'.frozen? ⟨w.heap.size + 1, j, none⟩ = false) ∧ w.heap.size < w'.heap.size ∧ w.heap.size + 1 < w'.heap.size ∧ Below w.heap.size w w') := fun w1 hb => by
    obtain ⟨h1, h2, h3, h4⟩ := twoBlocks hb
    obtain ⟨x0, x1, x2, x3, -⟩ := quad4 h1
    exact ⟨⟨x0, x1, x2, x3⟩, quad4 h2, by omega, by omega, h3⟩
  generalize netB l = o1 at *
  generalize cfB L = o2 at *
  generalize spB x a b c = o3 at *
  cases o1
  · have HE := Lib.hid (HZ.out rfl)
    clear HZ HST HC HP
    go_enter Tryz.func16, Tryz.ntmps16
    go_wp2_with fail
    refine (HN.out _ (HTR.out _ (Below.refl _ _)).2.2.2.2).mono ?_
    rintro e w1 ⟨rfl, b1⟩
    obtain ⟨⟨x0, x1, x2, x3⟩, ⟨r0, r1, r2, r3, rf⟩, g1, g2, bw⟩ := HTR.out _ b1
    have B1 := Lib.hid bw
    clear b1 bw
    go_wp2
    exact bodyPost_ret (v := .tuple #[.slice (some ⟨w1.heap.size, 0, none⟩) 0 0, .agg #[.int .i64 0, .int .i64 0, .int .i64 0, .int .i64 0], .int .i64 0]) (by simp [results, Tryz.results16, go_sem, r0, r1, r2, r3, g2]) rfl ⟨_, by rw [HE.out], (by rw [HE.out]; refine emptyRow _ ?_ ?_ <;> simp <;> (have := B1.out.size; omega)), (((((B1.out.setCell (by exact Nat.le_succ _) _).setCell (by exact Nat.le_succ _) _).setCell (by exact Nat.le_succ _) _).setCell (by exact Nat.le_succ _) _).alloc (by simp; have := B1.out.size; omega) _)⟩
  cases o2
  · have HE := Lib.hid (HZ.out rfl)
    clear HZ HST HP
    go_enter Tryz.func16, Tryz.ntmps16
    go_wp2_with fail
    refine (HN.out _ (HTR.out _ (Below.refl _ _)).2.2.2.2).mono ?_
    rintro e w1 ⟨rfl, b1⟩
    have BB1 := Lib.hid b1
    clear b1
    go_wp2_with fail
    refine (HC.out _ (HTR.out _ BB1.out).2.2.2.2).mono ?_
    rintro e w2 ⟨rfl, b2⟩
    obtain ⟨⟨x0, x1, x2, x3⟩, ⟨r0, r1, r2, r3, rf⟩, g1, g2, bw⟩ := HTR.out _ (belStep BB1.out b2)
    have B1 := Lib.hid bw
    clear b2 bw
    go_wp2
    exact bodyPost_ret (v := .tuple #[.slice (some ⟨w2.heap.size, 0, none⟩) 0 0, .agg #[.int .i64 0, .int .i64 0, .int .i64 0, .int .i64 0], .int .i64 0]) (by simp [results, Tryz.results16, go_sem, r0, r1, r2, r3, g2]) rfl ⟨_, by rw [HE.out], (by rw [HE.out]; refine emptyRow _ ?_ ?_ <;> simp <;> (have := B1.out.size; omega)), (((((B1.out.setCell (by exact Nat.le_succ _) _).setCell (by exact Nat.le_succ _) _).setCell (by exact Nat.le_succ _) _).setCell (by exact Nat.le_succ _) _).alloc (by simp; have := B1.out.size; omega) _)⟩
  cases o3
  · have HE := Lib.hid (HZ.out rfl)
    clear HZ HST
    go_enter Tryz.func16, Tryz.ntmps16
    go_wp2_with fail
    refine (HN.out _ (HTR.out _ (Below.refl _ _)).2.2.2.2).mono ?_
    rintro e w1 ⟨rfl, b1⟩
    have BB1 := Lib.hid b1
    clear b1
    go_wp2_with fail
    refine (HC.out _ (HTR.out _ BB1.out).2.2.2.2).mono ?_
    rintro e w2 ⟨rfl, b2⟩
    obtain ⟨⟨x0, x1, x2, x3⟩, ⟨r0, r1, r2, r3, rf⟩, g1, g2, bw⟩ := HTR.out _ (belStep BB1.out b2)
    have BB2 := Lib.hid (belStep BB1.out b2)
    clear b2 bw r0 r1 r2 r3 rf
    go_wp2_with fail
    refine (HP.out _).mono ?_
    rintro e w3 ⟨rfl, b3⟩
    clear x0 x1 x2 x3 g1 g2
    obtain ⟨⟨x0, x1, x2, x3⟩, ⟨r0, r1, r2, r3, rf⟩, g1, g2, bw⟩ := HTR.out _ (belStep BB2.out b3)
    have B1 := Lib.hid bw
    clear b3 bw
    go_wp2
    exact bodyPost_ret (v := .tuple #[.slice (some ⟨w3.heap.size, 0, none⟩) 0 0, .agg #[.int .i64 0, .int .i64 0, .int .i64 0, .int .i64 0], .int .i64 0]) (by simp [results, Tryz.results16, go_sem, r0, r1, r2, r3, g2]) rfl ⟨_, by rw [HE.out], (by rw [HE.out]; refine emptyRow _ ?_ ?_ <;> simp <;> (have := B1.out.size; omega)), (((((B1.out.setCell (by exact Nat.le_succ _) _).setCell (by exact Nat.le_succ _) _).setCell (by exact Nat.le_succ _) _).setCell (by exact Nat.le_succ _) _).alloc (by simp; have := B1.out.size; omega) _)⟩
  · have HS := Lib.hid (HST.out rfl rfl rfl)
    clear HZ HST
    obtain ⟨P, t, how⟩ := R
    dsimp only at *
    go_enter Tryz.func16, Tryz.ntmps16
    go_wp2_with fail
    refine (HN.out _ (HTR.out _ (Below.refl _ _)).2.2.2.2).mono ?_
    rintro e w1 ⟨rfl, b1⟩
    have BB1 := Lib.hid b1
    clear b1
    go_wp2_with fail
    refine (HC.out _ (HTR.out _ BB1.out).2.2.2.2).mono ?_
    rintro e w2 ⟨rfl, b2⟩
    obtain ⟨⟨x0, x1, x2, x3⟩, ⟨r0, r1, r2, r3, rf⟩, g1, g2, bw⟩ := HTR.out _ (belStep BB1.out b2)
    have BB2 := Lib.hid (belStep BB1.out b2)
    clear b2 bw r0 r1 r2 r3 rf
    go_wp2_with fail
    refine (HP.out _).mono ?_
    rintro e w3 ⟨rfl, b3⟩
    clear x0 x1 x2 x3 g1 g2
    obtain ⟨⟨x0, x1, x2, x3⟩, ⟨r0, r1, r2, r3, rf⟩, g1, g2, bw⟩ := HTR.out _ (belStep BB2.out b3)
    have BB3 := Lib.hid (belStep BB2.out b3)
    have BW := Lib.hid bw
    have hsz3 : w.heap.size + 2 ≤ w3.heap.size := by omega
    clear b3 bw r0 r1 r2 r3 rf
    go_wp2_with fail
    refine (HS.out _ BW.out).mono ?_
    rintro e w4 ⟨r, rfl, hrow, b4⟩
    clear x0 x1 x2 x3 g1 g2
    obtain ⟨⟨x0, x1, x2, x3⟩, ⟨r0, r1, r2, r3, rf⟩, g1, g2, bw⟩ := HTR.out _ (belStep BB3.out b4)
    have B1 := Lib.hid bw
    have HR := Lib.hid hrow
    clear b4 bw hrow
    go_wp2
    exact bodyPost_ret (v := .tuple #[r, .agg #[.int .i64 t.x, .int .i64 t.a, .int .i64 t.b, .int .i64 t.c], .int .i64 how]) (by simp [results, Tryz.results16, go_sem, r0, r1, r2, r3]) rfl ⟨r, rfl, (pkFar (pkFar (pkFar (pkFar HR.out (by omega)) (by omega)) (by omega)) (by omega)).mono (by omega), ((((B1.out.setCell (by exact Nat.le_succ _) _).setCell (by exact Nat.le_succ _) _).setCell (by exact Nat.le_succ _) _).setCell (by exact Nat.le_succ _) _)⟩

end Go.Proofs.YtjjhahhchimmlaaGreatDoor
