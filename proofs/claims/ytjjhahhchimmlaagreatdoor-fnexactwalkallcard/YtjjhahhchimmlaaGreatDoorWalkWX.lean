/-
  WalkAll: the program's answer.
  WalkEnd: the program's answer.
-/
import Derived.Test.YtjjhahhchimmlaaGreatDoorWalkFo
import Derived.Test.YtjjhahhchimmlaaGreatDoorWalkSp

namespace Go.Proofs.YtjjhahhchimmlaaGreatDoor
open Go.ChangeShapes Go.WideShapes Go.ChangeAt Go.RowKit Go.Joins
set_option linter.unusedVariables false

set_option maxRecDepth 100000 in
set_option maxHeartbeats 8000000 in
theorem iWalkAll_any (w : World) (v u : Value) (l : List K4) (L : List (List R4)) (hl : Lks w w.heap.size v l) (h : Cfs w w.heap.size u L) (hn : L.length ≤ 1048576) (hL : ∀ i, i < L.length → (tbAt L i).length ≤ 1048576) (hE : EtOk w) (x a b c : Int) :
    Calls Tryz.prog 17 #[v, u, .agg #[.int .i64 x, .int .i64 a, .int .i64 b, .int .i64 c]] w fun e w' => ∃ r, e = .returned (.tuple #[r, (waR l L x a b c).2.1.v, .int .i64 (waR l L x a b c).2.2]) ∧ PkRow w' w.heap.size r (waR l L x a b c).1 ∧ Below w.heap.size w w' := by
  have HF : Hid (∀ W, Below w.heap.size w W → Calls Tryz.prog 33 #[v, u] W (FabRd l L W)) := fun W hb => readFabric_any W v u l L ((hl.below hb (Nat.le_refl _)).mono hb.size) ((h.below hb (Nat.le_refl _)).mono hb.size) hn hL (hE.below hb)
  unfold FabRd at HF
  have HP := Lib.hid (fun W => spotOk_any x a b c W)
  have HST : Hid (netB l = true → cfB L = true → spB x a b c = true → ∀ W g gs, Below w.heap.size w W → Fb2 W g (pk l) gs 4 → (∀ j, j < 4 → LR W (gs j) (tbAt L j)) → Calls Tryz.prog 40 #[.func (.func 35) #[.pointer (some ⟨g, 0, none⟩)] #[], .agg #[.int .i64 x, .int .i64 a, .int .i64 b, .int .i64 c]] W fun e w' => ∃ r, e = .returned (.tuple #[r, (waR l L x a b c).2.1.v, .int .i64 (waR l L x a b c).2.2]) ∧ PkRow w' W.heap.size r (waR l L x a b c).1 ∧ Below W.heap.size W w') := fun e1 e2 e3 W g gs hb hf hR => by
    obtain ⟨c4, ct⟩ := cf_true e2
    have hV : waR l L x a b c = wkL l L 16 ⟨x, a, b, c⟩ := by rw [waR, e1, e2, e3]; rfl
    rw [hV]
    refine follow_any W g l L ⟨x, a, b, c⟩ e3 (fun W' q hb' hq => ?_) (fun q hq h1 => step_ok e1 e2 hq h1)
    obtain ⟨⟨j, hj, hx, hxj⟩, ho⟩ := sp_true hq
    have := forward_any W' g gs l L (hf.below hb' hf.lt) (fun j hj => (hR j hj).below hb') (fun j hj => hL j (by omega)) (fun j hj => tOk_at (ct j hj)) e1 (hE.below (belStep hb hb')) j hj q.a q.b q.c
    rw [stV_step, ← hx] at this
    exact this
  have HZ : Hid ((netB l && (cfB L && spB x a b c)) = false → waR l L x a b c = ([], ⟨0, 0, 0, 0⟩, 0)) := fun e => by rw [waR, e]; rfl
  unfold Pk.v at *
  generalize waR l L x a b c = R at *
  clear hl h hL hn hE
  have HTR : Hid (∀ w', Below ((w.alloc (.cells #[.int .i64 x, .int .i64 a, .int .i64 b, .int .i64 c] 32)).alloc (.cells #[.int .i64 0, .int .i64 0, .int .i64 0, .int .i64 0] 32)).heap.size ((w.alloc (.cells #[.int .i64 x, .int .i64 a, .int .i64 b, .int .i64 c] 32)).alloc (.cells #[.int .i64 0, .int .i64 0, .int .i64 0, .int .i64 0] 32)) w' → (w'.cell? ⟨w.heap.size, 0, none⟩ = some (.int .i64 x) ∧ w'.cell? ⟨w.heap.size, 1, none⟩ = some (.int .i64 a) ∧ w'.cell? ⟨w.heap.size, 2, none⟩ = some (.int .i64 b) ∧ w'.cell? ⟨w.heap.size, 3, none⟩ = some (.int .i64 c)) ∧ (w'.cell? ⟨w.heap.size + 1, 0, none⟩ = some (.int .i64 0) ∧ w'.cell? ⟨w.heap.size + 1, 1, none⟩ = some (.int .i64 0) ∧ w'.cell? ⟨w.heap.size + 1, 2, none⟩ = some (.int .i64 0) ∧ w'.cell? ⟨w.heap.size + 1, 3, none⟩ = some (.int .i64 0) ∧ ∀ j, w'.frozen? ⟨w.heap.size + 1, j, none⟩ = false) ∧ w.heap.size < w'.heap.size ∧ w.heap.size + 1 < w'.heap.size ∧ Below w.heap.size w w') := fun w1 hb => by
    obtain ⟨h1, h2, h3, h4⟩ := twoBlocks hb
    obtain ⟨x0, x1, x2, x3, -⟩ := quad4 h1
    exact ⟨⟨x0, x1, x2, x3⟩, quad4 h2, by omega, by omega, h3⟩
  generalize netB l = o1 at *
  generalize cfB L = o2 at *
  generalize spB x a b c = o3 at *
  cases ho : (o1 && o2)
  · have HE := Lib.hid (HZ.out (by rw [← Bool.and_assoc, ho]; rfl))
    rw [ho] at HF
    clear HZ HST HP ho
    go_enter Tryz.func17, Tryz.ntmps17
    go_wp2_with fail
    refine (HF.out _ (HTR.out _ (Below.refl _ _)).2.2.2.2).mono ?_
    rintro e w1 ⟨P, gs, k, rfl, hP, hk, b1⟩
    have BB1 := Lib.hid b1
    have HPP := Lib.hid hP
    have HKK := Lib.hid hk
    clear b1 hP hk
    go_wp2_with (refine fb_alloc rfl rfl ?_)
    intro w2 p2 b2 s2
    go_wp2_with (refine fb_store rfl _ _ rfl _ rfl _ _ _ rfl _ _ _ p2 ?_)
    intro w3 p3 g3
    have b13 := b2.trans (ct_grown g3 (Nat.le_refl _) b2.size)
    obtain ⟨⟨x0, x1, x2, x3⟩, ⟨r0, r1, r2, r3, rf⟩, g1, g2, bw⟩ := HTR.out _ (belStep BB1.out b13)
    have B13 := Lib.hid b13
    have BB3 := Lib.hid (belStep BB1.out b13)
    have P3 := Lib.hid p3
    have B3 := Lib.hid bw
    clear p2 b2 s2 p3 g3 b13 bw
    go_wp2
    exact bodyPost_ret (v := .tuple #[.slice none 0 0, .agg #[.int .i64 0, .int .i64 0, .int .i64 0, .int .i64 0], .int .i64 0]) (by simp [results, Tryz.results17, go_sem, r0, r1, r2, r3]) rfl ⟨_, by rw [HE.out], (by rw [HE.out]; exact World.ownsRow_nil _ _ _ _), ((((B3.out.setCell (by exact Nat.le_succ _) _).setCell (by exact Nat.le_succ _) _).setCell (by exact Nat.le_succ _) _).setCell (by exact Nat.le_succ _) _)⟩
  obtain ⟨rfl, rfl⟩ : o1 = true ∧ o2 = true := by simpa using ho
  rw [ho] at HF
  clear ho
  cases o3
  · have HE := Lib.hid (HZ.out rfl)
    clear HZ HST
    go_enter Tryz.func17, Tryz.ntmps17
    go_wp2_with fail
    refine (HF.out _ (HTR.out _ (Below.refl _ _)).2.2.2.2).mono ?_
    rintro e w1 ⟨P, gs, k, rfl, hP, hk, b1⟩
    have BB1 := Lib.hid b1
    have HPP := Lib.hid hP
    have HKK := Lib.hid hk
    clear b1 hP hk
    go_wp2_with (refine fb_alloc rfl rfl ?_)
    intro w2 p2 b2 s2
    go_wp2_with (refine fb_store rfl _ _ rfl _ rfl _ _ _ rfl _ _ _ p2 ?_)
    intro w3 p3 g3
    have b13 := b2.trans (ct_grown g3 (Nat.le_refl _) b2.size)
    obtain ⟨⟨x0, x1, x2, x3⟩, ⟨r0, r1, r2, r3, rf⟩, g1, g2, bw⟩ := HTR.out _ (belStep BB1.out b13)
    have B13 := Lib.hid b13
    have BB3 := Lib.hid (belStep BB1.out b13)
    have P3 := Lib.hid p3
    have B3 := Lib.hid bw
    clear p2 b2 s2 p3 g3 b13 bw
    clear r0 r1 r2 r3 rf
    go_wp2_with fail
    refine (HP.out _).mono ?_
    rintro e w4 ⟨rfl, b4⟩
    clear x0 x1 x2 x3 g1 g2
    obtain ⟨⟨x0, x1, x2, x3⟩, ⟨r0, r1, r2, r3, rf⟩, g1, g2, bw⟩ := HTR.out _ (belStep BB3.out b4)
    have B4 := Lib.hid bw
    clear b4 bw
    go_wp2
    exact bodyPost_ret (v := .tuple #[.slice none 0 0, .agg #[.int .i64 0, .int .i64 0, .int .i64 0, .int .i64 0], .int .i64 0]) (by simp [results, Tryz.results17, go_sem, r0, r1, r2, r3]) rfl ⟨_, by rw [HE.out], (by rw [HE.out]; exact World.ownsRow_nil _ _ _ _), ((((B4.out.setCell (by exact Nat.le_succ _) _).setCell (by exact Nat.le_succ _) _).setCell (by exact Nat.le_succ _) _).setCell (by exact Nat.le_succ _) _)⟩
  · have HS := Lib.hid (HST.out rfl rfl rfl)
    clear HZ HST
    obtain ⟨P0, t, how⟩ := R
    dsimp only at *
    go_enter Tryz.func17, Tryz.ntmps17
    go_wp2_with fail
    refine (HF.out _ (HTR.out _ (Below.refl _ _)).2.2.2.2).mono ?_
    rintro e w1 ⟨P, gs, k, rfl, hP, hk, b1⟩
    have BB1 := Lib.hid b1
    have HPP := Lib.hid hP
    have HKK := Lib.hid hk
    clear b1 hP hk
    go_wp2_with (refine fb_alloc rfl rfl ?_)
    intro w2 p2 b2 s2
    go_wp2_with (refine fb_store rfl _ _ rfl _ rfl _ _ _ rfl _ _ _ p2 ?_)
    intro w3 p3 g3
    have b13 := b2.trans (ct_grown g3 (Nat.le_refl _) b2.size)
    obtain ⟨⟨x0, x1, x2, x3⟩, ⟨r0, r1, r2, r3, rf⟩, g1, g2, bw⟩ := HTR.out _ (belStep BB1.out b13)
    have B13 := Lib.hid b13
    have BB3 := Lib.hid (belStep BB1.out b13)
    have P3 := Lib.hid p3
    have B3 := Lib.hid bw
    clear p2 b2 s2 p3 g3 b13 bw
    obtain rfl := HPP.out trivial
    obtain ⟨rfl, hlr⟩ := HKK.out trivial
    have HR3 : Hid (∀ j, j < 4 → LR w3 (gs j) (tbAt L j)) := fun j hj => (hlr j hj).2.below B13.out
    have g3 := P3.out.lt
    clear r0 r1 r2 r3 rf hlr HKK
    go_wp2_with fail
    refine (HP.out _).mono ?_
    rintro e w4 ⟨rfl, b4⟩
    clear x0 x1 x2 x3 g1 g2
    obtain ⟨⟨x0, x1, x2, x3⟩, ⟨r0, r1, r2, r3, rf⟩, g1, g2, bw⟩ := HTR.out _ (belStep BB3.out b4)
    have BB4 := Lib.hid (belStep BB3.out b4)
    have BW := Lib.hid bw
    have P4 := Lib.hid (P3.out.below b4 g3)
    have HR4 : Hid (∀ j, j < 4 → LR w4 (gs j) (tbAt L j)) := fun j hj => (HR3.out j hj).below b4
    clear b4 bw r0 r1 r2 r3 rf g3
    have hsz4 : w.heap.size + 2 ≤ w4.heap.size := by omega
    go_wp2_with fail
    refine (HS.out _ _ gs BW.out P4.out HR4.out).mono ?_
    rintro e w5 ⟨r, rfl, hrow, b5⟩
    have HR5 := Lib.hid hrow
    clear hrow
    clear x0 x1 x2 x3 g1 g2
    obtain ⟨⟨x0, x1, x2, x3⟩, ⟨r0, r1, r2, r3, rf⟩, g1, g2, bw⟩ := HTR.out _ (belStep BB4.out b5)
    have B5 := Lib.hid bw
    clear b5 bw
    go_wp2
    exact bodyPost_ret (v := .tuple #[r, .agg #[.int .i64 t.x, .int .i64 t.a, .int .i64 t.b, .int .i64 t.c], .int .i64 how]) (by simp [results, Tryz.results17, go_sem, r0, r1, r2, r3]) rfl ⟨r, rfl, (pkFar (pkFar (pkFar (pkFar HR5.out (by omega)) (by omega)) (by omega)) (by omega)).mono (by omega), ((((B5.out.setCell (by exact Nat.le_succ _) _).setCell (by exact Nat.le_succ _) _).setCell (by exact Nat.le_succ _) _).setCell (by exact Nat.le_succ _) _)⟩

end Go.Proofs.YtjjhahhchimmlaaGreatDoor

namespace Go.Proofs.YtjjhahhchimmlaaGreatDoor
open Go.ChangeShapes Go.WideShapes Go.ChangeAt Go.RowKit Go.Joins
set_option linter.unusedVariables false

/-- What a walk's end says. -/
def eoI (x c : Int) : Int := if c = 2 then x else if c = 3 then 0 else if c = 4 then -1 else -2
theorem wk_code (l : List K4) (L : List (List R4)) : ∀ (n : Nat) (s : Pk), (wkL l L n s).2.2 = 2 ∨ (wkL l L n s).2.2 = 3 ∨ (wkL l L n s).2.2 = 4
  | 0, s => .inr (.inr rfl)
  | n + 1, s => by
    rw [wkL]
    split
    · exact wk_code l L n _
    · rename_i h
      dsimp only
      unfold stP at h ⊢
      dsimp only at h ⊢
      split at h
      · rename_i h4
        rw [if_pos h4]
        exact .inl rfl
      · rename_i h4
        rw [if_neg h4]
        split at h
        · rename_i h0
          rw [if_pos h0]
          exact .inr (.inl rfl)
        · exact absurd rfl h
theorem we_wa (l : List K4) (L : List (List R4)) (x a b c : Int) : weI l L x a b c = eoI (waR l L x a b c).2.1.x (waR l L x a b c).2.2 := by
  unfold weI waR
  cases netB l && (cfB L && spB x a b c)
  · rfl
  · simp only [cond_true]
    unfold endI eoI
    rcases wk_code l L 16 ⟨x, a, b, c⟩ with h | h | h <;> rw [h] <;> simp

set_option maxHeartbeats 2000000 in
theorem endOf_any (w : World) (x c : Int) : Calls Tryz.prog 43 #[.int .i64 x, .int .i64 c] w fun e w' => e = .returned (.int .i64 (eoI x c)) ∧ w = w' := by
  unfold eoI
  by_cases h2 : c = 2
  · subst h2
    rw [if_pos rfl]
    go_enter Tryz.func43, Tryz.ntmps43
    go_wp2
    go_ret
    exact ⟨rfl, rfl⟩
  have e2 : (c == 2) = false := by simpa using h2
  rw [if_neg h2]
  by_cases h3 : c = 3
  · subst h3
    rw [if_pos rfl]
    go_enter Tryz.func43, Tryz.ntmps43
    go_wp2
    go_ret
    exact ⟨rfl, rfl⟩
  have e3 : (c == 3) = false := by simpa using h3
  rw [if_neg h3]
  by_cases h4 : c = 4
  · subst h4
    rw [if_pos rfl]
    go_enter Tryz.func43, Tryz.ntmps43
    go_wp2
    go_ret
    exact ⟨rfl, rfl⟩
  have e4 : (c == 4) = false := by simpa using h4
  rw [if_neg h4]
  go_enter Tryz.func43, Tryz.ntmps43
  go_wp2
  go_ret
  exact ⟨rfl, rfl⟩

set_option maxRecDepth 100000 in
set_option maxHeartbeats 4000000 in
theorem iWalkEnd_any (w : World) (v u : Value) (l : List K4) (L : List (List R4)) (hl : Lks w w.heap.size v l) (h : Cfs w w.heap.size u L) (hn : L.length ≤ 1048576) (hL : ∀ i, i < L.length → (tbAt L i).length ≤ 1048576) (hE : EtOk w) (x a b c : Int) :
    Calls Tryz.prog 24 #[v, u, .agg #[.int .i64 x, .int .i64 a, .int .i64 b, .int .i64 c]] w fun e w' => e = .returned (.int .i64 (weI l L x a b c)) ∧ Below w.heap.size w w' := by
  have hA := below_alloc1 w (.cells #[.int .i64 x, .int .i64 a, .int .i64 b, .int .i64 c] 32)
  have HW := iWalkAll_any (w.alloc (.cells #[.int .i64 x, .int .i64 a, .int .i64 b, .int .i64 c] 32)) v u l L ((hl.below hA (Nat.le_refl _)).mono hA.size) ((h.below hA (Nat.le_refl _)).mono hA.size) hn hL (hE.below hA) x a b c
  rw [we_wa]
  unfold Pk.v at HW
  generalize waR l L x a b c = R at *
  have HA := Lib.hid hA
  have HE := Lib.hid (fun w x c => endOf_any w x c)
  clear hl h hn hL hE hA
  go_enter Tryz.func24, Tryz.ntmps24
  go_wp2_with fail
  refine HW.mono ?_
  rintro e w1 ⟨r, rfl, hr, b1⟩
  have B1 := Lib.hid (belStep HA.out b1)
  clear hr b1 HW HA
  go_wp2_with fail
  refine (HE.out _ _ _).mono ?_
  rintro e w2 ⟨rfl, rfl⟩
  go_wp2
  go_ret
  exact ⟨rfl, B1.out.trans ((below_alloc1 w1 _).mono B1.out.size)⟩

end Go.Proofs.YtjjhahhchimmlaaGreatDoor
