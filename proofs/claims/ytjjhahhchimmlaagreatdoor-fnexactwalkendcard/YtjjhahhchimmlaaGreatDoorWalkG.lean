/-
  WalkStep: the program's answer.
-/
import Derived.Test.YtjjhahhchimmlaaGreatDoorWalkE
namespace Go.Proofs.YtjjhahhchimmlaaGreatDoor
open Go.ChangeShapes Go.WideShapes Go.ChangeAt Go.RowKit Go.Joins
set_option linter.unusedVariables false

set_option maxRecDepth 100000 in
set_option maxHeartbeats 8000000 in
theorem iWalkStep_any (w : World) (v u : Value) (l : List K4) (L : List (List R4)) (hl : Lks w w.heap.size v l) (h : Cfs w w.heap.size u L) (hn : L.length ≤ 1048576) (hL : ∀ i, i < L.length → (tbAt L i).length ≤ 1048576) (hE : EtOk w) (x a b c : Int) :
    Calls Tryz.prog 12 #[v, u, .agg #[.int .i64 x, .int .i64 a, .int .i64 b, .int .i64 c]] w fun e w' => e = .returned (wsV l L x a b c) ∧ Below w.heap.size w w' := by
  have HF : Hid (∀ W, Below w.heap.size w W → Calls Tryz.prog 33 #[v, u] W (FabRd l L W)) := fun W hb => readFabric_any W v u l L ((hl.below hb (Nat.le_refl _)).mono hb.size) ((h.below hb (Nat.le_refl _)).mono hb.size) hn hL (hE.below hb)
  unfold FabRd at HF
  have HP := Lib.hid (fun W => spotOk_any x a b c W)
  have HST : Hid (netB l = true → cfB L = true → spB x a b c = true → ∀ W g gs, Below w.heap.size w W → Fb2 W g (pk l) gs 4 → (∀ j, j < 4 → LR W (gs j) (tbAt L j)) → Calls Tryz.prog 35 #[.pointer (some ⟨g, 0, none⟩), .agg #[.int .i64 x, .int .i64 a, .int .i64 b, .int .i64 c]] W fun e w' => e = .returned (wsV l L x a b c) ∧ Below W.heap.size W w') := fun e1 e2 e3 W g gs hb hf hR => by
    obtain ⟨c4, ct⟩ := cf_true e2
    obtain ⟨⟨j, hj, hx, hxj⟩, ho⟩ := sp_true e3
    have hV : wsV l L x a b c = stV l L j a b c := by rw [wsV, e1, e2, e3, hxj]; rfl
    rw [hV, hx]
    exact forward_any W g gs l L hf hR (fun j hj => hL j (by omega)) (fun j hj => tOk_at (ct j hj)) e1 (hE.below hb) j hj a b c
  have HZ : Hid ((netB l && (cfB L && spB x a b c)) = false → wsV l L x a b c = .tuple #[spV 0 0 0 0, .int .i64 0]) := fun e => by rw [wsV, e]; rfl
  obtain ⟨y, A, B, C, hw, hV⟩ := wsV_form l L x a b c
  rw [hV] at HST HZ
  rw [hV]
  clear hl h hL hn hV hE
  have HTR : Hid (∀ w', Below ((w.alloc (.cells #[.int .i64 x, .int .i64 a, .int .i64 b, .int .i64 c] 32)).alloc (.cells #[.int .i64 0, .int .i64 0, .int .i64 0, .int .i64 0] 32)).heap.size ((w.alloc (.cells #[.int .i64 x, .int .i64 a, .int .i64 b, .int .i64 c] 32)).alloc (.cells #[.int .i64 0, .int .i64 0, .int .i64 0, .int .i64 0] 32)) w' → (w'.cell? ⟨w.heap.size, 0, none⟩ = some (.int .i64 x) ∧ w'.cell? ⟨w.heap.size, 1, none⟩ = some (.int .i64 a) ∧ w'.cell? ⟨w.heap.size, 2, none⟩ = some (.int .i64 b) ∧ w'.cell? ⟨w.heap.size, 3, none⟩ = some (.int .i64 c)) ∧ (w'.cell? ⟨w.heap.size + 1, 0, none⟩ = some (.int .i64 0) ∧ w'.cell? ⟨w.heap.size + 1, 1, none⟩ = some (.int .i64 0) ∧ w'.cell? ⟨w.heap.size + 1, 2, none⟩ = some (.int .i64 0) ∧ w'.cell? ⟨w.heap.size + 1, 3, none⟩ = some (.int .i64 0) ∧ ∀ j, w'.frozen? ⟨w.heap.size + 1, j, none⟩ = false) ∧ w.heap.size < w'.heap.size ∧ w.heap.size + 1 < w'.heap.size ∧ Below w.heap.size w w') := fun w1 hb => by
    obtain ⟨h1, h2, h3, h4⟩ := twoBlocks hb
    obtain ⟨x0, x1, x2, x3, -⟩ := quad4 h1
    exact ⟨⟨x0, x1, x2, x3⟩, quad4 h2, by omega, by omega, h3⟩
  generalize netB l = o1 at *
  generalize cfB L = o2 at *
  generalize spB x a b c = o3 at *
  cases ho : (o1 && o2)
  · have HE := Lib.hid (HZ.out (by rw [← Bool.and_assoc, ho]; rfl))
    rw [ho] at HF
    clear HZ HST HP ho
    go_enter Tryz.func12, Tryz.ntmps12
    go_wp2_with fail
    refine (HF.out _ (HTR.out _ (Below.refl _ _)).2.2.2.2).mono ?_
    rintro e w1 ⟨P, gs, k, rfl, hP, hk, b1⟩
    have BB1 := Lib.hid b1
    have HPP := Lib.hid hP
    have HKK := Lib.hid hk
    clear b1 hP hk
    go_wp2_with (refine fb_alloc rfl rfl ?_)
    intro w2 p2 b2 s2
    go_wp2_with (refine fb_store rfl _ _ rfl _ rfl _ _ _ rfl _ _ _ p2 ?_)
    intro w3 p3 g3
    have b13 := b2.trans (ct_grown g3 (Nat.le_refl _) b2.size)
    obtain ⟨⟨x0, x1, x2, x3⟩, ⟨r0, r1, r2, r3, rf⟩, g1, g2, bw⟩ := HTR.out _ (belStep BB1.out b13)
    have B13 := Lib.hid b13
    have BB3 := Lib.hid (belStep BB1.out b13)
    have P3 := Lib.hid p3
    have B3 := Lib.hid bw
    clear p2 b2 s2 p3 g3 b13 bw
    go_wp2
    exact bodyPost_ret (v := .tuple #[.agg #[.int .i64 0, .int .i64 0, .int .i64 0, .int .i64 0], .int .i64 0]) (by simp [results, Tryz.results12, go_sem, r0, r1, r2, r3]) rfl ⟨by rw [HE.out]; rfl, ((((B3.out.setCell (by exact Nat.le_succ _) _).setCell (by exact Nat.le_succ _) _).setCell (by exact Nat.le_succ _) _).setCell (by exact Nat.le_succ _) _)⟩
  obtain ⟨rfl, rfl⟩ : o1 = true ∧ o2 = true := by simpa using ho
  rw [ho] at HF
  clear ho
  cases o3
  · have HE := Lib.hid (HZ.out rfl)
    clear HZ HST
    go_enter Tryz.func12, Tryz.ntmps12
    go_wp2_with fail
    refine (HF.out _ (HTR.out _ (Below.refl _ _)).2.2.2.2).mono ?_
    rintro e w1 ⟨P, gs, k, rfl, hP, hk, b1⟩
    have BB1 := Lib.hid b1
    have HPP := Lib.hid hP
    have HKK := Lib.hid hk
    clear b1 hP hk
    go_wp2_with (refine fb_alloc rfl rfl ?_)
    intro w2 p2 b2 s2
    go_wp2_with (refine fb_store rfl _ _ rfl _ rfl _ _ _ rfl _ _ _ p2 ?_)
    intro w3 p3 g3
    have b13 := b2.trans (ct_grown g3 (Nat.le_refl _) b2.size)
    obtain ⟨⟨x0, x1, x2, x3⟩, ⟨r0, r1, r2, r3, rf⟩, g1, g2, bw⟩ := HTR.out _ (belStep BB1.out b13)
    have B13 := Lib.hid b13
    have BB3 := Lib.hid (belStep BB1.out b13)
    have P3 := Lib.hid p3
    have B3 := Lib.hid bw
    clear p2 b2 s2 p3 g3 b13 bw
    clear r0 r1 r2 r3 rf
    go_wp2_with fail
    refine (HP.out _).mono ?_
    rintro e w4 ⟨rfl, b4⟩
    clear x0 x1 x2 x3 g1 g2
    obtain ⟨⟨x0, x1, x2, x3⟩, ⟨r0, r1, r2, r3, rf⟩, g1, g2, bw⟩ := HTR.out _ (belStep BB3.out b4)
    have B4 := Lib.hid bw
    clear b4 bw
    go_wp2
    exact bodyPost_ret (v := .tuple #[.agg #[.int .i64 0, .int .i64 0, .int .i64 0, .int .i64 0], .int .i64 0]) (by simp [results, Tryz.results12, go_sem, r0, r1, r2, r3]) rfl ⟨by rw [HE.out]; rfl, ((((B4.out.setCell (by exact Nat.le_succ _) _).setCell (by exact Nat.le_succ _) _).setCell (by exact Nat.le_succ _) _).setCell (by exact Nat.le_succ _) _)⟩
  · have HS := Lib.hid (HST.out rfl rfl rfl)
    clear HZ HST
    go_enter Tryz.func12, Tryz.ntmps12
    go_wp2_with fail
    refine (HF.out _ (HTR.out _ (Below.refl _ _)).2.2.2.2).mono ?_
    rintro e w1 ⟨P, gs, k, rfl, hP, hk, b1⟩
    have BB1 := Lib.hid b1
    have HPP := Lib.hid hP
    have HKK := Lib.hid hk
    clear b1 hP hk
    go_wp2_with (refine fb_alloc rfl rfl ?_)
    intro w2 p2 b2 s2
    go_wp2_with (refine fb_store rfl _ _ rfl _ rfl _ _ _ rfl _ _ _ p2 ?_)
    intro w3 p3 g3
    have b13 := b2.trans (ct_grown g3 (Nat.le_refl _) b2.size)
    obtain ⟨⟨x0, x1, x2, x3⟩, ⟨r0, r1, r2, r3, rf⟩, g1, g2, bw⟩ := HTR.out _ (belStep BB1.out b13)
    have B13 := Lib.hid b13
    have BB3 := Lib.hid (belStep BB1.out b13)
    have P3 := Lib.hid p3
    have B3 := Lib.hid bw
    clear p2 b2 s2 p3 g3 b13 bw
    obtain rfl := HPP.out trivial
    obtain ⟨rfl, hlr⟩ := HKK.out trivial
    have HR3 : Hid (∀ j, j < 4 → LR w3 (gs j) (tbAt L j)) := fun j hj => (hlr j hj).2.below B13.out
    have g3 := P3.out.lt
    clear r0 r1 r2 r3 rf hlr HKK
    go_wp2_with fail
    refine (HP.out _).mono ?_
    rintro e w4 ⟨rfl, b4⟩
    clear x0 x1 x2 x3 g1 g2
    obtain ⟨⟨x0, x1, x2, x3⟩, ⟨r0, r1, r2, r3, rf⟩, g1, g2, bw⟩ := HTR.out _ (belStep BB3.out b4)
    have BB4 := Lib.hid (belStep BB3.out b4)
    have BW := Lib.hid bw
    have P4 := Lib.hid (P3.out.below b4 g3)
    have HR4 : Hid (∀ j, j < 4 → LR w4 (gs j) (tbAt L j)) := fun j hj => (HR3.out j hj).below b4
    clear b4 bw r0 r1 r2 r3 rf g3
    go_wp2_with fail
    refine (HS.out _ _ gs BW.out P4.out HR4.out).mono ?_
    rintro e w5 ⟨rfl, b5⟩
    clear x0 x1 x2 x3 g1 g2
    obtain ⟨⟨x0, x1, x2, x3⟩, ⟨r0, r1, r2, r3, rf⟩, g1, g2, bw⟩ := HTR.out _ (belStep BB4.out b5)
    have B5 := Lib.hid bw
    clear b5 bw
    go_wp2
    exact bodyPost_ret (v := .tuple #[.agg #[.int .i64 y, .int .i64 A, .int .i64 B, .int .i64 C], .int .i64 hw]) (by simp [results, Tryz.results12, go_sem, r0, r1, r2, r3]) rfl ⟨rfl, ((((B5.out.setCell (by exact Nat.le_succ _) _).setCell (by exact Nat.le_succ _) _).setCell (by exact Nat.le_succ _) _).setCell (by exact Nat.le_succ _) _)⟩

end Go.Proofs.YtjjhahhchimmlaaGreatDoor
