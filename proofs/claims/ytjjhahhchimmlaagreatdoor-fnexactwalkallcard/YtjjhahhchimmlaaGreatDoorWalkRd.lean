/-
  Walks: the model's list of packets.
  Walks: the program's round.
-/
import Derived.Test.YtjjhahhchimmlaaGreatDoorWalkPk

namespace Go.Proofs.YtjjhahhchimmlaaGreatDoor
open Go.ChangeShapes Go.WideShapes Go.ChangeAt Go.RowKit Go.Joins
set_option linter.unusedVariables false

theorem pkFar {w : World} {base g j : Nat} {v x : Value} {l : List Pk} (h : PkRow w base v l) (hb : g < base) : PkRow (w.setCell ⟨g, j, none⟩ x) base v l := by
  refine World.ownsRow.kept h (row := some g) ⟨rfl, rfl, rfl, by simp, fun k _ hk => Below.heap_setCell _ _ _ k (fun e => hk (by rw [e]))⟩ ?_
  cases hv : v.ownBlock with
  | none => exact .inl rfl
  | some k =>
    have := (World.ownsRow.lt h k hv).1
    exact .inr (fun e => by have := Option.some.inj e; omega)
theorem wk_one {l : List K4} {L : List (List R4)} {n : Nat} {s : Pk} (h : (stP l L s).2 = 1) : wkL l L (n + 1) s = (s :: (wkL l L n (stP l L s).1).1, (wkL l L n (stP l L s).1).2) := by
  rw [wkL, if_pos h]
theorem wk_end {l : List K4} {L : List (List R4)} {n : Nat} {s : Pk} (h : (stP l L s).2 ≠ 1) : wkL l L (n + 1) s = ([s], (stP l L s).1, (stP l L s).2) := by
  rw [wkL, if_neg h]
/-- Two blocks of four cells: a packet, zeros. -/
structure TwoP (w : World) (b : Nat) (s : Pk) : Prop where
  c0 : w.heap[b]? = some (.cells #[.int .i64 s.x, .int .i64 s.a, .int .i64 s.b, .int .i64 s.c] 32)
  c1 : w.heap[b + 1]? = some (.cells #[.int .i64 0, .int .i64 0, .int .i64 0, .int .i64 0] 32)
theorem TwoP.lt {w : World} {b : Nat} {s : Pk} (h : TwoP w b s) : b + 1 < w.heap.size := (Array.getElem?_eq_some_iff.1 h.c1).1
theorem TwoP.below {w w' : World} {b n : Nat} {s : Pk} (h : TwoP w b s) (hb : Below n w w') (hn : b + 1 < n) : TwoP w' b s := ⟨(hb.block _ (by omega)).trans h.c0, (hb.block _ hn).trans h.c1⟩
theorem TwoP.set {w : World} {b : Nat} {s : Pk} (h : TwoP w b s) (t : Pk) : TwoP ((((w.setCell ⟨b, 0, none⟩ (.int .i64 t.x)).setCell ⟨b, 1, none⟩ (.int .i64 t.a)).setCell ⟨b, 2, none⟩ (.int .i64 t.b)).setCell ⟨b, 3, none⟩ (.int .i64 t.c)) b t := by
  refine ⟨?_, ?_⟩
  · have := block_setCell (block_setCell (block_setCell (block_setCell h.c0 (i := 0) (.int .i64 t.x)) (i := 1) (.int .i64 t.a)) (i := 2) (.int .i64 t.b)) (i := 3) (.int .i64 t.c)
    simpa using this
  · rw [Below.heap_setCell _ _ _ _ (by dsimp only; omega), Below.heap_setCell _ _ _ _ (by dsimp only; omega), Below.heap_setCell _ _ _ _ (by dsimp only; omega), Below.heap_setCell _ _ _ _ (by dsimp only; omega)]
    exact h.c1
theorem TwoP.set1 {w : World} {b : Nat} {s : Pk} (h : TwoP w b s) (t : Pk) : ((((w.setCell ⟨b + 1, 0, none⟩ (.int .i64 t.x)).setCell ⟨b + 1, 1, none⟩ (.int .i64 t.a)).setCell ⟨b + 1, 2, none⟩ (.int .i64 t.b)).setCell ⟨b + 1, 3, none⟩ (.int .i64 t.c)).heap[b + 1]? = some (.cells #[.int .i64 t.x, .int .i64 t.a, .int .i64 t.b, .int .i64 t.c] 32) := by
  have := block_setCell (block_setCell (block_setCell (block_setCell h.c1 (i := 0) (.int .i64 t.x)) (i := 1) (.int .i64 t.a)) (i := 2) (.int .i64 t.b)) (i := 3) (.int .i64 t.c)
  simpa using this
theorem TwoP.grow {w w' : World} {b : Nat} {s : Pk} {r : Value} {p : List Pk} (h : TwoP w b s) (hg : w.grownBy w' r.ownBlock) (hr : PkRow w (b + 2) r p) : TwoP w' b s := by
  have hl := h.lt
  refine ⟨(hg.block _ (by omega) (fun e => ?_)).trans h.c0, (hg.block _ hl (fun e => ?_)).trans h.c1⟩
  · have := (hr.lt _ e.symm).1; omega
  · have := (hr.lt _ e.symm).1; omega

set_option maxRecDepth 100000 in
set_option maxHeartbeats 4000000 in
theorem l22All_any (w : World) (v u : Value) (l : List K4) (L : List (List R4)) (s0 : Pk) (hs0 : s0.ok) (hv : ∃ a n c, v = .slice a n c) (hu : ∃ a n c, u = .slice a n c)
    (hST : ∀ W (s : Pk), Below w.heap.size w W → s.ok → Calls Tryz.prog 29 #[v, u, .agg #[.int .i64 s.x, .int .i64 s.a, .int .i64 s.b, .int .i64 s.c]] W fun e w' => e = .returned (.tuple #[(stP l L s).1.v, .int .i64 (stP l L s).2]) ∧ Below W.heap.size W w') (hok : ∀ s : Pk, s.ok → (stP l L s).2 = 1 → (stP l L s).1.ok) :
    Calls Tryz.prog 39 #[v, u, .agg #[.int .i64 s0.x, .int .i64 s0.a, .int .i64 s0.b, .int .i64 s0.c]] w fun e w' => ∃ r, e = .returned (.tuple #[r, (wkL l L 16 s0).2.1.v, .int .i64 (wkL l L 16 s0).2.2]) ∧ PkRow w' w.heap.size r (wkL l L 16 s0).1 ∧ Below w.heap.size w w' := by
  obtain ⟨va, vn, vc, rfl⟩ := hv
  obtain ⟨ua, un, uc, rfl⟩ := hu
  have HST := Lib.hid hST
  have HOK := Lib.hid hok
  have HS0 : Hid (s0.ok) := hs0
  clear hST hok hs0
  unfold Pk.v at HST ⊢
  generalize hR : wkL l L 16 s0 = R
  have HR := Lib.hid hR
  clear hR
  go_enter Tryz.func39, Tryz.ntmps39
  go_wp2_with fail
  go_loopw [9, 10] (fun r i wr => ∃ (k : Nat) (pre : List Pk) (s : Pk), k ≤ 16 ∧ i = .int .i64 (k : Int) ∧ pre.length = k ∧ PkRow wr (w.heap.size + 2) r pre ∧ s.ok ∧ TwoP wr w.heap.size s ∧ R = (pre ++ (wkL l L (16 - k) s).1, (wkL l L (16 - k) s).2) ∧ Below w.heap.size w wr) (fun _ i _ => 16 - (intOf i).toNat)
  case atStart =>
    have hb2 := below_alloc2 w (.cells #[.int .i64 s0.x, .int .i64 s0.a, .int .i64 s0.b, .int .i64 s0.c] 32) (.cells #[.int .i64 0, .int .i64 0, .int .i64 0, .int .i64 0] 32)
    have h2 := twoBlocks (Below.refl _ ((w.alloc (.cells #[.int .i64 s0.x, .int .i64 s0.a, .int .i64 s0.b, .int .i64 s0.c] 32)).alloc (.cells #[.int .i64 0, .int .i64 0, .int .i64 0, .int .i64 0] 32)))
    have hz : ((w.alloc (.cells #[.int .i64 s0.x, .int .i64 s0.a, .int .i64 s0.b, .int .i64 s0.c] 32)).alloc (.cells #[.int .i64 0, .int .i64 0, .int .i64 0, .int .i64 0] 32)).heap.size = w.heap.size + 1 + 1 := by simp
    generalize ((w.alloc (.cells #[.int .i64 s0.x, .int .i64 s0.a, .int .i64 s0.b, .int .i64 s0.c] 32)).alloc (.cells #[.int .i64 0, .int .i64 0, .int .i64 0, .int .i64 0] 32)) = W at *
    have T : TwoP W w.heap.size s0 := ⟨h2.1, h2.2.1⟩
    refine ⟨0, [], s0, Nat.zero_le _, rfl, rfl, ?_, HS0.out, T.below (below_alloc1 W _) (by omega), HR.out.symm, hb2.trans ((below_alloc1 W _).mono (by omega))⟩
    have := World.ownsRow_lit (base := w.heap.size + 2) (e := 32) (size := 4) W #[] 0 (by omega) (by unfold maxLen; omega) rfl
    rw [hz] at this
    exact this
  case round =>
    obtain ⟨k, pre, s, hk, rfl, hpre, hrow, hsok, ht, hRk, hbel⟩ := hrel
    have HROW := Lib.hid hrow
    have HSOK : Hid (s.ok) := hsok
    have HT := Lib.hid ht
    have HRK := Lib.hid hRk
    have HBL := Lib.hid hbel
    have hlen : pre.length ≤ 16 := by omega
    have HPL := Lib.hid hpre
    obtain ⟨x0, x1, x2, x3, xf⟩ := quad4 ht.c0
    obtain ⟨r0, r1, r2, r3, rf⟩ := quad4 ht.c1
    have g2 : w.heap.size + 1 < wr.heap.size := ht.lt
    have g1 : w.heap.size < wr.heap.size := by omega
    clear hrow hsok ht hRk hbel hpre
    by_cases hlt : k < 16
    · have hz : (k : Int) < 16 := by omega
      go_wp2_with (at_builtin; refine app_pk rfl _ _ rfl (w.heap.size + 2) _ pre rfl (HROW.out.below (below_alloc1 _ _)) _ s rfl (pkNew _ s) (by omega) (by simp; omega) ?_; rintro v' w3 hrow3 hg3 ho3; have HR3 := Lib.hid hrow3; have T3 := Lib.hid (TwoP.grow (HT.out.below (below_alloc1 wr _) HT.out.lt) hg3 (HROW.out.below (below_alloc1 _ _))); have B3 := Lib.hid ((HBL.out.trans ((below_alloc1 wr (.cells #[.int .i64 s.x, .int .i64 s.a, .int .i64 s.b, .int .i64 s.c] 32)).mono HBL.out.size)).trans (((HROW.out.below (below_alloc1 _ _)).belRow hg3 (by simp; omega)).mono (by omega))); clear hrow3 hg3 ho3 x0 x1 x2 x3 xf r0 r1 r2 r3 rf g1 g2; obtain ⟨x0, x1, x2, x3, xf⟩ := quad4 T3.out.c0; obtain ⟨r0, r1, r2, r3, rf⟩ := quad4 T3.out.c1; have g2 : w.heap.size + 1 < w3.heap.size := T3.out.lt; have g1 : w.heap.size < w3.heap.size := by omega)
      obtain ⟨t, how, hp⟩ : ∃ t how, stP l L s = (t, how) := ⟨_, _, rfl⟩
      have HC := HST.out w3 s B3.out HSOK.out
      rw [hp] at HC
      refine HC.mono ?_
      rintro e w4 ⟨rfl, b4⟩
      have HP := Lib.hid hp
      have T4 := Lib.hid (T3.out.below b4 T3.out.lt)
      have HR4 := Lib.hid (HR3.out.below b4)
      have B4 := Lib.hid (belStep B3.out b4)
      clear HC hp b4 T3 HR3 B3 x0 x1 x2 x3 xf r0 r1 r2 r3 rf g1 g2 HROW HT HBL
      obtain ⟨x0, x1, x2, x3, xf⟩ := quad4 T4.out.c0
      obtain ⟨r0, r1, r2, r3, rf⟩ := quad4 T4.out.c1
      have g2 : w.heap.size + 1 < w4.heap.size := T4.out.lt
      have g1 : w.heap.size < w4.heap.size := by omega
      dsimp only
      by_cases hw : how = 1
      · subst hw
        go_wp2
        go_roundw
        case rel =>
          have ht := T4.out.set t
          have hr := pkFar (j := 3) (x := .int .i64 t.c) (pkFar (j := 2) (x := .int .i64 t.b) (pkFar (j := 1) (x := .int .i64 t.a) (pkFar (j := 0) (x := .int .i64 t.x) HR4.out (g := w.heap.size) (by omega)) (g := w.heap.size) (by omega)) (g := w.heap.size) (by omega)) (g := w.heap.size) (by omega)
          have hb := (((B4.out.setCell (p := ⟨w.heap.size, 0, none⟩) (Nat.le_refl _) (.int .i64 t.x)).setCell (p := ⟨w.heap.size, 1, none⟩) (Nat.le_refl _) (.int .i64 t.a)).setCell (p := ⟨w.heap.size, 2, none⟩) (Nat.le_refl _) (.int .i64 t.b)).setCell (p := ⟨w.heap.size, 3, none⟩) (Nat.le_refl _) (.int .i64 t.c)
          generalize ((((w4.setCell ⟨w.heap.size, 0, none⟩ (.int .i64 t.x)).setCell ⟨w.heap.size, 1, none⟩ (.int .i64 t.a)).setCell ⟨w.heap.size, 2, none⟩ (.int .i64 t.b)).setCell ⟨w.heap.size, 3, none⟩ (.int .i64 t.c)) = W at ht hr hb ⊢
          have hA := below_alloc1 W (.cells #[.int .i64 t.x, .int .i64 t.a, .int .i64 t.b, .int .i64 t.c] 32)
          refine ⟨k + 1, pre ++ [s], t, by omega, by go_num, by simp [HPL.out], hr.below hA, ?_, ht.below hA ht.lt, ?_, hb.trans (hA.mono hb.size)⟩
          · have := HOK.out s HSOK.out (by rw [HP.out])
            rwa [HP.out] at this
          · have e : 16 - k = (16 - (k + 1)) + 1 := by omega
            rw [HRK.out, e, wk_one (by rw [HP.out]), HP.out]
            simp
        case measure => simp [intOf]; omega
      · have hn : (how != 1) = true := by simp [hw]
        have HE : Hid (R = (pre ++ [s], t, how)) := by
          show _ = _
          have e : 16 - k = (16 - (k + 1)) + 1 := by omega
          rw [HRK.out, e, wk_end (by rw [HP.out]; exact hw), HP.out]
        clear hw
        go_wp2
        go_region_with (fail)
        all_goals
          go_wp2
          have ht := T4.out.set1 t
          have hr := pkFar (j := 3) (x := .int .i64 t.c) (pkFar (j := 2) (x := .int .i64 t.b) (pkFar (j := 1) (x := .int .i64 t.a) (pkFar (j := 0) (x := .int .i64 t.x) HR4.out (g := w.heap.size + 1) (by omega)) (g := w.heap.size + 1) (by omega)) (g := w.heap.size + 1) (by omega)) (g := w.heap.size + 1) (by omega)
          have hb := (((B4.out.setCell (p := ⟨w.heap.size + 1, 0, none⟩) (Nat.le_succ _) (.int .i64 t.x)).setCell (p := ⟨w.heap.size + 1, 1, none⟩) (Nat.le_succ _) (.int .i64 t.a)).setCell (p := ⟨w.heap.size + 1, 2, none⟩) (Nat.le_succ _) (.int .i64 t.b)).setCell (p := ⟨w.heap.size + 1, 3, none⟩) (Nat.le_succ _) (.int .i64 t.c)
          generalize ((((w4.setCell ⟨w.heap.size + 1, 0, none⟩ (.int .i64 t.x)).setCell ⟨w.heap.size + 1, 1, none⟩ (.int .i64 t.a)).setCell ⟨w.heap.size + 1, 2, none⟩ (.int .i64 t.b)).setCell ⟨w.heap.size + 1, 3, none⟩ (.int .i64 t.c)) = W at ht hr hb ⊢
          have hA := (below_alloc1 W (.cells #[.int .i64 t.x, .int .i64 t.a, .int .i64 t.b, .int .i64 t.c] 32)).drew
          have ht' := (hA.block _ (Array.getElem?_eq_some_iff.1 ht).1).trans ht
          have hr' := (hr.below hA).mono (show w.heap.size ≤ w.heap.size + 2 by omega)
          have hb' := hb.trans (hA.mono hb.size)
          obtain ⟨y0, y1, y2, y3, -⟩ := quad4 ht'
          clear ht hr hb hA ht'
          generalize (W.alloc (.cells #[.int .i64 t.x, .int .i64 t.a, .int .i64 t.b, .int .i64 t.c] 32)).drew = E at *
          exact bodyPost_ret (v := .tuple #[v', .agg #[.int .i64 t.x, .int .i64 t.a, .int .i64 t.b, .int .i64 t.c], .int .i64 how]) (by simp [results, Tryz.results39, go_sem, y0, y1, y2, y3]) rfl ⟨v', by rw [HE.out], by rw [HE.out]; exact hr', hb'⟩
    · obtain rfl : k = 16 := by omega
      have HE : Hid (R = (pre, s, 4)) := by
        show _ = _
        rw [HRK.out, show 16 - 16 = 0 from rfl, wkL, List.append_nil]
      clear hlt
      go_wp2
      go_region_with (fail)
      all_goals
        go_wp2
        have ht := HT.out.set1 s
        have hr := pkFar (j := 3) (x := .int .i64 s.c) (pkFar (j := 2) (x := .int .i64 s.b) (pkFar (j := 1) (x := .int .i64 s.a) (pkFar (j := 0) (x := .int .i64 s.x) HROW.out (g := w.heap.size + 1) (by omega)) (g := w.heap.size + 1) (by omega)) (g := w.heap.size + 1) (by omega)) (g := w.heap.size + 1) (by omega)
        have hb := (((HBL.out.setCell (p := ⟨w.heap.size + 1, 0, none⟩) (Nat.le_succ _) (.int .i64 s.x)).setCell (p := ⟨w.heap.size + 1, 1, none⟩) (Nat.le_succ _) (.int .i64 s.a)).setCell (p := ⟨w.heap.size + 1, 2, none⟩) (Nat.le_succ _) (.int .i64 s.b)).setCell (p := ⟨w.heap.size + 1, 3, none⟩) (Nat.le_succ _) (.int .i64 s.c)
        generalize ((((wr.setCell ⟨w.heap.size + 1, 0, none⟩ (.int .i64 s.x)).setCell ⟨w.heap.size + 1, 1, none⟩ (.int .i64 s.a)).setCell ⟨w.heap.size + 1, 2, none⟩ (.int .i64 s.b)).setCell ⟨w.heap.size + 1, 3, none⟩ (.int .i64 s.c)) = W at ht hr hb ⊢
        have hA := (Below.refl W.heap.size W).drew
        have ht' := (hA.block _ (Array.getElem?_eq_some_iff.1 ht).1).trans ht
        have hr' := (hr.below hA).mono (show w.heap.size ≤ w.heap.size + 2 by omega)
        have hb' := hb.trans (hA.mono hb.size)
        obtain ⟨y0, y1, y2, y3, -⟩ := quad4 ht'
        clear ht hr hb hA ht'
        generalize W.drew = E at *
        exact bodyPost_ret (v := .tuple #[u9, .agg #[.int .i64 s.x, .int .i64 s.a, .int .i64 s.b, .int .i64 s.c], .int .i64 4]) (by simp [results, Tryz.results39, go_sem, y0, y1, y2, y3]) rfl ⟨u9, by rw [HE.out], by rw [HE.out]; exact hr', hb'⟩

end Go.Proofs.YtjjhahhchimmlaaGreatDoor

namespace Go.Proofs.YtjjhahhchimmlaaGreatDoor
open Go.ChangeShapes Go.WideShapes Go.ChangeAt Go.RowKit Go.Joins
set_option linter.unusedVariables false

theorem PkRow.at {w : World} {base : Nat} {v : Value} {l : List Pk} (h : PkRow w base v l) {i : Nat} {x : Pk} (hx : l[i]? = some x) : ∃ g cap, v = .slice (some ⟨g, 0, none⟩) l.length cap ∧ g < w.heap.size ∧ l.length ≤ cap ∧
    w.cell? ⟨g, i * 4, none⟩ = some (.int .i64 x.x) ∧ w.cell? ⟨g, i * 4 + 1, none⟩ = some (.int .i64 x.a) ∧ w.cell? ⟨g, i * 4 + 2, none⟩ = some (.int .i64 x.b) ∧ w.cell? ⟨g, i * 4 + 3, none⟩ = some (.int .i64 x.c) := by
  have hi : i < l.length := (List.getElem?_eq_some_iff.1 hx).1
  have h0 := h
  obtain ⟨hl, h1 | ⟨g, cap, cur, rfl, hb, hg, hc, hm, hs, ht⟩⟩ := h
  · omega
  · have e := fun j (hj : j < 4) => (World.ownsRow.cellAt h0 (i * 4 + j) (by omega)).trans (pkc_at l i j x hx hj)
    exact ⟨g, cap, rfl, (World.ownsRow.lt h0 g rfl).2, hc, e 0 (by decide), e 1 (by decide), e 2 (by decide), e 3 (by decide)⟩

theorem pkOff {w : World} {base g j : Nat} {v x : Value} {l : List Pk} (h : PkRow w base v l) (hb : ∀ q, v.ownBlock = some q → q ≠ g) : PkRow (w.setCell ⟨g, j, none⟩ x) base v l := by
  refine World.ownsRow.kept h (row := some g) ⟨rfl, rfl, rfl, by simp, fun k _ hk => Below.heap_setCell _ _ _ k (fun e => hk (by rw [e]))⟩ ?_
  cases hv : v.ownBlock with
  | none => exact .inl rfl
  | some k => exact .inr (fun e => hb k hv (Option.some.inj e))

set_option maxRecDepth 100000 in
set_option maxHeartbeats 4000000 in
theorem goRound_any (w : World) (base : Nat) (v : Value) (F : Nat → Pk) (n i : Nat) (hrow : PkRow w base v ((List.range n).map F)) (hb : base ≤ w.heap.size) (hin : i < n) (hn : n ≤ 16) (hF : ∀ m, i ≤ m → F (m + (n - i)) = F m) :
    Calls Tryz.prog 59 #[v, .int .i64 i] w fun e w' => ∃ r, e = .returned (.tuple #[r, (F 16).v, .int .i64 4]) ∧ PkRow w' base r ((List.range 16).map F) ∧ Below base w w' := by
  obtain ⟨d, hd⟩ : ∃ d, n - i = d := ⟨_, rfl⟩
  rw [hd] at hF
  have HF := Lib.hid hF
  have HROW := Lib.hid hrow
  obtain ⟨a, c, hv⟩ := hrow.shape
  have hlen : ((List.range n).map F).length = n := by simp
  rw [hlen] at hv
  subst hv
  have hw1 : IntKind.i64.wrap ((n : Int) - (i : Int)) = (d : Int) := by rw [IntKind.wrap_i64]; omega
  clear hF hrow hlen
  unfold Pk.v
  go_enter Tryz.func59, Tryz.ntmps59
  go_wp2_with fail
  have hz0 := newBlockM w (.cells #[.int .i64 0, .int .i64 0, .int .i64 0, .int .i64 0] 32)
  have hA := below_alloc1 w (.cells #[.int .i64 0, .int .i64 0, .int .i64 0, .int .i64 0] 32)
  have HST : Hid (PkRow (w.alloc (.cells #[.int .i64 0, .int .i64 0, .int .i64 0, .int .i64 0] 32)) base (.slice a n c) ((List.range n).map F) ∧ (∀ q, (Value.slice a n c).ownBlock = some q → q ≠ w.heap.size) ∧ Below base w (w.alloc (.cells #[.int .i64 0, .int .i64 0, .int .i64 0, .int .i64 0] 32))) := ⟨HROW.out.below hA, fun q hq => by have := (HROW.out.lt q hq).2; omega, hA.mono hb⟩
  have HZ0 := Lib.hid hz0
  have hg0 : w.heap.size < (w.alloc (.cells #[.int .i64 0, .int .i64 0, .int .i64 0, .int .i64 0] 32)).heap.size := by simp
  clear hz0 hA HROW
  generalize (w.alloc (.cells #[.int .i64 0, .int .i64 0, .int .i64 0, .int .i64 0] 32)) = W0 at *
  go_loopw [0] (fun r wr => ∃ k : Nat, n ≤ k ∧ k ≤ 16 ∧ PkRow wr base r ((List.range k).map F) ∧ (∀ q, r.ownBlock = some q → q ≠ w.heap.size) ∧ wr.heap[w.heap.size]? = some (.cells #[.int .i64 0, .int .i64 0, .int .i64 0, .int .i64 0] 32) ∧ Below base w wr) (fun r _ => 16 - (match r with | .slice _ k _ => k | _ => 0))
  case atStart => exact ⟨n, Nat.le_refl _, hn, HST.out.1, HST.out.2.1, HZ0.out, HST.out.2.2⟩
  case round =>
    obtain ⟨k, hnk, hk, hrow, hne, hz, hbel⟩ := hrel
    have hlen : ((List.range k).map F).length = k := by simp
    have hx : ((List.range k).map F)[k - d]? = some (F (k - d)) := by
      rw [List.getElem?_map, List.getElem?_range (by omega)]
      rfl
    have HROW := Lib.hid hrow
    obtain ⟨g, cap, hv, hgl, hcap, c0, c1, c2, c3⟩ := hrow.at hx
    rw [hlen] at hv
    subst hv
    have HNE := Lib.hid hne
    have HZ := Lib.hid hz
    have HBL := Lib.hid hbel
    have hFk : F (k - d) = F k := by
      have := HF.out (k - d) (by omega)
      rw [show k - d + d = k from by omega] at this
      exact this.symm
    rw [hFk] at c0 c1 c2 c3
    have hw2 : IntKind.i64.wrap ((k : Int) - (d : Int)) = ((k - d : Nat) : Int) := by rw [IntKind.wrap_i64]; omega
    have hkd : ((k - d : Nat) : Int) < (k : Int) := by omega
    have hgw : w.heap.size < wr.heap.size := (Array.getElem?_eq_some_iff.1 hz).1
    obtain ⟨r0, r1, r2, r3, rf⟩ := quad4 hz
    have hpl : ((List.range k).map F).length ≤ 1000 := by rw [hlen]; omega
    generalize hm : k - d = m at *
    clear hrow hne hz hbel hx hFk
    by_cases hlt : k < 16
    · have hzz : (k : Int) < 16 := by omega
      go_wp2_with (at_builtin; refine app_pk rfl _ _ rfl base _ ((List.range k).map F) rfl (HROW.out.below (below_alloc1 _ _)) _ (F k) rfl (pkNew _ (F k)) hpl (by simp; have := HBL.out.size; omega) ?_; rintro v' w3 hrow3 hg3 ho3; have HR3 := Lib.hid hrow3; have HG3 := Lib.hid hg3; have HO3 := Lib.hid ho3; clear hrow3 hg3 ho3)
      obtain ⟨a', c', hv'⟩ := HR3.out.shape
      have hl1 : ((List.range k).map F ++ [F k]).length = k + 1 := by simp
      rw [hl1] at hv'
      subst hv'
      have hAl := below_alloc1 wr (.cells #[.int .i64 (F k).x, .int .i64 (F k).a, .int .i64 (F k).b, .int .i64 (F k).c] 32)
      refine ⟨⟨k + 1, by omega, by omega, ?_, fun q hq => ?_, ?_, ?_⟩, by simp; omega⟩
      · rw [List.range_succ, List.map_append]
        exact HR3.out
      · rcases HO3.out with e | e
        · exact HNE.out q (e.symm.trans hq)
        · rw [e] at hq
          have := Option.some.inj hq
          simp at this
          omega
      · refine (HG3.out.block _ (by simp; omega) (fun e => HNE.out _ e.symm rfl)).trans ((hAl.block _ hgw).trans HZ.out)
      · exact (HBL.out.trans (hAl.mono (Nat.le_trans hb HBL.out.size))).trans ((HROW.out.below hAl).belRow HG3.out (Nat.le_trans hb (Nat.le_trans HBL.out.size hAl.size)))
    · obtain rfl : k = 16 := by omega
      have hw3 : IntKind.i64.wrap ((16 : Int) - (d : Int)) = (m : Int) := hw2
      have hkd3 : (m : Int) < 16 := hkd
      clear hlt hw2 hkd
      go_wp2
      go_region_with (fail)
      all_goals
        go_wp2
        have ht : ((((wr.setCell ⟨w.heap.size, 0, none⟩ (.int .i64 (F 16).x)).setCell ⟨w.heap.size, 1, none⟩ (.int .i64 (F 16).a)).setCell ⟨w.heap.size, 2, none⟩ (.int .i64 (F 16).b)).setCell ⟨w.heap.size, 3, none⟩ (.int .i64 (F 16).c)).heap[w.heap.size]? = some (.cells #[.int .i64 (F 16).x, .int .i64 (F 16).a, .int .i64 (F 16).b, .int .i64 (F 16).c] 32) := by
          have := block_setCell (block_setCell (block_setCell (block_setCell HZ.out (i := 0) (.int .i64 (F 16).x)) (i := 1) (.int .i64 (F 16).a)) (i := 2) (.int .i64 (F 16).b)) (i := 3) (.int .i64 (F 16).c)
          simpa using this
        have hr := pkOff (j := 3) (x := .int .i64 (F 16).c) (pkOff (j := 2) (x := .int .i64 (F 16).b) (pkOff (j := 1) (x := .int .i64 (F 16).a) (pkOff (j := 0) (x := .int .i64 (F 16).x) HROW.out HNE.out) HNE.out) HNE.out) HNE.out
        have hB := (((HBL.out.setCell (p := ⟨w.heap.size, 0, none⟩) hb (.int .i64 (F 16).x)).setCell (p := ⟨w.heap.size, 1, none⟩) hb (.int .i64 (F 16).a)).setCell (p := ⟨w.heap.size, 2, none⟩) hb (.int .i64 (F 16).b)).setCell (p := ⟨w.heap.size, 3, none⟩) hb (.int .i64 (F 16).c)
        generalize ((((wr.setCell ⟨w.heap.size, 0, none⟩ (.int .i64 (F 16).x)).setCell ⟨w.heap.size, 1, none⟩ (.int .i64 (F 16).a)).setCell ⟨w.heap.size, 2, none⟩ (.int .i64 (F 16).b)).setCell ⟨w.heap.size, 3, none⟩ (.int .i64 (F 16).c)) = W at ht hr hB ⊢
        have hA := (Below.refl W.heap.size W).drew
        have ht' := (hA.block _ (Array.getElem?_eq_some_iff.1 ht).1).trans ht
        have hr' := hr.below hA
        have hb' := hB.trans (hA.mono (Nat.le_trans hb hB.size))
        obtain ⟨y0, y1, y2, y3, -⟩ := quad4 ht'
        clear ht hr hB hA ht'
        generalize W.drew = E at *
        exact bodyPost_ret (v := .tuple #[.slice (some ⟨g, 0, none⟩) 16 cap, .agg #[.int .i64 (F 16).x, .int .i64 (F 16).a, .int .i64 (F 16).b, .int .i64 (F 16).c], .int .i64 4]) (by simp [results, Tryz.results59, go_sem, y0, y1, y2, y3]) rfl ⟨_, rfl, hr', hb'⟩

end Go.Proofs.YtjjhahhchimmlaaGreatDoor
