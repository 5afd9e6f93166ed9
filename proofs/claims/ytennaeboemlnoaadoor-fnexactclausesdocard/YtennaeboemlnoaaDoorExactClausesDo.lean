/-
  Proved: ClausesDo answers as its model at every slice of clauses and every head, and writes into no argument; the clauses read on as they did. No condition but the card's own: the program's error value stands as its text lays it.
-/
import Derived.Test.YtennaeboemlnoaaDoorPredCard
import Derived.Test.YtennaeboemlnoaaDoorClaDo
namespace Go.Proofs.YtennaeboemlnoaaDoor
open Go.ChangeShapes Go.WideShapes Go.ChangeAt Go.RowKit Go.Joins
open Go.ChangeMaps (open_string)
set_option linter.unusedVariables false

theorem agg_cells {W : World} {b : Nat} {x y z : Value} {t : TypeId} (h : W.heap[b]? = some (.cells #[x, y, z] t)) (x' y' z' : Value) :
    ((((W.setCell ⟨b, 0, none⟩ x').setCell ⟨b, 1, none⟩ y').setCell ⟨b, 2, none⟩ z').cell? ⟨b, 0, none⟩ = some x' ∧ (((W.setCell ⟨b, 0, none⟩ x').setCell ⟨b, 1, none⟩ y').setCell ⟨b, 2, none⟩ z').cell? ⟨b, 1, none⟩ = some y' ∧ (((W.setCell ⟨b, 0, none⟩ x').setCell ⟨b, 1, none⟩ y').setCell ⟨b, 2, none⟩ z').cell? ⟨b, 2, none⟩ = some z') ∧ b < (((W.setCell ⟨b, 0, none⟩ x').setCell ⟨b, 1, none⟩ y').setCell ⟨b, 2, none⟩ z').heap.size := by
  obtain ⟨r0, r1, r2, rf⟩ := three_cells h
  have hl := (Array.getElem?_eq_some_iff.1 h).1
  refine ⟨⟨?_, ?_, ?_⟩, ?_⟩
  · simp [go_sem, r0]
  · simp [go_sem, r1]
  · simp [go_sem, r2]
  · simpa [World.setCell] using hl

set_option maxRecDepth 100000 in
set_option maxHeartbeats 16000000 in
theorem walk_FnExactClausesDo (v : Value) (n : Nat) (f : Nat → ByteArray × Int × Int) (a b c : Int) (w : World) (hr : RawC w w.heap.size v n f) (hz : ∀ i, i < n → (f i).1.size ≤ maxLen) (wa : (Lit.int .i64 a).wf = true) (wb : (Lit.int .i64 b).wf = true) (wc : (Lit.int .i64 c).wf = true) (ep : Addr) (hE : w.cell? ⟨0, 0, none⟩ = some (errV ep)) :
    Calls Tryd.prog 4 #[v, .agg #[.int .i64 a, .int .i64 b, .int .i64 c]] w fun e w' => e = .returned (.bool true) ∧ Below w.heap.size w w' := by
  clear wa wb wc
  have HE : Hid (∀ W, Below w.heap.size w W → W.cell? ⟨0, 0, none⟩ = some (errV ep)) := fun W hb => cellLater hE hb
  have HSZ := Lib.hid (fun W hr => szClauseS_any W v n 1048576 f hr hz (Nat.le_refl _))
  have HRW : Hid (∀ W, Below w.heap.size w W → RawC W W.heap.size v n f) := fun W hb => (hr.below hb (Nat.le_refl _)).mono hb.size
  have HW : Hid ((∀ i, i < n → (f i).1.size ≤ 1048576) → ∀ W, Below w.heap.size w W → Cls W W.heap.size v ((List.range n).map (smallC f))) := fun hs W hb => ((hr.below hb (Nat.le_refl _)).mono hb.size).cls hs
  have hl : ((List.range n).map (smallC f)).length = n := by simp
  have hA := below_alloc1 w (.cells #[.int .i64 a, .int .i64 b, .int .i64 c] 30)
  have hn1 := heap_alloc_new w (.cells #[.int .i64 a, .int .i64 b, .int .i64 c] 30)
  have hs0 : w.heap.size < (w.alloc (.cells #[.int .i64 a, .int .i64 b, .int .i64 c] 30)).heap.size := by simp
  have HA := Lib.hid hA
  have HN1 := Lib.hid hn1
  clear hr hz hE hA hn1
  generalize (List.range n).map (smallC f) = l at *
  go_enter Tryd.func4, Tryd.ntmps4
  go_wp2_with fail
  generalize w.alloc (.cells #[.int .i64 a, .int .i64 b, .int .i64 c] 30) = W0 at *
  refine (HSZ.out _ (HRW.out _ HA.out)).mono ?_
  rintro e w1 ⟨rfl | ⟨r, rfl, hr, hn, hsm⟩, b1⟩
  · go_wp2
    go_ret
    exact ⟨rfl, belStep HA.out b1⟩
  have hr0 : ¬ ((r : Int) < 0) := by omega
  have HL := Lib.hid (HW.out hsm)
  have B1 := Lib.hid (belStep HA.out b1)
  have S1 : Hid (w.heap.size < w1.heap.size) := Nat.lt_of_lt_of_le hs0 b1.size
  have HH1 := Lib.hid ((b1.block w.heap.size hs0).trans HN1.out)
  have HN : Hid (l.length ≤ 1048576) := by show _ ≤ _; omega
  clear hsm b1 HSZ HW hl hn HRW HA HN1
  have HSD : Hid (∀ W u, Cls W W.heap.size u l → Calls Tryd.prog 17 #[u, .agg #[.int .i64 a, .int .i64 b, .int .i64 c]] W fun e w' => e = .returned (cdV (cd4 l a b c)) ∧ Below W.heap.size W w') := fun W u h => sClausesDo_any W u l h HN.out a b c
  have HI : Hid (∀ W u, Cls W W.heap.size u l → Below w.heap.size w W → Calls Tryd.prog 19 #[u, .agg #[.int .i64 a, .int .i64 b, .int .i64 c]] W fun e w' => e = .returned (cdV (cd4 l a b c)) ∧ Below W.heap.size W w') := fun W u h hb => iClausesDo_any W u l h HN.out a b c ep (HE.out _ hb)
  unfold cdV at HSD HI
  generalize hcd : cd4 l a b c = cd at *
  clear hcd
  obtain ⟨q0, q1, q2, q3⟩ := cd
  dsimp only at HSD HI
  have HHD : Hid (∀ W, Below w1.heap.size w1 W → W.cell? ⟨w.heap.size, 0, none⟩ = some (.int .i64 a) ∧ W.cell? ⟨w.heap.size, 1, none⟩ = some (.int .i64 b) ∧ W.cell? ⟨w.heap.size, 2, none⟩ = some (.int .i64 c) ∧ w.heap.size < W.heap.size) := fun W hW => by
    obtain ⟨h0, h1, h2, -⟩ := three_cells ((hW.block w.heap.size S1.out).trans HH1.out)
    exact ⟨h0, h1, h2, Nat.lt_of_lt_of_le S1.out hW.size⟩
  clear HE HH1
  go_wp2_with fail
  refine wp_region_held_drew (S := fun W => Below w1.heap.size w1 W) (by kernel_rfl) (Below.refl _ _).drew (fun hHeld => ?_)
  generalize hVV : w1.drew = V at *
  clear hVV
  refine wpAnyH_take (i := 0) (v := v) rfl (by kernel_rfl) (by kernel_rfl) (by kernel_rfl) (fun _ _ _ h => h) (Or.inl ⟨by rfl, ?_⟩) hHeld ?_
  · intro W hW
    go_simp
  simp [Act.put]
  refine wpAnyH_take (i := 2) (v := .agg #[.int .i64 a, .int .i64 b, .int .i64 c]) rfl (by kernel_rfl) (by kernel_rfl) (by kernel_rfl) (fun _ _ _ h => h) (Or.inl ⟨by rfl, ?_⟩) hHeld ?_
  · intro W hW
    obtain ⟨h0, h1, h2, h3⟩ := HHD.out W hW
    go_simp
  simp [Act.put]
  refine wpAnyH_ready (rs := [1, 8]) (by kernel_rfl) (by simp) ?_
  refine AllReadyH.cons rfl (fun K hK => ?_) (AllReadyH.cons rfl (fun K hK => ?_) AllReadyH.nil)
  · skip
    go_simp
    refine (toClauseS_any _ _ l (HL.out _ (belStep B1.out hHeld)) HN.out).mono ?_
    rintro e u1w ⟨u, rfl, hrow, b2⟩
    go_simp
    have HU := Lib.hid (hrow.mono hHeld.size)
    refine hK.out _ _ (belStep hHeld b2) (fun hHeld => ?_)
    clear hK K b2 hrow
    refine wpAnyH_ready (rs := [3, 8]) (by kernel_rfl) (by simp) ?_
    refine AllReadyH.cons rfl (fun K hK => ?_) (AllReadyH.cons rfl (fun K hK => ?_) AllReadyH.nil)
    · skip
      go_simp
      refine (toHead_any a b c _).mono ?_
      rintro e u2w ⟨rfl, b2⟩
      go_simp
      have HU' := Lib.hid (HU.out.below b2)
      clear HU
      have HU := Lib.hid HU'.out
      clear HU'
      refine hK.out _ _ (belStep hHeld b2) (fun hHeld => ?_)
      clear hK K b2
      refine wpAnyH_ready (rs := [4, 8]) (by kernel_rfl) (by simp) ?_
      refine AllReadyH.cons rfl (fun K hK => ?_) (AllReadyH.cons rfl (fun K hK => ?_) AllReadyH.nil)
      · skip
        go_simp
        refine (HSD.out _ _ HU.out.cls).mono ?_
        rintro e u3w ⟨rfl, b2⟩
        go_simp
        have HU' := Lib.hid (HU.out.below b2)
        clear HU
        have HU := Lib.hid HU'.out
        clear HU'
        refine hK.out _ _ (belStep hHeld b2) (fun hHeld => ?_)
        clear hK K b2
        refine wpAnyH_take (i := 5) (v := .tuple #[.agg #[.int .i64 q0, .int .i64 q1, .int .i64 q2], .int .i64 q3]) rfl (by kernel_rfl) (by kernel_rfl) (by kernel_rfl) (fun _ _ _ h => h) (Or.inl ⟨by rfl, ?_⟩) hHeld ?_
        · intro W hW
          go_simp
        simp [Act.put]
        refine wpAnyH_take (i := 6) (v := .agg #[.int .i64 q0, .int .i64 q1, .int .i64 q2]) rfl (by kernel_rfl) (by kernel_rfl) (by kernel_rfl) (fun _ _ _ h => h) (Or.inl ⟨by rfl, ?_⟩) hHeld ?_
        · intro W hW
          go_simp
        simp [Act.put]
        refine wpAnyH_take (i := 7) (v := .int .i64 q3) rfl (by kernel_rfl) (by kernel_rfl) (by kernel_rfl) (fun _ _ _ h => h) (Or.inl ⟨by rfl, ?_⟩) hHeld ?_
        · intro W hW
          go_simp
        simp [Act.put]
        refine wpAnyH_ready (rs := [8]) (by kernel_rfl) (by simp) ?_
        refine AllReadyH.cons rfl (fun K hK => ?_) AllReadyH.nil
        go_simp
        have hZ := heap_alloc_new u3w (.cells #[.int .i64 0, .int .i64 0, .int .i64 0] 31)
        have hA := below_alloc1 u3w (.cells #[.int .i64 0, .int .i64 0, .int .i64 0] 31)
        have hlbs : w1.heap.size ≤ u3w.heap.size := hHeld.size
        have HU' := Lib.hid (HU.out.below hA)
        clear HU
        have HU := Lib.hid HU'.out
        clear HU'
        have HLB := Lib.hid hZ
        refine hK.out _ _ (belStep hHeld hA) (fun hHeld => ?_)
        clear hK K hA hZ
        generalize u3w.alloc (.cells #[.int .i64 0, .int .i64 0, .int .i64 0] 31) = u4w at *
        generalize u3w.heap.size = lb at *
        refine wpAnyH_ready (rs := [9]) (by kernel_rfl) (by simp) ?_
        refine AllReadyH.cons rfl (fun K hK => ?_) AllReadyH.nil
        obtain ⟨r0, r1, r2, rf⟩ := three_cells HLB.out
        go_simp
        obtain ⟨⟨z0, z1, z2⟩, zl⟩ := agg_cells HLB.out (.int .i64 q0) (.int .i64 q1) (.int .i64 q2)
        refine hK.out _ _ (((hHeld.setCell (by dsimp only; omega) _).setCell (by dsimp only; omega) _).setCell (by dsimp only; omega) _) (fun hHeld => ?_)
        clear hK K r0 r1 r2 rf HLB HU
        refine wpAnyH_take (i := 10) (v := .int .i64 q3) rfl (by kernel_rfl) (by kernel_rfl) (by kernel_rfl) (fun _ _ _ h => h) (Or.inl ⟨by rfl, ?_⟩) hHeld ?_
        · intro W hW
          go_simp
        simp [Act.put]
        refine wpAnyH_done (by kernel_rfl) ?_ _
        generalize (((u4w.setCell ⟨lb, 0, none⟩ (.int .i64 q0)).setCell ⟨lb, 1, none⟩ (.int .i64 q1)).setCell ⟨lb, 2, none⟩ (.int .i64 q2)) = WZ at *
        have HC : Hid (∀ W, Below WZ.heap.size WZ W → W.cell? ⟨lb, 0, none⟩ = some (.int .i64 q0) ∧ W.cell? ⟨lb, 1, none⟩ = some (.int .i64 q1) ∧ W.cell? ⟨lb, 2, none⟩ = some (.int .i64 q2) ∧ lb < W.heap.size) := fun W hW => ⟨(belCell hW _ _ zl).trans z0, (belCell hW _ _ zl).trans z1, (belCell hW _ _ zl).trans z2, Nat.lt_of_lt_of_le zl hW.size⟩
        have HD := Lib.hid hHeld
        clear z0 z1 z2 hHeld
        go_wp2_with fail
        refine (toClauseS_any _ _ l (HL.out _ (belStep B1.out HD.out)) HN.out).mono ?_
        rintro e w5 ⟨x, rfl, hrow, b5⟩
        have HX5 := Lib.hid hrow
        have D5 := Lib.hid b5
        clear hrow b5
        obtain ⟨h0, h1, h2, h3⟩ := HHD.out _ (belStep HD.out D5.out)
        go_wp2_with fail
        refine (toHead_any _ _ _ _).mono ?_
        rintro e w6 ⟨rfl, b6⟩
        have HX6 := Lib.hid (HX5.out.below b6)
        have D6 := Lib.hid (belStep D5.out b6)
        clear b6 h0 h1 h2 h3 HX5 D5
        go_wp2_with fail
        refine (HI.out _ _ HX6.out.cls (belStep B1.out (belStep HD.out D6.out))).mono ?_
        rintro e w7 ⟨rfl, b7⟩
        have HX7 := Lib.hid (HX6.out.below b7)
        have D7 := Lib.hid (belStep D6.out b7)
        clear b7 HX6 D6
        obtain ⟨k0, k1, k2, k3⟩ := HC.out _ D7.out
        have HA7 := Lib.hid (below_alloc1 w7 (.cells #[.int .i64 q0, .int .i64 q1, .int .i64 q2] 31))
        have HX8 := Lib.hid (HX7.out.below HA7.out)
        have D8 := Lib.hid (belStep D7.out HA7.out)
        go_wp2_with fail
        refine (eqHead_same _ _ _ _).mono ?_
        rintro e w9 ⟨rfl, b9⟩
        have HX9 := Lib.hid (HX8.out.below b9)
        have D9 := Lib.hid (belStep D8.out b9)
        clear b9 k0 k1 k2 k3 HX7 HX8 HA7 D7 D8
        go_wp2_with fail
        refine (toClauseS_any _ _ l (HL.out _ (belStep B1.out (belStep HD.out D9.out))) HN.out).mono ?_
        rintro e w10 ⟨y, rfl, hrow, b10⟩
        have HX10 := Lib.hid (HX9.out.below b10)
        have HY10 := Lib.hid hrow
        have D10 := Lib.hid (belStep D9.out b10)
        clear b10 hrow
        go_wp2_with fail
        refine (eqClauseS_same _ _ _ l HX10.out.cls HY10.out.cls HN.out).mono ?_
        rintro e w11 ⟨rfl, b11⟩
        go_wp2
        go_ret
        exact ⟨rfl, belStep (belStep B1.out (belStep HD.out D10.out)) b11⟩
      · skip
        go_simp
        have hZ := heap_alloc_new u2w (.cells #[.int .i64 0, .int .i64 0, .int .i64 0] 31)
        have hA := below_alloc1 u2w (.cells #[.int .i64 0, .int .i64 0, .int .i64 0] 31)
        have hlbs : w1.heap.size ≤ u2w.heap.size := hHeld.size
        have HU' := Lib.hid (HU.out.below hA)
        clear HU
        have HU := Lib.hid HU'.out
        clear HU'
        have HLB := Lib.hid hZ
        refine hK.out _ _ (belStep hHeld hA) (fun hHeld => ?_)
        clear hK K hA hZ
        generalize u2w.alloc (.cells #[.int .i64 0, .int .i64 0, .int .i64 0] 31) = u6w at *
        generalize u2w.heap.size = lb at *
        refine wpAnyH_ready (rs := [4]) (by kernel_rfl) (by simp) ?_
        refine AllReadyH.cons rfl (fun K hK => ?_) AllReadyH.nil
        go_simp
        refine (HSD.out _ _ HU.out.cls).mono ?_
        rintro e u7w ⟨rfl, b2⟩
        go_simp
        have HU' := Lib.hid (HU.out.below b2)
        clear HU
        have HU := Lib.hid HU'.out
        clear HU'
        have HLB' := Lib.hid ((b2.block _ (Array.getElem?_eq_some_iff.1 HLB.out).1).trans HLB.out)
        clear HLB
        have HLB := Lib.hid HLB'.out
        clear HLB'
        refine hK.out _ _ (belStep hHeld b2) (fun hHeld => ?_)
        clear hK K b2
        refine wpAnyH_take (i := 5) (v := .tuple #[.agg #[.int .i64 q0, .int .i64 q1, .int .i64 q2], .int .i64 q3]) rfl (by kernel_rfl) (by kernel_rfl) (by kernel_rfl) (fun _ _ _ h => h) (Or.inl ⟨by rfl, ?_⟩) hHeld ?_
        · intro W hW
          go_simp
        simp [Act.put]
        refine wpAnyH_take (i := 6) (v := .agg #[.int .i64 q0, .int .i64 q1, .int .i64 q2]) rfl (by kernel_rfl) (by kernel_rfl) (by kernel_rfl) (fun _ _ _ h => h) (Or.inl ⟨by rfl, ?_⟩) hHeld ?_
        · intro W hW
          go_simp
        simp [Act.put]
        refine wpAnyH_take (i := 7) (v := .int .i64 q3) rfl (by kernel_rfl) (by kernel_rfl) (by kernel_rfl) (fun _ _ _ h => h) (Or.inl ⟨by rfl, ?_⟩) hHeld ?_
        · intro W hW
          go_simp
        simp [Act.put]
        refine wpAnyH_ready (rs := [9]) (by kernel_rfl) (by simp) ?_
        refine AllReadyH.cons rfl (fun K hK => ?_) AllReadyH.nil
        obtain ⟨r0, r1, r2, rf⟩ := three_cells HLB.out
        go_simp
        obtain ⟨⟨z0, z1, z2⟩, zl⟩ := agg_cells HLB.out (.int .i64 q0) (.int .i64 q1) (.int .i64 q2)
        refine hK.out _ _ (((hHeld.setCell (by dsimp only; omega) _).setCell (by dsimp only; omega) _).setCell (by dsimp only; omega) _) (fun hHeld => ?_)
        clear hK K r0 r1 r2 rf HLB HU
        refine wpAnyH_take (i := 10) (v := .int .i64 q3) rfl (by kernel_rfl) (by kernel_rfl) (by kernel_rfl) (fun _ _ _ h => h) (Or.inl ⟨by rfl, ?_⟩) hHeld ?_
        · intro W hW
          go_simp
        simp [Act.put]
        refine wpAnyH_done (by kernel_rfl) ?_ _
        generalize (((u7w.setCell ⟨lb, 0, none⟩ (.int .i64 q0)).setCell ⟨lb, 1, none⟩ (.int .i64 q1)).setCell ⟨lb, 2, none⟩ (.int .i64 q2)) = WZ at *
        have HC : Hid (∀ W, Below WZ.heap.size WZ W → W.cell? ⟨lb, 0, none⟩ = some (.int .i64 q0) ∧ W.cell? ⟨lb, 1, none⟩ = some (.int .i64 q1) ∧ W.cell? ⟨lb, 2, none⟩ = some (.int .i64 q2) ∧ lb < W.heap.size) := fun W hW => ⟨(belCell hW _ _ zl).trans z0, (belCell hW _ _ zl).trans z1, (belCell hW _ _ zl).trans z2, Nat.lt_of_lt_of_le zl hW.size⟩
        have HD := Lib.hid hHeld
        clear z0 z1 z2 hHeld
        go_wp2_with fail
        refine (toClauseS_any _ _ l (HL.out _ (belStep B1.out HD.out)) HN.out).mono ?_
        rintro e w5 ⟨x, rfl, hrow, b5⟩
        have HX5 := Lib.hid hrow
        have D5 := Lib.hid b5
        clear hrow b5
        obtain ⟨h0, h1, h2, h3⟩ := HHD.out _ (belStep HD.out D5.out)
        go_wp2_with fail
        refine (toHead_any _ _ _ _).mono ?_
        rintro e w6 ⟨rfl, b6⟩
        have HX6 := Lib.hid (HX5.out.below b6)
        have D6 := Lib.hid (belStep D5.out b6)
        clear b6 h0 h1 h2 h3 HX5 D5
        go_wp2_with fail
        refine (HI.out _ _ HX6.out.cls (belStep B1.out (belStep HD.out D6.out))).mono ?_
        rintro e w7 ⟨rfl, b7⟩
        have HX7 := Lib.hid (HX6.out.below b7)
        have D7 := Lib.hid (belStep D6.out b7)
        clear b7 HX6 D6
        obtain ⟨k0, k1, k2, k3⟩ := HC.out _ D7.out
        have HA7 := Lib.hid (below_alloc1 w7 (.cells #[.int .i64 q0, .int .i64 q1, .int .i64 q2] 31))
        have HX8 := Lib.hid (HX7.out.below HA7.out)
        have D8 := Lib.hid (belStep D7.out HA7.out)
        go_wp2_with fail
        refine (eqHead_same _ _ _ _).mono ?_
        rintro e w9 ⟨rfl, b9⟩
        have HX9 := Lib.hid (HX8.out.below b9)
        have D9 := Lib.hid (belStep D8.out b9)
        clear b9 k0 k1 k2 k3 HX7 HX8 HA7 D7 D8
        go_wp2_with fail
        refine (toClauseS_any _ _ l (HL.out _ (belStep B1.out (belStep HD.out D9.out))) HN.out).mono ?_
        rintro e w10 ⟨y, rfl, hrow, b10⟩
        have HX10 := Lib.hid (HX9.out.below b10)
        have HY10 := Lib.hid hrow
        have D10 := Lib.hid (belStep D9.out b10)
        clear b10 hrow
        go_wp2_with fail
        refine (eqClauseS_same _ _ _ l HX10.out.cls HY10.out.cls HN.out).mono ?_
        rintro e w11 ⟨rfl, b11⟩
        go_wp2
        go_ret
        exact ⟨rfl, belStep (belStep B1.out (belStep HD.out D10.out)) b11⟩
    · skip
      go_simp
      have hZ := heap_alloc_new u1w (.cells #[.int .i64 0, .int .i64 0, .int .i64 0] 31)
      have hA := below_alloc1 u1w (.cells #[.int .i64 0, .int .i64 0, .int .i64 0] 31)
      have hlbs : w1.heap.size ≤ u1w.heap.size := hHeld.size
      have HU' := Lib.hid (HU.out.below hA)
      clear HU
      have HU := Lib.hid HU'.out
      clear HU'
      have HLB := Lib.hid hZ
      refine hK.out _ _ (belStep hHeld hA) (fun hHeld => ?_)
      clear hK K hA hZ
      generalize u1w.alloc (.cells #[.int .i64 0, .int .i64 0, .int .i64 0] 31) = u9w at *
      generalize u1w.heap.size = lb at *
      refine wpAnyH_ready (rs := [3]) (by kernel_rfl) (by simp) ?_
      refine AllReadyH.cons rfl (fun K hK => ?_) AllReadyH.nil
      go_simp
      refine (toHead_any a b c _).mono ?_
      rintro e u10w ⟨rfl, b2⟩
      go_simp
      have HU' := Lib.hid (HU.out.below b2)
      clear HU
      have HU := Lib.hid HU'.out
      clear HU'
      have HLB' := Lib.hid ((b2.block _ (Array.getElem?_eq_some_iff.1 HLB.out).1).trans HLB.out)
      clear HLB
      have HLB := Lib.hid HLB'.out
      clear HLB'
      refine hK.out _ _ (belStep hHeld b2) (fun hHeld => ?_)
      clear hK K b2
      refine wpAnyH_ready (rs := [4]) (by kernel_rfl) (by simp) ?_
      refine AllReadyH.cons rfl (fun K hK => ?_) AllReadyH.nil
      go_simp
      refine (HSD.out _ _ HU.out.cls).mono ?_
      rintro e u11w ⟨rfl, b2⟩
      go_simp
      have HU' := Lib.hid (HU.out.below b2)
      clear HU
      have HU := Lib.hid HU'.out
      clear HU'
      have HLB' := Lib.hid ((b2.block _ (Array.getElem?_eq_some_iff.1 HLB.out).1).trans HLB.out)
      clear HLB
      have HLB := Lib.hid HLB'.out
      clear HLB'
      refine hK.out _ _ (belStep hHeld b2) (fun hHeld => ?_)
      clear hK K b2
      refine wpAnyH_take (i := 5) (v := .tuple #[.agg #[.int .i64 q0, .int .i64 q1, .int .i64 q2], .int .i64 q3]) rfl (by kernel_rfl) (by kernel_rfl) (by kernel_rfl) (fun _ _ _ h => h) (Or.inl ⟨by rfl, ?_⟩) hHeld ?_
      · intro W hW
        go_simp
      simp [Act.put]
      refine wpAnyH_take (i := 6) (v := .agg #[.int .i64 q0, .int .i64 q1, .int .i64 q2]) rfl (by kernel_rfl) (by kernel_rfl) (by kernel_rfl) (fun _ _ _ h => h) (Or.inl ⟨by rfl, ?_⟩) hHeld ?_
      · intro W hW
        go_simp
      simp [Act.put]
      refine wpAnyH_take (i := 7) (v := .int .i64 q3) rfl (by kernel_rfl) (by kernel_rfl) (by kernel_rfl) (fun _ _ _ h => h) (Or.inl ⟨by rfl, ?_⟩) hHeld ?_
      · intro W hW
        go_simp
      simp [Act.put]
      refine wpAnyH_ready (rs := [9]) (by kernel_rfl) (by simp) ?_
      refine AllReadyH.cons rfl (fun K hK => ?_) AllReadyH.nil
      obtain ⟨r0, r1, r2, rf⟩ := three_cells HLB.out
      go_simp
      obtain ⟨⟨z0, z1, z2⟩, zl⟩ := agg_cells HLB.out (.int .i64 q0) (.int .i64 q1) (.int .i64 q2)
      refine hK.out _ _ (((hHeld.setCell (by dsimp only; omega) _).setCell (by dsimp only; omega) _).setCell (by dsimp only; omega) _) (fun hHeld => ?_)
      clear hK K r0 r1 r2 rf HLB HU
      refine wpAnyH_take (i := 10) (v := .int .i64 q3) rfl (by kernel_rfl) (by kernel_rfl) (by kernel_rfl) (fun _ _ _ h => h) (Or.inl ⟨by rfl, ?_⟩) hHeld ?_
      · intro W hW
        go_simp
      simp [Act.put]
      refine wpAnyH_done (by kernel_rfl) ?_ _
      generalize (((u11w.setCell ⟨lb, 0, none⟩ (.int .i64 q0)).setCell ⟨lb, 1, none⟩ (.int .i64 q1)).setCell ⟨lb, 2, none⟩ (.int .i64 q2)) = WZ at *
      have HC : Hid (∀ W, Below WZ.heap.size WZ W → W.cell? ⟨lb, 0, none⟩ = some (.int .i64 q0) ∧ W.cell? ⟨lb, 1, none⟩ = some (.int .i64 q1) ∧ W.cell? ⟨lb, 2, none⟩ = some (.int .i64 q2) ∧ lb < W.heap.size) := fun W hW => ⟨(belCell hW _ _ zl).trans z0, (belCell hW _ _ zl).trans z1, (belCell hW _ _ zl).trans z2, Nat.lt_of_lt_of_le zl hW.size⟩
      have HD := Lib.hid hHeld
      clear z0 z1 z2 hHeld
      go_wp2_with fail
      refine (toClauseS_any _ _ l (HL.out _ (belStep B1.out HD.out)) HN.out).mono ?_
      rintro e w5 ⟨x, rfl, hrow, b5⟩
      have HX5 := Lib.hid hrow
      have D5 := Lib.hid b5
      clear hrow b5
      obtain ⟨h0, h1, h2, h3⟩ := HHD.out _ (belStep HD.out D5.out)
      go_wp2_with fail
      refine (toHead_any _ _ _ _).mono ?_
      rintro e w6 ⟨rfl, b6⟩
      have HX6 := Lib.hid (HX5.out.below b6)
      have D6 := Lib.hid (belStep D5.out b6)
      clear b6 h0 h1 h2 h3 HX5 D5
      go_wp2_with fail
      refine (HI.out _ _ HX6.out.cls (belStep B1.out (belStep HD.out D6.out))).mono ?_
      rintro e w7 ⟨rfl, b7⟩
      have HX7 := Lib.hid (HX6.out.below b7)
      have D7 := Lib.hid (belStep D6.out b7)
      clear b7 HX6 D6
      obtain ⟨k0, k1, k2, k3⟩ := HC.out _ D7.out
      have HA7 := Lib.hid (below_alloc1 w7 (.cells #[.int .i64 q0, .int .i64 q1, .int .i64 q2] 31))
      have HX8 := Lib.hid (HX7.out.below HA7.out)
      have D8 := Lib.hid (belStep D7.out HA7.out)
      go_wp2_with fail
      refine (eqHead_same _ _ _ _).mono ?_
      rintro e w9 ⟨rfl, b9⟩
      have HX9 := Lib.hid (HX8.out.below b9)
      have D9 := Lib.hid (belStep D8.out b9)
      clear b9 k0 k1 k2 k3 HX7 HX8 HA7 D7 D8
      go_wp2_with fail
      refine (toClauseS_any _ _ l (HL.out _ (belStep B1.out (belStep HD.out D9.out))) HN.out).mono ?_
      rintro e w10 ⟨y, rfl, hrow, b10⟩
      have HX10 := Lib.hid (HX9.out.below b10)
      have HY10 := Lib.hid hrow
      have D10 := Lib.hid (belStep D9.out b10)
      clear b10 hrow
      go_wp2_with fail
      refine (eqClauseS_same _ _ _ l HX10.out.cls HY10.out.cls HN.out).mono ?_
      rintro e w11 ⟨rfl, b11⟩
      go_wp2
      go_ret
      exact ⟨rfl, belStep (belStep B1.out (belStep HD.out D10.out)) b11⟩
  · skip
    go_simp
    have hZ := heap_alloc_new V (.cells #[.int .i64 0, .int .i64 0, .int .i64 0] 31)
    have hA := below_alloc1 V (.cells #[.int .i64 0, .int .i64 0, .int .i64 0] 31)
    have hlbs : w1.heap.size ≤ V.heap.size := hHeld.size
    have HLB := Lib.hid hZ
    refine hK.out _ _ (belStep hHeld hA) (fun hHeld => ?_)
    clear hK K hA hZ
    generalize V.alloc (.cells #[.int .i64 0, .int .i64 0, .int .i64 0] 31) = u13w at *
    generalize V.heap.size = lb at *
    refine wpAnyH_ready (rs := [1]) (by kernel_rfl) (by simp) ?_
    refine AllReadyH.cons rfl (fun K hK => ?_) AllReadyH.nil
    go_simp
    refine (toClauseS_any _ _ l (HL.out _ (belStep B1.out hHeld)) HN.out).mono ?_
    rintro e u14w ⟨u, rfl, hrow, b2⟩
    go_simp
    have HU := Lib.hid (hrow.mono hHeld.size)
    have HLB' := Lib.hid ((b2.block _ (Array.getElem?_eq_some_iff.1 HLB.out).1).trans HLB.out)
    clear HLB
    have HLB := Lib.hid HLB'.out
    clear HLB'
    refine hK.out _ _ (belStep hHeld b2) (fun hHeld => ?_)
    clear hK K b2 hrow
    refine wpAnyH_ready (rs := [3]) (by kernel_rfl) (by simp) ?_
    refine AllReadyH.cons rfl (fun K hK => ?_) AllReadyH.nil
    go_simp
    refine (toHead_any a b c _).mono ?_
    rintro e u15w ⟨rfl, b2⟩
    go_simp
    have HU' := Lib.hid (HU.out.below b2)
    clear HU
    have HU := Lib.hid HU'.out
    clear HU'
    have HLB' := Lib.hid ((b2.block _ (Array.getElem?_eq_some_iff.1 HLB.out).1).trans HLB.out)
    clear HLB
    have HLB := Lib.hid HLB'.out
    clear HLB'
    refine hK.out _ _ (belStep hHeld b2) (fun hHeld => ?_)
    clear hK K b2
    refine wpAnyH_ready (rs := [4]) (by kernel_rfl) (by simp) ?_
    refine AllReadyH.cons rfl (fun K hK => ?_) AllReadyH.nil
    go_simp
    refine (HSD.out _ _ HU.out.cls).mono ?_
    rintro e u16w ⟨rfl, b2⟩
    go_simp
    have HU' := Lib.hid (HU.out.below b2)
    clear HU
    have HU := Lib.hid HU'.out
    clear HU'
    have HLB' := Lib.hid ((b2.block _ (Array.getElem?_eq_some_iff.1 HLB.out).1).trans HLB.out)
    clear HLB
    have HLB := Lib.hid HLB'.out
    clear HLB'
    refine hK.out _ _ (belStep hHeld b2) (fun hHeld => ?_)
    clear hK K b2
    refine wpAnyH_take (i := 5) (v := .tuple #[.agg #[.int .i64 q0, .int .i64 q1, .int .i64 q2], .int .i64 q3]) rfl (by kernel_rfl) (by kernel_rfl) (by kernel_rfl) (fun _ _ _ h => h) (Or.inl ⟨by rfl, ?_⟩) hHeld ?_
    · intro W hW
      go_simp
    simp [Act.put]
    refine wpAnyH_take (i := 6) (v := .agg #[.int .i64 q0, .int .i64 q1, .int .i64 q2]) rfl (by kernel_rfl) (by kernel_rfl) (by kernel_rfl) (fun _ _ _ h => h) (Or.inl ⟨by rfl, ?_⟩) hHeld ?_
    · intro W hW
      go_simp
    simp [Act.put]
    refine wpAnyH_take (i := 7) (v := .int .i64 q3) rfl (by kernel_rfl) (by kernel_rfl) (by kernel_rfl) (fun _ _ _ h => h) (Or.inl ⟨by rfl, ?_⟩) hHeld ?_
    · intro W hW
      go_simp
    simp [Act.put]
    refine wpAnyH_ready (rs := [9]) (by kernel_rfl) (by simp) ?_
    refine AllReadyH.cons rfl (fun K hK => ?_) AllReadyH.nil
    obtain ⟨r0, r1, r2, rf⟩ := three_cells HLB.out
    go_simp
    obtain ⟨⟨z0, z1, z2⟩, zl⟩ := agg_cells HLB.out (.int .i64 q0) (.int .i64 q1) (.int .i64 q2)
    refine hK.out _ _ (((hHeld.setCell (by dsimp only; omega) _).setCell (by dsimp only; omega) _).setCell (by dsimp only; omega) _) (fun hHeld => ?_)
    clear hK K r0 r1 r2 rf HLB HU
    refine wpAnyH_take (i := 10) (v := .int .i64 q3) rfl (by kernel_rfl) (by kernel_rfl) (by kernel_rfl) (fun _ _ _ h => h) (Or.inl ⟨by rfl, ?_⟩) hHeld ?_
    · intro W hW
      go_simp
    simp [Act.put]
    refine wpAnyH_done (by kernel_rfl) ?_ _
    generalize (((u16w.setCell ⟨lb, 0, none⟩ (.int .i64 q0)).setCell ⟨lb, 1, none⟩ (.int .i64 q1)).setCell ⟨lb, 2, none⟩ (.int .i64 q2)) = WZ at *
    have HC : Hid (∀ W, Below WZ.heap.size WZ W → W.cell? ⟨lb, 0, none⟩ = some (.int .i64 q0) ∧ W.cell? ⟨lb, 1, none⟩ = some (.int .i64 q1) ∧ W.cell? ⟨lb, 2, none⟩ = some (.int .i64 q2) ∧ lb < W.heap.size) := fun W hW => ⟨(belCell hW _ _ zl).trans z0, (belCell hW _ _ zl).trans z1, (belCell hW _ _ zl).trans z2, Nat.lt_of_lt_of_le zl hW.size⟩
    have HD := Lib.hid hHeld
    clear z0 z1 z2 hHeld
    go_wp2_with fail
    refine (toClauseS_any _ _ l (HL.out _ (belStep B1.out HD.out)) HN.out).mono ?_
    rintro e w5 ⟨x, rfl, hrow, b5⟩
    have HX5 := Lib.hid hrow
    have D5 := Lib.hid b5
    clear hrow b5
    obtain ⟨h0, h1, h2, h3⟩ := HHD.out _ (belStep HD.out D5.out)
    go_wp2_with fail
    refine (toHead_any _ _ _ _).mono ?_
    rintro e w6 ⟨rfl, b6⟩
    have HX6 := Lib.hid (HX5.out.below b6)
    have D6 := Lib.hid (belStep D5.out b6)
    clear b6 h0 h1 h2 h3 HX5 D5
    go_wp2_with fail
    refine (HI.out _ _ HX6.out.cls (belStep B1.out (belStep HD.out D6.out))).mono ?_
    rintro e w7 ⟨rfl, b7⟩
    have HX7 := Lib.hid (HX6.out.below b7)
    have D7 := Lib.hid (belStep D6.out b7)
    clear b7 HX6 D6
    obtain ⟨k0, k1, k2, k3⟩ := HC.out _ D7.out
    have HA7 := Lib.hid (below_alloc1 w7 (.cells #[.int .i64 q0, .int .i64 q1, .int .i64 q2] 31))
    have HX8 := Lib.hid (HX7.out.below HA7.out)
    have D8 := Lib.hid (belStep D7.out HA7.out)
    go_wp2_with fail
    refine (eqHead_same _ _ _ _).mono ?_
    rintro e w9 ⟨rfl, b9⟩
    have HX9 := Lib.hid (HX8.out.below b9)
    have D9 := Lib.hid (belStep D8.out b9)
    clear b9 k0 k1 k2 k3 HX7 HX8 HA7 D7 D8
    go_wp2_with fail
    refine (toClauseS_any _ _ l (HL.out _ (belStep B1.out (belStep HD.out D9.out))) HN.out).mono ?_
    rintro e w10 ⟨y, rfl, hrow, b10⟩
    have HX10 := Lib.hid (HX9.out.below b10)
    have HY10 := Lib.hid hrow
    have D10 := Lib.hid (belStep D9.out b10)
    clear b10 hrow
    go_wp2_with fail
    refine (eqClauseS_same _ _ _ l HX10.out.cls HY10.out.cls HN.out).mono ?_
    rintro e w11 ⟨rfl, b11⟩
    go_wp2
    go_ret
    exact ⟨rfl, belStep (belStep B1.out (belStep HD.out D10.out)) b11⟩

set_option maxRecDepth 100000 in
theorem contract_FnExactClausesDo (H : Type) (enc : TypeId × Value → H) (W : World) (base : Nat) (args : Array Value) (ds gs : List (DataW H)) (before : List MemPlace)
    (hval : ∀ (j : Nat) t v, Tryd.f4.params[j]? = some t → args[j]? = some v → Value.okWide Tryd.prog W .any base t v)
    (hW : DataW.Whole enc Tryd.prog Tryd.f4.params.toList Rows.fnExactClausesDoSpec.vars false W args.toList ds gs before) (hL : laidMet Tryd.prog [("loop.example/crossbuck/impl.errPred", Rows.laid_loop_example_crossbuck_impl_errPred)] W) :
    Calls Tryd.prog 4 args W fun e W' => ∃ v, e = .returned v ∧ Rows.fnExactClausesDoSpec.post enc Tryd.prog Tryd.f4 false true false false W args v W' := by
  have hW' := hW
  obtain ⟨p, q, hA0, hV0, rfl, hfz, hnd⟩ := hW
  have hA : DataW.TrodAll enc Tryd.prog W 0 (fun _ => true) true Tryd.f4.params.toList args.toList ds p := hA0
  have hV : DataW.TrodVars enc Tryd.prog W (fun _ => true) ["loop.example/crossbuck/impl.errPred"] gs q := hV0
  rw [Tryd.params4] at hA hval
  obtain ⟨v0, vs0, d0, ds0, p0, q0, hargs, rfl, rfl, h0, r0⟩ := trodAll_cons hA
  obtain ⟨v1, vs1, d1, ds1, p1, q1, rfl, rfl, rfl, h1, r1⟩ := trodAll_cons r0
  obtain ⟨rfl, rfl, rfl⟩ := trodAll_nil r1
  obtain rfl : args = #[v0, v1] := by cases args; simp_all
  obtain ⟨ep, hv⟩ := laidErr hL
  obtain ⟨rfl, rfl⟩ := hV.unique (vars_read1 enc gE gEt Tryd.underlying87 hv trivial _)
  have k0 := h0
  have lt0 : ∀ x ∈ p0, x.block < W.heap.size := by obtain ⟨m, hm⟩ := k0; exact DataW.trod_lt m _ _ _ hm
  have k1 := h1
  have lt1 : ∀ x ∈ p1, x.block < W.heap.size := by obtain ⟨m, hm⟩ := k1; exact DataW.trod_lt m _ _ _ hm
  obtain ⟨n0, f0, w0, z0⟩ := clauses_of h0 (okWide_slice Tryd.underlying22 (hval 0 22 v0 rfl rfl))
  obtain ⟨x1, y1, z1, ya1, yb1, yc1, m1, rfl, -, -, ha1, hb1, hc1⟩ := open_agg3 Tryd.underlying30 (by kernel_rfl) (show Tryd.prog.cellsOf 30 = 3 by kernel_rfl) (hval 1 30 v1 rfl rfl) h1
  obtain ⟨a1, ea1, -, wa1⟩ := DataW.trod_int Tryd.underlying3 ha1
  obtain ⟨b1, eb1, -, wb1⟩ := DataW.trod_int Tryd.underlying3 hb1
  obtain ⟨c1, ec1, -, wc1⟩ := DataW.trod_int Tryd.underlying3 hc1
  simp at ea1 eb1 ec1
  subst ea1 eb1 ec1
  clear hA0 hV0
  refine (walk_FnExactClausesDo v0 n0 f0 a1 b1 c1 W w0 z0 wa1 wb1 wc1 ep (varCell hv)).mono fun e W' ⟨he, bel⟩ => ?_
  subst he
  exact ⟨_, rfl, _, _, _, [], _, _, hW', trodAll_mk1 (shut_bool Tryd.underlying4 _), (trodAll_cons_mk (Below.trod laidOut (by kernel_rfl) (of_decide_eq_true (by kernel_rfl)) k0 bel lt0) (trodAll_cons_mk (Below.trod laidOut (by kernel_rfl) (of_decide_eq_true (by kernel_rfl)) k1 bel lt1) (trodAll_mk0))), vars_read1 enc gE gEt Tryd.underlying87 (varLater hv bel) trivial _, bel.frame _, fun h => by cases h⟩

noncomputable def low_FnExactClausesDo : Nat := (World.holding Tryd.prog default ⟨#[], #[], []⟩).heap.size
/-- A world for the witness: the settled one, with the error value as the text lays it. -/
noncomputable def laidWorld_FnExactClausesDo (os : Os) : World :=
  { World.holding Tryd.prog os ⟨#[.cells #[.string ⟨#[110, 111, 32, 99, 111, 110, 100, 105, 116, 105, 111, 110]⟩] 253], #[], []⟩ with heap := (World.holding Tryd.prog os ⟨#[.cells #[.string ⟨#[110, 111, 32, 99, 111, 110, 100, 105, 116, 105, 111, 110]⟩] 253], #[], []⟩).heap.modify 0 (fun | .cells _ t frozen => .cells #[.iface 232 (.pointer (some ⟨low_FnExactClausesDo, 0, none⟩))] t frozen | o => o) }

theorem laidMet_FnExactClausesDo (os : Os) : laidMet Tryd.prog Rows.fnExactClausesDoRow.laid ((laidWorld_FnExactClausesDo os).forCall (fun _ _ => 0) ⟨#[], #[.slice none 0 0, .agg #[.int .i64 0, .int .i64 0, .int .i64 0]], []⟩).memory :=
  laidMet_of_run' 8 (by kernel_rfl) (by kernel_rfl)

set_option maxRecDepth 100000 in
theorem lifted_FnExactClausesDo (os : Os) (started : os.Started) (H : Type) (enc : TypeId × Value → H) (F : Stop.Interp) :
    ReturnsInHanded {} Tryd.checked os 4 .any ((OpenSpec.ofChange Rows.fnExactClausesDoSpec).preRow enc Tryd.prog Tryd.f4 Rows.fnExactClausesDoRow.domain false Rows.fnExactClausesDoRow.laid) (((OpenSpec.ofChange Rows.fnExactClausesDoSpec).at F).post enc Tryd.prog Tryd.f4 false true false false) := by
  refine returnsInHanded_of_row (C := Tryd.checked) (s := OpenSpec.ofChange Rows.fnExactClausesDoSpec) own started (by kernel_rfl) Tryd.func4
    (witness_row_at (enc := enc) (C := Tryd.checked) false (laidWorld_FnExactClausesDo os) #[.slice none 0 0, .agg #[.int .i64 0, .int .i64 0, .int .i64 0]] rfl (by kernel_rfl) (by kernel_rfl) (by kernel_rfl)
      (OpenSpec.preRow_of_B rfl 8 (by kernel_rfl) (by kernel_rfl) (laidMet_FnExactClausesDo os))) ?_
  intro W base args ds gs before hval hW _ _ _ hL _ _
  exact contract_FnExactClausesDo H enc W base args ds gs before hval hW hL

theorem said_FnExactClausesDo : Rows.FnExactClausesDoSaid :=
  OpenClaim.holds_of_cond 4 Tryd.f4 rfl rfl rfl rfl rfl rfl rfl ⟨rfl, rfl, rfl, rfl, rfl⟩ rfl rfl rfl rfl rfl (by kernel_rfl) Tryd.func4 (by kernel_rfl)
    (of_decide_eq_true (by kernel_rfl)) (by unfold Func.isWrapper; first | (rw [if_pos (by decide +kernel)]; kernel_rfl) | (rw [if_neg (by decide +kernel)]; exact ⟨rfl, rfl⟩))
    (fun os started H enc _ F => by rw [OpenClaim.pre_eq_preRow]; exact lifted_FnExactClausesDo os started H enc F)

theorem plain_FnExactClausesDo (f : FuncId) (fn : Func) (hf : Tryd.pinned.checked.prog.funcNamed "loop.example/crossbuck/laws.FnExactClausesDo" = some f) (hfn : Tryd.pinned.checked.prog.funcs[f]? = some fn) :
    true = Tryd.pinned.checked.prog.looks [] ∧ ∀ (j : Nat) t, fn.params[j]? = some t → Tryd.pinned.checked.prog.wantsStandIn t = false := by
  obtain rfl : f = 4 := Option.some.inj ((show Tryd.prog.funcNamed "loop.example/crossbuck/laws.FnExactClausesDo" = some 4 by kernel_rfl).symm.trans hf) |>.symm
  obtain rfl : fn = Tryd.f4 := (Option.some.inj (Tryd.func4.symm.trans hfn)).symm
  refine ⟨by kernel_rfl, fun j t ht => ?_⟩
  rw [Tryd.params4] at ht
  have hm : t = 22 ∨ t = 30 := by simpa using Array.mem_of_getElem? ht
  rcases hm with rfl | rfl
  · exact (show Tryd.prog.wantsStandIn 22 = false by kernel_rfl)
  · exact (show Tryd.prog.wantsStandIn 30 = false by kernel_rfl)

theorem proved_FnExactClausesDo : Rows.FnExactClausesDoCardSaid :=
  Claim7.holds_tied_plain_at .later [] _ _ _ _ said_FnExactClausesDo (fun _ h => by cases h) (by kernel_rfl) (fun _ h => by cases h) fnExactClausesDo_row_tie rfl ⟨rfl, rfl⟩ (by kernel_rfl) rfl plain_FnExactClausesDo (by kernel_rfl)

end Go.Proofs.YtennaeboemlnoaaDoor
