/-
  Chapter 3, what the model's SpaceHas and SpaceSame return.
-/
import Derived.Test.YtcbnecpcmellhaaSpaceSpecB
namespace Go.Proofs.Ytcbnecpcmellhaa
open Go.ChangeShapes Go.WideShapes Go.ChangeAt Go.RowKit Go.Joins
set_option linter.unusedVariables false

theorem boolL_eq {m m' : List Bool} (hl : m.length = m'.length) (h : ∀ j, j < m.length → m.getD j false = m'.getD j false) : m = m' := by
  apply List.ext_getElem hl
  intro i h1 h2
  have := h i h1
  rwa [List.getD_eq_getElem?_getD, List.getD_eq_getElem?_getD, List.getElem?_eq_getElem h1, List.getElem?_eq_getElem h2] at this

set_option maxRecDepth 100000 in
set_option maxHeartbeats 2000000 in
theorem l3Same_any (w : World) (v v' : Value) (m m' : List Bool) (hm : Bools w w.heap.size v m) (hm' : Bools w w.heap.size v' m') (hl : m.length = m'.length) :
    Calls Try.prog 57 #[v, v'] w fun ex w' => ex = .returned (.bool (m == m')) ∧ Below w.heap.size w w' := by
  obtain ⟨b, off, cap, rfl, hc, hmx, hb, hcell⟩ := hm
  obtain ⟨b', off', cap', rfl, hc', hmx', hb', hcell'⟩ := hm'
  have HC := Lib.hid hcell
  have HC' := Lib.hid hcell'
  have HE : Hid ((∀ j, j < m.length → m.getD j false = m'.getD j false) → (m == m') = true) := fun h => by rw [boolL_eq hl h]; simp
  have HN : Hid (∀ j, m.getD j false ≠ m'.getD j false → (m == m') = false) := fun j h => by
    cases e : (m == m')
    · rfl
    · rw [beq_iff_eq] at e; subst e; exact absurd rfl h
  rw [← hl] at HC' hc' ⊢
  clear hcell hcell'
  generalize hN : m.length = n at *
  go_enter Try.func57, Try.ntmps57
  go_wp2
  go_loopw [5] (fun i wr => ∃ k : Nat, k ≤ n ∧ i = .int .i64 k ∧ (∀ j, j < k → m.getD j false = m'.getD j false) ∧ Below w.heap.size w wr) (fun i _ => n - (intOf i).toNat)
  case atStart => exact ⟨0, Nat.zero_le _, rfl, fun j hj => absurd hj (Nat.not_lt_zero _), Below.refl _ _⟩
  case round =>
    obtain ⟨k, hk, rfl, hsame, hbel⟩ := hrel
    have HS := Lib.hid hsame
    clear hsame
    by_cases hlt : k < n
    · have hkz : (k : Int) < (n : Int) := by omega
      have c1 : wr.cell? ⟨b, off + k, none⟩ = some (.bool (m.getD k false)) := (belCell hbel _ _ hb).trans (HC.out k hlt)
      have c2 : wr.cell? ⟨b', off' + k, none⟩ = some (.bool (m'.getD k false)) := (belCell hbel _ _ hb').trans (HC'.out k hlt)
      have HN1 := Lib.hid (HN.out k)
      have HE1 : Hid (m.getD k false = m'.getD k false → ∀ j, j < k + 1 → m.getD j false = m'.getD j false) := fun h j hj => by
        by_cases e : j = k
        · subst e; exact h
        · exact HS.out j (by omega)
      generalize m.getD k false = x at *
      generalize m'.getD k false = y at *
      by_cases hxy : x = y
      · have hd : (x == y) = true := by simp [hxy]
        go_wp2_with fail
        go_quiet (fail)
        go_wp2
        go_roundw
        case rel => exact ⟨k + 1, by omega, by go_num, HE1.out hxy, belDrewN hbel _⟩
        case measure => simp [intOf]; omega
      · have hd : (x == y) = false := by simp [hxy]
        go_wp2_with fail
        go_quiet (fail)
        go_wp2
        go_ret
        exact ⟨congrArg (fun x => Ending.returned (Value.bool x)) (HN1.out hxy).symm, belDrewN hbel _⟩
    · obtain rfl : k = n := by omega
      go_wp2
      go_ret
      exact ⟨congrArg (fun x => Ending.returned (Value.bool x)) (HE.out HS.out).symm, hbel⟩

set_option maxRecDepth 100000 in
set_option maxHeartbeats 2000000 in
theorem sSpaceSame_any (w : World) (v v' : Value) (l l' : List ByteArray) (hl : Strs w w.heap.size v l) (hl' : Strs w w.heap.size v' l') (hs : Fit6 l) (hs' : Fit6 l') :
    Calls Try.prog 33 #[v, v'] w fun ex w' => ex = .returned (.bool (okSp l && okSp l' && (spL l == spL l'))) ∧ Below w.heap.size w w' := by
  have HW : Hid (∀ W, Below w.heap.size w W → Strs W W.heap.size v l) := fun W hb => (hl.below hb (Nat.le_refl _)).mono hb.size
  have HW' : Hid (∀ W, Below w.heap.size w W → Strs W W.heap.size v' l') := fun W hb => (hl'.below hb (Nat.le_refl _)).mono hb.size
  have HS := Lib.hid hs
  have HS' := Lib.hid hs'
  clear hl hl' hs hs'
  go_enter Try.func33, Try.ntmps33
  go_wp2_with fail
  refine (sSpaceOk_any _ _ l (HW.out _ (Below.refl _ _)) HS.out).mono ?_
  rintro e w1 ⟨rfl, b1⟩
  cases hk : okSp l
  · go_wp2
    go_ret
    exact ⟨by rw [hk]; rfl, b1⟩
  have B1 := Lib.hid b1
  clear b1
  go_wp2_with fail
  refine (sSpaceOk_any _ _ l' (HW'.out _ B1.out) HS'.out).mono ?_
  rintro e w2 ⟨rfl, b2⟩
  have B2 := Lib.hid (belStep B1.out b2)
  clear b2 B1
  cases hk' : okSp l'
  · go_wp2
    go_ret
    exact ⟨by rw [hk, hk']; rfl, B2.out⟩
  go_wp2_with fail
  refine (l3Mask_any _ _ l (HW.out _ B2.out) hk).mono ?_
  rintro e w3 ⟨rfl, r3, b3⟩
  have R3 := Lib.hid r3
  have B3 := Lib.hid (belStep B2.out b3)
  clear r3 b3 B2
  go_wp2_with fail
  refine (l3Mask_any _ _ l' (HW'.out _ B3.out) hk').mono ?_
  rintro e w4 ⟨rfl, r4, b4⟩
  have R3' := Lib.hid (R3.out.below b4)
  have R4 := Lib.hid r4
  have B4 := Lib.hid (belStep B3.out b4)
  clear r4 b4 B3 R3
  go_wp2_with fail
  refine (l3Same_any _ _ _ _ _ R3'.out.bools R4.out.bools (by rw [spL_len, spL_len])).mono ?_
  rintro e w5 ⟨rfl, b5⟩
  go_wp2
  go_ret
  exact ⟨by rw [hk, hk']; rfl, belStep B4.out b5⟩

set_option maxRecDepth 100000 in
set_option maxHeartbeats 4000000 in
theorem sSpaceHas_any (w : World) (v : Value) (l : List ByteArray) (x y z : Int) (hl : Strs w w.heap.size v l) (hs : Fit6 l) :
    Calls Try.prog 20 #[v, .agg #[.int .i64 x, .int .i64 y, .int .i64 z]] w fun ex w' => ex = .returned (.bool (okB x y z && (okSp l && inSp l (f6 (hB x y z))))) ∧ Below w.heap.size w w' := by
  have HA : Hid (∀ W, Below (w.heap.size + 1) (w.alloc (.cells #[.int .i64 x, .int .i64 y, .int .i64 z] 30)) W → W.cell? ⟨w.heap.size, 0, none⟩ = some (.int .i64 x) ∧ W.cell? ⟨w.heap.size, 1, none⟩ = some (.int .i64 y) ∧ W.cell? ⟨w.heap.size, 2, none⟩ = some (.int .i64 z)) := fun W hb =>
    trioCells ((hb.block _ (by omega)).trans (newBlockM w _))
  have HW : Hid (∀ W, Below (w.heap.size + 1) (w.alloc (.cells #[.int .i64 x, .int .i64 y, .int .i64 z] 30)) W → Strs W W.heap.size v l ∧ Below w.heap.size w W) := fun W hb => by
    have h0 := (below_alloc1 w (.cells #[.int .i64 x, .int .i64 y, .int .i64 z] 30)).trans (hb.mono (by omega))
    exact ⟨(hl.below h0 (Nat.le_refl _)).mono h0.size, h0⟩
  have HS : Hid (∀ i, i < l.length → (strAt l i).size ≤ 1048576) := hs
  have hsz : (w.alloc (.cells #[.int .i64 x, .int .i64 y, .int .i64 z] 30)).heap.size = w.heap.size + 1 := by simp
  have HST : Hid (∀ {A B : World}, Below (w.heap.size + 1) (w.alloc (.cells #[.int .i64 x, .int .i64 y, .int .i64 z] 30)) A → Below A.heap.size A B → Below (w.heap.size + 1) (w.alloc (.cells #[.int .i64 x, .int .i64 y, .int .i64 z] 30)) B) := fun h k => h.trans (k.mono (by have := h.size; omega))
  have H0 : Hid (Below (w.heap.size + 1) (w.alloc (.cells #[.int .i64 x, .int .i64 y, .int .i64 z] 30)) (w.alloc (.cells #[.int .i64 x, .int .i64 y, .int .i64 z] 30)).drew) := (Below.refl _ _).drew
  have HKK : Hid (okB x y z = true → (0 ≤ x ∧ x ≤ 3 ∧ 0 ≤ y ∧ y ≤ 3 ∧ 0 ≤ z ∧ z ≤ 3) ∧ 16 * x + 4 * y + z = ofB (hB x y z)) := fun h => ⟨by have := okB_true h; omega, num_ofB h⟩
  clear hl hs hsz
  go_enter Try.func20, Try.ntmps20
  go_wp2_with fail
  generalize w.alloc (.cells #[.int .i64 x, .int .i64 y, .int .i64 z] 30) = W at *
  obtain ⟨d0, d1, d2⟩ := HA.out _ H0.out
  cases hk : okSp l
  · first
      | go_region_with (first
          | (go_at_call 16; refine (sSpaceOk_any _ _ l (HW.out _ H0.out).1 HS.out).mono ?_; rintro e w1 ⟨rfl, b1⟩; rw [hk]; have B1 := Lib.hid (HST.out H0.out b1); obtain ⟨p0, p1, p2⟩ := HA.out _ B1.out; clear b1))
      | fail
    all_goals
      go_wp2
      go_ret
      exact ⟨by rw [hk]; cases okB x y z <;> rfl, (HW.out _ B1.out).2⟩
  · cases hh : okB x y z
    · first
        | go_region_with (first
            | (go_at_call 16; refine (sSpaceOk_any _ _ l (HW.out _ H0.out).1 HS.out).mono ?_; rintro e w1 ⟨rfl, b1⟩; rw [hk]; have B1 := Lib.hid (HST.out H0.out b1); obtain ⟨p0, p1, p2⟩ := HA.out _ B1.out; clear b1)
            | (go_at_call 39; refine (sHeadOk_any _ _ _ _).mono ?_; rintro e w2 ⟨rfl, b2⟩; rw [hh]; have B2 := Lib.hid (HST.out B1.out b2); obtain ⟨p0, p1, p2⟩ := HA.out _ B2.out; clear b2))
        | fail
      all_goals
        go_wp2
        go_ret
        exact ⟨by rw [hh]; rfl, (HW.out _ B2.out).2⟩
    · obtain ⟨⟨hx0, hx3, hy0, hy3, hz0, hz3⟩, hnum⟩ := HKK.out hh
      have hb6 := ofB_bound (hB x y z)
      have hg : (spL l).getD (ofB (hB x y z)).toNat false = inSp l (f6 (hB x y z)) := by
        have h1 : (ofB (hB x y z)).toNat < 64 := by omega
        have := tab6_get (inSp l) h1
        rw [kb6_back] at this
        rw [List.getD_eq_getElem?_getD, spL, this]
        rfl
      have HG := Lib.hid hg
      have HNM := Lib.hid hnum
      have hn0 : 0 ≤ 16 * x + 4 * y + z := by omega
      have hn64 : 16 * x + 4 * y + z < 64 := by omega
      clear hg hnum hb6
      go_region_with (first
        | (go_at_call 16; refine (sSpaceOk_any _ _ l (HW.out _ H0.out).1 HS.out).mono ?_; rintro e w1 ⟨rfl, b1⟩; rw [hk]; have B1 := Lib.hid (HST.out H0.out b1); obtain ⟨p0, p1, p2⟩ := HA.out _ B1.out; clear b1)
        | (go_at_call 39; refine (sHeadOk_any _ _ _ _).mono ?_; rintro e w2 ⟨rfl, b2⟩; rw [hh]; have B2 := Lib.hid (HST.out B1.out b2); obtain ⟨p0, p1, p2⟩ := HA.out _ B2.out; clear b2)
        | (go_at_call 47; refine (l3Mask_any _ _ l (HW.out _ B2.out).1 hk).mono ?_; rintro e w3 ⟨rfl, r3, b3⟩; have R3 := Lib.hid r3; have B3 := Lib.hid (HST.out B2.out b3); obtain ⟨p0, p1, p2⟩ := HA.out _ B3.out; clear b3 r3)
        | (go_at_call 48; refine (l1Num_yes _ _ _ hx0 hx3 hy0 hy3 hz0 hz3 _).mono ?_; rintro e w4 ⟨rfl, b4⟩; have R4 := Lib.hid (R3.out.below b4); have B4 := Lib.hid (HST.out B3.out b4); have c4 := R4.out.cells.1 (16 * x + 4 * y + z).toNat (by omega); clear b4))
      all_goals
        go_wp2
        go_ret
        refine ⟨?_, (HW.out _ B4.out).2⟩
        rw [hh, hk, ← HG.out, ← HNM.out]
        rfl

end Go.Proofs.Ytcbnecpcmellhaa
