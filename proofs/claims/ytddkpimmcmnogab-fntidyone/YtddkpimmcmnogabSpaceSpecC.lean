/-
  Chapter 3, what the model's SpaceHas and SpaceSame return.
-/
import Derived.Test.YtddkpimmcmnogabSpaceSpecB
namespace Go.Proofs.Ytddkpimmcmnogab
open Go.ChangeShapes Go.WideShapes Go.ChangeAt Go.RowKit Go.Joins
set_option linter.unusedVariables false

theorem boolL_eq {m m' : List Bool} (hl : m.length = m'.length) (h : ∀ j, j < m.length → m.getD j false = m'.getD j false) : m = m' := by
  apply List.ext_getElem hl
  intro i h1 h2
  have := h i h1
  rwa [List.getD_eq_getElem?_getD, List.getD_eq_getElem?_getD, List.getElem?_eq_getElem h1, List.getElem?_eq_getElem h2] at this

set_option maxRecDepth 100000 in
set_option maxHeartbeats 2000000 in
theorem l3Same_any (w : World) (v v' : Value) (m m' : List Bool) (hm : Bools w w.heap.size v m) (hm' : Bools w w.heap.size v' m') (hl : m.length = m'.length) :
    Calls Try.prog 26 #[v, v'] w fun ex w' => ex = .returned (.bool (m == m')) ∧ Below w.heap.size w w' := by
  obtain ⟨b, off, cap, rfl, hc, hmx, hb, hcell⟩ := hm
  obtain ⟨b', off', cap', rfl, hc', hmx', hb', hcell'⟩ := hm'
  have HC := Lib.hid hcell
  have HC' := Lib.hid hcell'
  have HE : Hid ((∀ j, j < m.length → m.getD j false = m'.getD j false) → (m == m') = true) := fun h => by rw [boolL_eq hl h]; simp
  have HN : Hid (∀ j, m.getD j false ≠ m'.getD j false → (m == m') = false) := fun j h => by
    cases e : (m == m')
    · rfl
    · rw [beq_iff_eq] at e; subst e; exact absurd rfl h
  rw [← hl] at HC' hc' ⊢
  clear hcell hcell'
  generalize hN : m.length = n at *
  go_enter Try.func26, Try.ntmps26
  go_wp2
  go_loopw [5] (fun i wr => ∃ k : Nat, k ≤ n ∧ i = .int .i64 k ∧ (∀ j, j < k → m.getD j false = m'.getD j false) ∧ Below w.heap.size w wr) (fun i _ => n - (intOf i).toNat)
  case atStart => exact ⟨0, Nat.zero_le _, rfl, fun j hj => absurd hj (Nat.not_lt_zero _), Below.refl _ _⟩
  case round =>
    obtain ⟨k, hk, rfl, hsame, hbel⟩ := hrel
    have HS := Lib.hid hsame
    clear hsame
    by_cases hlt : k < n
    · have hkz : (k : Int) < (n : Int) := by omega
      have c1 : wr.cell? ⟨b, off + k, none⟩ = some (.bool (m.getD k false)) := (belCell hbel _ _ hb).trans (HC.out k hlt)
      have c2 : wr.cell? ⟨b', off' + k, none⟩ = some (.bool (m'.getD k false)) := (belCell hbel _ _ hb').trans (HC'.out k hlt)
      have HN1 := Lib.hid (HN.out k)
      have HE1 : Hid (m.getD k false = m'.getD k false → ∀ j, j < k + 1 → m.getD j false = m'.getD j false) := fun h j hj => by
        by_cases e : j = k
        · subst e; exact h
        · exact HS.out j (by omega)
      generalize m.getD k false = x at *
      generalize m'.getD k false = y at *
      by_cases hxy : x = y
      · have hd : (x == y) = true := by simp [hxy]
        go_wp2_with fail
        go_quiet (fail)
        go_wp2
        go_roundw
        case rel => exact ⟨k + 1, by omega, by go_num, HE1.out hxy, belDrewN hbel _⟩
        case measure => simp [intOf]; omega
      · have hd : (x == y) = false := by simp [hxy]
        go_wp2_with fail
        go_quiet (fail)
        go_wp2
        go_ret
        exact ⟨congrArg (fun x => Ending.returned (Value.bool x)) (HN1.out hxy).symm, belDrewN hbel _⟩
    · obtain rfl : k = n := by omega
      go_wp2
      go_ret
      exact ⟨congrArg (fun x => Ending.returned (Value.bool x)) (HE.out HS.out).symm, hbel⟩

set_option maxRecDepth 100000 in
set_option maxHeartbeats 2000000 in
theorem sSpaceSame_any (w : World) (v v' : Value) (l l' : List ByteArray) (hl : Strs w w.heap.size v l) (hl' : Strs w w.heap.size v' l') (hs : Fit6 l) (hs' : Fit6 l') :
    Calls Try.prog 8 #[v, v'] w fun ex w' => ex = .returned (.bool (okSp l && okSp l' && (spL l == spL l'))) ∧ Below w.heap.size w w' := by
  have HW : Hid (∀ W, Below w.heap.size w W → Strs W W.heap.size v l) := fun W hb => (hl.below hb (Nat.le_refl _)).mono hb.size
  have HW' : Hid (∀ W, Below w.heap.size w W → Strs W W.heap.size v' l') := fun W hb => (hl'.below hb (Nat.le_refl _)).mono hb.size
  have HS := Lib.hid hs
  have HS' := Lib.hid hs'
  clear hl hl' hs hs'
  go_enter Try.func8, Try.ntmps8
  go_wp2_with fail
  refine (sSpaceOk_any _ _ l (HW.out _ (Below.refl _ _)) HS.out).mono ?_
  rintro e w1 ⟨rfl, b1⟩
  cases hk : okSp l
  · go_wp2
    go_ret
    exact ⟨by rw [hk]; rfl, b1⟩
  have B1 := Lib.hid b1
  clear b1
  go_wp2_with fail
  refine (sSpaceOk_any _ _ l' (HW'.out _ B1.out) HS'.out).mono ?_
  rintro e w2 ⟨rfl, b2⟩
  have B2 := Lib.hid (belStep B1.out b2)
  clear b2 B1
  cases hk' : okSp l'
  · go_wp2
    go_ret
    exact ⟨by rw [hk, hk']; rfl, B2.out⟩
  go_wp2_with fail
  refine (l3Mask_any _ _ l (HW.out _ B2.out) hk).mono ?_
  rintro e w3 ⟨rfl, r3, b3⟩
  have R3 := Lib.hid r3
  have B3 := Lib.hid (belStep B2.out b3)
  clear r3 b3 B2
  go_wp2_with fail
  refine (l3Mask_any _ _ l' (HW'.out _ B3.out) hk').mono ?_
  rintro e w4 ⟨rfl, r4, b4⟩
  have R3' := Lib.hid (R3.out.below b4)
  have R4 := Lib.hid r4
  have B4 := Lib.hid (belStep B3.out b4)
  clear r4 b4 B3 R3
  go_wp2_with fail
  refine (l3Same_any _ _ _ _ _ R3'.out.bools R4.out.bools (by rw [spL_len, spL_len])).mono ?_
  rintro e w5 ⟨rfl, b5⟩
  go_wp2
  go_ret
  exact ⟨by rw [hk, hk']; rfl, belStep B4.out b5⟩

end Go.Proofs.Ytddkpimmcmnogab
