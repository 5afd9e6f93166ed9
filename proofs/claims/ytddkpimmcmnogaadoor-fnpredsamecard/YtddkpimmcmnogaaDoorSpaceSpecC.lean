/-
  Chapter 3, what the model's SpaceHas and SpaceSame return.
-/
import Derived.Test.YtddkpimmcmnogaaDoorSpaceSpecB
namespace Go.Proofs.YtddkpimmcmnogaaDoor
open Go.ChangeShapes Go.WideShapes Go.ChangeAt Go.RowKit Go.Joins
set_option linter.unusedVariables false

theorem boolL_eq {m m' : List Bool} (hl : m.length = m'.length) (h : ∀ j, j < m.length → m.getD j false = m'.getD j false) : m = m' := by
  apply List.ext_getElem hl
  intro i h1 h2
  have := h i h1
  rwa [List.getD_eq_getElem?_getD, List.getD_eq_getElem?_getD, List.getElem?_eq_getElem h1, List.getElem?_eq_getElem h2] at this

set_option maxRecDepth 100000 in
set_option maxHeartbeats 2000000 in
theorem l3Same_any (w : World) (v v' : Value) (m m' : List Bool) (hm : Bools w w.heap.size v m) (hm' : Bools w w.heap.size v' m') (hl : m.length = m'.length) :
    Calls Tryd.prog 46 #[v, v'] w fun ex w' => ex = .returned (.bool (m == m')) ∧ Below w.heap.size w w' := by
  obtain ⟨b, off, cap, rfl, hc, hmx, hb, hcell⟩ := hm
  obtain ⟨b', off', cap', rfl, hc', hmx', hb', hcell'⟩ := hm'
  have HC := Lib.hid hcell
  have HC' := Lib.hid hcell'
  have HE : Hid ((∀ j, j < m.length → m.getD j false = m'.getD j false) → (m == m') = true) := fun h => by rw [boolL_eq hl h]; simp
  have HN : Hid (∀ j, m.getD j false ≠ m'.getD j false → (m == m') = false) := fun j h => by
    cases e : (m == m')
    · rfl
    · rw [beq_iff_eq] at e; subst e; exact absurd rfl h
  rw [← hl] at HC' hc' ⊢
  clear hcell hcell'
  generalize hN : m.length = n at *
  go_enter Tryd.func46, Tryd.ntmps46
  go_wp2
  go_loopw [5] (fun i wr => ∃ k : Nat, k ≤ n ∧ i = .int .i64 k ∧ (∀ j, j < k → m.getD j false = m'.getD j false) ∧ Below w.heap.size w wr) (fun i _ => n - (intOf i).toNat)
  case atStart => exact ⟨0, Nat.zero_le _, rfl, fun j hj => absurd hj (Nat.not_lt_zero _), Below.refl _ _⟩
  case round =>
    obtain ⟨k, hk, rfl, hsame, hbel⟩ := hrel
    have HS := Lib.hid hsame
    clear hsame
    by_cases hlt : k < n
    · have hkz : (k : Int) < (n : Int) := by omega
      have c1 : wr.cell? ⟨b, off + k, none⟩ = some (.bool (m.getD k false)) := (belCell hbel _ _ hb).trans (HC.out k hlt)
      have c2 : wr.cell? ⟨b', off' + k, none⟩ = some (.bool (m'.getD k false)) := (belCell hbel _ _ hb').trans (HC'.out k hlt)
      have HN1 := Lib.hid (HN.out k)
      have HE1 : Hid (m.getD k false = m'.getD k false → ∀ j, j < k + 1 → m.getD j false = m'.getD j false) := fun h j hj => by
        by_cases e : j = k
        · subst e; exact h
        · exact HS.out j (by omega)
      generalize m.getD k false = x at *
      generalize m'.getD k false = y at *
      by_cases hxy : x = y
      · have hd : (x == y) = true := by simp [hxy]
        go_wp2_with fail
        go_quiet (fail)
        go_wp2
        go_roundw
        case rel => exact ⟨k + 1, by omega, by go_num, HE1.out hxy, belDrewN hbel _⟩
        case measure => simp [intOf]; omega
      · have hd : (x == y) = false := by simp [hxy]
        go_wp2_with fail
        go_quiet (fail)
        go_wp2
        go_ret
        exact ⟨congrArg (fun x => Ending.returned (Value.bool x)) (HN1.out hxy).symm, belDrewN hbel _⟩
    · obtain rfl : k = n := by omega
      go_wp2
      go_ret
      exact ⟨congrArg (fun x => Ending.returned (Value.bool x)) (HE.out HS.out).symm, hbel⟩

end Go.Proofs.YtddkpimmcmnogaaDoor
