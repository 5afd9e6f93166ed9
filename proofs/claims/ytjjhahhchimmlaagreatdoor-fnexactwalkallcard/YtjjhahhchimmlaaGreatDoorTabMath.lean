/-
  Tables, as lists of rules: which are in order, by their places; the rule that is put, and the rule that is dropped.
-/
import Derived.Test.YtjjhahhchimmlaaGreatDoorRulS
namespace Go.Proofs.YtjjhahhchimmlaaGreatDoor
set_option linter.unusedVariables false

/-- A rule stands ahead of the first one of others. -/
def leadsB (r : R4) : List R4 → Bool | [] => true | q :: _ => decide (cmR r q < 0)
/-- All are ok, each ahead of the next one. -/
def chain : List R4 → Bool | [] => true | r :: rs => okR r && (leadsB r rs && chain rs)
/-- A table. -/
def tOk (l : List R4) : Bool := decide (l.length ≤ 48) && chain l

theorem chain_drop : ∀ (xs ys : List R4), chain (xs ++ ys) = true → chain ys = true
  | [], ys, h => h
  | x :: xs, ys, h => by
    simp only [List.cons_append, chain, Bool.and_eq_true] at h
    exact chain_drop xs ys h.2.2
theorem chain_at : ∀ (l : List R4), chain l = true → ∀ i, i < l.length → okR (ruAt l i) = true ∧ (0 < i → cmR (ruAt l (i - 1)) (ruAt l i) < 0)
  | [], _, i, hi => absurd hi (Nat.not_lt_zero _)
  | r :: l, h, 0, _ => by
    simp only [chain, Bool.and_eq_true] at h
    exact ⟨h.1, fun h0 => absurd h0 (Nat.lt_irrefl _)⟩
  | r :: l, h, i + 1, hi => by
    simp only [chain, Bool.and_eq_true] at h
    have hi' : i < l.length := by simpa using hi
    obtain ⟨h1, h2⟩ := chain_at l h.2.2 i hi'
    refine ⟨h1, fun _ => ?_⟩
    cases i with
    | zero =>
      cases l with
      | nil => simp at hi'
      | cons q l =>
        have := h.2.1
        simp only [leadsB, decide_eq_true_eq] at this
        exact this
    | succ i => exact h2 (Nat.succ_pos _)
theorem chain_mk : ∀ (l : List R4), (∀ i, i < l.length → okR (ruAt l i) = true ∧ (0 < i → cmR (ruAt l (i - 1)) (ruAt l i) < 0)) → chain l = true
  | [], _ => rfl
  | r :: l, h => by
    simp only [chain, Bool.and_eq_true]
    refine ⟨(h 0 (Nat.succ_pos _)).1, ?_, chain_mk l fun i hi => ?_⟩
    · cases l with
      | nil => rfl
      | cons q l =>
        have := (h 1 (by simp)).2 (by decide)
        simp only [leadsB, decide_eq_true_eq]
        exact this
    · obtain ⟨h1, h2⟩ := h (i + 1) (by simpa using hi)
      refine ⟨h1, fun h0 => ?_⟩
      have := h2 (Nat.succ_pos _)
      obtain ⟨j, rfl⟩ : ∃ j, i = j + 1 := ⟨i - 1, by omega⟩
      exact this
theorem chain_no {l : List R4} {i : Nat} (hi : i < l.length) (h : okR (ruAt l i) = false ∨ (0 < i ∧ 0 ≤ cmR (ruAt l (i - 1)) (ruAt l i))) : chain l = false := by
  cases hc : chain l with
  | false => rfl
  | true =>
    obtain ⟨h1, h2⟩ := chain_at l hc i hi
    rcases h with h | ⟨h0, h⟩
    · rw [h1] at h; cases h
    · have := h2 h0; omega

end Go.Proofs.YtjjhahhchimmlaaGreatDoor
