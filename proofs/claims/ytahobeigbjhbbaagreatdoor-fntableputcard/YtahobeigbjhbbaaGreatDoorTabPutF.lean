/-
  Where a rule stands, the model's put and the program's make one list.
-/
import Derived.Test.YtahobeigbjhbbaaGreatDoorTabPutS
import Derived.Test.YtahobeigbjhbbaaGreatDoorTabPutI
namespace Go.Proofs.YtahobeigbjhbbaaGreatDoor
set_option linter.unusedVariables false

theorem cmR_swap (a b : R4) : cmR b a = - cmR a b := rCmp_swap a.p a.s a.o a.t b.p b.s b.o b.t
theorem take_step (l : List R4) {i : Nat} (hi : i < l.length) : l.take (i + 1) = l.take i ++ [ruAt l i] := by
  rw [List.take_add_one, List.getElem?_eq_getElem hi, ruAt_lt hi]
  rfl
theorem foldP_low {l : List R4} {r : R4} {k : Nat} (h : Stand l r k) : ∀ i, i ≤ k → foldP r l i = (false, l.take i)
  | 0, _ => by simp [foldP_zero]
  | i + 1, hi => by
    have hil : i < l.length := by have := h.1; omega
    have hc := h.2.1 i (by omega)
    have hs := cmR_swap (ruAt l i) r
    rw [foldP_succ r l hil, foldP_low h i (by omega), take_step l hil]
    unfold stepP
    have h1 : ¬ cmR r (ruAt l i) ≤ 0 := by omega
    have h2 : ¬ cmR r (ruAt l i) < 0 := by omega
    simp [h1, h2]
theorem foldP_high {l : List R4} {r : R4} {k : Nat} (h : Stand l r k) (hk : k < l.length) : ∀ d, k + 1 + d ≤ l.length → foldP r l (k + 1 + d) = (true, (bif decide (cmR (ruAt l k) r = 0) then l.take k else l.take k ++ [r]) ++ (l.drop k).take (d + 1))
  | 0, _ => by
    have hc := h.2.2 hk
    have hs := cmR_swap (ruAt l k) r
    have h1 : cmR r (ruAt l k) ≤ 0 := by omega
    have hd : (l.drop k).take (0 + 1) = [ruAt l k] := by
      rw [List.drop_eq_getElem_cons hk, ruAt_lt hk]
      rfl
    rw [Nat.add_zero, foldP_succ r l hk, foldP_low h k (Nat.le_refl _), hd]
    unfold stepP
    by_cases hz : cmR (ruAt l k) r = 0
    · have h2 : ¬ cmR r (ruAt l k) < 0 := by omega
      simp [h1, h2, hz]
    · have h2 : cmR r (ruAt l k) < 0 := by omega
      simp [h1, h2, hz]
  | d + 1, hd => by
    have hil : k + 1 + d < l.length := by omega
    rw [show k + 1 + (d + 1) = k + 1 + d + 1 from by omega, foldP_succ r l hil, foldP_high h hk d (by omega)]
    have ht : (l.drop k).take (d + 1 + 1) = (l.drop k).take (d + 1) ++ [ruAt l (k + 1 + d)] := by
      have hlt : d + 1 < (l.drop k).length := by rw [List.length_drop]; omega
      rw [List.take_add_one, List.getElem?_eq_getElem hlt, ruAt_lt hil]
      simp only [Option.toList_some, List.getElem_drop]
      congr 3
      omega
    rw [ht]
    unfold stepP
    simp
theorem putF_stand {l : List R4} {r : R4} {k : Nat} (h : Stand l r k) : putF r l = bif decide (k < l.length ∧ cmR (ruAt l k) r = 0) then l else insR l k r := by
  unfold putF
  by_cases hk : k < l.length
  · have hf := foldP_high h hk (l.length - (k + 1)) (by omega)
    rw [show k + 1 + (l.length - (k + 1)) = l.length from by omega, show l.length - (k + 1) + 1 = l.length - k from by omega, ← List.length_drop, List.take_length] at hf
    rw [hf]
    by_cases hz : cmR (ruAt l k) r = 0
    · simp [hk, hz]
    · simp [hk, hz, insR]
  · have hkl : k = l.length := by have := h.1; omega
    subst hkl
    rw [foldP_low h _ (Nat.le_refl _)]
    simp [insR]

end Go.Proofs.YtahobeigbjhbbaaGreatDoor
