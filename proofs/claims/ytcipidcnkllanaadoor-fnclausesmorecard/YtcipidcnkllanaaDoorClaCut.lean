/-
  Clauses: parts of a list.
-/
import Derived.Test.YtcipidcnkllanaaDoorClaDrB
import Derived.Test.YtcipidcnkllanaaDoorClaOkI
import Derived.Test.YtcipidcnkllanaaDoorClaDoI
namespace Go.Proofs.YtcipidcnkllanaaDoor
open Go.ChangeShapes Go.WideShapes Go.ChangeAt Go.RowKit Go.Joins
set_option linter.unusedVariables false

theorem cutTo_runC (b off n cap k : Nat) (hk : k ≤ cap) (W : World) : (Instr.slice 23 (.slice (some ⟨b, off, none⟩) n cap) none (some (.int .i64 (k : Int))) none).run Tryd.prog W = .ok (.slice (some ⟨b, off, none⟩) k cap) W := by
  have h1 : (k : Int) ≤ (cap : Int) := by omega
  simp [go_sem, hk]
theorem cutFrom_runC (b off n cap k : Nat) (z : Int) (hz : z = (k : Int)) (hk : k ≤ n) (hn : n ≤ cap) : ∃ off2 : Nat, (k < n → off2 = off + k * 3) ∧ ∀ W : World, (Instr.slice 23 (.slice (some ⟨b, off, none⟩) n cap) (some (.int .i64 z)) none none).run Tryd.prog W = .ok (.slice (some ⟨b, off2, none⟩) (n - k) (cap - k)) W := by
  subst hz
  have h1 : (k : Int) ≤ (n : Int) := by omega
  have h2 : (n : Int) ≤ (cap : Int) := by omega
  by_cases hc : cap = k
  · refine ⟨off, fun h => by omega, fun W => ?_⟩
    subst hc
    simp [go_sem, hk, hn]
  · refine ⟨off + k * 3, fun _ => rfl, fun W => ?_⟩
    simp [go_sem, hc, hk]
theorem clAt_take {l : List C3} {k i : Nat} (h : i < k) : clAt (l.take k) i = clAt l i := by
  simp only [clAt, List.getD_eq_getElem?_getD, List.getElem?_take, h, if_true]
theorem clAt_drop {l : List C3} {k i : Nat} : clAt (l.drop k) i = clAt l (k + i) := by
  simp only [clAt, List.getD_eq_getElem?_getD, List.getElem?_drop]
theorem clB_take {l : List C3} (h : clB l = true) (k : Nat) : clB (l.take k) = true := by
  unfold clB at h ⊢
  rw [Bool.and_eq_true, List.all_eq_true, decide_eq_true_eq] at h ⊢
  exact ⟨fun x hx => h.1 x (List.mem_of_mem_take hx), by rw [List.length_take]; omega⟩
theorem clB_drop {l : List C3} (h : clB l = true) (k : Nat) : clB (l.drop k) = true := by
  unfold clB at h ⊢
  rw [Bool.and_eq_true, List.all_eq_true, decide_eq_true_eq] at h ⊢
  exact ⟨fun x hx => h.1 x (List.mem_of_mem_drop hx), by rw [List.length_drop]; omega⟩
theorem clB_bad (l : List C3) (x : C3) (h : okC x = false) : clB (l ++ [x]) = false := by
  unfold clB
  have : (l ++ [x]).all okC = false := by
    rw [List.all_eq_false]
    exact ⟨x, by simp, by simp [h]⟩
  rw [this]
  rfl
theorem Cls.cutTo {w : World} {g b off cap n k : Nat} {l : List C3} (h : Cls w g (.slice (some ⟨b, off, none⟩) n cap) l) (hN : l.length = n) (hk : k ≤ n) : Cls w g (.slice (some ⟨b, off, none⟩) k cap) (l.take k) := by
  have e : (l.take k).length = k := by rw [List.length_take]; omega
  obtain ⟨a', cap', hv, hc, hm, h⟩ := h
  rw [hN] at hv
  injection hv with h1 h2 h3
  subst h1 h3
  refine ⟨_, _, by rw [e], by rw [e]; omega, hm, ?_⟩
  rcases h with rfl | ⟨b', off', ha, hbg, hcell⟩
  · exact .inl (by simp)
  · cases ha
    refine .inr ⟨_, _, rfl, hbg, fun i hi => ?_⟩
    rw [e] at hi
    rw [clAt_take hi]
    exact hcell i (by omega)
theorem Cls.cutFrom {w : World} {g b off off2 cap n k : Nat} {l : List C3} (h : Cls w g (.slice (some ⟨b, off, none⟩) n cap) l) (hN : l.length = n) (hk : k ≤ n) (ho : k < n → off2 = off + k * 3) : Cls w g (.slice (some ⟨b, off2, none⟩) (n - k) (cap - k)) (l.drop k) := by
  have e : (l.drop k).length = n - k := by rw [List.length_drop]; omega
  obtain ⟨a', cap', hv, hc, hm, h⟩ := h
  rw [hN] at hv
  injection hv with h1 h2 h3
  subst h1 h3
  refine ⟨_, _, by rw [e], by rw [e]; omega, by omega, ?_⟩
  by_cases h0 : n ≤ k
  · exact .inl (List.eq_nil_of_length_eq_zero (by omega))
  rcases h with rfl | ⟨b', off', ha, hbg, hcell⟩
  · exact .inl (by simp)
  · cases ha
    have ho2 := ho (by omega)
    subst ho2
    refine .inr ⟨_, _, rfl, hbg, fun i hi => ?_⟩
    rw [e] at hi
    rw [clAt_drop, show off + k * 3 + i * 3 = off + (k + i) * 3 from by omega]
    exact hcell (k + i) (by omega)
theorem ClaRow.solid {w : World} {base : Nat} {v : Value} {l : List C3} (h : ClaRow w base v l) (hv : v.ownBlock ≠ none) : ∃ g cap, v = .slice (some ⟨g, 0, none⟩) l.length cap ∧ g < w.heap.size ∧ l.length ≤ cap ∧ ∀ i, i < l.length → Thr w g (0 + i * 3) (clAt l i) := by
  rcases h.form with ⟨rfl, rfl⟩ | ⟨g, cap, rfl, -, -, hc, -⟩
  · exact absurd rfl hv
  · exact ⟨g, cap, rfl, (World.ownsRow.lt h g rfl).2, hc, fun i hi => by rw [Nat.zero_add]; exact (h.cells rfl).1 i hi⟩

end Go.Proofs.YtcipidcnkllanaaDoor
