/-
  The plain side of FnFar.
-/
import Derived.Test.YtbjndcfdcjpkmaaNetTwo
import Derived.Test.YtbjndcfdcjpkmaaNetPortI
import Derived.Test.YtbjndcfdcjpkmaaNetNextJ
import Derived.Test.YtbjndcfdcjpkmaaNetWayI
namespace Go.Proofs.Ytbjndcfdcjpkmaa
open Go.ChangeShapes Go.WideShapes Go.ChangeAt Go.RowKit Go.Joins
set_option linter.unusedVariables false

theorem leastF_spec (f : Nat → Bool) : (leastF f = 0 ∧ ∀ j, 1 ≤ j → j ≤ 3 → f j = false) ∨ ∃ k : Nat, 1 ≤ k ∧ k ≤ 3 ∧ leastF f = (k : Int) ∧ f k = true ∧ ∀ j, 1 ≤ j → j < k → f j = false := by
  cases h1 : f 1
  · cases h2 : f 2
    · cases h3 : f 3
      · refine .inl ⟨by simp [leastF, h1, h2, h3], fun j a b => ?_⟩
        have : j = 1 ∨ j = 2 ∨ j = 3 := by omega
        rcases this with rfl | rfl | rfl <;> assumption
      · refine .inr ⟨3, by omega, by omega, by simp [leastF, h1, h2, h3], h3, fun j a b => ?_⟩
        have : j = 1 ∨ j = 2 := by omega
        rcases this with rfl | rfl <;> assumption
    · refine .inr ⟨2, by omega, by omega, by simp [leastF, h1, h2], h2, fun j a b => ?_⟩
      obtain rfl : j = 1 := by omega
      exact h1
  · exact .inr ⟨1, by omega, by omega, by simp [leastF, h1], h1, fun j a b => by omega⟩
theorem swB_parts {x : Int} (h : swB x = true) : 1 ≤ x ∧ x ≤ 4 := by
  unfold swB inB at h; simp at h; exact h
theorem swB_of {x : Int} (h1 : 1 ≤ x) (h4 : x ≤ 4) : swB x = true := by
  unfold swB inB; simp [h1, h4]
theorem farV_of {l : List K4} {x y : Int} (hn : netB l = true) (hx : swB x = true) (hy : swB y = true) : farV l x y = farS l y.toNat x.toNat := by
  obtain ⟨x1, x4⟩ := swB_parts hx
  obtain ⟨y1, y4⟩ := swB_parts hy
  unfold farV
  rw [hn, hx, hy]
  exact farS_symm (net_ok hn) (by omega) (by omega) (by omega) (by omega)
theorem farV_range {l : List K4} {x y : Int} (hn : netB l = true) (hx : swB x = true) (hy : swB y = true) : -1 ≤ farV l x y ∧ farV l x y ≤ 3 := by
  obtain ⟨x1, x4⟩ := swB_parts hx
  obtain ⟨y1, y4⟩ := swB_parts hy
  rw [farV_of hn hx hy]
  exact far_range hn (t := y.toNat) (v := x.toNat) (by omega) (by omega) (by omega) (by omega)
theorem adj_peer {l : List K4} (hn : netB l = true) {s u : Nat} (s1 : 1 ≤ s) (s4 : s ≤ 4) (u1 : 1 ≤ u) (u4 : u ≤ 4) (ha : Adj l s u) : ∃ j : Nat, 1 ≤ j ∧ j ≤ 3 ∧ (peerF l s j).1 = (u : Int) := by
  have hm := nbs_adj hn s1 s4 u u1 u4 ha
  obtain ⟨j, hj, hju⟩ := List.mem_map.1 hm
  have hj4 : j < 4 := List.mem_range.1 hj
  have e := eXY hn s j hj4
  have e1 : eX (pk l) s j = (peerF l s j).1 := by rw [← e]
  refine ⟨j, ?_, by omega, by rw [← e1]; omega⟩
  by_cases z : j = 0
  · subst z
    rw [eX_none hn s] at hju
    simp at hju
    omega
  · omega
theorem peer_adj {l : List K4} {s u : Nat} {t : Int} (h : (peerF l s t).1 = (u : Int)) (u1 : 1 ≤ u) : Adj l s u := by
  rcases peerF_cases l s t with h0 | ⟨k, hk, ⟨hp, -, he⟩ | ⟨hp, -, he⟩⟩
  · rw [h0] at h; simp at h; omega
  · rw [he] at h; exact ⟨k, hk, .inl ⟨hp, h⟩⟩
  · rw [he] at h; exact ⟨k, hk, .inr ⟨h, hp⟩⟩
theorem far_tri {l : List K4} {a b : Nat} {D E : Nat → Int} (hD : IsDist l a D) (hE : IsDist l b E) (h0 : 0 ≤ D b) : ∀ (n : Nat) (v : Nat), 1 ≤ v → v ≤ 4 → E v = (n : Int) → 0 ≤ D v ∧ D v ≤ D b + n
  | 0, v, h1, h4, h => by
    have := (hE.zero v h1 h4).1 (by simpa using h)
    subst this
    omega
  | n + 1, v, h1, h4, h => by
    obtain ⟨u, u1, u4, ha, hu⟩ := hE.back v h1 h4 (by omega)
    obtain ⟨i1, i2⟩ := far_tri hD hE h0 n u u1 u4 (by omega)
    obtain ⟨j1, j2⟩ := hD.step u v u1 u4 h1 h4 ha i1
    omega
/-- What FnFar asks, of the plain functions. -/
theorem far_law {l : List K4} {x y z : Int} (hn : netB l = true) (hx : swB x = true) (hy : swB y = true) (hz : swB z = true) :
    farV l y x = farV l x y ∧ (farV l x y = 0 ↔ x = y) ∧ (farV l x y = 1 ↔ portV l x y > 0) ∧ (farV l x z < 0 ∨ farV l z y < 0 ∨ (0 ≤ farV l x y ∧ farV l x y ≤ farV l x z + farV l z y)) ∧ farV l x y ≤ 3 := by
  obtain ⟨x1, x4⟩ := swB_parts hx
  obtain ⟨y1, y4⟩ := swB_parts hy
  obtain ⟨z1, z4⟩ := swB_parts hz
  have hall := net_ok hn
  have hp : portV l x y = leastF (fun k => (peerF l x k).1 == y) := by unfold portV; rw [hn, hx, hy]; rfl
  have e1 : farV l x y = farS l x.toNat y.toNat := by unfold farV; rw [hn, hx, hy]; rfl
  have e2 : farV l y x = farS l x.toNat y.toNat := farV_of hn hy hx
  have e3 : farV l x z = farS l x.toNat z.toNat := by unfold farV; rw [hn, hx, hz]; rfl
  have e4 : farV l z y = farS l z.toNat y.toNat := by unfold farV; rw [hn, hz, hy]; rfl
  have hD := farS_dist hall (c := x.toNat) (by omega) (by omega)
  have hE := farS_dist hall (c := z.toNat) (by omega) (by omega)
  have hr := (far_range hn (t := x.toNat) (v := y.toNat) (by omega) (by omega) (by omega) (by omega)).2
  have hzr := hD.zero y.toNat (by omega) (by omega)
  have hzx := hD.zero x.toNat (by omega) (by omega)
  have hxs : ((x.toNat : Nat) : Int) = x := by omega
  have hys : ((y.toNat : Nat) : Int) = y := by omega
  rw [hp, e1, e2, e3, e4]
  refine ⟨rfl, by rw [hzr]; omega, ?_, ?_, hr⟩
  · constructor
    · intro h
      obtain ⟨u, u1, u4, ha, hu⟩ := hD.back y.toNat (by omega) (by omega) (by omega)
      have hux := (hD.zero u u1 u4).1 (by omega)
      subst hux
      obtain ⟨j, j1, j3, hj⟩ := adj_peer hn (by omega) (by omega) (by omega) (by omega) ha
      rw [hxs, hys] at hj
      rcases leastF_spec (fun k => (peerF l x k).1 == y) with ⟨-, hno⟩ | ⟨m, m1, m3, hm, -⟩
      · have := hno j j1 j3
        simp [hj] at this
      · omega
    · intro h
      rcases leastF_spec (fun k => (peerF l x k).1 == y) with ⟨h0, hno⟩ | ⟨m, m1, m3, hm, hf, -⟩
      · omega
      · have hpe : (peerF l x m).1 = y := by simpa using hf
        have hne : y ≠ x := by
          rcases peer_ok hn x m with h0 | ⟨-, -, -, -, h5, -⟩
          · rw [h0] at hpe; simp at hpe; omega
          · rw [← hpe]; exact h5
        have ha : Adj l x.toNat y.toNat := peer_adj (t := m) (by rw [hxs, hys]; exact hpe) (by omega)
        obtain ⟨j1, j2⟩ := hD.step x.toNat y.toNat (by omega) (by omega) (by omega) (by omega) ha (by have := hzx.2 rfl; omega)
        have hx0 := hzx.2 rfl
        have : farS l x.toNat y.toNat ≠ 0 := fun e => by have := hzr.1 e; omega
        omega
  · rcases hD.low z.toNat (by omega) (by omega) with h | h
    · exact .inl (by omega)
    · rcases hE.low y.toNat (by omega) (by omega) with k | k
      · exact .inr (.inl (by omega))
      · have := far_tri hD hE h (farS l z.toNat y.toNat).toNat y.toNat (by omega) (by omega) (by omega)
        exact .inr (.inr (by omega))

end Go.Proofs.Ytbjndcfdcjpkmaa
