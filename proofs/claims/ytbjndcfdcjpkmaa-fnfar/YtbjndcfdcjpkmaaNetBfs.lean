/-
  Nets in plain words: the program's search, switch by switch, finds how far switches are.
-/
import Derived.Test.YtbjndcfdcjpkmaaNetFarS
namespace Go.Proofs.Ytbjndcfdcjpkmaa
open Go.ChangeShapes Go.WideShapes Go.ChangeAt Go.RowKit Go.Joins
set_option linter.unusedVariables false

/-- A neighbour (0: none) of the switch in hand: its number is set, if it has none yet, and it waits. -/
def innD (sw : Nat) (D : Nat → Int) (x : Nat) : Nat → Int := if x ≠ 0 ∧ D x = -1 then upd D x (D sw + 1) else D
def innQ (D : Nat → Int) (Q : List Nat) (x : Nat) : List Nat := if x ≠ 0 ∧ D x = -1 then Q ++ [x] else Q

/-- What holds of the numbers, whatever waits. -/
structure Base (l : List K4) (c : Nat) (D : Nat → Int) : Prop where
  low : ∀ v, 1 ≤ v → v ≤ 4 → D v = -1 ∨ 0 ≤ D v
  zero : ∀ v, 1 ≤ v → v ≤ 4 → (D v = 0 ↔ v = c)
  back : ∀ v, 1 ≤ v → v ≤ 4 → 0 < D v → ∃ u, 1 ≤ u ∧ u ≤ 4 ∧ Adj l u v ∧ D u = D v - 1
/-- What holds while a switch is in hand; pre: its neighbours that are done. -/
structure Hand (l : List K4) (c sw : Nat) (pre : List Nat) (D : Nat → Int) (Q : List Nat) : Prop where
  base : Base l c D
  inq : ∀ x ∈ Q, 1 ≤ x ∧ x ≤ 4 ∧ D sw ≤ D x
  sw0 : 0 ≤ D sw
  done : ∀ u v, 1 ≤ u → u ≤ 4 → 1 ≤ v → v ≤ 4 → Adj l u v → 0 ≤ D u → u ∉ Q → u ≠ sw → 0 ≤ D v ∧ D v ≤ D u + 1
  now : ∀ x ∈ pre, x ≠ 0 → 0 ≤ D x
  top : ∀ v, 1 ≤ v → v ≤ 4 → D v ≤ D sw + 1
  sort : Q.Pairwise (fun x y => D x ≤ D y)
theorem Hand.inn {l : List K4} {c sw : Nat} {pre : List Nat} {D : Nat → Int} {Q : List Nat} (h : Hand l c sw pre D Q) (s1 : 1 ≤ sw) (s4 : sw ≤ 4) {x : Nat} (hx : x ≠ 0 → 1 ≤ x ∧ x ≤ 4 ∧ Adj l sw x) : Hand l c sw (pre ++ [x]) (innD sw D x) (innQ D Q x) ∧ innD sw D x sw = D sw := by
  unfold innD innQ
  by_cases hc : x ≠ 0 ∧ D x = -1
  · rw [if_pos hc, if_pos hc]
    obtain ⟨x1, x4, ha⟩ := hx hc.1
    have hs0 := h.sw0
    have hne : sw ≠ x := fun e => by subst e; omega
    have same : ∀ u, u ≠ x → upd D x (D sw + 1) u = D u := fun u hu => by simp [upd, hu]
    have at_x : upd D x (D sw + 1) x = D sw + 1 := by simp [upd]
    have hnq : ∀ y ∈ Q, y ≠ x := fun y hy e => by subst e; have := h.inq y hy; omega
    refine ⟨⟨⟨fun v v1 v4 => ?_, fun v v1 v4 => ?_, fun v v1 v4 hv => ?_⟩, fun y hy => ?_, ?_, fun u v u1 u4 v1 v4 hadj hu hq hus => ?_, fun y hy hy0 => ?_, fun v v1 v4 => ?_, ?_⟩, same sw hne⟩
    · by_cases e : v = x
      · subst e; rw [at_x]; omega
      · rw [same v e]; exact h.base.low v v1 v4
    · by_cases e : v = x
      · subst e
        rw [at_x]
        constructor
        · intro y; omega
        · intro y; have := (h.base.zero v v1 v4).2 y; omega
      · rw [same v e]; exact h.base.zero v v1 v4
    · by_cases e : v = x
      · subst e
        exact ⟨sw, s1, s4, ha, by rw [same sw hne, at_x]; omega⟩
      · rw [same v e] at hv ⊢
        obtain ⟨u, u1, u4, hadj, hu⟩ := h.base.back v v1 v4 hv
        exact ⟨u, u1, u4, hadj, by rw [same u (fun y => by subst y; omega)]; exact hu⟩
    · rw [same sw hne]
      rcases List.mem_append.1 hy with hy | hy
      · rw [same y (hnq y hy)]; exact h.inq y hy
      · obtain rfl : y = x := by simpa using hy
        rw [at_x]
        exact ⟨x1, x4, by omega⟩
    · rw [same sw hne]; exact hs0
    · have hux : u ≠ x := fun e => hq (by simp [e])
      rw [same u hux] at hu ⊢
      have := h.done u v u1 u4 v1 v4 hadj hu (fun y => hq (by simp [y])) hus
      by_cases e : v = x
      · subst e; omega
      · rw [same v e]; exact this
    · rcases List.mem_append.1 hy with hy | hy
      · have := h.now y hy hy0
        rw [same y (fun e => by subst e; omega)]
        exact this
      · obtain rfl : y = x := by simpa using hy
        rw [at_x]
        omega
    · rw [same sw hne]
      by_cases e : v = x
      · subst e; rw [at_x]; exact Int.le_refl _
      · rw [same v e]; exact h.top v v1 v4
    · rw [List.pairwise_append]
      refine ⟨h.sort.imp_of_mem (fun hma hmb hab => by rw [same _ (hnq _ hma), same _ (hnq _ hmb)]; exact hab), List.pairwise_singleton _ _, fun a hma b hmb => ?_⟩
      have hbx : b = x := by simpa using hmb
      rw [hbx, same a (hnq a hma), at_x]
      have := h.inq a hma
      exact h.top a this.1 this.2.1
  · rw [if_neg hc, if_neg hc]
    refine ⟨⟨h.base, h.inq, h.sw0, h.done, fun y hy hy0 => ?_, h.top, h.sort⟩, rfl⟩
    rcases List.mem_append.1 hy with hy | hy
    · exact h.now y hy hy0
    · obtain rfl : y = x := by simpa using hy
      obtain ⟨x1, x4, -⟩ := hx hy0
      rcases h.base.low y x1 x4 with z | z
      · exact absurd ⟨hy0, z⟩ hc
      · exact z

/-- What holds between two. -/
structure Wait (l : List K4) (c : Nat) (D : Nat → Int) (Q : List Nat) : Prop where
  base : Base l c D
  inq : ∀ x ∈ Q, 1 ≤ x ∧ x ≤ 4 ∧ 0 ≤ D x
  done : ∀ u v, 1 ≤ u → u ≤ 4 → 1 ≤ v → v ≤ 4 → Adj l u v → 0 ≤ D u → u ∉ Q → 0 ≤ D v ∧ D v ≤ D u + 1
  top : ∀ x, Q.head? = some x → ∀ v, 1 ≤ v → v ≤ 4 → D v ≤ D x + 1
  sort : Q.Pairwise (fun x y => D x ≤ D y)
theorem Wait.take {l : List K4} {c sw : Nat} {D : Nat → Int} {Q : List Nat} (h : Wait l c D (sw :: Q)) : Hand l c sw [] D Q := by
  have hs := List.pairwise_cons.1 h.sort
  have hi := h.inq sw (by simp)
  exact ⟨h.base, fun x hx => ⟨(h.inq x (by simp [hx])).1, (h.inq x (by simp [hx])).2.1, hs.1 x hx⟩, hi.2.2,
    fun u v u1 u4 v1 v4 ha hu hq hus => h.done u v u1 u4 v1 v4 ha hu (by simp [hq, hus]), (fun x hx => by cases hx), h.top sw rfl, hs.2⟩
theorem Hand.put {l : List K4} {c sw : Nat} {N : List Nat} {D : Nat → Int} {Q : List Nat} (h : Hand l c sw N D Q) (hN : ∀ v, 1 ≤ v → v ≤ 4 → Adj l sw v → v ∈ N) : Wait l c D Q := by
  refine ⟨h.base, fun x hx => ⟨(h.inq x hx).1, (h.inq x hx).2.1, Int.le_trans h.sw0 (h.inq x hx).2.2⟩, fun u v u1 u4 v1 v4 ha hu hq => ?_, fun x hx v v1 v4 => ?_, h.sort⟩
  · by_cases e : u = sw
    · subst e
      exact ⟨h.now v (hN v v1 v4 ha) (by omega), h.top v v1 v4⟩
    · exact h.done u v u1 u4 v1 v4 ha hu hq e
  · have hm : x ∈ Q := List.mem_of_mem_head? hx
    have := (h.inq x hm).2.2
    have := h.top v v1 v4
    omega
theorem Wait.dist {l : List K4} {c : Nat} {D : Nat → Int} (h : Wait l c D []) : IsDist l c D :=
  ⟨h.base.low, h.base.zero, h.base.back, fun u v u1 u4 v1 v4 ha hu => h.done u v u1 u4 v1 v4 ha hu (by simp)⟩
theorem wait_start (l : List K4) {c : Nat} (c1 : 1 ≤ c) (c4 : c ≤ 4) : Wait l c (dist0 c) [c] := by
  have hc : dist0 c c = 0 := by simp [dist0]
  have hn : ∀ v, v ≠ c → dist0 c v = -1 := fun v hv => by simp [dist0, hv]
  refine ⟨⟨fun v _ _ => ?_, fun v _ _ => ?_, fun v _ _ h => ?_⟩, fun x hx => ?_, fun u v _ _ _ _ _ hu hq => ?_, fun x hx v _ _ => ?_, List.pairwise_singleton _ _⟩
  · unfold dist0; split <;> omega
  · unfold dist0; split <;> simp_all
  · unfold dist0 at h; split at h <;> omega
  · obtain rfl : x = c := by simpa using hx
    exact ⟨c1, c4, by omega⟩
  · have : u ≠ c := fun e => hq (by simp [e])
    rw [hn u this] at hu
    omega
  · obtain rfl : c = x := by simpa using hx
    rw [hc]
    unfold dist0
    split <;> omega

/-- How many have no number yet. -/
def one1 (x : Int) : Nat := if x = -1 then 1 else 0
def cnt (D : Nat → Int) : Nat := one1 (D 1) + (one1 (D 2) + (one1 (D 3) + one1 (D 4)))
theorem cnt_upd {D : Nat → Int} {x : Nat} {y : Int} (x1 : 1 ≤ x) (x4 : x ≤ 4) (h : D x = -1) (hy : y ≠ -1) : cnt (upd D x y) + 1 = cnt D := by
  have : x = 1 ∨ x = 2 ∨ x = 3 ∨ x = 4 := by omega
  rcases this with rfl | rfl | rfl | rfl <;> simp [cnt, upd, one1, h, hy] <;> omega
theorem cnt_le (D : Nat → Int) : cnt D ≤ 4 := by
  have : ∀ x, one1 x ≤ 1 := fun x => by unfold one1; split <;> omega
  have a := this (D 1)
  have b := this (D 2)
  have c := this (D 3)
  have d := this (D 4)
  unfold cnt
  omega
theorem inn_cnt {sw x : Nat} {D : Nat → Int} {Q : List Nat} (hx : x ≠ 0 → 1 ≤ x ∧ x ≤ 4) (hs : 0 ≤ D sw) : 2 * cnt (innD sw D x) + (innQ D Q x).length ≤ 2 * cnt D + Q.length := by
  unfold innD innQ
  by_cases hc : x ≠ 0 ∧ D x = -1
  · rw [if_pos hc, if_pos hc]
    have := cnt_upd (y := D sw + 1) (hx hc.1).1 (hx hc.1).2 hc.2 (by omega)
    simp
    omega
  · rw [if_neg hc, if_neg hc]
    exact Nat.le_refl _

end Go.Proofs.Ytbjndcfdcjpkmaa
