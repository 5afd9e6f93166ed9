/-
  Nets in plain words: how far switches are; two ways to say it are one.
-/
import Derived.Test.YtbjndcfdcjpkmaaNetPeerP
namespace Go.Proofs.Ytbjndcfdcjpkmaa
open Go.ChangeShapes Go.WideShapes Go.ChangeAt Go.RowKit Go.Joins
set_option linter.unusedVariables false

/-- Two switches have a link. -/
def Adj (l : List K4) (a b : Nat) : Prop := ∃ k ∈ l, (k.p = a ∧ k.o = b) ∨ (k.p = b ∧ k.o = a)
theorem Adj.symm {l : List K4} {a b : Nat} (h : Adj l a b) : Adj l b a := by
  obtain ⟨k, hk, h | h⟩ := h
  · exact ⟨k, hk, .inr h⟩
  · exact ⟨k, hk, .inl h⟩
/-- Numbers at switches are how far they are from one of them. -/
structure IsDist (l : List K4) (c : Nat) (D : Nat → Int) : Prop where
  low : ∀ v, 1 ≤ v → v ≤ 4 → D v = -1 ∨ 0 ≤ D v
  zero : ∀ v, 1 ≤ v → v ≤ 4 → (D v = 0 ↔ v = c)
  back : ∀ v, 1 ≤ v → v ≤ 4 → 0 < D v → ∃ u, 1 ≤ u ∧ u ≤ 4 ∧ Adj l u v ∧ D u = D v - 1
  step : ∀ u v, 1 ≤ u → u ≤ 4 → 1 ≤ v → v ≤ 4 → Adj l u v → 0 ≤ D u → 0 ≤ D v ∧ D v ≤ D u + 1
theorem dist_le {l : List K4} {c : Nat} {D E : Nat → Int} (hD : IsDist l c D) (hE : IsDist l c E) : ∀ (n : Nat) (v : Nat), 1 ≤ v → v ≤ 4 → D v = (n : Int) → 0 ≤ E v ∧ E v ≤ (n : Int)
  | 0, v, h1, h4, h => by
    have := (hE.zero v h1 h4).2 ((hD.zero v h1 h4).1 (by simpa using h))
    omega
  | n + 1, v, h1, h4, h => by
    obtain ⟨u, u1, u4, ha, hu⟩ := hD.back v h1 h4 (by omega)
    obtain ⟨e0, e1⟩ := dist_le hD hE n u u1 u4 (by omega)
    obtain ⟨f0, f1⟩ := hE.step u v u1 u4 h1 h4 ha e0
    exact ⟨f0, by omega⟩
theorem dist_one {l : List K4} {c : Nat} {D E : Nat → Int} (hD : IsDist l c D) (hE : IsDist l c E) (v : Nat) (h1 : 1 ≤ v) (h4 : v ≤ 4) : D v = E v := by
  rcases hD.low v h1 h4 with h | h
  · rcases hE.low v h1 h4 with k | k
    · rw [h, k]
    · have := dist_le hE hD (E v).toNat v h1 h4 (by omega)
      omega
  · have a := dist_le hD hE (D v).toNat v h1 h4 (by omega)
    have b := dist_le hE hD (E v).toNat v h1 h4 (by omega)
    omega
/-- None is further than three. -/
theorem dist_small {l : List K4} {D : Nat → Int} (hlow : ∀ v, 1 ≤ v → v ≤ 4 → D v = -1 ∨ 0 ≤ D v) (hb : ∀ v, 1 ≤ v → v ≤ 4 → 0 < D v → ∃ u, 1 ≤ u ∧ u ≤ 4 ∧ Adj l u v ∧ D u = D v - 1) (v : Nat) (h1 : 1 ≤ v) (h4 : v ≤ 4) : D v ≤ 3 := by
  by_cases h : D v ≤ 3
  · exact h
  · exfalso
    have down : ∀ n : Nat, ∀ v, 1 ≤ v → v ≤ 4 → D v = (n : Int) + 4 → ∃ v, 1 ≤ v ∧ v ≤ 4 ∧ D v = 4 := by
      intro n
      induction n with
      | zero => exact fun v a b e => ⟨v, a, b, by simpa using e⟩
      | succ n ih =>
        intro v a b e
        obtain ⟨u, u1, u4, -, hu⟩ := hb v a b (by omega)
        exact ih u u1 u4 (by omega)
    obtain ⟨a, a1, a4, ha⟩ := down (D v - 4).toNat v h1 h4 (by omega)
    obtain ⟨b, b1, b4, -, hb'⟩ := hb a a1 a4 (by omega)
    obtain ⟨c, c1, c4, -, hc⟩ := hb b b1 b4 (by omega)
    obtain ⟨d, d1, d4, -, hd⟩ := hb c c1 c4 (by omega)
    obtain ⟨e, e1, e4, -, he⟩ := hb d d1 d4 (by omega)
    have n1 : a ≠ b := fun x => by subst x; omega
    have n2 : a ≠ c := fun x => by subst x; omega
    have n3 : a ≠ d := fun x => by subst x; omega
    have n4 : a ≠ e := fun x => by subst x; omega
    have n5 : b ≠ c := fun x => by subst x; omega
    have n6 : b ≠ d := fun x => by subst x; omega
    have n7 : b ≠ e := fun x => by subst x; omega
    have n8 : c ≠ d := fun x => by subst x; omega
    have n9 : c ≠ e := fun x => by subst x; omega
    have n0 : d ≠ e := fun x => by subst x; omega
    clear hb hlow down ha hb' hc hd he
    have qa : a = 1 ∨ a = 2 ∨ a = 3 ∨ a = 4 := by omega
    have qb : b = 1 ∨ b = 2 ∨ b = 3 ∨ b = 4 := by omega
    have qc : c = 1 ∨ c = 2 ∨ c = 3 ∨ c = 4 := by omega
    rcases qa with rfl | rfl | rfl | rfl <;> rcases qb with rfl | rfl | rfl | rfl <;> (first | exact absurd rfl n1 | skip) <;> rcases qc with rfl | rfl | rfl | rfl <;> omega

/-! ### The model's way: round by round, link by link -/

def upd (D : Nat → Int) (v : Nat) (x : Int) : Nat → Int := fun u => if u = v then x else D u
/-- A link, in a round. -/
def lk1 (r : Int) (D : Nat → Int) (a b : Nat) : Nat → Int := if D a = r ∧ D b < 0 then upd D b (r + 1) else D
def lkR (r : Int) (D : Nat → Int) (k : K4) : Nat → Int := lk1 r (lk1 r D k.p.toNat k.o.toNat) k.o.toNat k.p.toNat
def dist0 (c : Nat) : Nat → Int := fun u => if u = c then 0 else -1
def rnd (l : List K4) (r : Int) (D : Nat → Int) : Nat → Int := l.foldl (lkR r) D
def farS (l : List K4) (c : Nat) : Nat → Int := rnd l 3 (rnd l 2 (rnd l 1 (rnd l 0 (dist0 c))))

/-- What holds ahead of round r. -/
structure Far (l : List K4) (c : Nat) (r : Int) (D : Nat → Int) : Prop where
  low : ∀ v, 1 ≤ v → v ≤ 4 → D v = -1 ∨ (0 ≤ D v ∧ D v ≤ r)
  zero : ∀ v, 1 ≤ v → v ≤ 4 → (D v = 0 ↔ v = c)
  back : ∀ v, 1 ≤ v → v ≤ 4 → 0 < D v → ∃ u, 1 ≤ u ∧ u ≤ 4 ∧ Adj l u v ∧ D u = D v - 1
  step : ∀ u v, 1 ≤ u → u ≤ 4 → 1 ≤ v → v ≤ 4 → Adj l u v → 0 ≤ D u → D u < r → 0 ≤ D v ∧ D v ≤ D u + 1
/-- What holds in round r: the links of pre are done. -/
structure Mid (l : List K4) (c : Nat) (r : Int) (pre : List K4) (D : Nat → Int) : Prop where
  low : ∀ v, 1 ≤ v → v ≤ 4 → D v = -1 ∨ (0 ≤ D v ∧ D v ≤ r + 1)
  zero : ∀ v, 1 ≤ v → v ≤ 4 → (D v = 0 ↔ v = c)
  back : ∀ v, 1 ≤ v → v ≤ 4 → 0 < D v → ∃ u, 1 ≤ u ∧ u ≤ 4 ∧ Adj l u v ∧ D u = D v - 1
  step : ∀ u v, 1 ≤ u → u ≤ 4 → 1 ≤ v → v ≤ 4 → Adj l u v → 0 ≤ D u → D u < r → 0 ≤ D v ∧ D v ≤ D u + 1
  now : ∀ u v, 1 ≤ u → u ≤ 4 → 1 ≤ v → v ≤ 4 → Adj pre u v → D u = r → 0 ≤ D v ∧ D v ≤ r + 1

theorem Mid.one {l : List K4} {c : Nat} {r : Int} {pre : List K4} {D : Nat → Int} (h : Mid l c r pre D) (hr : 0 ≤ r) {a b : Nat} (a1 : 1 ≤ a) (a4 : a ≤ 4) (b1 : 1 ≤ b) (b4 : b ≤ 4) (hadj : Adj l a b) :
    Mid l c r pre (lk1 r D a b) ∧ (lk1 r D a b a = r → 0 ≤ lk1 r D a b b ∧ lk1 r D a b b ≤ r + 1) ∧ (∀ u, 0 ≤ D u → lk1 r D a b u = D u) ∧ (∀ u, 1 ≤ u → u ≤ 4 → lk1 r D a b u = r → D u = r) := by
  unfold lk1
  by_cases hc : D a = r ∧ D b < 0
  · rw [if_pos hc]
    obtain ⟨hca, hcb⟩ := hc
    have hab : a ≠ b := fun e => by subst e; omega
    have hbm : D b = -1 := by rcases h.low b b1 b4 with x | x <;> omega
    have same : ∀ u, u ≠ b → upd D b (r + 1) u = D u := fun u hu => by simp [upd, hu]
    have at_b : upd D b (r + 1) b = r + 1 := by simp [upd]
    refine ⟨⟨fun v v1 v4 => ?_, fun v v1 v4 => ?_, fun v v1 v4 hv => ?_, fun u v u1 u4 v1 v4 hadj' hu hur => ?_, fun u v u1 u4 v1 v4 hadj' hu => ?_⟩, fun _ => by rw [at_b]; omega, fun u hu => same u (fun e => by subst e; omega), fun u u1 u4 hu => ?_⟩
    · by_cases e : v = b
      · subst e; rw [at_b]; omega
      · rw [same v e]; exact h.low v v1 v4
    · by_cases e : v = b
      · subst e
        rw [at_b]
        constructor
        · intro x; omega
        · intro x; have := (h.zero v v1 v4).2 x; omega
      · rw [same v e]; exact h.zero v v1 v4
    · by_cases e : v = b
      · subst e
        refine ⟨a, a1, a4, hadj, ?_⟩
        rw [same a hab, at_b, hca]
        omega
      · rw [same v e] at hv ⊢
        obtain ⟨u, u1, u4, ha, hu⟩ := h.back v v1 v4 hv
        refine ⟨u, u1, u4, ha, ?_⟩
        rw [same u (fun x => by subst x; omega)]
        exact hu
    · by_cases e : u = b
      · subst e; rw [at_b] at hur; omega
      · rw [same u e] at hu hur ⊢
        by_cases f : v = b
        · subst f
          have := h.step u v u1 u4 v1 v4 hadj' hu hur
          omega
        · rw [same v f]
          exact h.step u v u1 u4 v1 v4 hadj' hu hur
    · by_cases e : u = b
      · subst e; rw [at_b] at hu; omega
      · rw [same u e] at hu
        by_cases f : v = b
        · subst f; rw [at_b]; omega
        · rw [same v f]
          exact h.now u v u1 u4 v1 v4 hadj' hu
    · by_cases e : u = b
      · subst e; rw [at_b] at hu; omega
      · rwa [same u e] at hu
  · rw [if_neg hc]
    refine ⟨h, fun ha => ?_, fun u _ => rfl, fun u _ _ hu => hu⟩
    have : ¬ D b < 0 := fun x => hc ⟨ha, x⟩
    rcases h.low b b1 b4 with x | x <;> omega

theorem Mid.link {l : List K4} {c : Nat} {r : Int} {pre : List K4} {D : Nat → Int} (h : Mid l c r pre D) (hr : 0 ≤ r) {k : K4} (hk : k ∈ l) (hok : lkOk k = true) : Mid l c r (pre ++ [k]) (lkR r D k) := by
  obtain ⟨⟨p1, p4⟩, ⟨o1, o4⟩, hne, -, -⟩ := lkOk_parts hok
  have hp : ((k.p.toNat : Nat) : Int) = k.p := Int.toNat_of_nonneg (by omega)
  have ho : ((k.o.toNat : Nat) : Int) = k.o := Int.toNat_of_nonneg (by omega)
  have ha : Adj l k.p.toNat k.o.toNat := ⟨k, hk, .inl ⟨hp.symm, ho.symm⟩⟩
  obtain ⟨m1, f1, s1, t1⟩ := h.one hr (show 1 ≤ k.p.toNat by omega) (show k.p.toNat ≤ 4 by omega) (show 1 ≤ k.o.toNat by omega) (show k.o.toNat ≤ 4 by omega) ha
  obtain ⟨m2, f2, s2, t2⟩ := m1.one hr (show 1 ≤ k.o.toNat by omega) (show k.o.toNat ≤ 4 by omega) (show 1 ≤ k.p.toNat by omega) (show k.p.toNat ≤ 4 by omega) ha.symm
  refine ⟨m2.low, m2.zero, m2.back, m2.step, fun u v u1 u4 v1 v4 hadj hu => ?_⟩
  obtain ⟨q, hq, hx⟩ := hadj
  rcases List.mem_append.1 hq with hq | hq
  · exact m2.now u v u1 u4 v1 v4 ⟨q, hq, hx⟩ hu
  · obtain rfl : q = k := by simpa using hq
    rcases hx with ⟨x, y⟩ | ⟨x, y⟩
    · obtain rfl : u = q.p.toNat := by omega
      obtain rfl : v = q.o.toNat := by omega
      have hu1 := t2 _ (by omega) (by omega) hu
      have := f1 hu1
      have hs := s2 _ this.1
      unfold lkR
      rw [hs]
      exact this
    · obtain rfl : u = q.o.toNat := by omega
      obtain rfl : v = q.p.toNat := by omega
      exact f2 hu

theorem Mid.links {l : List K4} {c : Nat} {r : Int} (hr : 0 ≤ r) (hall : ∀ k ∈ l, lkOk k = true) : ∀ (post pre : List K4) (D : Nat → Int), (∀ k ∈ post, k ∈ l) → Mid l c r pre D → Mid l c r (pre ++ post) (post.foldl (lkR r) D)
  | [], pre, D, _, h => by simpa using h
  | k :: post, pre, D, hin, h => by
    have := Mid.links hr hall post (pre ++ [k]) (lkR r D k) (fun q hq => hin q (by simp [hq])) (h.link hr (hin k (by simp)) (hall k (hin k (by simp))))
    simpa using this
theorem Far.round {l : List K4} {c : Nat} {r : Int} {D : Nat → Int} (hr : 0 ≤ r) (hall : ∀ k ∈ l, lkOk k = true) (h : Far l c r D) : Far l c (r + 1) (rnd l r D) := by
  have h0 : Mid l c r [] D := ⟨fun v a b => by rcases h.low v a b with x | x <;> omega, h.zero, h.back, h.step, fun u v _ _ _ _ ⟨q, hq, _⟩ => by cases hq⟩
  have m := Mid.links hr hall l [] D (fun k hk => hk) h0
  rw [List.nil_append] at m
  refine ⟨m.low, m.zero, m.back, fun u v u1 u4 v1 v4 ha hu hur => ?_⟩
  by_cases e : rnd l r D u = r
  · have := m.now u v u1 u4 v1 v4 ha e
    unfold rnd at e ⊢
    omega
  · exact m.step u v u1 u4 v1 v4 ha hu (by unfold rnd at e hur; omega)
theorem far_zero (l : List K4) (c : Nat) (c1 : 1 ≤ c) (c4 : c ≤ 4) : Far l c 0 (dist0 c) := by
  refine ⟨fun v _ _ => ?_, fun v _ _ => ?_, fun v _ _ h => ?_, fun u v _ _ _ _ _ h1 h2 => by omega⟩
  · unfold dist0; split <;> omega
  · unfold dist0; split <;> simp_all
  · unfold dist0 at h; split at h <;> omega
theorem farS_dist {l : List K4} (hall : ∀ k ∈ l, lkOk k = true) {c : Nat} (c1 : 1 ≤ c) (c4 : c ≤ 4) : IsDist l c (farS l c) := by
  have h := Far.round (by omega) hall (Far.round (by omega) hall (Far.round (by omega) hall (Far.round (by omega) hall (far_zero l c c1 c4))))
  have h' : Far l c 4 (farS l c) := h
  have low : ∀ v, 1 ≤ v → v ≤ 4 → farS l c v = -1 ∨ 0 ≤ farS l c v := fun v a b => by rcases h'.low v a b with x | x <;> omega
  exact ⟨low, h'.zero, h'.back, fun u v u1 u4 v1 v4 ha hu => h'.step u v u1 u4 v1 v4 ha hu (by have := dist_small low h'.back u u1 u4; omega)⟩

end Go.Proofs.Ytbjndcfdcjpkmaa
