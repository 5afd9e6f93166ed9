/-
  Nets in plain words: what lies at the other end of a port, as the model finds it and as the program's forty numbers say it.
-/
import Derived.Test.YtjjhahhchimmlaaGreatDoorNetPlain
namespace Go.Proofs.YtjjhahhchimmlaaGreatDoor
open Go.ChangeShapes Go.WideShapes Go.ChangeAt Go.RowKit Go.Joins
set_option linter.unusedVariables false

/-- The switch, and its port, at the other end; zeros, if there is none. -/
def peerF : List K4 → Int → Int → Int × Int
  | [], _, _ => (0, 0)
  | k :: l, s, t => if k.p = s ∧ k.s = t then (k.o, k.t) else if k.o = s ∧ k.t = t then (k.p, k.s) else peerF l s t
theorem peerF_drop {l : List K4} {k : Nat} (h : k < l.length) (s t : Int) : peerF (l.drop k) s t =
    if (lkAt l k).p = s ∧ (lkAt l k).s = t then ((lkAt l k).o, (lkAt l k).t) else if (lkAt l k).o = s ∧ (lkAt l k).t = t then ((lkAt l k).p, (lkAt l k).s) else peerF (l.drop (k + 1)) s t := by
  rw [List.drop_eq_getElem_cons h, lkAt_lt h]
  rfl

theorem rdOk_parts {P : Pv} {k : K4} (h : rdOk P k = true) : (1 ≤ k.p ∧ k.p ≤ 4) ∧ (1 ≤ k.o ∧ k.o ≤ 4) ∧ k.p ≠ k.o ∧ (1 ≤ k.s ∧ k.s ≤ 3) ∧ (1 ≤ k.t ∧ k.t ≤ 3) ∧
    (P (k.p.toNat * 8 + k.s.toNat * 2) = 0 ∧ P (k.p.toNat * 8 + k.s.toNat * 2 + 1) = 0) ∧ (P (k.o.toNat * 8 + k.t.toNat * 2) = 0 ∧ P (k.o.toNat * 8 + k.t.toNat * 2 + 1) = 0) := by
  simp only [rdOk, frB, Bool.and_eq_true, Bool.not_eq_true', beq_eq_false_iff_ne, beq_iff_eq] at h
  obtain ⟨h1, ⟨h2, h3, h4⟩, h5, h6, h7⟩ := h
  exact ⟨inB_true h2, inB_true h5, h1, inB_true h3, inB_true h6, h4, h7⟩

/-- What is set at a port. -/
theorem rdSet_at {P : Pv} {k : K4} (hp : 1 ≤ k.p ∧ k.p ≤ 4) (ho : 1 ≤ k.o ∧ k.o ≤ 4) (hne : k.p ≠ k.o) (hs : 1 ≤ k.s ∧ k.s ≤ 3) (ht : 1 ≤ k.t ∧ k.t ≤ 3) (s t : Nat) (h3 : t ≤ 3) :
    (rdSet P k (s * 8 + t * 2), rdSet P k (s * 8 + t * 2 + 1)) = if k.p = s ∧ k.s = t then (k.o, k.t) else if k.o = s ∧ k.t = t then (k.p, k.s) else (P (s * 8 + t * 2), P (s * 8 + t * 2 + 1)) := by
  unfold rdSet setE
  by_cases e1 : k.p = s ∧ k.s = t
  · have hx : s * 8 + t * 2 = k.p.toNat * 8 + k.s.toNat * 2 := by omega
    have hn1 : ¬ k.p.toNat * 8 + k.s.toNat * 2 = k.o.toNat * 8 + k.t.toNat * 2 := by omega
    have hn2 : ¬ k.p.toNat * 8 + k.s.toNat * 2 = k.o.toNat * 8 + k.t.toNat * 2 + 1 := by omega
    have hn3 : ¬ k.p.toNat * 8 + k.s.toNat * 2 + 1 = k.o.toNat * 8 + k.t.toNat * 2 := by omega
    have hn4 : ¬ k.p.toNat * 8 + k.s.toNat * 2 + 1 = k.o.toNat * 8 + k.t.toNat * 2 + 1 := by omega
    have hn5 : ¬ k.p.toNat * 8 + k.s.toNat * 2 + 1 = k.p.toNat * 8 + k.s.toNat * 2 := by omega
    rw [if_pos e1]
    simp only [hx, hn1, hn2, hn3, hn4, hn5, if_true, if_false]
  · by_cases e2 : k.o = s ∧ k.t = t
    · have hx : s * 8 + t * 2 = k.o.toNat * 8 + k.t.toNat * 2 := by omega
      have hn5 : ¬ k.o.toNat * 8 + k.t.toNat * 2 + 1 = k.o.toNat * 8 + k.t.toNat * 2 := by omega
      rw [if_neg e1, if_pos e2]
      simp only [hx, hn5, if_true, if_false]
    · have q1 : ¬ s * 8 + t * 2 = k.o.toNat * 8 + k.t.toNat * 2 := by omega
      have q2 : ¬ s * 8 + t * 2 = k.o.toNat * 8 + k.t.toNat * 2 + 1 := by omega
      have q3 : ¬ s * 8 + t * 2 = k.p.toNat * 8 + k.s.toNat * 2 := by omega
      have q4 : ¬ s * 8 + t * 2 = k.p.toNat * 8 + k.s.toNat * 2 + 1 := by omega
      have q5 : ¬ s * 8 + t * 2 + 1 = k.o.toNat * 8 + k.t.toNat * 2 := by omega
      have q6 : ¬ s * 8 + t * 2 + 1 = k.o.toNat * 8 + k.t.toNat * 2 + 1 := by omega
      have q7 : ¬ s * 8 + t * 2 + 1 = k.p.toNat * 8 + k.s.toNat * 2 := by omega
      have q8 : ¬ s * 8 + t * 2 + 1 = k.p.toNat * 8 + k.s.toNat * 2 + 1 := by omega
      rw [if_neg e1, if_neg e2]
      simp only [q1, q2, q3, q4, q5, q6, q7, q8, if_false]

theorem fold_peer : ∀ (l : List K4) (P : Pv), okF P l = true → ∀ s t : Nat, t ≤ 3 →
    ((P (s * 8 + t * 2) = 0 ∧ P (s * 8 + t * 2 + 1) = 0) → (l.foldl rdSet P (s * 8 + t * 2), l.foldl rdSet P (s * 8 + t * 2 + 1)) = peerF l s t) ∧
    (¬ (P (s * 8 + t * 2) = 0 ∧ P (s * 8 + t * 2 + 1) = 0) → (l.foldl rdSet P (s * 8 + t * 2), l.foldl rdSet P (s * 8 + t * 2 + 1)) = (P (s * 8 + t * 2), P (s * 8 + t * 2 + 1)) ∧ peerF l s t = (0, 0))
  | [], P, _, s, t, _ => ⟨fun h => by simp [peerF, h.1, h.2], fun _ => ⟨rfl, rfl⟩⟩
  | k :: l, P, h, s, t, h3 => by
    simp only [okF, Bool.and_eq_true] at h
    obtain ⟨hp, ho, hne, hs, ht, hf1, hf2⟩ := rdOk_parts h.1
    have ih := fold_peer l _ h.2 s t h3
    have hat := rdSet_at (P := P) hp ho hne hs ht s t h3
    rw [List.foldl_cons, show peerF (k :: l) s t = if k.p = s ∧ k.s = t then (k.o, k.t) else if k.o = s ∧ k.t = t then (k.p, k.s) else peerF l s t from rfl]
    by_cases e1 : k.p = s ∧ k.s = t
    · rw [if_pos e1] at hat ⊢
      injection hat with a1 a2
      have hnz : ¬ (rdSet P k (s * 8 + t * 2) = 0 ∧ rdSet P k (s * 8 + t * 2 + 1) = 0) := by rw [a1]; omega
      have := (ih.2 hnz).1
      rw [a1, a2] at this
      refine ⟨fun _ => this, fun hz => absurd ?_ hz⟩
      have : s * 8 + t * 2 = k.p.toNat * 8 + k.s.toNat * 2 := by omega
      rw [this]
      exact hf1
    · by_cases e2 : k.o = s ∧ k.t = t
      · rw [if_neg e1, if_pos e2] at hat ⊢
        injection hat with a1 a2
        have hnz : ¬ (rdSet P k (s * 8 + t * 2) = 0 ∧ rdSet P k (s * 8 + t * 2 + 1) = 0) := by rw [a1]; omega
        have := (ih.2 hnz).1
        rw [a1, a2] at this
        refine ⟨fun _ => this, fun hz => absurd ?_ hz⟩
        have : s * 8 + t * 2 = k.o.toNat * 8 + k.t.toNat * 2 := by omega
        rw [this]
        exact hf2
      · rw [if_neg e1, if_neg e2] at hat ⊢
        injection hat with a1 a2
        rw [a1, a2] at ih
        exact ih

/-- The forty numbers of a net are what lies at its ports. -/
theorem pk_peer {l : List K4} (h : netB l = true) (s t : Nat) (h3 : t ≤ 3) : (pk l (s * 8 + t * 2), pk l (s * 8 + t * 2 + 1)) = peerF l s t := by
  simp only [netB, Bool.and_eq_true] at h
  exact (fold_peer l pz h.2 s t h3).1 ⟨rfl, rfl⟩

theorem net_ok {l : List K4} (h : netB l = true) : ∀ k ∈ l, lkOk k = true := by
  intro k hk
  obtain ⟨i, hi, rfl⟩ := List.getElem_of_mem hk
  have := ((netB_iff l).1 h).1 i hi
  rwa [lkAt_lt hi] at this
theorem lkOk_parts {k : K4} (h : lkOk k = true) : (1 ≤ k.p ∧ k.p ≤ 4) ∧ (1 ≤ k.o ∧ k.o ≤ 4) ∧ k.p ≠ k.o ∧ (1 ≤ k.s ∧ k.s ≤ 3) ∧ (1 ≤ k.t ∧ k.t ≤ 3) := by
  simp only [lkOk, Bool.and_eq_true, Bool.not_eq_true', beq_eq_false_iff_ne] at h
  exact ⟨inB_true h.1, inB_true h.2.1, h.2.2.1, inB_true h.2.2.2.1, inB_true h.2.2.2.2⟩

/-- Zeros, or an end of a link and its other end. -/
theorem peerF_cases : ∀ (l : List K4) (s t : Int), peerF l s t = (0, 0) ∨ ∃ k ∈ l, (k.p = s ∧ k.s = t ∧ peerF l s t = (k.o, k.t)) ∨ (k.o = s ∧ k.t = t ∧ peerF l s t = (k.p, k.s))
  | [], s, t => .inl rfl
  | k :: l, s, t => by
    rw [show peerF (k :: l) s t = if k.p = s ∧ k.s = t then (k.o, k.t) else if k.o = s ∧ k.t = t then (k.p, k.s) else peerF l s t from rfl]
    by_cases e1 : k.p = s ∧ k.s = t
    · rw [if_pos e1]
      exact .inr ⟨k, by simp, .inl ⟨e1.1, e1.2, rfl⟩⟩
    · by_cases e2 : k.o = s ∧ k.t = t
      · rw [if_neg e1, if_pos e2]
        exact .inr ⟨k, by simp, .inr ⟨e2.1, e2.2, rfl⟩⟩
      · rw [if_neg e1, if_neg e2]
        rcases peerF_cases l s t with h | ⟨q, hq, h⟩
        · exact .inl h
        · exact .inr ⟨q, by simp [hq], h⟩
theorem peer_mem : ∀ (l : List K4) (P : Pv), okF P l = true → (∀ k ∈ l, lkOk k = true) → ∀ k ∈ l, peerF l k.p k.s = (k.o, k.t) ∧ peerF l k.o k.t = (k.p, k.s)
  | [], P, _, _, k, hk => by cases hk
  | q :: l, P, h, hall, k, hk => by
    simp only [okF, Bool.and_eq_true] at h
    obtain ⟨hp, ho, hne, hs, ht, hf1, hf2⟩ := rdOk_parts h.1
    have e : ∀ s t : Int, peerF (q :: l) s t = if q.p = s ∧ q.s = t then (q.o, q.t) else if q.o = s ∧ q.t = t then (q.p, q.s) else peerF l s t := fun _ _ => rfl
    rcases List.mem_cons.1 hk with rfl | hk
    · rw [e, e, if_pos ⟨rfl, rfl⟩, if_neg (fun x => hne x.1), if_pos ⟨rfl, rfl⟩]
      exact ⟨rfl, rfl⟩
    · have ih := peer_mem l _ h.2 (fun k hk => hall k (by simp [hk])) k hk
      obtain ⟨kp, ko, kne, ks, kt⟩ := lkOk_parts (hall k (by simp [hk]))
      have key : ∀ s t : Int, (1 ≤ s ∧ s ≤ 4) → (1 ≤ t ∧ t ≤ 3) → peerF l s t ≠ (0, 0) → ¬ (q.p = s ∧ q.s = t) ∧ ¬ (q.o = s ∧ q.t = t) := by
        intro s t s1 t1 hnz
        have hz := (fold_peer l _ h.2 s.toNat t.toNat (by omega)).2
        have hat := rdSet_at (P := P) hp ho hne hs ht s.toNat t.toNat (by omega)
        rw [Int.toNat_of_nonneg (by omega), Int.toNat_of_nonneg (by omega)] at hat hz
        refine ⟨fun x => hnz (hz ?_).2, fun x => hnz (hz ?_).2⟩
        · rw [if_pos x] at hat
          injection hat with a1 a2
          rw [a1]
          omega
        · rw [if_neg (fun y => hne (y.1.trans x.1.symm)), if_pos x] at hat
          injection hat with a1 a2
          rw [a1]
          omega
      have k1 := key k.p k.s kp ks (by rw [ih.1]; intro x; injection x with x; omega)
      have k2 := key k.o k.t ko kt (by rw [ih.2]; intro x; injection x with x; omega)
      rw [e, e, if_neg k1.1, if_neg k1.2, if_neg k2.1, if_neg k2.2]
      exact ih
theorem net_mem {l : List K4} (h : netB l = true) {k : K4} (hk : k ∈ l) : peerF l k.p k.s = (k.o, k.t) ∧ peerF l k.o k.t = (k.p, k.s) := by
  have h' := h
  simp only [netB, Bool.and_eq_true] at h'
  exact peer_mem l pz h'.2 (net_ok h) k hk
/-- What lies at a port of a net is of a switch and a port; from there one comes back. -/
theorem peer_ok {l : List K4} (h : netB l = true) (s t : Int) : peerF l s t = (0, 0) ∨
    ((1 ≤ s ∧ s ≤ 4) ∧ (1 ≤ t ∧ t ≤ 3) ∧ (1 ≤ (peerF l s t).1 ∧ (peerF l s t).1 ≤ 4) ∧ (1 ≤ (peerF l s t).2 ∧ (peerF l s t).2 ≤ 3) ∧ (peerF l s t).1 ≠ s ∧ peerF l (peerF l s t).1 (peerF l s t).2 = (s, t)) := by
  rcases peerF_cases l s t with h0 | ⟨k, hk, ⟨rfl, rfl, he⟩ | ⟨rfl, rfl, he⟩⟩
  · exact .inl h0
  · obtain ⟨kp, ko, kne, ks, kt⟩ := lkOk_parts (net_ok h k hk)
    rw [he]
    exact .inr ⟨kp, ks, ko, kt, fun x => kne x.symm, (net_mem h hk).2⟩
  · obtain ⟨kp, ko, kne, ks, kt⟩ := lkOk_parts (net_ok h k hk)
    rw [he]
    exact .inr ⟨ko, kt, kp, ks, kne, (net_mem h hk).1⟩

end Go.Proofs.YtjjhahhchimmlaaGreatDoor
