/-
  Tables, put and dropped: plain facts of the statements on them.
-/
import Derived.Test.YtahobeigbjhbbaaGreatDoorTabDropM
namespace Go.Proofs.YtahobeigbjhbbaaGreatDoor
set_option linter.unusedVariables false

theorem putO_yes {r : R4} {l : List R4} (h : putO r l = true) : tOk l = true ∧ okR r = true ∧ l.length < 48 ∧ r ∉ l ∧ putT r l = putF r l := by
  simp only [putO, Bool.and_eq_true, decide_eq_true_eq, Bool.not_eq_true', decide_eq_false_iff_not] at h
  obtain ⟨⟨⟨h1, h2⟩, h3⟩, h4⟩ := h
  obtain ⟨-, hok, hp⟩ := tOk_pw.1 h1
  exact ⟨h1, h2, h3, fun hm => h4 (by rw [putF_in hok h2 hp hm]), by simp [putT, h1, h2, h3]⟩
theorem putO_mk {r : R4} {l : List R4} (h1 : tOk l = true) (h2 : okR r = true) (h3 : l.length < 48) (h4 : r ∉ l) : putO r l = true := by
  obtain ⟨-, hok, hp⟩ := tOk_pw.1 h1
  have := (putF_out hok h2 hp h4).1
  simp [putO, h1, h2, h3, this]
theorem putT_ok {r : R4} {l : List R4} (h : putO r l = true) : tOk (putT r l) = true ∧ (putT r l).length = l.length + 1 ∧ ∀ q, q ∈ putT r l ↔ q ∈ l ∨ q = r := by
  obtain ⟨h1, h2, h3, h4, h5⟩ := putO_yes h
  obtain ⟨-, hok, hp⟩ := tOk_pw.1 h1
  obtain ⟨e1, e2, e3⟩ := putF_out hok h2 hp h4
  rw [h5]
  refine ⟨tOk_pw.2 ⟨by omega, fun q hq => ?_, e2⟩, e1, e3⟩
  rcases (e3 q).1 hq with e | rfl
  · exact hok q e
  · exact h2
theorem tOk_ext {l m : List R4} (h : tOk l = true) (h' : tOk m = true) (he : ∀ q, q ∈ l ↔ q ∈ m) : l = m := pw_ext (tOk_pw.1 h).2.2 (tOk_pw.1 h').2.2 he
theorem dropT_ok {r : R4} {l : List R4} (ht : tOk l = true) (hr : okR r = true) : tOk (dropT r l) = true ∧ ∀ q, q ∈ dropT r l ↔ q ∈ l ∧ q ≠ r := by
  obtain ⟨h1, hok, hp⟩ := tOk_pw.1 ht
  have e : dropT r l = dropF r l := by simp [dropT, ht, hr]
  rw [e]
  refine ⟨tOk_pw.2 ⟨?_, fun q hq => hok q (mem_dropF.1 hq).1, dropF_pw r hp⟩, fun q => mem_dropF⟩
  have := List.length_filter_le (fun q => !sameR q r) l
  unfold dropF
  omega
theorem dropO_has {r : R4} {l : List R4} (ht : tOk l = true) (hr : okR r = true) (hm : r ∈ l) : putO r (dropT r l) = true ∧ putT r (dropT r l) = l ∧ (dropT r l).length + 1 = l.length ∧ dropO r l = true := by
  obtain ⟨k1, k2⟩ := dropT_ok ht hr
  have hn : r ∉ dropT r l := fun e => ((k2 r).1 e).2 rfl
  have e : dropT r l = dropF r l := by simp [dropT, ht, hr]
  have hlt : (dropT r l).length < l.length := by
    rw [e]
    unfold dropF
    exact (List.length_filter_lt_length_iff_exists).2 ⟨r, hm, by rw [sameR_iff.2 rfl]; simp⟩
  have h48 := (tOk_pw.1 ht).1
  have p1 := putO_mk k1 hr (by omega) hn
  obtain ⟨q1, q2, q3⟩ := putT_ok p1
  have p2 : putT r (dropT r l) = l := tOk_ext q1 ht (fun q => by
    rw [q3, k2]
    constructor
    · rintro (h | rfl)
      · exact h.1
      · exact hm
    · intro h
      by_cases e : q = r
      · exact .inr e
      · exact .inl ⟨h, e⟩)
  rw [p2] at q2
  exact ⟨p1, p2, q2.symm, by rw [dropO, ht, hr, ← e, decide_eq_true hlt]; rfl⟩
theorem dropO_yes {r : R4} {l : List R4} (h : dropO r l = true) : tOk l = true ∧ okR r = true ∧ r ∈ l := by
  simp only [dropO, Bool.and_eq_true, decide_eq_true_eq] at h
  obtain ⟨⟨h1, h2⟩, h3⟩ := h
  refine ⟨h1, h2, ?_⟩
  by_cases hm : r ∈ l
  · exact hm
  · rw [dropF_out hm] at h3
    omega
theorem dropO_no {r : R4} {l : List R4} (ht : tOk l = true) (hr : okR r = true) (h : dropO r l = false) : dropT r l = l ∧ r ∉ l := by
  have hm : r ∉ l := fun e => by rw [(dropO_has ht hr e).2.2.2] at h; cases h
  exact ⟨by rw [dropT, ht, hr, dropF_out hm]; rfl, hm⟩
/-- What is put can be dropped again. -/
theorem put_back {r : R4} {l : List R4} (h : putO r l = true) : dropO r (putT r l) = true ∧ dropT r (putT r l) = l := by
  obtain ⟨h1, h2, h3, h4, h5⟩ := putO_yes h
  obtain ⟨k1, k2, k3⟩ := putT_ok h
  have hm : r ∈ putT r l := (k3 r).2 (.inr rfl)
  obtain ⟨-, -, -, d⟩ := dropO_has k1 h2 hm
  obtain ⟨j1, j2⟩ := dropT_ok k1 h2
  refine ⟨d, tOk_ext j1 h1 (fun q => ?_)⟩
  rw [j2, k3]
  constructor
  · rintro ⟨h | h, e⟩
    · exact h
    · exact absurd h e
  · intro h
    exact ⟨.inl h, fun e => h4 (e ▸ h)⟩
theorem putO_no {r : R4} {l : List R4} (ht : tOk l = true) (hr : okR r = true) (h : putO r l = false) : putT r l = l ∧ (r ∈ l ∨ l.length = 48) := by
  obtain ⟨h48, hok, hp⟩ := tOk_pw.1 ht
  by_cases hm : r ∈ l
  · refine ⟨?_, .inl hm⟩
    rw [putT, ht, hr, putF_in hok hr hp hm]
    cases decide (l.length < 48) <;> rfl
  · by_cases h4 : l.length < 48
    · rw [putO_mk ht hr h4 hm] at h
      cases h
    · exact ⟨by rw [putT, ht, hr, decide_eq_false h4]; rfl, .inr (by omega)⟩
/-- Two rules are put in any order. -/
theorem put_two {r q : R4} {l : List R4} (h : putO r l = true) (k : putO q (putT r l) = true) : putO q l = true ∧ putO r (putT q l) = true ∧ putT q (putT r l) = putT r (putT q l) := by
  obtain ⟨h1, h2, h3, h4, h5⟩ := putO_yes h
  obtain ⟨a1, a2, a3⟩ := putT_ok h
  obtain ⟨k1, k2, k3, k4, k5⟩ := putO_yes k
  obtain ⟨b1, b2, b3⟩ := putT_ok k
  have hq : q ∉ l ∧ q ≠ r := ⟨fun e => k4 ((a3 q).2 (.inl e)), fun e => k4 ((a3 q).2 (.inr e))⟩
  have p1 := putO_mk h1 k2 h3 hq.1
  obtain ⟨c1, c2, c3⟩ := putT_ok p1
  have hr : r ∉ putT q l := fun e => by
    rcases (c3 r).1 e with e | e
    · exact h4 e
    · exact hq.2 e.symm
  have p2 := putO_mk c1 h2 (by omega) hr
  obtain ⟨d1, d2, d3⟩ := putT_ok p2
  refine ⟨p1, p2, tOk_ext b1 d1 (fun x => ?_)⟩
  rw [b3, a3, d3, c3]
  constructor
  · rintro ((h | h) | h)
    · exact .inl (.inl h)
    · exact .inr h
    · exact .inl (.inr h)
  · rintro ((h | h) | h)
    · exact .inl (.inl h)
    · exact .inr h
    · exact .inl (.inr h)

end Go.Proofs.YtahobeigbjhbbaaGreatDoor
