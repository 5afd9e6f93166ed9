/-
  Nets in plain words: the model's way to say which links are a net, and the program's, are one; what lies at a port, both ways.
-/
import Derived.Test.YtjjhahhchimmlaaGreatDoorNetMath
namespace Go.Proofs.YtjjhahhchimmlaaGreatDoor
open Go.ChangeShapes Go.WideShapes Go.ChangeAt Go.RowKit Go.Joins
set_option linter.unusedVariables false

/-- A link of two switches, by ports that there are. -/
def lkOk (k : K4) : Bool := swB k.p && (swB k.o && (!(k.p == k.o) && (ptB k.s && ptB k.t)))
/-- The ends of links. -/
def endsL (l : List K4) : List (Int × Int) := l.flatMap fun k => [(k.p, k.s), (k.o, k.t)]
theorem endsL_cons (k : K4) (l : List K4) : endsL (k :: l) = (k.p, k.s) :: (k.o, k.t) :: endsL l := rfl
theorem endsL_len (l : List K4) : (endsL l).length = 2 * l.length := by
  induction l with
  | nil => rfl
  | cons k l ih => rw [endsL_cons]; simp [ih]; omega
/-- Two ends of the same port. -/
def Dup (es : List (Int × Int)) : Prop := ∃ i k, k < i ∧ i < es.length ∧ es[i]? = es[k]?

def ndF : List (Int × Int) → List K4 → Bool
  | _, [] => true
  | es, k :: l => lkOk k && (decide ((k.p, k.s) ∉ es) && (decide ((k.o, k.t) ∉ es) && ndF (es ++ [(k.p, k.s), (k.o, k.t)]) l))

/-- The forty numbers tell which ports are taken. -/
def Enc (P : Pv) (es : List (Int × Int)) : Prop := ∀ s t : Nat, 1 ≤ s → s ≤ 4 → 1 ≤ t → t ≤ 3 → ((P (s * 8 + t * 2) = 0 ∧ P (s * 8 + t * 2 + 1) = 0) ↔ ((s : Int), (t : Int)) ∉ es)

theorem frB_enc {P : Pv} {es : List (Int × Int)} (h : Enc P es) (sw port : Int) : frB P sw port = (swB sw && (ptB port && decide ((sw, port) ∉ es))) := by
  unfold frB
  cases h1 : swB sw
  · rfl
  · cases h2 : ptB port
    · rfl
    · obtain ⟨s0, s1⟩ := inB_true h1
      obtain ⟨t0, t1⟩ := inB_true h2
      have := h sw.toNat port.toNat (by omega) (by omega) (by omega) (by omega)
      rw [Int.toNat_of_nonneg (by omega), Int.toNat_of_nonneg (by omega)] at this
      simp only [Bool.true_and]
      by_cases hm : (sw, port) ∈ es
      · have h0 : ¬ (P (sw.toNat * 8 + port.toNat * 2) = 0 ∧ P (sw.toNat * 8 + port.toNat * 2 + 1) = 0) := fun e => (this.1 e) hm
        simp only [hm, not_true_eq_false, decide_false]
        simpa using h0
      · have h0 := this.2 hm
        simp [hm, h0.1, h0.2]

theorem enc_set {P : Pv} {es : List (Int × Int)} (h : Enc P es) (k : K4) (hk : lkOk k = true) : Enc (rdSet P k) (es ++ [(k.p, k.s), (k.o, k.t)]) := by
  intro s t s1 s4 t1 t3
  simp only [lkOk, Bool.and_eq_true, Bool.not_eq_true', beq_eq_false_iff_ne] at hk
  obtain ⟨k1, k2, k3, k4, k5⟩ := hk
  obtain ⟨p0, p1⟩ := inB_true k1
  obtain ⟨o0, o1⟩ := inB_true k2
  obtain ⟨a0, a1⟩ := inB_true k4
  obtain ⟨b0, b1⟩ := inB_true k5
  have := h s t s1 s4 t1 t3
  unfold rdSet setE
  by_cases e1 : (s : Int) = k.o ∧ (t : Int) = k.t
  · have hx : s * 8 + t * 2 = k.o.toNat * 8 + k.t.toNat * 2 := by omega
    have hm : ((s : Int), (t : Int)) ∈ es ++ [(k.p, k.s), (k.o, k.t)] := by simp [e1.1, e1.2]
    simp only [hx, if_true, hm, not_true_eq_false, iff_false]
    omega
  · by_cases e2 : (s : Int) = k.p ∧ (t : Int) = k.s
    · have hx : s * 8 + t * 2 = k.p.toNat * 8 + k.s.toNat * 2 := by omega
      have hn1 : ¬ k.p.toNat * 8 + k.s.toNat * 2 = k.o.toNat * 8 + k.t.toNat * 2 := by omega
      have hn2 : ¬ k.p.toNat * 8 + k.s.toNat * 2 = k.o.toNat * 8 + k.t.toNat * 2 + 1 := by omega
      have hm : ((s : Int), (t : Int)) ∈ es ++ [(k.p, k.s), (k.o, k.t)] := by simp [e2.1, e2.2]
      simp only [hx, hn1, hn2, if_true, if_false, hm, not_true_eq_false, iff_false]
      omega
    · have q1 : ¬ s * 8 + t * 2 = k.o.toNat * 8 + k.t.toNat * 2 := by omega
      have q2 : ¬ s * 8 + t * 2 = k.o.toNat * 8 + k.t.toNat * 2 + 1 := by omega
      have q3 : ¬ s * 8 + t * 2 = k.p.toNat * 8 + k.s.toNat * 2 := by omega
      have q4 : ¬ s * 8 + t * 2 = k.p.toNat * 8 + k.s.toNat * 2 + 1 := by omega
      have q5 : ¬ s * 8 + t * 2 + 1 = k.o.toNat * 8 + k.t.toNat * 2 := by omega
      have q6 : ¬ s * 8 + t * 2 + 1 = k.o.toNat * 8 + k.t.toNat * 2 + 1 := by omega
      have q7 : ¬ s * 8 + t * 2 + 1 = k.p.toNat * 8 + k.s.toNat * 2 := by omega
      have q8 : ¬ s * 8 + t * 2 + 1 = k.p.toNat * 8 + k.s.toNat * 2 + 1 := by omega
      simp only [q1, q2, q3, q4, q5, q6, q7, q8, if_false]
      rw [this]
      have m1 : ¬ ((s : Int), (t : Int)) = (k.p, k.s) := fun e => e2 (by simpa using e)
      have m2 : ¬ ((s : Int), (t : Int)) = (k.o, k.t) := fun e => e1 (by simpa using e)
      simp only [List.mem_append, List.mem_cons, m1, m2, List.not_mem_nil, or_false]

theorem okF_nd : ∀ (l : List K4) (P : Pv) (es : List (Int × Int)), Enc P es → okF P l = ndF es l
  | [], P, es, h => rfl
  | k :: l, P, es, h => by
    unfold okF ndF rdOk
    rw [frB_enc h, frB_enc h]
    cases hk : lkOk k
    · simp only [Bool.false_and, Bool.and_eq_false_iff]
      left
      unfold lkOk at hk
      cases h1 : swB k.p <;> cases h2 : swB k.o <;> cases h3 : (k.p == k.o) <;> cases h4 : ptB k.s <;> cases h5 : ptB k.t <;> simp_all
    · rw [okF_nd l _ _ (enc_set h k hk)]
      simp only [lkOk, Bool.and_eq_true] at hk
      obtain ⟨k1, k2, k3, k4, k5⟩ := hk
      rw [k1, k2, k3, k4, k5]
      simp [Bool.and_assoc]

theorem enc_nil : Enc pz [] := fun s t _ _ _ _ => by simp [pz]

theorem ndF_iff : ∀ (l : List K4) (es : List (Int × Int)), ndF es l = true ↔ (∀ i, i < l.length → lkOk (lkAt l i) = true) ∧ (∀ i k, k < i → es.length ≤ i → i < (es ++ endsL l).length → (es ++ endsL l)[i]? ≠ (es ++ endsL l)[k]?)
  | [], es => by
    simp only [ndF, endsL, List.flatMap_nil, List.append_nil, List.length_nil, true_iff]
    exact ⟨fun i hi => absurd hi (Nat.not_lt_zero _), fun i k _ h1 h2 => by omega⟩
  | q :: l, es => by
    have ih := ndF_iff l (es ++ [(q.p, q.s), (q.o, q.t)])
    have hE : (es ++ [(q.p, q.s), (q.o, q.t)]) ++ endsL l = es ++ endsL (q :: l) := by rw [endsL_cons]; simp
    rw [hE] at ih
    simp only [ndF, Bool.and_eq_true, decide_eq_true_eq]
    rw [ih]
    have hlen : (es ++ endsL (q :: l)).length = es.length + 2 + 2 * l.length := by rw [List.length_append, endsL_len]; simp; omega
    have g0 : (es ++ endsL (q :: l))[es.length]? = some (q.p, q.s) := by rw [endsL_cons, List.getElem?_append_right (Nat.le_refl _), Nat.sub_self]; rfl
    have g1 : (es ++ endsL (q :: l))[es.length + 1]? = some (q.o, q.t) := by rw [endsL_cons, List.getElem?_append_right (by omega), show es.length + 1 - es.length = 1 from by omega]; rfl
    have gl : ∀ k, k < es.length → (es ++ endsL (q :: l))[k]? = es[k]? := fun k hk => List.getElem?_append_left hk
    constructor
    · rintro ⟨h1, h2, h3, h4, h5⟩
      refine ⟨fun i hi => ?_, fun i k hki hi hil => ?_⟩
      · cases i with
        | zero => exact h1
        | succ i => exact h4 i (by simpa using hi)
      · by_cases e0 : i = es.length
        · subst e0
          rw [g0, gl k hki]
          intro e
          exact h2 (List.mem_of_getElem? e.symm)
        · by_cases e1 : i = es.length + 1
          · subst e1
            rw [g1]
            by_cases e2 : k = es.length
            · subst e2
              rw [g0]
              intro e
              injection e with e
              injection e with e3 e4
              simp [lkOk, e3] at h1
            · rw [gl k (by omega)]
              intro e
              exact h3 (List.mem_of_getElem? e.symm)
          · exact h5 i k hki (by simp; omega) hil
    · rintro ⟨h1, h2⟩
      have hl := h1 0 (by simp)
      refine ⟨hl, fun hm => ?_, fun hm => ?_, fun i hi => h1 (i + 1) (by simpa using hi), fun i k hki hi hil => h2 i k hki (by simp at hi; omega) hil⟩
      · obtain ⟨k, hk⟩ := List.getElem?_of_mem hm
        have hkl := (List.getElem?_eq_some_iff.1 hk).1
        exact h2 es.length k hkl (Nat.le_refl _) (by omega) (by rw [g0, gl k hkl, hk])
      · obtain ⟨k, hk⟩ := List.getElem?_of_mem hm
        have hkl := (List.getElem?_eq_some_iff.1 hk).1
        exact h2 (es.length + 1) k (by omega) (by omega) (by omega) (by rw [g1, gl k hkl, hk])

/-- A net, as the model says it. -/
theorem netB_iff (l : List K4) : netB l = true ↔ (∀ i, i < l.length → lkOk (lkAt l i) = true) ∧ ¬ Dup (endsL l) ∧ l.length ≤ 6 := by
  unfold netB
  rw [okF_nd l pz [] enc_nil, Bool.and_eq_true, decide_eq_true_eq, ndF_iff]
  simp only [List.nil_append, List.length_nil]
  constructor
  · rintro ⟨h6, h1, h2⟩
    exact ⟨h1, fun ⟨i, k, hk, hi, e⟩ => h2 i k hk (Nat.zero_le _) hi e, h6⟩
  · rintro ⟨h1, h2, h6⟩
    exact ⟨h6, h1, fun i k hk _ hi e => h2 ⟨i, k, hk, hi, e⟩⟩
theorem netB_bad {l : List K4} {i : Nat} (hi : i < l.length) (h : lkOk (lkAt l i) = false) : netB l = false := by
  cases hb : netB l
  · rfl
  · have := ((netB_iff l).1 hb).1 i hi
    rw [h] at this
    cases this
theorem netB_dup {l : List K4} (h : Dup (endsL l)) : netB l = false := by
  cases hb : netB l
  · rfl
  · exact absurd h ((netB_iff l).1 hb).2.1
theorem netB_all {l : List K4} (h1 : ∀ i, i < l.length → lkOk (lkAt l i) = true) (h2 : ¬ Dup (endsL l)) : netB l = decide (l.length ≤ 6) := by
  by_cases h6 : l.length ≤ 6
  · rw [(netB_iff l).2 ⟨h1, h2, h6⟩]
    simp [h6]
  · simp [netB, h6]

end Go.Proofs.YtjjhahhchimmlaaGreatDoor
