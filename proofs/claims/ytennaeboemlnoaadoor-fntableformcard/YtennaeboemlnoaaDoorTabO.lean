/-
  Where a rule stands, the model's put and the program's make one list.
  Tables, as lists in order: where a rule stands, what is put, what is dropped; plain facts.
-/
import Derived.Test.YtennaeboemlnoaaDoorTabPutS
import Derived.Test.YtennaeboemlnoaaDoorTabN

namespace Go.Proofs.YtennaeboemlnoaaDoor
set_option linter.unusedVariables false

theorem cmR_swap (a b : R4) : cmR b a = - cmR a b := rCmp_swap a.p a.s a.o a.t b.p b.s b.o b.t
theorem take_step (l : List R4) {i : Nat} (hi : i < l.length) : l.take (i + 1) = l.take i ++ [ruAt l i] := by
  rw [List.take_add_one, List.getElem?_eq_getElem hi, ruAt_lt hi]
  rfl
theorem foldP_low {l : List R4} {r : R4} {k : Nat} (h : Stand l r k) : ∀ i, i ≤ k → foldP r l i = (false, l.take i)
  | 0, _ => by simp [foldP_zero]
  | i + 1, hi => by
    have hil : i < l.length := by have := h.1; omega
    have hc := h.2.1 i (by omega)
    have hs := cmR_swap (ruAt l i) r
    rw [foldP_succ r l hil, foldP_low h i (by omega), take_step l hil]
    unfold stepP
    have h1 : ¬ cmR r (ruAt l i) ≤ 0 := by omega
    have h2 : ¬ cmR r (ruAt l i) < 0 := by omega
    simp [h1, h2]
theorem foldP_high {l : List R4} {r : R4} {k : Nat} (h : Stand l r k) (hk : k < l.length) : ∀ d, k + 1 + d ≤ l.length → foldP r l (k + 1 + d) = (true, (bif decide (cmR (ruAt l k) r = 0) then l.take k else l.take k ++ [r]) ++ (l.drop k).take (d + 1))
  | 0, _ => by
    have hc := h.2.2 hk
    have hs := cmR_swap (ruAt l k) r
    have h1 : cmR r (ruAt l k) ≤ 0 := by omega
    have hd : (l.drop k).take (0 + 1) = [ruAt l k] := by
      rw [List.drop_eq_getElem_cons hk, ruAt_lt hk]
      rfl
    rw [Nat.add_zero, foldP_succ r l hk, foldP_low h k (Nat.le_refl _), hd]
    unfold stepP
    by_cases hz : cmR (ruAt l k) r = 0
    · have h2 : ¬ cmR r (ruAt l k) < 0 := by omega
      simp [h1, h2, hz]
    · have h2 : cmR r (ruAt l k) < 0 := by omega
      simp [h1, h2, hz]
  | d + 1, hd => by
    have hil : k + 1 + d < l.length := by omega
    rw [show k + 1 + (d + 1) = k + 1 + d + 1 from by omega, foldP_succ r l hil, foldP_high h hk d (by omega)]
    have ht : (l.drop k).take (d + 1 + 1) = (l.drop k).take (d + 1) ++ [ruAt l (k + 1 + d)] := by
      have hlt : d + 1 < (l.drop k).length := by rw [List.length_drop]; omega
      rw [List.take_add_one, List.getElem?_eq_getElem hlt, ruAt_lt hil]
      simp only [Option.toList_some, List.getElem_drop]
      congr 3
      omega
    rw [ht]
    unfold stepP
    simp
theorem putF_stand {l : List R4} {r : R4} {k : Nat} (h : Stand l r k) : putF r l = bif decide (k < l.length ∧ cmR (ruAt l k) r = 0) then l else insR l k r := by
  unfold putF
  by_cases hk : k < l.length
  · have hf := foldP_high h hk (l.length - (k + 1)) (by omega)
    rw [show k + 1 + (l.length - (k + 1)) = l.length from by omega, show l.length - (k + 1) + 1 = l.length - k from by omega, ← List.length_drop, List.take_length] at hf
    rw [hf]
    by_cases hz : cmR (ruAt l k) r = 0
    · simp [hk, hz]
    · simp [hk, hz, insR]
  · have hkl : k = l.length := by have := h.1; omega
    subst hkl
    rw [foldP_low h _ (Nat.le_refl _)]
    simp [insR]

end Go.Proofs.YtennaeboemlnoaaDoor

namespace Go.Proofs.YtennaeboemlnoaaDoor
set_option linter.unusedVariables false

theorem R4.eq {a b : R4} (h : a.p = b.p ∧ a.s = b.s ∧ a.o = b.o ∧ a.t = b.t) : a = b := by
  cases a
  cases b
  simp only at h
  obtain ⟨rfl, rfl, rfl, rfl⟩ := h
  rfl
theorem cmR_three (a b : R4) : cmR a b = -1 ∨ cmR a b = 0 ∨ cmR a b = 1 := rCmp_three _ _ _ _ _ _ _ _
theorem cmR_trans {a b c : R4} (h : cmR a b < 0) (k : cmR b c < 0) : cmR a c < 0 := by
  have h' : cmR a b = -1 := by rcases cmR_three a b with e | e | e <;> omega
  have k' : cmR b c = -1 := by rcases cmR_three b c with e | e | e <;> omega
  have : cmR a c = -1 := rCmp_trans h' k'
  omega
theorem cmR_zero {a b : R4} (h : okR a = true) (k : okR b = true) : cmR a b = 0 ↔ a = b :=
  ⟨fun e => R4.eq ((rCmp_zero h k).1 e), fun e => (rCmp_zero h k).2 (by subst e; exact ⟨rfl, rfl, rfl, rfl⟩)⟩
theorem cmR_self (a : R4) : cmR a a = 0 := by have := cmR_swap a a; omega

/-- Two rules are the same. -/
def sameR (a b : R4) : Bool := decide (a.p = b.p) && (decide (a.s = b.s) && (decide (a.o = b.o) && decide (a.t = b.t)))
theorem sameR_iff {a b : R4} : sameR a b = true ↔ a = b :=
  ⟨fun h => R4.eq (by simpa [sameR] using h), fun h => by subst h; simp [sameR]⟩
theorem sameR_not {a b : R4} (h : a ≠ b) : sameR a b = false := by
  cases e : sameR a b
  · rfl
  · exact absurd (sameR_iff.1 e) h

theorem ruAt_mem {l : List R4} {i : Nat} (h : i < l.length) : ruAt l i ∈ l := by rw [ruAt_lt h]; exact List.getElem_mem _
theorem mem_ruAt {l : List R4} {q : R4} (h : q ∈ l) : ∃ i, i < l.length ∧ ruAt l i = q := by
  obtain ⟨i, hi, rfl⟩ := List.getElem_of_mem h
  exact ⟨i, hi, ruAt_lt hi⟩

/-- A chain is in order, each with each. -/
theorem chain_pw : ∀ (l : List R4), chain l = true ↔ (∀ q ∈ l, okR q = true) ∧ l.Pairwise (fun a b => cmR a b < 0)
  | [] => by simp [chain]
  | r :: l => by
    have ih := chain_pw l
    simp only [chain, Bool.and_eq_true, List.pairwise_cons, List.mem_cons, forall_eq_or_imp]
    constructor
    · rintro ⟨h1, h2, h3⟩
      obtain ⟨k1, k2⟩ := ih.1 h3
      refine ⟨⟨h1, k1⟩, ?_, k2⟩
      cases l with
      | nil => intro a ha; cases ha
      | cons q l =>
        simp only [leadsB, decide_eq_true_eq] at h2
        intro a ha
        rcases List.mem_cons.1 ha with rfl | ha
        · exact h2
        · exact cmR_trans h2 ((List.pairwise_cons.1 k2).1 a ha)
    · rintro ⟨⟨h1, k1⟩, h2, k2⟩
      refine ⟨h1, ?_, ih.2 ⟨k1, k2⟩⟩
      cases l with
      | nil => rfl
      | cons q l =>
        simp only [leadsB, decide_eq_true_eq]
        exact h2 q (List.mem_cons_self ..)
theorem tOk_pw {l : List R4} : tOk l = true ↔ l.length ≤ 48 ∧ (∀ q ∈ l, okR q = true) ∧ l.Pairwise (fun a b => cmR a b < 0) := by
  rw [tOk, Bool.and_eq_true, decide_eq_true_eq, chain_pw]
/-- Two lists in order with the same members are one. -/
theorem pw_ext : ∀ {l m : List R4}, l.Pairwise (fun a b => cmR a b < 0) → m.Pairwise (fun a b => cmR a b < 0) → (∀ q, q ∈ l ↔ q ∈ m) → l = m
  | [], [], _, _, _ => rfl
  | [], b :: m, _, _, h => absurd ((h b).2 (List.mem_cons_self ..)) (by simp)
  | a :: l, [], _, _, h => absurd ((h a).1 (List.mem_cons_self ..)) (by simp)
  | a :: l, b :: m, hl, hm, h => by
    rw [List.pairwise_cons] at hl hm
    have hab : a = b := by
      rcases List.mem_cons.1 ((h a).1 (List.mem_cons_self ..)) with e | e
      · exact e
      · rcases List.mem_cons.1 ((h b).2 (List.mem_cons_self ..)) with e' | e'
        · exact e'.symm
        · have h1 := hm.1 a e
          have h2 := hl.1 b e'
          have := cmR_trans h1 h2
          rw [cmR_self] at this
          omega
    subst hab
    have na : a ∉ l := fun hh => by have := hl.1 a hh; rw [cmR_self] at this; omega
    have nb : a ∉ m := fun hh => by have := hm.1 a hh; rw [cmR_self] at this; omega
    rw [pw_ext hl.2 hm.2 (fun q => by
      have hq := h q
      simp only [List.mem_cons] at hq
      constructor
      · intro hh
        rcases hq.1 (.inr hh) with rfl | e
        · exact absurd hh na
        · exact e
      · intro hh
        rcases hq.2 (.inr hh) with rfl | e
        · exact absurd hh nb
        · exact e)]

theorem stand_ex (l : List R4) (r : R4) : ∃ k, Stand l r k := by
  have key : ∀ n, n ≤ l.length → (∀ j, j < n → cmR (ruAt l j) r < 0) ∨ ∃ k, Stand l r k := by
    intro n
    induction n with
    | zero => exact fun _ => .inl (fun j hj => absurd hj (Nat.not_lt_zero _))
    | succ n ih =>
      intro hn
      rcases ih (by omega) with h | h
      · by_cases hc : cmR (ruAt l n) r < 0
        · refine .inl (fun j hj => ?_)
          by_cases e : j = n
          · subst e; exact hc
          · exact h j (by omega)
        · exact .inr ⟨n, by omega, h, fun _ => by omega⟩
      · exact .inr h
  rcases key l.length (Nat.le_refl _) with h | h
  · exact ⟨l.length, Nat.le_refl _, h, fun hh => absurd hh (Nat.lt_irrefl _)⟩
  · exact h
theorem stand_one {l : List R4} {r : R4} {k k' : Nat} (h : Stand l r k) (h' : Stand l r k') (hp : l.Pairwise (fun a b => cmR a b < 0)) : k = k' := by
  have key : ∀ {a b : Nat}, Stand l r a → Stand l r b → a < b → False := fun {a b} ha hb hlt => by
    have h1 := hb.2.1 a hlt
    have h2 := ha.2.2 (by have := hb.1; omega)
    omega
  rcases Nat.lt_trichotomy k k' with e | e | e
  · exact (key h h' e).elim
  · exact e
  · exact (key h' h e).elim
/-- Where a rule stands it is, or it is nowhere. -/
theorem stand_mem {l : List R4} {r : R4} {k : Nat} (h : Stand l r k) (hok : ∀ q ∈ l, okR q = true) (hr : okR r = true) (hp : l.Pairwise (fun a b => cmR a b < 0)) : r ∈ l ↔ (k < l.length ∧ cmR (ruAt l k) r = 0) := by
  constructor
  · intro hm
    obtain ⟨i, hi, rfl⟩ := mem_ruAt hm
    have hs : Stand l (ruAt l i) i := ⟨by omega, fun j hj => by
      rw [ruAt_lt hi, ruAt_lt (show j < l.length by omega)]
      exact List.pairwise_iff_getElem.1 hp j i (by omega) hi hj, fun _ => by rw [cmR_self]; omega⟩
    obtain rfl := stand_one h hs hp
    exact ⟨hi, cmR_self _⟩
  · rintro ⟨hk, hz⟩
    have := (cmR_zero (hok _ (ruAt_mem hk)) hr).1 hz
    rw [← this]
    exact ruAt_mem hk

theorem take_lt {l : List R4} {k : Nat} {q : R4} (h : q ∈ l.take k) : ∃ i, i < k ∧ i < l.length ∧ ruAt l i = q := by
  obtain ⟨i, hi, rfl⟩ := List.getElem_of_mem h
  have h1 : i < k ∧ i < l.length := by simp at hi; omega
  exact ⟨i, h1.1, h1.2, by rw [ruAt_lt h1.2]; simp⟩
theorem drop_ge {l : List R4} {k : Nat} {q : R4} (h : q ∈ l.drop k) : ∃ i, k ≤ i ∧ i < l.length ∧ ruAt l i = q := by
  obtain ⟨i, hi, rfl⟩ := List.getElem_of_mem h
  have h1 : k + i < l.length := by simp at hi; omega
  exact ⟨k + i, by omega, h1, by rw [ruAt_lt h1]; simp⟩
theorem mem_insR {l : List R4} {k : Nat} {r q : R4} : q ∈ insR l k r ↔ q ∈ l ∨ q = r := by
  have e : q ∈ l ↔ q ∈ l.take k ∨ q ∈ l.drop k := by
    conv => lhs; rw [← List.take_append_drop k l]
    exact List.mem_append
  rw [e, insR]
  simp only [List.mem_append, List.mem_cons]
  constructor
  · rintro (h | h | h)
    · exact .inl (.inl h)
    · exact .inr h
    · exact .inl (.inr h)
  · rintro ((h | h) | h)
    · exact .inl h
    · exact .inr (.inr h)
    · exact .inr (.inl h)
theorem insR_pw {l : List R4} {k : Nat} {r : R4} (h : Stand l r k) (hp : l.Pairwise (fun a b => cmR a b < 0)) (hn : ¬ (k < l.length ∧ cmR (ruAt l k) r = 0)) : (insR l k r).Pairwise (fun a b => cmR a b < 0) := by
  have hg := fun i j (hi : i < l.length) (hj : j < l.length) (hij : i < j) => List.pairwise_iff_getElem.1 hp i j hi hj hij
  have hlow : ∀ a ∈ l.take k, cmR a r < 0 := fun a ha => by
    obtain ⟨i, hi, hl, rfl⟩ := take_lt ha
    exact h.2.1 i hi
  have hhigh : ∀ b ∈ l.drop k, cmR r b < 0 := fun b hb => by
    obtain ⟨i, hi, hl, rfl⟩ := drop_ge hb
    have hk : k < l.length := by omega
    have h0 := h.2.2 hk
    have h1 : cmR r (ruAt l k) < 0 := by
      have := cmR_swap (ruAt l k) r
      have : cmR (ruAt l k) r ≠ 0 := fun e => hn ⟨hk, e⟩
      omega
    by_cases e : i = k
    · subst e; exact h1
    · have := hg k i hk hl (by omega)
      rw [← ruAt_lt hk, ← ruAt_lt hl] at this
      exact cmR_trans h1 this
  unfold insR
  rw [List.pairwise_append, List.pairwise_cons]
  refine ⟨hp.sublist (List.take_sublist _ _), ⟨hhigh, hp.sublist (List.drop_sublist _ _)⟩, fun a ha b hb => ?_⟩
  rcases List.mem_cons.1 hb with rfl | hb
  · exact hlow a ha
  · exact cmR_trans (hlow a ha) (hhigh b hb)
theorem insR_length (l : List R4) (k : Nat) (r : R4) : (insR l k r).length = l.length + 1 := by
  have := congrArg List.length (List.take_append_drop k l)
  rw [List.length_append] at this
  rw [insR, List.length_append, List.length_cons]
  omega

/-! ### What is put -/

theorem putF_in {l : List R4} {r : R4} (hok : ∀ q ∈ l, okR q = true) (hr : okR r = true) (hp : l.Pairwise (fun a b => cmR a b < 0)) (hm : r ∈ l) : putF r l = l := by
  obtain ⟨k, hk⟩ := stand_ex l r
  rw [putF_stand hk, decide_eq_true ((stand_mem hk hok hr hp).1 hm)]
  rfl
theorem putF_out {l : List R4} {r : R4} (hok : ∀ q ∈ l, okR q = true) (hr : okR r = true) (hp : l.Pairwise (fun a b => cmR a b < 0)) (hm : r ∉ l) :
    (putF r l).length = l.length + 1 ∧ (putF r l).Pairwise (fun a b => cmR a b < 0) ∧ ∀ q, q ∈ putF r l ↔ q ∈ l ∨ q = r := by
  obtain ⟨k, hk⟩ := stand_ex l r
  have hn := fun e => hm ((stand_mem hk hok hr hp).2 e)
  rw [putF_stand hk, decide_eq_false hn]
  exact ⟨insR_length l k r, insR_pw hk hp hn, fun q => mem_insR⟩
theorem putF_cases (r : R4) (l : List R4) : (putF r l = l ∧ l ≠ []) ∨ (putF r l).length = l.length + 1 := by
  obtain ⟨k, hk⟩ := stand_ex l r
  rw [putF_stand hk]
  by_cases h : k < l.length ∧ cmR (ruAt l k) r = 0
  · rw [decide_eq_true h]
    exact .inl ⟨rfl, fun e => by rw [e] at h; exact absurd h.1 (Nat.not_lt_zero _)⟩
  · rw [decide_eq_false h]
    exact .inr (insR_length l k r)

/-! ### What is dropped -/

def dropF (r : R4) (l : List R4) : List R4 := l.filter (fun q => !sameR q r)
theorem mem_dropF {r q : R4} {l : List R4} : q ∈ dropF r l ↔ q ∈ l ∧ q ≠ r := by
  rw [dropF, List.mem_filter]
  constructor
  · rintro ⟨h, e⟩
    exact ⟨h, fun e' => by rw [sameR_iff.2 e'] at e; cases e⟩
  · rintro ⟨h, e⟩
    exact ⟨h, by rw [sameR_not e]; rfl⟩
theorem dropF_pw {l : List R4} (r : R4) (hp : l.Pairwise (fun a b => cmR a b < 0)) : (dropF r l).Pairwise (fun a b => cmR a b < 0) := hp.sublist List.filter_sublist
theorem dropF_out {l : List R4} {r : R4} (h : r ∉ l) : dropF r l = l := by
  rw [dropF, List.filter_eq_self]
  intro q hq
  have hne : q ≠ r := fun e => h (by rw [← e]; exact hq)
  simp [sameR_not hne]
theorem mem_delR {l : List R4} {k : Nat} (hk : k < l.length) (hp : l.Pairwise (fun a b => cmR a b < 0)) {q : R4} : q ∈ delR l k ↔ q ∈ l ∧ q ≠ ruAt l k := by
  have e : l = l.take k ++ ruAt l k :: l.drop (k + 1) := by
    rw [ruAt_lt hk, ← List.drop_eq_getElem_cons hk, List.take_append_drop]
  have hp' := hp
  rw [e, List.pairwise_append, List.pairwise_cons] at hp'
  have n1 : ruAt l k ∉ l.take k := fun hh => by
    have := hp'.2.2 _ hh _ (List.mem_cons_self ..)
    rw [cmR_self] at this
    omega
  have n2 : ruAt l k ∉ l.drop (k + 1) := fun hh => by
    have := hp'.2.1.1 _ hh
    rw [cmR_self] at this
    omega
  have hm : q ∈ l ↔ q ∈ l.take k ∨ q = ruAt l k ∨ q ∈ l.drop (k + 1) := by
    conv => lhs; rw [e]
    simp only [List.mem_append, List.mem_cons]
  rw [hm, delR, List.mem_append]
  constructor
  · rintro (h | h)
    · exact ⟨.inl h, fun e => n1 (e ▸ h)⟩
    · exact ⟨.inr (.inr h), fun e => n2 (e ▸ h)⟩
  · rintro ⟨h | h | h, hne⟩
    · exact .inl h
    · exact absurd h hne
    · exact .inr h
theorem delR_pw {l : List R4} {k : Nat} (hk : k < l.length) (hp : l.Pairwise (fun a b => cmR a b < 0)) : (delR l k).Pairwise (fun a b => cmR a b < 0) := by
  have e : l = l.take k ++ ruAt l k :: l.drop (k + 1) := by
    rw [ruAt_lt hk, ← List.drop_eq_getElem_cons hk, List.take_append_drop]
  have hs : (delR l k).Sublist l := by
    conv => rhs; rw [e]
    exact List.Sublist.append_left (List.sublist_cons_self _ _) _
  exact hp.sublist hs
/-- The program's drop and the model's make one list. -/
theorem drop_stand {l : List R4} {r : R4} {k : Nat} (h : Stand l r k) (hok : ∀ q ∈ l, okR q = true) (hr : okR r = true) (hp : l.Pairwise (fun a b => cmR a b < 0)) :
    (bif decide (k < l.length ∧ cmR (ruAt l k) r = 0) then delR l k else l) = dropF r l ∧ decide (k < l.length ∧ cmR (ruAt l k) r = 0) = decide ((dropF r l).length < l.length) := by
  by_cases hd : k < l.length ∧ cmR (ruAt l k) r = 0
  · have hz := (cmR_zero (hok _ (ruAt_mem hd.1)) hr).1 hd.2
    have he : delR l k = dropF r l := pw_ext (delR_pw hd.1 hp) (dropF_pw r hp) (fun q => by rw [mem_delR hd.1 hp, mem_dropF, hz])
    have hl := delR_len l hd.1
    rw [he] at hl
    rw [decide_eq_true hd]
    refine ⟨he, ?_⟩
    rw [decide_eq_true (show (dropF r l).length < l.length by omega)]
  · have hm : r ∉ l := fun e => hd ((stand_mem h hok hr hp).1 e)
    rw [decide_eq_false hd, dropF_out hm]
    refine ⟨rfl, ?_⟩
    rw [decide_eq_false (Nat.lt_irrefl _)]

/-- What TableDrop gives, and its word. -/
def dropT (r : R4) (l : List R4) : List R4 := bif tOk l && okR r then dropF r l else []
def dropO (r : R4) (l : List R4) : Bool := tOk l && okR r && decide ((dropF r l).length < l.length)

end Go.Proofs.YtennaeboemlnoaaDoor
