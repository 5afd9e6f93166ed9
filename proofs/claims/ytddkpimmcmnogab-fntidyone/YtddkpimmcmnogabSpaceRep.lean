/-
  The nodes of chapter 3's sets, as plain data: which set a node is; equal sets are one node. No program is walked here.
-/
import Derived.Test.YtddkpimmcmnogabSpaceMath
namespace Go.Proofs.Ytddkpimmcmnogab
open Go.ChangeShapes Go.WideShapes Go.ChangeAt Go.RowKit Go.Joins
set_option linter.unusedVariables false

/-- A node's two parts, and its block. -/
abbrev Nd := Option Addr × Option Addr × Nat
def adr (b : Nat) : Addr := ⟨b, 0, none⟩

/-- Which set of h bits a pointer is, by the nodes that there are. -/
def Rep (E : List Nd) (e : Nat) : Nat → Option Addr → List Bool → Prop
  | h, none, m => m = noL h
  | 0, some a, m => a = adr e ∧ m = [true]
  | h + 1, some a, m => ∃ z o b m0 m1, a = adr b ∧ (z, o, b) ∈ E ∧ (z ≠ none ∨ o ≠ none) ∧ m = m0 ++ m1 ∧ Rep E e h z m0 ∧ Rep E e h o m1

theorem Rep.none_iff {E : List Nd} {e h : Nat} {m : List Bool} : Rep E e h none m ↔ m = noL h := by
  cases h <;> exact Iff.rfl
theorem Rep.len {E : List Nd} {e : Nat} : ∀ {h : Nat} {p : Option Addr} {m : List Bool}, Rep E e h p m → m.length = 2 ^ h
  | h, none, m, hr => by rw [Rep.none_iff.1 hr, noL_len]
  | 0, some a, m, hr => by rw [hr.2]; rfl
  | h + 1, some a, m, ⟨z, o, b, m0, m1, _, _, _, hm, h0, h1⟩ => by
    rw [hm, List.length_append, h0.len, h1.len, Nat.pow_succ]
    omega
theorem Rep.mono {E E' : List Nd} {e : Nat} (hE : ∀ x, x ∈ E → x ∈ E') : ∀ {h : Nat} {p : Option Addr} {m : List Bool}, Rep E e h p m → Rep E' e h p m
  | h, none, m, hr => Rep.none_iff.2 (Rep.none_iff.1 hr)
  | 0, some a, m, hr => hr
  | h + 1, some a, m, ⟨z, o, b, m0, m1, ha, hb, hn, hm, h0, h1⟩ => ⟨z, o, b, m0, m1, ha, hE _ hb, hn, hm, h0.mono hE, h1.mono hE⟩

theorem app_no {h : Nat} {m0 m1 : List Bool} (h0 : m0.length = 2 ^ h) : m0 ++ m1 = noL (h + 1) → m0 = noL h ∧ m1 = noL h := by
  intro e
  rw [noL_succ] at e
  exact List.append_inj e (by rw [h0, noL_len])
/-- A node is not the empty set. -/
theorem Rep.some_ne {E : List Nd} {e : Nat} : ∀ {h : Nat} {a : Addr} {m : List Bool}, Rep E e h (some a) m → m ≠ noL h
  | 0, a, m, hr => by rw [hr.2]; decide
  | h + 1, a, m, ⟨z, o, b, m0, m1, ha, hb, hn, hm, h0, h1⟩ => by
    intro em
    rw [hm] at em
    obtain ⟨e0, e1⟩ := app_no h0.len em
    subst e0 e1
    cases z with
    | some z => exact h0.some_ne rfl
    | none =>
      cases o with
      | some o => exact h1.some_ne rfl
      | none => simp at hn

/-- No two nodes of the same parts, no two of the same block. -/
def Uniq (E : List Nd) : Prop := (∀ z o b b', (z, o, b) ∈ E → (z, o, b') ∈ E → b = b') ∧ ∀ z o z' o' b, (z, o, b) ∈ E → (z', o', b) ∈ E → z = z' ∧ o = o'

/-- A pointer is one set alone. -/
theorem Rep.same_set {E : List Nd} {e : Nat} (hu : Uniq E) : ∀ {h : Nat} {p : Option Addr} {m m' : List Bool}, Rep E e h p m → Rep E e h p m' → m = m'
  | h, none, m, m', hr, hr' => by rw [Rep.none_iff.1 hr, Rep.none_iff.1 hr']
  | 0, some a, m, m', hr, hr' => by rw [hr.2, hr'.2]
  | h + 1, some a, m, m', ⟨z, o, b, m0, m1, ha, hb, hn, hm, h0, h1⟩, ⟨z', o', b', m0', m1', ha', hb', hn', hm', h0', h1'⟩ => by
    subst ha
    obtain rfl : b = b' := by unfold adr at ha'; injection ha'
    obtain ⟨rfl, rfl⟩ := hu.2 _ _ _ _ _ hb hb'
    rw [hm, hm', h0.same_set hu h0', h1.same_set hu h1']
/-- A set is one pointer alone. -/
theorem Rep.same_ptr {E : List Nd} {e : Nat} (hu : Uniq E) : ∀ {h : Nat} {p p' : Option Addr} {m : List Bool}, Rep E e h p m → Rep E e h p' m → p = p'
  | h, none, none, m, _, _ => rfl
  | h, none, some a, m, hr, hr' => absurd (Rep.none_iff.1 hr) hr'.some_ne
  | h, some a, none, m, hr, hr' => absurd (Rep.none_iff.1 hr') hr.some_ne
  | 0, some a, some a', m, hr, hr' => by rw [hr.1, hr'.1]
  | h + 1, some a, some a', m, ⟨z, o, b, m0, m1, ha, hb, hn, hm, h0, h1⟩, ⟨z', o', b', m0', m1', ha', hb', hn', hm', h0', h1'⟩ => by
    rw [hm] at hm'
    obtain ⟨rfl, rfl⟩ := List.append_inj hm' (by rw [h0.len, h0'.len])
    have ez := h0.same_ptr hu h0'
    have eo := h1.same_ptr hu h1'
    subst ez eo
    rw [ha, ha', hu.1 _ _ _ _ hb hb']

/-- A pointer that may be compared: nil, the last one, or a node. -/
def Vp (E : List Nd) (e : Nat) (p : Option Addr) : Prop := p = none ∨ p = some (adr e) ∨ ∃ z o b, (z, o, b) ∈ E ∧ p = some (adr b)
theorem Rep.vp {E : List Nd} {e : Nat} : ∀ {h : Nat} {p : Option Addr} {m : List Bool}, Rep E e h p m → Vp E e p
  | h, none, m, hr => .inl rfl
  | 0, some a, m, hr => .inr (.inl (by rw [hr.1]))
  | h + 1, some a, m, ⟨z, o, b, m0, m1, ha, hb, hn, hm, h0, h1⟩ => .inr (.inr ⟨z, o, b, hb, by rw [ha]⟩)
theorem Vp.mono {E E' : List Nd} {e : Nat} (hE : ∀ x, x ∈ E → x ∈ E') {p : Option Addr} (h : Vp E e p) : Vp E' e p := by
  rcases h with h | h | ⟨z, o, b, hb, h⟩
  · exact .inl h
  · exact .inr (.inl h)
  · exact .inr (.inr ⟨z, o, b, hE _ hb, h⟩)

/-- The parts of a node, its canonical list by theirs. -/
theorem Rep.parts {E : List Nd} {e h b : Nat} {m : List Bool} (hr : Rep E e (h + 1) (some (adr b)) m) : ∃ z o m0 m1, (z, o, b) ∈ E ∧ (z ≠ none ∨ o ≠ none) ∧ m = m0 ++ m1 ∧ Rep E e h z m0 ∧ Rep E e h o m1 := by
  obtain ⟨z, o, b', m0, m1, ha, hb, hn, hm, h0, h1⟩ := hr
  obtain rfl : b = b' := by unfold adr at ha; injection ha
  exact ⟨z, o, m0, m1, hb, hn, hm, h0, h1⟩
theorem Rep.adr_of {E : List Nd} {e : Nat} : ∀ {h : Nat} {a : Addr} {m : List Bool}, Rep E e h (some a) m → ∃ b, a = adr b
  | 0, a, m, hr => ⟨e, hr.1⟩
  | h + 1, a, m, ⟨z, o, b, m0, m1, ha, _⟩ => ⟨b, ha⟩
theorem Rep.tidy {E : List Nd} {e h : Nat} (hu : Uniq E) {z o : Option Addr} {m0 m1 : List Bool} (h0 : Rep E e h z m0) (h1 : Rep E e h o m1) :
    tidyB (h + 1) (m0 ++ m1) = if z = o then (tidyB h m0).map (fun l => 120 :: l) else (tidyB h m0).map (fun l => 48 :: l) ++ (tidyB h m1).map (fun l => 49 :: l) := by
  rw [tidyB_app h0.len]
  by_cases hz : z = o
  · subst hz
    obtain rfl := h0.same_set hu h1
    simp
  · have : (m0 == m1) = false := by
      cases hm : (m0 == m1)
      · rfl
      · rw [beq_iff_eq] at hm
        subst hm
        exact absurd (h0.same_ptr hu h1) hz
    rw [this, if_neg hz]
    rfl

end Go.Proofs.Ytddkpimmcmnogab
