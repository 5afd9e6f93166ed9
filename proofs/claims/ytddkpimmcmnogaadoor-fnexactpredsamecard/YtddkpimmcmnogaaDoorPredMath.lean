/-
  Conditions, as plain trees: their texts, how a text is read, for which heads they hold, how deep they are.
-/
import Derived.Test.YtddkpimmcmnogaaDoorHeadBase
namespace Go.Proofs.YtddkpimmcmnogaaDoor
set_option linter.unusedVariables false

/-- A condition, as a tree: of no part, of a field, of one part, of two. -/
inductive Cnd where
  | one (b : Bool)
  | fld (k d : UInt8)
  | neg (a : Cnd)
  | two (k : UInt8) (a b : Cnd)

def isF (k : UInt8) : Bool := k == 115 || (k == 100 || k == 116)
def isT (k : UInt8) : Bool := k == 38 || k == 124
def isD (d : UInt8) : Bool := decide (48 ≤ d.toNat) && decide (d.toNat ≤ 51)

def Cnd.txt : Cnd → List UInt8
  | .one b => [if b then 49 else 48]
  | .fld k d => [k, d]
  | .neg a => 33 :: a.txt
  | .two k a b => k :: (a.txt ++ b.txt)

def Cnd.ok : Cnd → Bool
  | .one _ => true
  | .fld k d => isF k && isD d
  | .neg a => a.ok
  | .two k a b => isT k && (a.ok && b.ok)

/-- How deep. -/
def Cnd.deep : Cnd → Nat
  | .one _ => 1
  | .fld _ _ => 1
  | .neg a => a.deep + 1
  | .two _ a b => max a.deep b.deep + 1

/-- Whether it holds for the head of three fields. -/
def Cnd.ev (x y z : Int) : Cnd → Bool
  | .one b => b
  | .fld k d => (if k = 115 then x else if k = 100 then y else z) == ((d.toNat : Int) - 48)
  | .neg a => !a.ev x y z
  | .two k a b => if k = 38 then a.ev x y z && b.ev x y z else a.ev x y z || b.ev x y z

theorem Cnd.txt_pos (c : Cnd) : 1 ≤ c.txt.length := by cases c <;> simp [Cnd.txt]
theorem Cnd.txt_ne (c : Cnd) : c.txt ≠ [] := by cases c <;> simp [Cnd.txt]
theorem Cnd.deep_pos (c : Cnd) : 1 ≤ c.deep := by cases c <;> simp [Cnd.deep]
theorem Cnd.deep_le : ∀ c : Cnd, c.deep ≤ c.txt.length
  | .one b => by simp [Cnd.deep, Cnd.txt]
  | .fld k d => by simp [Cnd.deep, Cnd.txt]
  | .neg a => by have := Cnd.deep_le a; simp [Cnd.deep, Cnd.txt]; omega
  | .two k a b => by
    have := Cnd.deep_le a
    have := Cnd.deep_le b
    simp [Cnd.deep, Cnd.txt]
    omega

theorem isF_cases {k : UInt8} (h : isF k = true) : k = 115 ∨ k = 100 ∨ k = 116 := by simpa [isF] using h
theorem isT_cases {k : UInt8} (h : isT k = true) : k = 38 ∨ k = 124 := by simpa [isT] using h
theorem isD_cases {d : UInt8} (h : isD d = true) : 48 ≤ d.toNat ∧ d.toNat ≤ 51 := by simpa [isD] using h

/-- The value of a field is read. -/
def fldR (c : UInt8) : List UInt8 → Option (Cnd × List UInt8)
  | [] => none
  | d :: r => if isD d = true then some (.fld c d, r) else none

/-- A text is read from its beginning on: the condition, and what comes behind it. -/
def prs : Nat → List UInt8 → Option (Cnd × List UInt8)
  | 0, _ => none
  | _ + 1, [] => none
  | n + 1, c :: l =>
    if c = 48 then some (.one false, l)
    else if c = 49 then some (.one true, l)
    else if isF c = true then fldR c l
    else if c = 33 then (match prs n l with
      | none => none
      | some (a, r) => some (.neg a, r))
    else if isT c = true then (match prs n l with
      | none => none
      | some (a, r) => match prs n r with
        | none => none
        | some (b, q) => some (.two c a b, q))
    else none

theorem prs_sound : ∀ (n : Nat) (l : List UInt8) (c : Cnd) (r : List UInt8), prs n l = some (c, r) → l = c.txt ++ r ∧ c.ok = true
  | 0, l, c, r, h => by simp [prs] at h
  | n + 1, [], c, r, h => by simp [prs] at h
  | n + 1, x :: l, c, r, h => by
    rw [prs] at h
    by_cases h1 : x = 48
    · rw [if_pos h1] at h
      cases h
      subst h1
      exact ⟨rfl, rfl⟩
    rw [if_neg h1] at h
    by_cases h2 : x = 49
    · rw [if_pos h2] at h
      cases h
      subst h2
      exact ⟨rfl, rfl⟩
    rw [if_neg h2] at h
    by_cases h3 : isF x = true
    · rw [if_pos h3] at h
      match l, h with
      | [], h => cases h
      | d :: q, h =>
        by_cases h4 : isD d = true
        · simp only [fldR, h4, if_true] at h
          cases h
          exact ⟨rfl, by simp [Cnd.ok, h3, h4]⟩
        · simp [fldR, h4] at h
    rw [if_neg h3] at h
    by_cases h4 : x = 33
    · rw [if_pos h4] at h
      cases hp : prs n l with
      | none => rw [hp] at h; cases h
      | some p =>
        obtain ⟨a, q⟩ := p
        rw [hp] at h
        cases h
        obtain ⟨e1, e2⟩ := prs_sound n l a r hp
        subst h4
        exact ⟨by rw [e1]; rfl, e2⟩
    rw [if_neg h4] at h
    by_cases h5 : isT x = true
    · rw [if_pos h5] at h
      cases hp : prs n l with
      | none => rw [hp] at h; cases h
      | some p =>
        obtain ⟨a, q⟩ := p
        rw [hp] at h
        simp only at h
        cases hq : prs n q with
        | none => rw [hq] at h; cases h
        | some p' =>
          obtain ⟨b, q'⟩ := p'
          rw [hq] at h
          cases h
          obtain ⟨e1, e2⟩ := prs_sound n l a q hp
          obtain ⟨e3, e4⟩ := prs_sound n q b r hq
          exact ⟨by rw [e1, e3]; simp [Cnd.txt], by simp [Cnd.ok, h5, e2, e4]⟩
    · rw [if_neg h5] at h
      cases h

theorem prs_full : ∀ (c : Cnd) (n : Nat) (r : List UInt8), c.ok = true → c.txt.length ≤ n → prs n (c.txt ++ r) = some (c, r)
  | .one b, 0, r, _, h => by simp [Cnd.txt] at h
  | .one b, n + 1, r, _, _ => by cases b <;> simp [Cnd.txt, prs]
  | .fld k d, 0, r, _, h => by simp [Cnd.txt] at h
  | .fld k d, n + 1, r, hk, _ => by
    simp only [Cnd.ok, Bool.and_eq_true] at hk
    have : k ≠ 48 ∧ k ≠ 49 := by rcases isF_cases hk.1 with rfl | rfl | rfl <;> decide
    simp [Cnd.txt, prs, fldR, this.1, this.2, hk.1, hk.2]
  | .neg a, 0, r, _, h => by simp [Cnd.txt] at h
  | .neg a, n + 1, r, hk, h => by
    have ih := prs_full a n r hk (by simp [Cnd.txt] at h; omega)
    have e : isF 33 = false := by decide
    simp [Cnd.txt, prs, e, ih]
  | .two k a b, 0, r, _, h => by simp [Cnd.txt] at h
  | .two k a b, n + 1, r, hk, h => by
    simp only [Cnd.ok, Bool.and_eq_true] at hk
    simp [Cnd.txt] at h
    have ih1 := prs_full a n (b.txt ++ r) hk.2.1 (by omega)
    have ih2 := prs_full b n r hk.2.2 (by omega)
    have : k ≠ 48 ∧ k ≠ 49 ∧ isF k = false ∧ k ≠ 33 := by rcases isT_cases hk.1 with rfl | rfl <;> decide
    simp [Cnd.txt, prs, this.1, this.2.1, this.2.2.1, this.2.2.2, hk.1, ih1, ih2]

/-- What a text begins with. -/
def rd (l : List UInt8) : Option (Cnd × List UInt8) := prs l.length l

theorem rd_of {c : Cnd} {r : List UInt8} (hk : c.ok = true) : rd (c.txt ++ r) = some (c, r) := prs_full c _ r hk (by simp)
theorem rd_some {l : List UInt8} {c : Cnd} {r : List UInt8} (h : rd l = some (c, r)) : l = c.txt ++ r ∧ c.ok = true := prs_sound _ _ _ _ h
theorem txt_free {c c' : Cnd} {r r' : List UInt8} (hk : c.ok = true) (hk' : c'.ok = true) (h : c.txt ++ r = c'.txt ++ r') : c = c' ∧ r = r' := by
  have e1 := rd_of (r := r) hk
  rw [h, rd_of hk'] at e1
  cases e1
  exact ⟨rfl, rfl⟩

theorem rd_nil : rd [] = none := rfl
theorem rd_neg {l : List UInt8} (h : rd (33 :: l) = none) : rd l = none := by
  cases hp : rd l with
  | none => rfl
  | some p =>
    obtain ⟨a, r⟩ := p
    obtain ⟨e1, e2⟩ := rd_some hp
    have := rd_of (c := .neg a) (r := r) e2
    rw [show (Cnd.neg a).txt ++ r = 33 :: l from by rw [e1]; rfl, h] at this
    cases this
theorem rd_two {k : UInt8} {l : List UInt8} (hk : isT k = true) (h : rd (k :: l) = none) : rd l = none ∨ ∃ (a : Cnd) (r : List UInt8), l = a.txt ++ r ∧ a.ok = true ∧ rd r = none := by
  cases hp : rd l with
  | none => exact .inl rfl
  | some p =>
    obtain ⟨a, r⟩ := p
    obtain ⟨e1, e2⟩ := rd_some hp
    refine .inr ⟨a, r, e1, e2, ?_⟩
    cases hq : rd r with
    | none => rfl
    | some p' =>
      obtain ⟨b, q⟩ := p'
      obtain ⟨e3, e4⟩ := rd_some hq
      have := rd_of (c := .two k a b) (r := q) (by simp [Cnd.ok, hk, e2, e4])
      rw [show (Cnd.two k a b).txt ++ q = k :: l from by rw [e1, e3]; simp [Cnd.txt], h] at this
      cases this
theorem rd_fld {k : UInt8} {l : List UInt8} (hk : isF k = true) (h : rd (k :: l) = none) : l = [] ∨ ∃ (d : UInt8) (r : List UInt8), l = d :: r ∧ isD d = false := by
  match l, h with
  | [], _ => exact .inl rfl
  | d :: r, h =>
    refine .inr ⟨d, r, rfl, ?_⟩
    cases hd : isD d
    · rfl
    · have := rd_of (c := .fld k d) (r := r) (by simp [Cnd.ok, hk, hd])
      rw [show (Cnd.fld k d).txt ++ r = k :: d :: r from rfl, h] at this
      cases this
theorem rd_one {k : UInt8} {l : List UInt8} (hk : k = 48 ∨ k = 49) (h : rd (k :: l) = none) : False := by
  rcases hk with rfl | rfl
  · have := rd_of (c := .one false) (r := l) rfl
    rw [show (Cnd.one false).txt ++ l = 48 :: l from rfl, h] at this
    cases this
  · have := rd_of (c := .one true) (r := l) rfl
    rw [show (Cnd.one true).txt ++ l = 49 :: l from rfl, h] at this
    cases this

/-- The condition that a whole text is. -/
def whole (l : List UInt8) : Option Cnd := if l.length ≤ 16 then (match rd l with
  | some (c, []) => some c
  | _ => none) else none
theorem whole_some {l : List UInt8} {c : Cnd} (h : whole l = some c) : l = c.txt ∧ c.ok = true ∧ l.length ≤ 16 := by
  unfold whole at h
  split at h
  · rename_i h16
    split at h
    · rename_i c' hr
      cases h
      obtain ⟨e1, e2⟩ := rd_some hr
      exact ⟨by simpa using e1, e2, h16⟩
    · cases h
  · cases h
theorem whole_of {c : Cnd} (hk : c.ok = true) (h16 : c.txt.length ≤ 16) : whole c.txt = some c := by
  have := rd_of (r := []) hk
  rw [List.append_nil] at this
  unfold whole
  rw [if_pos h16, this]
theorem whole_none {l : List UInt8} (h : whole l = none) : 16 < l.length ∨ (l.length ≤ 16 ∧ rd l = none) ∨ (l.length ≤ 16 ∧ ∃ (c : Cnd) (r : List UInt8), l = c.txt ++ r ∧ c.ok = true ∧ r ≠ []) := by
  by_cases h16 : l.length ≤ 16
  · cases hr : rd l with
    | none => exact .inr (.inl ⟨h16, rfl⟩)
    | some p =>
      obtain ⟨c, r⟩ := p
      obtain ⟨e1, e2⟩ := rd_some hr
      refine .inr (.inr ⟨h16, c, r, e1, e2, ?_⟩)
      rintro rfl
      rw [List.append_nil] at e1
      subst e1
      rw [whole_of e2 h16] at h
      cases h
  · exact .inl (by omega)

/-- A text of bytes. -/
def bs (l : List UInt8) : ByteArray := ⟨l.toArray⟩
theorem bs_size (l : List UInt8) : (bs l).size = l.length := by simp [bs, ByteArray.size]
theorem bs_list (s : ByteArray) : bs s.data.toList = s := by
  apply ByteArray.ext
  simp [bs]
theorem bs_inj {l m : List UInt8} (h : bs l = bs m) : l = m := by
  have := congrArg (fun s : ByteArray => s.data.toList) h
  simpa [bs] using this
theorem bs_toList (l : List UInt8) : (bs l).toList = l := by
  rw [ByteArray.toList_eq]
  simp [bs]
theorem bs_append (l m : List UInt8) : bs l ++ bs m = bs (l ++ m) := by
  apply ByteArray.ext
  simp [bs]
theorem bs_extract (l : List UInt8) (a b : Nat) : (bs l).extract a b = bs ((l.take b).drop a) := by
  apply ByteArray.ext
  rw [ByteArray.data_extract]
  apply Array.toList_inj.1
  simp [bs, List.drop_take]

end Go.Proofs.YtddkpimmcmnogaaDoor
