/-
  What each rule of a table is the first of: sets of heads; plain facts.
-/
import Derived.Test.YtehgpehhpijkjaaGreatDoorTabO
import Derived.Test.YtehgpehhpijkjaaGreatDoorSpaceN
namespace Go.Proofs.YtehgpehhpijkjaaGreatDoor
set_option linter.unusedVariables false

/-- A head, by its bits, is of a rule. -/
def hasR (b : List Bool) (r : R4) : Bool := bif okS r.s then hasM (cf r.s) (vf r.s) (bitF b) else true
def setR (r : R4) : List Bool := tabF 6 (fun b => hasR b r)
/-- The place of the first rule that is of a head. -/
def atF (b : List Bool) (l : List R4) : Int := match l.findIdx? (hasR b) with | none => -1 | some i => i
def areaM (l : List R4) (at' : Int) : List Bool := tabF 6 (fun b => decide (atF b l = at'))
/-- What no rule is of. -/
def restF (l : List R4) : List Bool := tabF 6 (fun b => !l.any (hasR b))
/-- What a rule is the first of. -/
def areaF (l : List R4) (j : Nat) : List Bool := tabF 6 (fun b => !(l.take j).any (hasR b) && hasR b (ruAt l j))

theorem restF_len (l : List R4) : (restF l).length = 64 := tabF_len 6 _
theorem areaM_len (l : List R4) (i : Int) : (areaM l i).length = 64 := tabF_len 6 _
theorem restF_nil : restF [] = sufL (fun _ => false) (fun _ => false) 6 := by
  rw [sufL_all (fun i h => by cases h)]
  exact tabF_congr 6 fun l hl => by simp [hasM, all6]
theorem setR_suf (r : R4) (h : okS r.s = true) : sufL (cf r.s) (vf r.s) 6 = setR r := by
  rw [sufL_all (fun i hi => by
    have e : byA r.s i = 49 := by simpa [vf] using hi
    simp [cf, e])]
  exact tabF_congr 6 fun l _ => by rw [hasR, h]; rfl
theorem setR_no (r : R4) (h : okS r.s = false) : sufL (fun _ => false) (fun _ => false) 6 = setR r := by
  rw [sufL_all (fun i h => by cases h)]
  exact tabF_congr 6 fun l _ => by rw [hasR, h]; simp [hasM, all6]
theorem restF_snoc (l : List R4) (r : R4) : List.zipWith (keepF true false false) (restF l) (setR r) = restF (l ++ [r]) := by
  unfold restF setR
  rw [tabF_zip]
  refine tabF_congr 6 fun b _ => ?_
  rw [List.any_append]
  cases l.any (hasR b) <;> cases h : hasR b r <;> simp [keepF, h]
theorem areaF_step (l : List R4) (r : R4) : List.zipWith (keepF false true false) (restF l) (setR r) = tabF 6 (fun b => !l.any (hasR b) && hasR b r) := by
  unfold restF setR
  rw [tabF_zip]
  refine tabF_congr 6 fun b _ => ?_
  cases l.any (hasR b) <;> cases h : hasR b r <;> simp [keepF]
theorem areaF_at (l : List R4) {k : Nat} (hk : k < l.length) : List.zipWith (keepF false true false) (restF (l.take k)) (setR (ruAt l k)) = areaF l k := areaF_step _ _
theorem restF_take (l : List R4) {k : Nat} (hk : k < l.length) : List.zipWith (keepF true false false) (restF (l.take k)) (setR (ruAt l k)) = restF (l.take (k + 1)) := by
  rw [restF_snoc, take_step l hk]
theorem any_take_no {p : R4 → Bool} {l : List R4} {k : Nat} (hk : k ≤ l.length) : (l.take k).any p = false ↔ ∀ j, j < k → p (ruAt l j) = false := by
  rw [List.any_eq_false]
  constructor
  · intro h j hj
    have hm : ruAt l j ∈ l.take k := by
      rw [ruAt_lt (show j < l.length by omega)]
      exact List.mem_take_iff_getElem.2 ⟨j, by omega, rfl⟩
    simpa using h _ hm
  · intro h q hq
    obtain ⟨i, hi, -, rfl⟩ := take_lt hq
    simp [h i hi]
theorem atF_none {b : List Bool} {l : List R4} : l.any (hasR b) = false ↔ atF b l = -1 := by
  unfold atF
  cases h : l.findIdx? (hasR b) with
  | none =>
    rw [List.findIdx?_eq_none_iff] at h
    simp only [iff_true]
    rw [List.any_eq_false]
    intro x hx
    simp [h x hx]
  | some i =>
    rw [List.findIdx?_eq_some_iff_getElem] at h
    obtain ⟨hi, hp, -⟩ := h
    constructor
    · intro e
      rw [List.any_eq_false] at e
      exact absurd hp (e _ (List.getElem_mem hi))
    · intro e
      simp at e
theorem atF_some {b : List Bool} {l : List R4} {k : Nat} (hk : k < l.length) : (!(l.take k).any (hasR b) && hasR b (ruAt l k)) = true ↔ atF b l = (k : Int) := by
  rw [Bool.and_eq_true, Bool.not_eq_true', any_take_no (by omega)]
  unfold atF
  cases h : l.findIdx? (hasR b) with
  | none =>
    rw [List.findIdx?_eq_none_iff] at h
    have := h _ (ruAt_mem hk)
    constructor
    · rintro ⟨-, e⟩
      rw [this] at e
      cases e
    · intro e
      simp at e
  | some i =>
    rw [List.findIdx?_eq_some_iff_getElem] at h
    obtain ⟨hi, hp, hlow⟩ := h
    rw [← ruAt_lt hi] at hp
    constructor
    · rintro ⟨h1, h2⟩
      rcases Nat.lt_trichotomy i k with e | e | e
      · rw [h1 i e] at hp
        cases hp
      · simp [e]
      · have := hlow k e
        rw [← ruAt_lt hk] at this
        exact absurd h2 this
    · intro e
      have h2 : (i : Int) = k := by simpa using e
      obtain rfl : i = k := by omega
      refine ⟨fun j hj => ?_, hp⟩
      have := hlow j hj
      rw [← ruAt_lt (show j < l.length by omega)] at this
      simpa using this
theorem restF_area (l : List R4) : restF l = areaM l (-1) := tabF_congr 6 fun b _ => by
  cases h : l.any (hasR b)
  · rw [atF_none.1 h]
    rfl
  · rw [decide_eq_false (fun e => by rw [atF_none.2 e] at h; cases h)]
    rfl
theorem areaF_area (l : List R4) {k : Nat} (hk : k < l.length) : areaF l k = areaM l (k : Int) := tabF_congr 6 fun b _ => by
  cases h : (!(l.take k).any (hasR b) && hasR b (ruAt l k))
  · exact (decide_eq_false (fun e => by rw [(atF_some hk).2 e] at h; cases h)).symm
  · exact (decide_eq_true ((atF_some hk).1 h)).symm

end Go.Proofs.YtehgpehhpijkjaaGreatDoor
