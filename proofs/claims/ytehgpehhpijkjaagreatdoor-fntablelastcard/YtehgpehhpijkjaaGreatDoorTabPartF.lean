/-
  The parts of a table are all heads: how many heads have a value below a number; what a head is of.
-/
import Derived.Test.YtehgpehhpijkjaaGreatDoorTabTrim
import Derived.Test.YtehgpehhpijkjaaGreatDoorSpaceF
import Derived.Test.YtehgpehhpijkjaaGreatDoorSpaceSpecD
namespace Go.Proofs.YtehgpehhpijkjaaGreatDoor
set_option linter.unusedVariables false

theorem tab_or : ∀ (h : Nat) {g g' G : List Bool → Bool}, (∀ l, l.length = h → (g l && g' l) = false ∧ G l = (g l || g' l)) → (tabF h g).count true + (tabF h g').count true = (tabF h G).count true
  | 0, g, g', G, H => by
    obtain ⟨h1, h2⟩ := H [] rfl
    simp only [tabF]
    rw [h2]
    cases hg : g [] <;> cases hg' : g' [] <;> simp_all
  | h + 1, g, g', G, H => by
    have i0 := tab_or h (g := fun l => g (false :: l)) (g' := fun l => g' (false :: l)) (G := fun l => G (false :: l)) (fun l hl => H (false :: l) (by simp [hl]))
    have i1 := tab_or h (g := fun l => g (true :: l)) (g' := fun l => g' (true :: l)) (G := fun l => G (true :: l)) (fun l hl => H (true :: l) (by simp [hl]))
    simp only [tabF, List.count_append]
    omega
theorem tab_none : ∀ (h : Nat) {g : List Bool → Bool}, (∀ l, l.length = h → g l = false) → (tabF h g).count true = 0
  | 0, g, H => by simp [tabF, H [] rfl]
  | h + 1, g, H => by
    simp only [tabF, List.count_append]
    rw [tab_none h (fun l hl => H (false :: l) (by simp [hl])), tab_none h (fun l hl => H (true :: l) (by simp [hl]))]
theorem tab_every : ∀ (h : Nat) {g : List Bool → Bool}, (∀ l, l.length = h → g l = true) → (tabF h g).count true = 2 ^ h
  | 0, g, H => by simp [tabF, H [] rfl]
  | h + 1, g, H => by
    simp only [tabF, List.count_append]
    rw [tab_every h (fun l hl => H (false :: l) (by simp [hl])), tab_every h (fun l hl => H (true :: l) (by simp [hl])), Nat.pow_succ]
    omega

/-- How many heads have a value below a number. -/
def cutN (F : List Bool → Int) (z : Int) : Int := ((tabF 6 (fun b => decide (F b < z))).count true : Nat)
theorem cutN_step (F : List Bool → Int) (z : Int) : cutN F (z + 1) = cutN F z + ((tabF 6 (fun b => decide (F b = z))).count true : Nat) := by
  have := tab_or 6 (g := fun b => decide (F b < z)) (g' := fun b => decide (F b = z)) (G := fun b => decide (F b < z + 1)) (fun b _ => by
    rcases Int.lt_trichotomy (F b) z with h | h | h
    · have h1 : ¬ F b = z := by omega
      have h2 : F b < z + 1 := by omega
      simp [h, h1, h2]
    · have h2 : z < z + 1 := by omega
      simp [h, h2]
    · have h1 : ¬ F b = z := by omega
      have h2 : ¬ F b < z + 1 := by omega
      have h3 : ¬ F b < z := by omega
      simp [h1, h2, h3])
  unfold cutN
  omega
theorem cutN_low {F : List Bool → Int} {z : Int} (h : ∀ b, b.length = 6 → z ≤ F b) : cutN F z = 0 := by
  unfold cutN
  rw [tab_none 6 (fun b hb => by have := h b hb; simp; omega)]
  rfl
theorem cutN_high {F : List Bool → Int} {z : Int} (h : ∀ b, b.length = 6 → F b < z) : cutN F z = 64 := by
  unfold cutN
  rw [tab_every 6 (fun b hb => by have := h b hb; simp; omega)]
  rfl
theorem cutN_bound (F : List Bool → Int) (z : Int) : 0 ≤ cutN F z ∧ cutN F z ≤ 64 := by
  unfold cutN
  have h1 := List.count_le_length (a := true) (l := tabF 6 (fun b => decide (F b < z)))
  rw [tabF_len] at h1
  omega

theorem many_tidy {m : List Bool} (hm : m.length = 64) : manyR (tidyT m) = (m.count true : Nat) := by
  rw [manyR, okSp_tidy, cond_true, spL_tidy hm, sumL6_count hm]
theorem atB_tab (g : List Bool → Bool) {b : List Bool} (hb : b.length = 6) : atB 6 (tabF 6 g) b = g b := by
  have h := tab_atB 6 (tabF 6 g) (tabF_len 6 g)
  exact tabF_inj 6 h b hb
theorem in_tab (g : List Bool → Bool) {b : List Bool} (hb : b.length = 6) : inSp (tidyT (tabF 6 g)) b = g b := by
  rw [inSp_tidy (tabF_len 6 g) hb, atB_tab g hb]

theorem atF_low (l : List R4) (b : List Bool) : -1 ≤ atF b l := by
  unfold atF
  cases l.findIdx? (hasR b) with
  | none => exact Int.le_refl _
  | some i => show (-1 : Int) ≤ (i : Int); omega
theorem atF_high (l : List R4) (b : List Bool) : atF b l < (l.length : Int) := by
  unfold atF
  cases h : l.findIdx? (hasR b) with
  | none => show (-1 : Int) < _; omega
  | some i =>
    have := (List.findIdx?_eq_some_iff_getElem.1 h).1
    show (i : Int) < _
    omega
theorem areaT_yes {l : List R4} (h : tOk l = true) {z : Int} (h1 : -1 ≤ z) (h2 : z < l.length) : areaT l z = tidyT (areaM l z) := by
  unfold areaT
  rw [h, inB_mk h1 (by omega)]
  rfl
theorem area_step {l : List R4} (h : tOk l = true) {z : Int} (h1 : -1 ≤ z) (h2 : z < l.length) : cutN (fun b => atF b l) (z + 1) = cutN (fun b => atF b l) z + manyR (areaT l z) := by
  rw [areaT_yes h h1 h2, many_tidy (areaM_len l z), cutN_step]
  rfl
theorem area_head {l : List R4} (h : tOk l = true) {z : Int} (h1 : -1 ≤ z) (h2 : z < l.length) {k : Nat} (hk : k < 64) : inSp (areaT l z) (f6 (hB ((k : Int) / 16 % 4) ((k : Int) / 4 % 4) ((k : Int) % 4))) = (atF (kb6 k) l == z) := by
  rw [show (k : Int) / 16 % 4 = (k : Int) / 16 from by omega, ← kb6_hB hk, areaT_yes h h1 h2, areaM, in_tab _ rfl]
  rfl
theorem at_head {l : List R4} (h : tOk l = true) {k : Nat} (hk : k < 64) : atT ((k : Int) / 16 % 4) ((k : Int) / 4 % 4) ((k : Int) % 4) l = atF (kb6 k) l := by
  rw [show (k : Int) / 16 % 4 = (k : Int) / 16 from by omega]
  unfold atT
  rw [h, okB_numA k hk, ← atI_kb (tOk_at h) hk]
  rfl

theorem outF_low {l : List R4} (h : tOk l = true) (b : List Bool) : 0 ≤ outF b l ∧ outF b l < 5 := by
  unfold outF
  cases hx : l.findIdx? (hasR b) with
  | none => exact ⟨Int.le_refl (0 : Int), show (0 : Int) < 5 by decide⟩
  | some i =>
    have hi := (List.findIdx?_eq_some_iff_getElem.1 hx).1
    have := (rOk_true (tOk_at h i hi)).2.2.1
    show 0 ≤ (ruAt l i).o ∧ (ruAt l i).o < 5
    omega
theorem toT_yes {l : List R4} (h : tOk l = true) {z : Int} (h1 : 0 ≤ z) (h2 : z < 5) : toT l z = tidyT (toM l z) := by
  unfold toT
  rw [h, inB_mk h1 (by omega)]
  rfl
theorem to_step {l : List R4} (h : tOk l = true) {z : Int} (h1 : 0 ≤ z) (h2 : z < 5) : cutN (fun b => outF b l) (z + 1) = cutN (fun b => outF b l) z + manyR (toT l z) := by
  rw [toT_yes h h1 h2, many_tidy (toM_len l z), cutN_step]
  rfl
theorem to_head {l : List R4} (h : tOk l = true) {z : Int} (h1 : 0 ≤ z) (h2 : z < 5) {k : Nat} (hk : k < 64) : inSp (toT l z) (f6 (hB ((k : Int) / 16 % 4) ((k : Int) / 4 % 4) ((k : Int) % 4))) = (outF (kb6 k) l == z) := by
  rw [show (k : Int) / 16 % 4 = (k : Int) / 16 from by omega, ← kb6_hB hk, toT_yes h h1 h2, toM, in_tab _ rfl]
  rfl
theorem do_head {l : List R4} (h : tOk l = true) {k : Nat} (hk : k < 64) : (doT ((k : Int) / 16 % 4) ((k : Int) / 4 % 4) ((k : Int) % 4) l).2 = outF (kb6 k) l := by
  rw [show (k : Int) / 16 % 4 = (k : Int) / 16 from by omega]
  unfold doT
  rw [h, okB_numA k hk, ← doI_kb (tOk_at h) hk]
  rfl

end Go.Proofs.YtehgpehhpijkjaaGreatDoor
