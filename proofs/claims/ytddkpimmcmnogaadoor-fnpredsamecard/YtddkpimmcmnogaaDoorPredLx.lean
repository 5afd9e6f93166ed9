/-
  What the statements on drawn conditions ask of texts: the program's answers and the model's, at every text of at most 1000 bytes.
-/
import Derived.Test.YtddkpimmcmnogaaDoorPredPartsAll
import Derived.Test.YtddkpimmcmnogaaDoorPredB
namespace Go.Proofs.YtddkpimmcmnogaaDoor
open Go.ChangeShapes Go.WideShapes Go.ChangeAt Go.RowKit Go.Joins
set_option linter.unusedVariables false

/-- The bytes of a text. -/
def lB (s : ByteArray) : List UInt8 := s.data.toList
theorem lB_len (s : ByteArray) : (lB s).length = s.size := Array.length_toList
theorem lB_bs (l : List UInt8) : lB (bs l) = l := by simp [lB, bs]
theorem bs_lB (s : ByteArray) : bs (lB s) = s := bs_list s

theorem iOk_at (s : ByteArray) (hs : s.size ≤ 1000) (ep : Addr) (w : World) (hE : w.cell? ⟨0, 0, none⟩ = some (errV ep)) :
    Calls Tryd.prog 16 #[.string s] w fun e w' => e = .returned (.bool (whole (lB s)).isSome) ∧ Below w.heap.size w w' := by
  have := iPredOk_any (lB s) (by rw [lB_len]; omega) ep w hE
  rwa [bs_lB] at this
theorem sOk_at (s : ByteArray) (hs : s.size ≤ 1000) (w : World) :
    Calls Tryd.prog 15 #[.string s] w fun e w' => e = .returned (.bool (whole (lB s)).isSome) ∧ Below w.heap.size w w' := by
  have := sPredOk_any (lB s) (by rw [lB_len]; omega) w
  rwa [bs_lB] at this

theorem iDeep_at (s : ByteArray) (hs : s.size ≤ 1000) (ep : Addr) (w : World) (hE : w.cell? ⟨0, 0, none⟩ = some (errV ep)) :
    Calls Tryd.prog 28 #[.string s] w fun e w' => e = .returned (.int .i64 (deepL (lB s))) ∧ Below w.heap.size w w' := by
  have := iPredDeep_any (lB s) (by rw [lB_len]; omega) ep w hE
  rwa [bs_lB] at this
theorem sDeep_at (s : ByteArray) (hs : s.size ≤ 1000) (w : World) :
    Calls Tryd.prog 27 #[.string s] w fun e w' => e = .returned (.int .i64 (deepL (lB s))) ∧ Below w.heap.size w w' := by
  have := sPredDeep_any (lB s) (by rw [lB_len]; omega) w
  rwa [bs_lB] at this

theorem iParts_at (s : ByteArray) (hs : s.size ≤ 1000) (ep : Addr) (w : World) (hE : w.cell? ⟨0, 0, none⟩ = some (errV ep)) :
    Calls Tryd.prog 18 #[.string s] w fun e w' => ∃ v, e = .returned v ∧ StrRow w' w.heap.size v (partsT (lB s)) ∧ Below w.heap.size w w' := by
  have := iPredParts_any (lB s) (by rw [lB_len]; omega) ep w hE
  rwa [bs_lB] at this
theorem sParts_at (s : ByteArray) (hs : s.size ≤ 1000) (w : World) :
    Calls Tryd.prog 17 #[.string s] w fun e w' => ∃ v, e = .returned v ∧ StrRow w' w.heap.size v (partsT (lB s)) ∧ Below w.heap.size w w' := by
  have := sPredParts_any (lB s) (by rw [lB_len]; omega) w
  rwa [bs_lB] at this

theorem iHas_at (s : ByteArray) (hs : s.size ≤ 1000) (x y z : Int) (ep : Addr) (w : World) (hE : w.cell? ⟨0, 0, none⟩ = some (errV ep)) :
    Calls Tryd.prog 24 #[.string s, .agg #[.int .i64 x, .int .i64 y, .int .i64 z]] w fun e w' => e = .returned (.bool (hasL (lB s) x y z)) ∧ Below w.heap.size w w' := by
  have := iPredHas_any (lB s) (by rw [lB_len]; omega) x y z ep w hE
  rwa [bs_lB] at this
theorem sHas_at (s : ByteArray) (hs : s.size ≤ 1000) (x y z : Int) (w : World) :
    Calls Tryd.prog 22 #[.string s, .agg #[.int .i64 x, .int .i64 y, .int .i64 z]] w fun e w' => e = .returned (.bool (hasL (lB s) x y z)) ∧ Below w.heap.size w w' := by
  have := sPredHas_any (lB s) (by rw [lB_len]; omega) x y z w
  rwa [bs_lB] at this

/-- The cells of a row of a call's own. -/
theorem rowForm {w : World} {base : Nat} {v : Value} {l : List ByteArray} (h : StrRow w base v l) (hl : l ≠ []) :
    ∃ g cap, v = .slice (some ⟨g, 0, none⟩) l.length cap ∧ base ≤ g ∧ g < w.heap.size ∧ l.length ≤ cap ∧ cap ≤ 9223372036854775807 ∧ ∀ j s, l[j]? = some s → w.cell? ⟨g, j, none⟩ = some (.string s) := by
  rcases h.form with ⟨rfl, rfl⟩ | ⟨g, cap, rfl, hb, hg, hc, hm, hcell, hfr⟩
  · exact absurd rfl hl
  · refine ⟨g, cap, rfl, hb, hg, hc, by simpa [maxLen] using hm, fun j s hj => ?_⟩
    have hlt : j < l.length := by
      rcases Nat.lt_or_ge j l.length with h | h
      · exact h
      · rw [List.getElem?_eq_none h] at hj
        cases hj
    rw [hcell j hlt, strAt, List.getD_eq_getElem?_getD, hj]
    rfl

theorem deepL_txt {c : Cnd} (hk : c.ok = true) (h16 : c.txt.length ≤ 16) : deepL (lB (bs c.txt)) = (c.deep : Int) := by
  rw [lB_bs]
  unfold deepL
  rw [whole_of hk h16]

end Go.Proofs.YtddkpimmcmnogaaDoor
