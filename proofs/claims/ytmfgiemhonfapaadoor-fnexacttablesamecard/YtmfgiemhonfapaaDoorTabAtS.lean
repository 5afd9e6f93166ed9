/-
  The model's TableAt: the first rule that is of a head.
-/
import Derived.Test.YtmfgiemhonfapaaDoorTabHandle
import Derived.Test.YtmfgiemhonfapaaDoorTabSpec
namespace Go.Proofs.YtmfgiemhonfapaaDoor
open Go.ChangeShapes Go.WideShapes Go.ChangeAt Go.RowKit Go.Joins
set_option linter.unusedVariables false

/-- The place of the first rule that is of a head. -/
def atI (a b c : Int) (l : List R4) : Int := match l.findIdx? (mR a b c) with | none => -1 | some i => i
theorem atI_none {a b c : Int} {l : List R4} (h : ∀ j, j < l.length → mR a b c (ruAt l j) = false) : atI a b c l = -1 := by
  have e : l.findIdx? (mR a b c) = none := by
    rw [List.findIdx?_eq_none_iff]
    intro r hr
    obtain ⟨j, hj, rfl⟩ := List.getElem_of_mem hr
    have := h j hj
    rw [ruAt_lt hj] at this
    simpa using this
  unfold atI
  rw [e]
theorem find_some {a b c : Int} {l : List R4} {k : Nat} (hk : k < l.length) (h : ∀ j, j < k → mR a b c (ruAt l j) = false) (hx : mR a b c (ruAt l k) = true) : l.findIdx? (mR a b c) = some k := by
  rw [List.findIdx?_eq_some_iff_getElem]
  refine ⟨hk, by rw [← ruAt_lt hk]; exact hx, fun j hj => ?_⟩
  have := h j hj
  rw [ruAt_lt (show j < l.length by omega)] at this
  rw [this]
  decide
theorem atI_some {a b c : Int} {l : List R4} {k : Nat} (hk : k < l.length) (h : ∀ j, j < k → mR a b c (ruAt l j) = false) (hx : mR a b c (ruAt l k) = true) : atI a b c l = k := by
  unfold atI
  rw [find_some hk h hx]
theorem mR_has {a b c : Int} (ho : okB a b c = true) {r : R4} (hr : okR r = true) : mR a b c r = hasM (cf r.s) (vf r.s) (hB a b c) := by
  have hs := (rOk_true hr).2.1
  unfold mR doB hasS
  rw [show rOk r.p r.s r.o r.t = true from hr, ho, hs]
  rfl

theorem trio3 {w : World} {b : Nat} {x y z : Value} {t : TypeId} (h : w.heap[b]? = some (.cells #[x, y, z] t)) : w.cell? ⟨b, 0, none⟩ = some x ∧ w.cell? ⟨b, 1, none⟩ = some y ∧ w.cell? ⟨b, 2, none⟩ = some z := ⟨(cells3 h).1, (cells3 h).2.1, (cells3 h).2.2.1⟩
theorem tOk_at {l : List R4} (h : tOk l = true) : ∀ i, i < l.length → okR (ruAt l i) = true := by
  simp only [tOk, Bool.and_eq_true] at h
  exact fun i hi => (chain_at l h.2 i hi).1
theorem tOk_len {l : List R4} (h : tOk l = true) : l.length ≤ 48 := by
  simp only [tOk, Bool.and_eq_true, decide_eq_true_eq] at h
  exact h.1
/-- What TableAt returns. -/
def atT (a b c : Int) (l : List R4) : Int := bif tOk l && okB a b c then atI a b c l else -1
/-- The head and the port that come of a head. -/
def doI (a b c : Int) (l : List R4) : (Int × Int × Int) × Int := match l.findIdx? (mR a b c) with
  | none => ((a, b, c), 0)
  | some i => ((a, b, tagTo (ruAt l i).t c), (ruAt l i).o)
theorem hdV_eq (a b c : Int) (l : List R4) : hdV a b c l = .tuple #[.int .i64 (atI a b c l), .agg #[.int .i64 (doI a b c l).1.1, .int .i64 (doI a b c l).1.2.1, .int .i64 (doI a b c l).1.2.2], .int .i64 (doI a b c l).2] := by
  unfold hdV atI doI
  cases l.findIdx? (mR a b c) <;> rfl
/-- What TableDo returns. -/
def doT (a b c : Int) (l : List R4) : (Int × Int × Int) × Int := bif tOk l && okB a b c then doI a b c l else ((0, 0, 0), 0)

end Go.Proofs.YtmfgiemhonfapaaDoor
