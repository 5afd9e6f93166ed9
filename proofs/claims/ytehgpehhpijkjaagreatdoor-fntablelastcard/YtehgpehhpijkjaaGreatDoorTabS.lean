/-
  Slices of rules: what the statements' own helpers do with them: their sizes, a copy, whether two are the same.
-/
import Derived.Test.YtehgpehhpijkjaaGreatDoorTabMath
import Derived.Test.YtehgpehhpijkjaaGreatDoorExtReg
namespace Go.Proofs.YtehgpehhpijkjaaGreatDoor
open Go.ChangeShapes Go.WideShapes Go.ChangeAt Go.RowKit Go.Joins
set_option linter.unusedVariables false

/-- The first k of a list, and nothing behind them. -/
def fillR (l : List R4) (k : Nat) : List R4 := l.take k ++ List.replicate (l.length - k) zR
theorem fillR_len (l : List R4) {k : Nat} (hk : k ≤ l.length) : (fillR l k).length = l.length := by simp [fillR]; omega
theorem fillR_zero (l : List R4) : fillR l 0 = List.replicate l.length zR := by simp [fillR]
theorem fillR_all (l : List R4) : fillR l l.length = l := by simp [fillR]
theorem fillR_step (l : List R4) {k : Nat} (hk : k < l.length) : fillR l (k + 1) = (fillR l k).set k (ruAt l k) := by
  have ht : (l.take k).length = k := by simp; omega
  have e : l.take (k + 1) = l.take k ++ [ruAt l k] := by
    rw [List.take_add_one, List.getElem?_eq_getElem hk, ruAt_lt hk]
    rfl
  unfold fillR
  rw [List.set_append_right _ _ (by omega), ht, Nat.sub_self]
  obtain ⟨n, hn⟩ : ∃ n, l.length - k = n + 1 := ⟨l.length - k - 1, by omega⟩
  rw [hn, List.replicate_succ, List.set_cons_zero, e, show l.length - (k + 1) = n from by omega, List.append_assoc]
  rfl
theorem fl_zero (n : Nat) : (List.replicate n zR).flatMap R4.cs = (madeCells (Value.agg #[.int .i64 0, .string ⟨#[]⟩, .int .i64 0, .int .i64 0]).cells (n * 4)).toList := by
  apply List.ext_getElem?
  intro j
  by_cases hj : j < n * 4
  · have e : j = (j / 4) * 4 + j % 4 := by omega
    have hq : j / 4 < n := by omega
    have h1 : (madeCells (Value.agg #[.int .i64 0, .string ⟨#[]⟩, .int .i64 0, .int .i64 0]).cells (n * 4)).toList[j]? = (R4.cs zR)[j % 4]? := by
      simp only [madeCells, Array.toList_map, Array.toList_range, List.getElem?_map, List.getElem?_range hj, Option.map_some]
      have hm : j % 4 < 4 := Nat.mod_lt _ (by decide)
      have : j % 4 = 0 ∨ j % 4 = 1 ∨ j % 4 = 2 ∨ j % 4 = 3 := by omega
      rcases this with h | h | h | h <;> (simp [Value.cells, h]; rfl)
    rw [h1]
    conv => lhs; rw [e]
    rw [fl_at _ _ _ (by simpa using hq) (Nat.mod_lt _ (by decide))]
    rw [show ruAt (List.replicate n zR) (j / 4) = zR from by rw [ruAt_lt (by simpa using hq)]; simp]
  · rw [List.getElem?_eq_none (by rw [fl_len]; simp; omega), List.getElem?_eq_none (by rw [Array.length_toList, size_madeCells]; omega)]
theorem infoR : (Tryz.prog.info? 31).map (fun i => (i.zero, i.size, i.bytes)) = some (some (.agg #[.int .i64 0, .string ⟨#[]⟩, .int .i64 0, .int .i64 0]), 4, 40) := by kernel_rfl

end Go.Proofs.YtehgpehhpijkjaaGreatDoor
