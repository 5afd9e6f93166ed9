/-
  Slices of strings: the statements' own copy; whether two are the same, in general.
-/
import Derived.Test.YtahobeigbjhbbaaGreatDoorStrIn
import Derived.Laws.OwnMore
namespace Go.Proofs.YtahobeigbjhbbaaGreatDoor
open Go.ChangeShapes Go.WideShapes Go.ChangeAt Go.RowKit Go.Joins
set_option linter.unusedVariables false

theorem made_one (z : Value) (n : Nat) : (madeCells #[z] n).toList = List.replicate n z := by
  simp only [madeCells, Array.toList_map, Array.toList_range]
  apply List.ext_getElem
  · simp
  · intro i h1 h2
    simp [Nat.mod_one]
theorem infoS : (Tryz.prog.info? 9).map (fun i => (i.zero, i.size, i.bytes)) = some (some (.string ⟨#[]⟩), 1, 16) := by kernel_rfl

/-- The first k of a list, and nothing behind them. -/
def fill (l : List ByteArray) (k : Nat) : List ByteArray := l.take k ++ List.replicate (l.length - k) ⟨#[]⟩
theorem fill_len (l : List ByteArray) {k : Nat} (hk : k ≤ l.length) : (fill l k).length = l.length := by simp [fill]; omega
theorem fill_zero (l : List ByteArray) : fill l 0 = List.replicate l.length ⟨#[]⟩ := by simp [fill]
theorem fill_all (l : List ByteArray) : fill l l.length = l := by simp [fill]
theorem fill_step (l : List ByteArray) {k : Nat} (hk : k < l.length) : fill l (k + 1) = (fill l k).set k (strAt l k) := by
  have ht : (l.take k).length = k := by simp; omega
  have e : l.take (k + 1) = l.take k ++ [strAt l k] := by
    rw [List.take_add_one, List.getElem?_eq_getElem hk, strAt, List.getD_eq_getElem?_getD, List.getElem?_eq_getElem hk]
    rfl
  unfold fill
  rw [List.set_append_right _ _ (by omega), ht, Nat.sub_self]
  obtain ⟨n, hn⟩ : ∃ n, l.length - k = n + 1 := ⟨l.length - k - 1, by omega⟩
  rw [hn, List.replicate_succ, List.set_cons_zero, e, show l.length - (k + 1) = n from by omega, List.append_assoc]
  rfl

theorem strs_max {l : List ByteArray} {n : Nat} (h : ∀ s ∈ l, s.size ≤ n) : ∀ i, i < l.length → (strAt l i).size ≤ n := fun i hi => h _ (by rw [strAt, List.getD_eq_getElem?_getD, List.getElem?_eq_getElem hi]; exact List.getElem_mem hi)
/-- Two slices of strings, whatever they hold. -/
theorem beqL_step {l l' : List ByteArray} (hl : l.length = l'.length) (h : ∀ j, j < l.length → strAt l j = strAt l' j) : l = l' := by
  apply List.ext_getElem hl
  intro i h1 h2
  have := h i h1
  rwa [strAt, strAt, List.getD_eq_getElem?_getD, List.getD_eq_getElem?_getD, List.getElem?_eq_getElem h1, List.getElem?_eq_getElem h2] at this

end Go.Proofs.YtahobeigbjhbbaaGreatDoor
