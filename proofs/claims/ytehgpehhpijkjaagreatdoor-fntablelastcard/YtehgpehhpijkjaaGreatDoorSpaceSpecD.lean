/-
  Chapter 3, what the model's SpaceTidy, SpaceOr, SpaceAnd, SpaceLess, SpaceMany return.
-/
import Derived.Test.YtehgpehhpijkjaaGreatDoorSpaceSp
import Derived.Test.YtehgpehhpijkjaaGreatDoorSpaceF
namespace Go.Proofs.YtehgpehhpijkjaaGreatDoor
open Go.ChangeShapes Go.WideShapes Go.ChangeAt Go.RowKit Go.Joins
set_option linter.unusedVariables false

theorem emptyRow (w : World) {base : Nat} (hb : base ≤ w.heap.size) : StrRow (w.alloc (.cells #[] 9)) base (.slice (some ⟨w.heap.size, 0, none⟩) 0 0) [] :=
  (World.ownsRow_made w #[] 0 (Nat.le_refl _) (Nat.zero_le _) rfl).mono hb

/-! ### How many -/

def cntB2 (m : List Bool) (k : Nat) : Nat := (m.take k).count true
theorem cntB2_step {m : List Bool} {k : Nat} (hk : k < m.length) : cntB2 m (k + 1) = cntB2 m k + (m.getD k false).toNat := by
  unfold cntB2
  have e : m.take (k + 1) = m.take k ++ [m.getD k false] := by
    rw [List.take_add_one, List.getElem?_eq_getElem hk, List.getD_eq_getElem?_getD, List.getElem?_eq_getElem hk]
    rfl
  rw [e, List.count_append]
  cases m.getD k false <;> simp
theorem cntB2_le (m : List Bool) (k : Nat) : cntB2 m k ≤ k := by
  unfold cntB2
  exact Nat.le_trans List.count_le_length (by simp; omega)
/-- 2 for each x. -/
def xsN (l : List UInt8) : Nat := 2 ^ (l.count 120)
theorem tidyB_count : ∀ (h : Nat) (m : List Bool), m.length = 2 ^ h → ((tidyB h m).map xsN).sum = m.count true
  | 0, m, hl => by
    match m, hl with
    | [true], _ => rfl
    | [false], _ => rfl
  | h + 1, m, hl => by
    have hp : 2 ^ (h + 1) = 2 ^ h + 2 ^ h := by rw [Nat.pow_succ]; omega
    have i0 := tidyB_count h (m.take (2 ^ h)) (by simp; omega)
    have i1 := tidyB_count h (m.drop (2 ^ h)) (by simp; omega)
    have hs : m.count true = (m.take (2 ^ h)).count true + (m.drop (2 ^ h)).count true := by rw [← List.count_append, List.take_append_drop]
    have x1 : ∀ L : List (List UInt8), ((L.map (fun l => 120 :: l)).map xsN).sum = 2 * (L.map xsN).sum := fun L => by
      induction L with
      | nil => rfl
      | cons a L ih =>
        simp only [List.map_cons, List.sum_cons, ih]
        simp [xsN, Nat.pow_succ]
        omega
    have x0 : ∀ (c : UInt8) (hc : (c == 120) = false) (L : List (List UInt8)), ((L.map (fun l => c :: l)).map xsN).sum = (L.map xsN).sum := fun c hc L => by
      induction L with
      | nil => rfl
      | cons a L ih =>
        simp only [List.map_cons, List.sum_cons, ih]
        simp only [xsN, List.count_cons, hc]
        simp
    rw [tidyB]
    cases he : (m.take (2 ^ h) == m.drop (2 ^ h))
    · rw [cond_false, List.map_append, List.sum_append, x0 48 rfl, x0 49 rfl, i0, i1, hs]
    · rw [cond_true, x1, i0, hs]
      rw [beq_iff_eq] at he
      rw [← he]
      omega
theorem cnt_pow : ∀ a b c d e f : Bool, (2 : Int) ^ (6 - cnt6 (!a) (!b) (!c) (!d) (!e) (!f)) = ((2 ^ (a.toNat + (b.toNat + (c.toNat + (d.toNat + (e.toNat + f.toNat))))) : Nat) : Int) := by decide
theorem manyB_xs {l : List UInt8} (h : l.length = 6) : manyB (cL l) = (xsN l : Int) := by
  obtain ⟨a, b, c, d, e, f, rfl⟩ := list6 h
  have k : ∀ x : UInt8, ∀ L : List UInt8, (x :: L).count 120 = (x == 120).toNat + L.count 120 := fun x L => by
    rw [List.count_cons]
    cases x == 120 <;> simp <;> omega
  unfold manyB xsN
  rw [k, k, k, k, k, k]
  exact cnt_pow _ _ _ _ _ _
theorem sumL6_count {m : List Bool} (hl : m.length = 64) : sumL6 (tidyB 6 m) = (m.count true : Int) := by
  rw [← tidyB_count 6 m hl]
  have : ∀ L : List (List UInt8), (∀ x ∈ L, x.length = 6) → sumL6 L = (((L.map xsN).sum : Nat) : Int) := fun L => by
    induction L with
    | nil => intro _; rfl
    | cons a L ih =>
      intro hL
      have e1 : sumL6 (a :: L) = manyB (cL a) + sumL6 L := by simp [sumL6]
      rw [e1, ih (fun x hx => hL x (List.mem_cons_of_mem _ hx)), manyB_xs (hL a (List.mem_cons_self ..))]
      simp
  exact this _ (fun x hx => tidyB_len 6 m x hx)

end Go.Proofs.YtehgpehhpijkjaaGreatDoor
