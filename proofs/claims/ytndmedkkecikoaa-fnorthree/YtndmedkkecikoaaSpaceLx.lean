/-
  Whether two slices of texts are the same, for the laws of chapter 3; canonical lists and their sets.
-/
import Derived.Test.YtndmedkkecikoaaSpaceF
import Derived.Test.YtndmedkkecikoaaSpaceSpecE
namespace Go.Proofs.Ytndmedkkecikoaa
open Go.ChangeShapes Go.WideShapes Go.ChangeAt Go.RowKit Go.Joins
set_option linter.unusedVariables false

/-- Two lists of texts are the same. -/
def sameT (l l' : List ByteArray) : Bool := decide (l = l')
theorem Strs.at2 {w : World} {v : Value} {l : List ByteArray} (h : Strs w w.heap.size v l) : ∃ (a : Option Addr) (cap : Nat), v = .slice a l.length cap ∧ l.length ≤ cap ∧ cap ≤ maxLen ∧ (l.length = 0 ∨ ∃ b off, a = some ⟨b, off, none⟩ ∧ b < w.heap.size ∧ Hid (∀ i, i < l.length → w.cell? ⟨b, off + i, none⟩ = some (.string (strAt l i)))) := by
  obtain ⟨a, cap, hv, hc, hm, h | ⟨b, off, h1, h2, h3⟩⟩ := h
  · exact ⟨a, cap, hv, hc, hm, .inl (by rw [h]; rfl)⟩
  · exact ⟨a, cap, hv, hc, hm, .inr ⟨b, off, h1, h2, h3⟩⟩

set_option maxRecDepth 100000 in
set_option maxHeartbeats 4000000 in
theorem lxTexts_any (w : World) (v v' : Value) (l l' : List ByteArray) (h : Strs w w.heap.size v l) (h' : Strs w w.heap.size v' l') :
    Calls Try.prog 23 #[v, v'] w fun e w' => e = .returned (.bool (sameT l l')) ∧ Below w.heap.size w w' := by
  obtain ⟨a, cap, rfl, hc, hm, hx⟩ := h.at2
  obtain ⟨a', cap', rfl, hc', hm', hx'⟩ := h'.at2
  unfold maxLen at hm hm'
  clear h h'
  by_cases hl : l.length = l'.length
  · have HE : Hid ((∀ j, j < l.length → strAt l j = strAt l' j) → sameT l l' = true) := fun hh => by unfold sameT; rw [beqL_step hl hh]; simp
    have HN : Hid (∀ j, strAt l j ≠ strAt l' j → sameT l l' = false) := fun j hj => by
      unfold sameT
      simp only [decide_eq_false_iff_not]
      rintro rfl
      exact hj rfl
    rw [← hl] at hc' hx' ⊢
    generalize hN : l.length = n at *
    clear hl hN
    go_enter Try.func23, Try.ntmps23
    go_wp2
    go_loopw [5] (fun i wr => ∃ k : Nat, k ≤ n ∧ i = .int .i64 k ∧ (∀ j, j < k → strAt l j = strAt l' j) ∧ Below w.heap.size w wr) (fun i _ => n - (intOf i).toNat)
    case atStart => exact ⟨0, Nat.zero_le _, rfl, fun j hj => absurd hj (Nat.not_lt_zero _), Below.refl _ _⟩
    case round =>
      obtain ⟨k, hk, rfl, hsame, hbel⟩ := hrel
      have HS := Lib.hid hsame
      clear hsame
      by_cases hlt : k < n
      · have hz : (k : Int) < (n : Int) := by omega
        rcases hx with h0 | ⟨b, off, rfl, hb, HC⟩
        · omega
        rcases hx' with h0 | ⟨b', off', rfl, hb', HC'⟩
        · omega
        have c1 : wr.cell? ⟨b, off + k, none⟩ = some (.string (strAt l k)) := (belCell hbel _ _ hb).trans (HC.out k hlt)
        have c2 : wr.cell? ⟨b', off' + k, none⟩ = some (.string (strAt l' k)) := (belCell hbel _ _ hb').trans (HC'.out k hlt)
        have HN1 := Lib.hid (HN.out k)
        have HE1 : Hid (strAt l k = strAt l' k → ∀ j, j < k + 1 → strAt l j = strAt l' j) := fun h j hj => by
          by_cases e : j = k
          · subst e; exact h
          · exact HS.out j (by omega)
        generalize strAt l k = x at *
        generalize strAt l' k = y at *
        by_cases hxy : x = y
        · subst hxy
          go_wp2_with fail
          go_quiet (fail)
          go_wp2
          go_roundw
          case rel => exact ⟨k + 1, by omega, by go_num, HE1.out trivial, belDrewN hbel _⟩
          case measure => simp [intOf]; omega
        · have hd2 : (x.toList == y.toList) = false := by
            simp only [ByteArray.toList_eq, beq_eq_false_iff_ne, ne_eq]
            intro e
            exact hxy (ByteArray.ext (Array.ext' e))
          have hd1 : (x == y) = false := by rw [beq_toListBytes]; exact hd2
          go_wp2_with fail
          go_quiet (fail)
          go_wp2
          go_ret
          exact ⟨congrArg (fun x => Ending.returned (Value.bool x)) (HN1.out hxy).symm, belDrewN hbel _⟩
      · obtain rfl : k = n := by omega
        go_wp2
        go_ret
        exact ⟨congrArg (fun x => Ending.returned (Value.bool x)) (HE.out HS.out).symm, hbel⟩
  · have HF : Hid (sameT l l' = false) := by show _ = _; unfold sameT; simp only [decide_eq_false_iff_not]; rintro rfl; exact hl rfl
    have hlz : ((l.length : Int) == (l'.length : Int)) = false := by simp; omega
    go_enter Try.func23, Try.ntmps23
    go_wp2
    go_ret
    exact ⟨congrArg (fun x => Ending.returned (Value.bool x)) HF.out.symm, Below.refl _ _⟩

/-! ### Canonical lists and their sets -/

theorem tidyT_inj {m m' : List Bool} (h : m.length = 64) (h' : m'.length = 64) : sameT (tidyT m) (tidyT m') = decide (m = m') := by
  unfold sameT
  by_cases e : m = m'
  · simp [e]
  · have : tidyT m ≠ tidyT m' := fun ht => e (by rw [← spL_tidy h, ← spL_tidy h', ht])
    simp [e, this]
theorem tidyT_nil {m : List Bool} (h : m.length = 64) : decide ((tidyT m).length = 0) = decide (m = noL 6) := by
  by_cases e : m = noL 6
  · have : tidyT m = [] := by rw [e, tidyT, tidyB_no]; rfl
    rw [decide_eq_true e, this]
    rfl
  · have : (tidyT m).length ≠ 0 := fun ht => e (by rw [← spL_tidy h, List.eq_nil_of_length_eq_zero ht, spL_nil])
    rw [decide_eq_false this, decide_eq_false e]
theorem zip64 (f : Bool → Bool → Bool) (l l' : List ByteArray) : (List.zipWith f (spL l) (spL l')).length = 64 := by simp [spL_len]
theorem sub_and : ∀ (m m' : List Bool), m.length = m'.length → (List.zipWith (fun x y => x && !y) m m' = List.replicate m.length false ↔ List.zipWith (fun x y => x && y) m m' = m)
  | [], [], _ => by simp
  | x :: m, y :: m', h => by
    have ih := sub_and m m' (by simpa using h)
    simp only [List.zipWith_cons_cons, List.length_cons, List.replicate_succ, List.cons.injEq, ih]
    cases x <;> cases y <;> simp
theorem sub_or : ∀ (m m' : List Bool), m.length = m'.length → (List.zipWith (fun x y => x && !y) m m' = List.replicate m.length false ↔ List.zipWith (fun x y => x || y) m m' = m')
  | [], [], _ => by simp
  | x :: m, y :: m', h => by
    have ih := sub_or m m' (by simpa using h)
    simp only [List.zipWith_cons_cons, List.length_cons, List.replicate_succ, List.cons.injEq, ih]
    cases x <;> cases y <;> simp

end Go.Proofs.Ytndmedkkecikoaa
