/-
  Chapter 3, what the model's SpaceOk returns.
-/
import Derived.Test.YtddkpimmcmnogabSpaceRead
import Derived.Test.YtddkpimmcmnogabWildSpec
namespace Go.Proofs.Ytddkpimmcmnogab
open Go.ChangeShapes Go.WideShapes Go.ChangeAt Go.RowKit Go.Joins
set_option linter.unusedVariables false

set_option maxRecDepth 100000 in
set_option maxHeartbeats 2000000 in
theorem sSpaceOk_any (w : World) (v : Value) (l : List ByteArray) (hl : Strs w w.heap.size v l) (hs : ∀ i, i < l.length → (strAt l i).size ≤ 1048576) :
    Calls Try.prog 9 #[v] w fun ex w' => ex = .returned (.bool (okSp l)) ∧ Below w.heap.size w w' := by
  obtain ⟨a, cap, rfl, hc, hm, hh⟩ := hl
  have HS := Lib.hid hs
  have HE : Hid ((∀ i, i < l.length → okS (strAt l i) = true) → okSp l = decide ((l.length : Int) ≤ 64)) := fun h => by
    by_cases h64 : l.length ≤ 64
    · rw [okSp_end h64 h]; symm; simp; omega
    · rw [okSp_long h64]; symm; simp; omega
  have HB : Hid (∀ k, k < l.length → okS (strAt l k) = false → okSp l = false) := fun k hk h => okSp_bad hk h
  have hnz : l.length = 0 ∨ ∃ b off, a = some ⟨b, off, none⟩ ∧ b < w.heap.size ∧ Hid (∀ i, i < l.length → w.cell? ⟨b, off + i, none⟩ = some (.string (strAt l i))) := by
    rcases hh with h | ⟨b, off, h1, h2, h3⟩
    · exact .inl (by rw [h]; rfl)
    · exact .inr ⟨b, off, h1, h2, h3⟩
  clear hh hs
  unfold maxLen at hm
  generalize hN : l.length = n at *
  go_enter Try.func9, Try.ntmps9
  go_wp2
  go_loopw [3] (fun i wr => ∃ k : Nat, k ≤ n ∧ i = .int .i64 k ∧ (∀ j, j < k → okS (strAt l j) = true) ∧ Below w.heap.size w wr) (fun i _ => n - (intOf i).toNat)
  case atStart => exact ⟨0, Nat.zero_le _, rfl, fun j hj => absurd hj (Nat.not_lt_zero _), Below.refl _ _⟩
  case round =>
    obtain ⟨k, hk, rfl, hok, hbel⟩ := hrel
    have HK := Lib.hid hok
    clear hok
    by_cases hlt : k < n
    · have hkz : (k : Int) < (n : Int) := by omega
      rcases hnz with h0 | ⟨b, off, rfl, hb, HC⟩
      · omega
      have c1 : wr.cell? ⟨b, off + k, none⟩ = some (.string (strAt l k)) := (belCell hbel _ _ hb).trans (HC.out k hlt)
      have hsz := HS.out k hlt
      have HB1 := Lib.hid (HB.out k hlt)
      have HE1 : Hid (okS (strAt l k) = true → ∀ j, j < k + 1 → okS (strAt l j) = true) := fun h j hj => by
        by_cases e : j = k
        · subst e; exact h
        · exact HK.out j (by omega)
      generalize strAt l k = s at *
      go_wp2_with fail
      refine (sWildOk_any s hsz _).mono ?_
      rintro e w1 ⟨rfl, rfl⟩
      have B1 := Lib.hid hbel
      clear hbel c1
      cases hks : okS s
      · go_wp2
        go_ret
        exact ⟨congrArg (fun x => Ending.returned (Value.bool x)) (HB1.out hks).symm, B1.out⟩
      · go_wp2
        go_roundw
        case rel => exact ⟨k + 1, by omega, by go_num, HE1.out hks, B1.out⟩
        case measure => simp [intOf]; omega
    · obtain rfl : k = n := by omega
      go_wp2
      go_ret
      exact ⟨congrArg (fun x => Ending.returned (Value.bool x)) (HE.out HK.out).symm, hbel⟩

end Go.Proofs.Ytddkpimmcmnogab
