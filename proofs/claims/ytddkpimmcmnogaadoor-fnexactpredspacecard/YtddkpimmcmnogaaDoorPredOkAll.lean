/-
  Whether a text is a condition: what the program answers, and what the model answers: the same, at every text.
-/
import Derived.Test.YtddkpimmcmnogaaDoorPredImpl
import Derived.Test.YtddkpimmcmnogaaDoorPredEnd
namespace Go.Proofs.YtddkpimmcmnogaaDoor
open Go.ChangeShapes Go.WideShapes Go.ChangeAt Go.RowKit Go.Joins
set_option linter.unusedVariables false

set_option maxHeartbeats 1000000 in
theorem iPredOk_any (l : List UInt8) (hl : l.length ≤ 1048576) (ep : Addr) (w : World) (hE : w.cell? ⟨0, 0, none⟩ = some (errV ep)) :
    Calls Tryd.prog 16 #[.string (bs l)] w fun e w' => e = .returned (.bool (whole l).isSome) ∧ Below w.heap.size w w' := by
  have hg := World.block_lt_of_cell? _ _ hE
  have HE : Hid (∀ W : World, Below w.heap.size w W → W.cell? ⟨0, 0, none⟩ = some (.iface 126 (.pointer (some ep)))) := fun W hb => cellLater hE hb
  cases hw : whole l with
  | some c =>
    obtain ⟨rfl, hk, h16⟩ := whole_some hw
    rw [Option.isSome_some]
    have HC := Lib.hid (readPred_yes c hk h16 ep w hE)
    unfold Whole at HC
    clear hE hw hl h16 hk
    generalize bs c.txt = s at *
    go_enter Tryd.func16, Tryd.ntmps16
    go_wp2_with fail
    refine HC.out.mono ?_
    rintro e w1 ⟨ad, n1, c1, k1, caps, rfl, hR, b1⟩
    have hE1 := HE.out _ b1
    have hg1 : 0 < w1.heap.size := by have := b1.size; omega
    have B1 := Lib.hid b1
    clear hR HC b1
    go_wp2_with fail
    refine (is_nil _ _).mono ?_
    rintro e w2 ⟨rfl, rfl⟩
    go_wp2
    go_ret
    exact ⟨rfl, by repeat (first | exact B1.out | refine Below.drew ?_ | refine Below.alloc ?_ (by have := B1.out.size; omega) _)⟩
  | none =>
    rw [Option.isSome_none]
    have HC := Lib.hid (readPred_no l hw hl ep w hE)
    unfold NoWhole errV at HC
    clear hE hw hl
    generalize bs l = s at *
    go_enter Tryd.func16, Tryd.ntmps16
    go_wp2_with fail
    refine HC.out.mono ?_
    rintro e w1 ⟨rfl, b1⟩
    have hE1 := HE.out _ b1
    have hg1 : 0 < w1.heap.size := by have := b1.size; omega
    have B1 := Lib.hid b1
    clear HC b1
    go_wp2_with fail
    refine (is_same _ _).mono ?_
    rintro e w2 ⟨rfl, rfl⟩
    go_wp2
    go_ret
    exact ⟨rfl, by repeat (first | exact B1.out | refine Below.drew ?_ | refine Below.alloc ?_ (by have := B1.out.size; omega) _)⟩

set_option maxHeartbeats 1000000 in
theorem sPredOk_gen (s : ByteArray) (hq : (s.toList == []) = false) (h16 : s.size ≤ 16) (V : Int) (hV : ∀ W : World, Calls Tryd.prog 38 #[.string s, .int .i64 0] W fun e w' => e = .returned (.int .i64 V) ∧ Below W.heap.size W w') (w : World) :
    Calls Tryd.prog 15 #[.string s] w fun e w' => e = .returned (.bool (V == (s.size : Int))) ∧ Below w.heap.size w w' := by
  have HV := Lib.hid hV
  clear hV
  go_enter Tryd.func15, Tryd.ntmps15
  go_wp2_with fail
  refine (HV.out _).mono ?_
  rintro e w1 ⟨rfl, b1⟩
  go_wp2
  go_ret
  exact ⟨rfl, b1⟩

set_option maxHeartbeats 1000000 in
theorem sPredOk_long (s : ByteArray) (hq : (s.toList == []) = false) (h16 : 16 < s.size) (hL : s.size ≤ 2000000) (w : World) :
    Calls Tryd.prog 15 #[.string s] w fun e w' => e = .returned (.bool false) ∧ Below w.heap.size w w' := by
  have d16 : decide ((s.size : Int) ≤ 16) = false := by simp; omega
  go_enter Tryd.func15, Tryd.ntmps15
  go_wp2
  go_ret
  exact ⟨rfl, Below.refl _ _⟩

set_option maxHeartbeats 1000000 in
theorem sPredOk_nil (s : ByteArray) (hq : (s.toList == []) = true) (w : World) :
    Calls Tryd.prog 15 #[.string s] w fun e w' => e = .returned (.bool false) ∧ Below w.heap.size w w' := by
  go_enter Tryd.func15, Tryd.ntmps15
  go_wp2
  go_ret
  exact ⟨rfl, Below.refl _ _⟩

theorem bs_some {l : List UInt8} (h : l ≠ []) : ((bs l).toList == []) = false := by
  rw [bs_toList]
  cases l with
  | nil => exact absurd rfl h
  | cons a b => rfl

theorem sPredOk_any (l : List UInt8) (hl : l.length ≤ 1048576) (w : World) :
    Calls Tryd.prog 15 #[.string (bs l)] w fun e w' => e = .returned (.bool (whole l).isSome) ∧ Below w.heap.size w w' := by
  cases hw : whole l with
  | some c =>
    obtain ⟨rfl, hk, h16⟩ := whole_some hw
    refine (sPredOk_gen (bs c.txt) (bs_some c.txt_ne) (by rw [bs_size]; exact h16) (c.txt.length : Int) (fun W => ?_) w).mono ?_
    · have h := end_yes c hk [] [] (by simp; omega) W
      simpa using h
    · rintro e w1 ⟨rfl, b1⟩
      exact ⟨by simp [bs_size], b1⟩
  | none =>
    rcases whole_none hw with h1 | ⟨h1, h2⟩ | ⟨h1, c, r, rfl, hk, hr⟩
    · exact sPredOk_long _ (bs_some (by rintro rfl; simp at h1)) (by rw [bs_size]; exact h1) (by rw [bs_size]; omega) w
    · by_cases hn : l = []
      · subst hn
        exact sPredOk_nil _ (by rw [bs_toList]; rfl) w
      · refine (sPredOk_gen (bs l) (bs_some hn) (by rw [bs_size]; exact h1) (-1) (fun W => ?_) w).mono ?_
        · exact end_no _ l (Nat.le_refl _) h2 [] (by simp; omega) W
        · rintro e w1 ⟨rfl, b1⟩
          refine ⟨?_, b1⟩
          rw [show ((-1 : Int) == ((bs l).size : Int)) = false from by first | (simp; done) | (simp; omega)]
          rfl
    · refine (sPredOk_gen (bs (c.txt ++ r)) (bs_some (by simp [c.txt_ne])) (by rw [bs_size]; exact h1) (c.txt.length : Int) (fun W => ?_) w).mono ?_
      · have h := end_yes c hk [] r (by simp at h1 ⊢; omega) W
        simpa using h
      · rintro e w1 ⟨rfl, b1⟩
        refine ⟨?_, b1⟩
        have : 1 ≤ r.length := by cases r with
          | nil => exact absurd rfl hr
          | cons a b => simp
        rw [show ((c.txt.length : Int) == ((bs (c.txt ++ r)).size : Int)) = false from by rw [bs_size]; simp; omega]
        rfl

end Go.Proofs.YtddkpimmcmnogaaDoor
