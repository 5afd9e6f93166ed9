/-
  What the patterns that the statements draw are: short texts; the reader's place goes on, and nothing else that was there changes.
-/
import Derived.Test.YtennaeboemlnoaaDoorWildSpecB
import Derived.Test.YtennaeboemlnoaaDoorDrawHead
import Derived.Deep.RegionHeld3
namespace Go.Proofs.YtennaeboemlnoaaDoor
open Go.ChangeShapes Go.WideShapes Go.ChangeAt Go.RowKit Go.Joins
set_option linter.unusedVariables false

/-- One of a list of strings is picked. -/
def OfSome (P : ByteArray → Prop) (g B : Nat) (w : World) (e : Ending) (w' : World) : Prop :=
  ∃ s, P s ∧ e = .returned (.string s) ∧ RdOk w' g (B + 1) ∧ w.grownBy w' (some g)

set_option maxHeartbeats 400000 in
theorem of_some (w : World) (g B j k : Nat) (P : ByteArray → Prop) (hr : RdOk w g B) (hB : B ≤ 1000000000) (hk : 1 ≤ k) (hk2 : k ≤ 1000) (hne : j ≠ g) (hj : j < w.heap.size)
    (hc : ∀ i, i < k → ∃ s, P s ∧ w.cell? ⟨j, i, none⟩ = some (.string s)) :
    Calls Tryd.prog 89 #[.pointer (some ⟨g, 0, none⟩), .slice (some ⟨j, 0, none⟩) k k] w (OfSome P g B w) := by
  have HR := Lib.hid hr
  have HC := Lib.hid hc
  clear hr hc
  go_enter Tryd.func89, Tryd.ntmps89
  go_wp2_with fail
  refine (pick_any _ _ _ _ HR.out hB (by omega)).mono ?_
  rintro e w1 ⟨v, v0, v1, rfl, hr1, g1⟩
  have HR1 := Lib.hid hr1
  clear hr1
  obtain ⟨s, hs, hcs⟩ := HC.out v.toNat (by omega)
  have hcell : w1.cell? ⟨j, v.toNat, none⟩ = some (.string s) := (gCell g1 _ hj hne).trans hcs
  have HS := Lib.hid hs
  clear hs
  go_wp2
  go_ret
  exact ⟨s, HS.out, rfl, HR1.out, g1⟩

theorem rdDrew {w : World} {g B : Nat} (h : RdOk w g B) : RdOk w.drew g B := h.keep fun _ _ => rfl

/-- Four strings in a block. -/
theorem fourCells {w : World} {j : Nat} {t : TypeId} {s0 s1 s2 s3 : ByteArray} (P : ByteArray → Prop) (h : w.heap[j]? = some (.cells #[.string s0, .string s1, .string s2, .string s3] t))
    (h0 : P s0) (h1 : P s1) (h2 : P s2) (h3 : P s3) : ∀ i, i < 4 → ∃ s, P s ∧ w.cell? ⟨j, i, none⟩ = some (.string s) := by
  intro i hi
  rw [cell_of_block h]
  obtain rfl | rfl | rfl | rfl : i = 0 ∨ i = 1 ∨ i = 2 ∨ i = 3 := by omega
  · exact ⟨_, h0, rfl⟩
  · exact ⟨_, h1, rfl⟩
  · exact ⟨_, h2, rfl⟩
  · exact ⟨_, h3, rfl⟩
theorem threeCells {w : World} {j : Nat} {t : TypeId} {s0 s1 s2 : ByteArray} (P : ByteArray → Prop) (h : w.heap[j]? = some (.cells #[.string s0, .string s1, .string s2] t))
    (h0 : P s0) (h1 : P s1) (h2 : P s2) : ∀ i, i < 3 → ∃ s, P s ∧ w.cell? ⟨j, i, none⟩ = some (.string s) := by
  intro i hi
  rw [cell_of_block h]
  obtain rfl | rfl | rfl : i = 0 ∨ i = 1 ∨ i = 2 := by omega
  · exact ⟨_, h0, rfl⟩
  · exact ⟨_, h1, rfl⟩
  · exact ⟨_, h2, rfl⟩

/-- A text of at most seven bytes is drawn by the reader at block g. -/
def WildDrawn (g B : Nat) (w : World) (e : Ending) (w' : World) : Prop :=
  ∃ s : ByteArray, s.size ≤ 7 ∧ e = .returned (.string s) ∧ RdOk w' g (B + 8) ∧ w.grownBy w' (some g)

set_option maxRecDepth 100000 in
set_option maxHeartbeats 2000000 in
theorem l91Wild_any (w : World) (g B : Nat) (hr : RdOk w g B) (hB : B ≤ 100000000) :
    Calls Tryd.prog 93 #[.pointer (some ⟨g, 0, none⟩)] w (WildDrawn g B w) := by
  have hlt := hr.lt
  have HR := Lib.hid hr
  clear hr
  go_enter Tryd.func93, Tryd.ntmps93
  go_wp2
  go_loopw [3, 4] (fun o i wr => ∃ k : Nat, k ≤ 6 ∧ i = .int .i64 k ∧ (∃ s : ByteArray, s.size = k ∧ o = .string s) ∧ RdOk wr g (B + k) ∧ w.grownBy wr (some g)) (fun _ i _ => 6 - (intOf i).toNat)
  case atStart => exact ⟨0, Nat.zero_le _, rfl, ⟨_, rfl, rfl⟩, HR.out, gRefl _ _⟩
  case round =>
    obtain ⟨k, hk, rfl, ⟨s, hs, rfl⟩, hrd, hgr⟩ := hrel
    have HRD := Lib.hid hrd
    have s0 := hgr.size
    clear hrd
    by_cases hlt6 : k < 6
    · have HRs := Lib.hid (HRD.out.alloc (.cells #[.string ⟨#[48]⟩, .string ⟨#[49]⟩, .string ⟨#[120]⟩, .string ⟨#[120]⟩] 9))
      have HC := Lib.hid (fourCells (fun s => s.size = 1) (newBlock wr (.cells #[.string ⟨#[48]⟩, .string ⟨#[49]⟩, .string ⟨#[120]⟩, .string ⟨#[120]⟩] 9)) rfl rfl rfl rfl)
      go_wp2_with fail
      refine (of_some _ _ _ _ _ (fun s => s.size = 1) HRs.out (by omega) (by omega) (by omega) (by omega) (by simp) HC.out).mono ?_
      rintro e w1 ⟨t, ht, rfl, hr1, g1⟩
      have HR1 := Lib.hid hr1
      clear hr1
      go_wp2
      go_roundw
      case rel => exact ⟨k + 1, by omega, by go_num, ⟨_, by rw [ByteArray.size_append, hs, ht], rfl⟩, HR1.out, gTrans (gAlloc hgr _) g1⟩
      case measure => simp [intOf]; omega
    · obtain rfl : k = 6 := by omega
      go_wp2_with fail
      refine (pick_any _ _ _ _ HRD.out (by omega) (by omega)).mono ?_
      rintro e w1 ⟨v, v0, v1, rfl, hr1, g1⟩
      have HR1 := Lib.hid hr1
      clear hr1
      have s1 := g1.size
      have G1 : Hid (w.grownBy w1 (some g)) := gTrans hgr g1
      by_cases hv : v = 0
      · subst hv
        obtain ⟨t, ht, hsl⟩ : ∃ t : ByteArray, t.size = 5 ∧ ∀ W : World, (Instr.slice 9 (.string s) (some (.int .i64 1)) none none).run Tryd.prog W = .ok (.string t) W := by
          refine ⟨s.extract 1 s.size, by simp [hs], fun W => ?_⟩
          rw [run_slice_string_from_if (P := Tryd.prog) W 9 s .i64 1 Tryd.underlying9]
          simp [hs]
        have n0 := newBlock w1 (.cells #[.string ⟨#[]⟩, .string t, .string (s ++ ⟨#[48]⟩), .string (⟨#[50]⟩ ++ t)] 9)
        have HO := Lib.hid (of_some (w1.alloc (.cells #[.string ⟨#[]⟩, .string t, .string (s ++ ⟨#[48]⟩), .string (⟨#[50]⟩ ++ t)] 9)).drew g (B + 6 + 1) w1.heap.size 4 (fun s => s.size ≤ 7)
          (rdDrew (HR1.out.alloc _)) (by omega) (by omega) (by omega) (by omega) (by simp)
          (fourCells (w := (w1.alloc _).drew) (fun s => s.size ≤ 7) n0 (by decide) (by omega) (by rw [ByteArray.size_append, hs]; decide) (by rw [ByteArray.size_append, ht]; decide)))
        have hq1 : (⟨#[48]⟩ : ByteArray).size = 1 := rfl
        have hq2 : (⟨#[50]⟩ : ByteArray).size = 1 := rfl
        clear n0
        go_wp2_with fail
        go_region_held3 (fun w' => True) (trivial)
          (first
            | (go_at_call 89; ((with_reducible refine HO.out.mono ?_); rintro e w6 ⟨t', ht', rfl, hr6, g6⟩)))
        have HR6 := Lib.hid hr6
        clear hr6
        go_wp2
        go_ret
        exact ⟨t', ht', rfl, HR6.out, gTrans (gAlloc G1.out _) ⟨g6.os, g6.tape, g6.output, g6.size, g6.block⟩⟩
      · have e0 : (v == 0) = false := by simpa using hv
        have HR2 := Lib.hid (HR1.out.le (B' := B + 8) (by omega))
        go_wp2
        go_ret
        exact ⟨s, by omega, rfl, HR2.out, G1.out⟩

/-- A short text is drawn from a code; two of them; one, and a head. -/
def TextDrawn (w : World) (e : Ending) (w' : World) : Prop := ∃ s : ByteArray, s.size ≤ 8 ∧ e = .returned (.string s) ∧ Below w.heap.size w w'
def TwoDrawn (w : World) (e : Ending) (w' : World) : Prop := ∃ s t : ByteArray, s.size ≤ 8 ∧ t.size ≤ 8 ∧ e = .returned (.tuple #[.string s, .string t]) ∧ Below w.heap.size w w'
def TextHeadDrawn (w : World) (e : Ending) (w' : World) : Prop := ∃ (s : ByteArray) (x y z : Int), s.size ≤ 8 ∧ e = .returned (.tuple #[.string s, .agg #[.int .i64 x, .int .i64 y, .int .i64 z]]) ∧ Below w.heap.size w w'

end Go.Proofs.YtennaeboemlnoaaDoor
