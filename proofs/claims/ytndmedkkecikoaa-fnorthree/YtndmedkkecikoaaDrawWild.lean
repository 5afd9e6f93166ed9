/-
  What the patterns that the statements draw are: short texts; the reader's place goes on, and nothing else that was there changes.
-/
import Derived.Test.YtndmedkkecikoaaWildSpecB
import Derived.Test.YtndmedkkecikoaaDrawHead
import Derived.Deep.RegionHeld3
namespace Go.Proofs.Ytndmedkkecikoaa
open Go.ChangeShapes Go.WideShapes Go.ChangeAt Go.RowKit Go.Joins
set_option linter.unusedVariables false

/-- One of a list of strings is picked. -/
def OfSome (P : ByteArray → Prop) (g B : Nat) (w : World) (e : Ending) (w' : World) : Prop :=
  ∃ s, P s ∧ e = .returned (.string s) ∧ RdOk w' g (B + 1) ∧ w.grownBy w' (some g)

set_option maxHeartbeats 400000 in
theorem of_some (w : World) (g B j k : Nat) (P : ByteArray → Prop) (hr : RdOk w g B) (hB : B ≤ 1000000000) (hk : 1 ≤ k) (hk2 : k ≤ 1000) (hne : j ≠ g) (hj : j < w.heap.size)
    (hc : ∀ i, i < k → ∃ s, P s ∧ w.cell? ⟨j, i, none⟩ = some (.string s)) :
    Calls Try.prog 92 #[.pointer (some ⟨g, 0, none⟩), .slice (some ⟨j, 0, none⟩) k k] w (OfSome P g B w) := by
  have HR := Lib.hid hr
  have HC := Lib.hid hc
  clear hr hc
  go_enter Try.func92, Try.ntmps92
  go_wp2_with fail
  refine (pick_any _ _ _ _ HR.out hB (by omega)).mono ?_
  rintro e w1 ⟨v, v0, v1, rfl, hr1, g1⟩
  have HR1 := Lib.hid hr1
  clear hr1
  obtain ⟨s, hs, hcs⟩ := HC.out v.toNat (by omega)
  have hcell : w1.cell? ⟨j, v.toNat, none⟩ = some (.string s) := (gCell g1 _ hj hne).trans hcs
  have HS := Lib.hid hs
  clear hs
  go_wp2
  go_ret
  exact ⟨s, HS.out, rfl, HR1.out, g1⟩

theorem rdDrew {w : World} {g B : Nat} (h : RdOk w g B) : RdOk w.drew g B := h.keep fun _ _ => rfl

/-- Four strings in a block. -/
theorem fourCells {w : World} {j : Nat} {t : TypeId} {s0 s1 s2 s3 : ByteArray} (P : ByteArray → Prop) (h : w.heap[j]? = some (.cells #[.string s0, .string s1, .string s2, .string s3] t))
    (h0 : P s0) (h1 : P s1) (h2 : P s2) (h3 : P s3) : ∀ i, i < 4 → ∃ s, P s ∧ w.cell? ⟨j, i, none⟩ = some (.string s) := by
  intro i hi
  rw [cell_of_block h]
  obtain rfl | rfl | rfl | rfl : i = 0 ∨ i = 1 ∨ i = 2 ∨ i = 3 := by omega
  · exact ⟨_, h0, rfl⟩
  · exact ⟨_, h1, rfl⟩
  · exact ⟨_, h2, rfl⟩
  · exact ⟨_, h3, rfl⟩
theorem threeCells {w : World} {j : Nat} {t : TypeId} {s0 s1 s2 : ByteArray} (P : ByteArray → Prop) (h : w.heap[j]? = some (.cells #[.string s0, .string s1, .string s2] t))
    (h0 : P s0) (h1 : P s1) (h2 : P s2) : ∀ i, i < 3 → ∃ s, P s ∧ w.cell? ⟨j, i, none⟩ = some (.string s) := by
  intro i hi
  rw [cell_of_block h]
  obtain rfl | rfl | rfl : i = 0 ∨ i = 1 ∨ i = 2 := by omega
  · exact ⟨_, h0, rfl⟩
  · exact ⟨_, h1, rfl⟩
  · exact ⟨_, h2, rfl⟩

/-- A text of at most seven bytes is drawn by the reader at block g. -/
def WildDrawn (g B : Nat) (w : World) (e : Ending) (w' : World) : Prop :=
  ∃ s : ByteArray, s.size ≤ 7 ∧ e = .returned (.string s) ∧ RdOk w' g (B + 8) ∧ w.grownBy w' (some g)

set_option maxRecDepth 100000 in
set_option maxHeartbeats 2000000 in
theorem l91Wild_any (w : World) (g B : Nat) (hr : RdOk w g B) (hB : B ≤ 100000000) :
    Calls Try.prog 75 #[.pointer (some ⟨g, 0, none⟩)] w (WildDrawn g B w) := by
  have hlt := hr.lt
  have HR := Lib.hid hr
  clear hr
  go_enter Try.func75, Try.ntmps75
  go_wp2
  go_loopw [3, 4] (fun o i wr => ∃ k : Nat, k ≤ 6 ∧ i = .int .i64 k ∧ (∃ s : ByteArray, s.size = k ∧ o = .string s) ∧ RdOk wr g (B + k) ∧ w.grownBy wr (some g)) (fun _ i _ => 6 - (intOf i).toNat)
  case atStart => exact ⟨0, Nat.zero_le _, rfl, ⟨_, rfl, rfl⟩, HR.out, gRefl _ _⟩
  case round =>
    obtain ⟨k, hk, rfl, ⟨s, hs, rfl⟩, hrd, hgr⟩ := hrel
    have HRD := Lib.hid hrd
    have s0 := hgr.size
    clear hrd
    by_cases hlt6 : k < 6
    · have HRs := Lib.hid (HRD.out.alloc (.cells #[.string ⟨#[48]⟩, .string ⟨#[49]⟩, .string ⟨#[120]⟩, .string ⟨#[120]⟩] 9))
      have HC := Lib.hid (fourCells (fun s => s.size = 1) (newBlock wr (.cells #[.string ⟨#[48]⟩, .string ⟨#[49]⟩, .string ⟨#[120]⟩, .string ⟨#[120]⟩] 9)) rfl rfl rfl rfl)
      go_wp2_with fail
      refine (of_some _ _ _ _ _ (fun s => s.size = 1) HRs.out (by omega) (by omega) (by omega) (by omega) (by simp) HC.out).mono ?_
      rintro e w1 ⟨t, ht, rfl, hr1, g1⟩
      have HR1 := Lib.hid hr1
      clear hr1
      go_wp2
      go_roundw
      case rel => exact ⟨k + 1, by omega, by go_num, ⟨_, by rw [ByteArray.size_append, hs, ht], rfl⟩, HR1.out, gTrans (gAlloc hgr _) g1⟩
      case measure => simp [intOf]; omega
    · obtain rfl : k = 6 := by omega
      go_wp2_with fail
      refine (pick_any _ _ _ _ HRD.out (by omega) (by omega)).mono ?_
      rintro e w1 ⟨v, v0, v1, rfl, hr1, g1⟩
      have HR1 := Lib.hid hr1
      clear hr1
      have s1 := g1.size
      have G1 : Hid (w.grownBy w1 (some g)) := gTrans hgr g1
      by_cases hv : v = 0
      · subst hv
        obtain ⟨t, ht, hsl⟩ : ∃ t : ByteArray, t.size = 5 ∧ ∀ W : World, (Instr.slice 9 (.string s) (some (.int .i64 1)) none none).run Try.prog W = .ok (.string t) W := by
          refine ⟨s.extract 1 s.size, by simp [hs], fun W => ?_⟩
          rw [run_slice_string_from_if (P := Try.prog) W 9 s .i64 1 Try.underlying9]
          simp [hs]
        have n0 := newBlock w1 (.cells #[.string ⟨#[]⟩, .string t, .string (s ++ ⟨#[48]⟩), .string (⟨#[50]⟩ ++ t)] 9)
        have HO := Lib.hid (of_some (w1.alloc (.cells #[.string ⟨#[]⟩, .string t, .string (s ++ ⟨#[48]⟩), .string (⟨#[50]⟩ ++ t)] 9)).drew g (B + 6 + 1) w1.heap.size 4 (fun s => s.size ≤ 7)
          (rdDrew (HR1.out.alloc _)) (by omega) (by omega) (by omega) (by omega) (by simp)
          (fourCells (w := (w1.alloc _).drew) (fun s => s.size ≤ 7) n0 (by decide) (by omega) (by rw [ByteArray.size_append, hs]; decide) (by rw [ByteArray.size_append, ht]; decide)))
        have hq1 : (⟨#[48]⟩ : ByteArray).size = 1 := rfl
        have hq2 : (⟨#[50]⟩ : ByteArray).size = 1 := rfl
        clear n0
        go_wp2_with fail
        go_region_held3 (fun w' => True) (trivial)
          (first
            | (go_at_call 92; ((with_reducible refine HO.out.mono ?_); rintro e w6 ⟨t', ht', rfl, hr6, g6⟩)))
        have HR6 := Lib.hid hr6
        clear hr6
        go_wp2
        go_ret
        exact ⟨t', ht', rfl, HR6.out, gTrans (gAlloc G1.out _) ⟨g6.os, g6.tape, g6.output, g6.size, g6.block⟩⟩
      · have e0 : (v == 0) = false := by simpa using hv
        have HR2 := Lib.hid (HR1.out.le (B' := B + 8) (by omega))
        go_wp2
        go_ret
        exact ⟨s, by omega, rfl, HR2.out, G1.out⟩

/-- A short text is drawn from a code; two of them; one, and a head. -/
def TextDrawn (w : World) (e : Ending) (w' : World) : Prop := ∃ s : ByteArray, s.size ≤ 8 ∧ e = .returned (.string s) ∧ Below w.heap.size w w'
def TwoDrawn (w : World) (e : Ending) (w' : World) : Prop := ∃ s t : ByteArray, s.size ≤ 8 ∧ t.size ≤ 8 ∧ e = .returned (.tuple #[.string s, .string t]) ∧ Below w.heap.size w w'
def TextHeadDrawn (w : World) (e : Ending) (w' : World) : Prop := ∃ (s : ByteArray) (x y z : Int), s.size ≤ 8 ∧ e = .returned (.tuple #[.string s, .agg #[.int .i64 x, .int .i64 y, .int .i64 z]]) ∧ Below w.heap.size w w'

set_option maxHeartbeats 400000 in
theorem drawWildMany_any (w : World) (a : Option Addr) (len cap : Nat) (hb : BytesIn w w.heap.size a len cap) :
    Calls Try.prog 47 #[.slice a len cap] w (TextDrawn w) := by
  have HB := Lib.hid hb
  clear hb
  go_enter Try.func47, Try.ntmps47
  go_wp2_with fail
  refine (open_any _ _ _ _ HB.out).mono ?_
  rintro e w1 ⟨rfl, hr, b1⟩
  have HR := Lib.hid hr
  have s1 := hr.lt
  clear hr
  go_wp2_with fail
  refine (l91Wild_any _ _ _ HR.out (by omega)).mono ?_
  rintro e w2 ⟨s, hs, rfl, hr2, g2⟩
  clear hr2
  go_wp2
  go_ret
  exact ⟨s, by omega, rfl, b1.trans (gBel g2 (Nat.le_refl _) (by omega))⟩

set_option maxHeartbeats 2000000 in
theorem drawWildAnd_any (w : World) (a : Option Addr) (len cap : Nat) (hb : BytesIn w w.heap.size a len cap) :
    Calls Try.prog 70 #[.slice a len cap] w (TwoDrawn w) := by
  have HB := Lib.hid hb
  clear hb
  go_enter Try.func70, Try.ntmps70
  go_wp2_with fail
  refine (open_any _ _ _ _ HB.out).mono ?_
  rintro e w1 ⟨rfl, hr, b1⟩
  have HR := Lib.hid hr
  have s1 := hr.lt
  clear hr
  go_wp2_with fail
  refine (l91Wild_any _ _ _ HR.out (by omega)).mono ?_
  rintro e w2 ⟨s, hs, rfl, hr2, g2⟩
  have HR2 := Lib.hid hr2
  have s2 := g2.size
  clear hr2
  go_wp2_with fail
  refine (l91Wild_any _ _ _ HR2.out (by omega)).mono ?_
  rintro e w3 ⟨t, ht, rfl, hr3, g3⟩
  have HR3 := Lib.hid hr3
  have s3 := g3.size
  clear hr3
  have B3 : Hid (Below w.heap.size w w3) := (b1.trans (gBel g2 (Nat.le_refl _) (by omega))).trans (gBel g3 (Nat.le_refl _) (by omega))
  clear g2 g3 b1
  have z3 : w.heap.size < w3.heap.size := by omega
  go_wp2
  go_loopw [6, 7] (fun o i wr => ∃ k : Nat, k ≤ 4 ∧ i = .int .i64 k ∧ (∃ t : ByteArray, t.size ≤ 7 ∧ o = .string t) ∧ RdOk wr w.heap.size (16 + 9 * k) ∧ Below w.heap.size w wr) (fun _ i _ => 4 - (intOf i).toNat)
  case atStart => exact ⟨0, Nat.zero_le _, rfl, ⟨t, ht, rfl⟩, HR3.out.le (by omega), B3.out⟩
  case round =>
    obtain ⟨k, hk, rfl, ⟨t, ht, rfl⟩, hrd, hbel⟩ := hrel
    have HRD := Lib.hid hrd
    have s4 := hrd.lt
    clear hrd
    by_cases hlt : k < 4
    · go_wp2_with fail
      refine (pick_any _ _ _ _ HRD.out (by omega) (by omega)).mono ?_
      rintro e w4 ⟨v, v0, v1, rfl, hr4, g4⟩
      have HR4 := Lib.hid hr4
      have s5 := g4.size
      clear hr4
      have B4 : Hid (Below w.heap.size w w4) := hbel.trans (gBel g4 (Nat.le_refl _) (by omega))
      by_cases hv : 0 < v
      · go_wp2_with fail
        refine (sWildAnd_any _ _ (by omega) (by omega) _).mono ?_
        rintro e w5 ⟨rfl, b5⟩
        have s6 := b5.size
        have HR5 := Lib.hid (HR4.out.below b5 (by omega))
        have B5 : Hid (Below w.heap.size w w5) := B4.out.trans (b5.mono (by omega))
        cases hm : meetS s t
        · go_wp2_with fail
          refine (l91Wild_any _ _ _ HR5.out (by omega)).mono ?_
          rintro e w6 ⟨t', ht', rfl, hr6, g6⟩
          have HR6 := Lib.hid hr6
          clear hr6
          go_wp2
          go_roundw
          case rel => exact ⟨k + 1, by omega, by go_num, ⟨t', ht', rfl⟩, HR6.out.le (by omega), B5.out.trans (gBel g6 (Nat.le_refl _) (by omega))⟩
          case measure => simp [intOf]; omega
        · go_wp2
          go_ret2
          exact ⟨s, t, by omega, by omega, rfl, B5.out⟩
      · obtain rfl : v = 0 := by omega
        go_wp2
        go_ret2
        exact ⟨s, t, by omega, by omega, rfl, B4.out⟩
    · obtain rfl : k = 4 := by omega
      go_wp2
      go_ret2
      exact ⟨s, t, by omega, by omega, rfl, hbel⟩

set_option maxHeartbeats 400000 in
theorem drawWildLess_any (w : World) (a : Option Addr) (len cap : Nat) (hb : BytesIn w w.heap.size a len cap) :
    Calls Try.prog 43 #[.slice a len cap] w (TwoDrawn w) := by
  have HB := Lib.hid hb
  clear hb
  go_enter Try.func43, Try.ntmps43
  go_wp2_with fail
  refine (drawWildAnd_any _ _ _ _ HB.out).mono ?_
  rintro e w1 ⟨s, t, hs, ht, rfl, b1⟩
  go_wp2
  go_ret2
  exact ⟨s, t, hs, ht, rfl, b1⟩

end Go.Proofs.Ytndmedkkecikoaa
