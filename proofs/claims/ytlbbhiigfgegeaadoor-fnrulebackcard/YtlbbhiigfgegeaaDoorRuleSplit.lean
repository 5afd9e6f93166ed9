/-
  What strings.SplitN returns at one blank and at most five parts, by a walk of the library's text: the parts of the text, in a block of their own.
-/
import Derived.Test.YtlbbhiigfgegeaaDoorRuleMath
import Derived.Lib.Split
import Derived.Lib.Walk
import Derived.Laws.Strings3
import Derived.Deep.OwnRows
import Derived.Deep.LoopGhost
import Derived.Deep.Light
namespace Go.Proofs.YtlbbhiigfgegeaaDoor
open Go.ChangeShapes Go.WideShapes Go.ChangeAt Go.RowKit Go.Joins
set_option linter.unusedVariables false

set_option maxRecDepth 100000 in
set_option maxHeartbeats 1000000 in
theorem index_blank (x : ByteArray) (w : World) :
    Calls Tryd.prog 96 #[.string x, .string ⟨#[32]⟩] w fun e w' => e = .returned (.int .i64 (ixB x)) ∧ w = w' := by
  have hx := @run_callFunc_extern Tryd.prog 113 _ Extern.BytealgIndexByte.indexByte Tryd.func113 (by kernel_rfl) (by kernel_rfl) (by kernel_rfl) (by kernel_rfl)
  have hy : ∀ w : World, (Extern.BytealgIndexByte.indexByte #[.string x, .int .u8 32]).run Tryd.prog w = .ok (.int .i64 (ixB x)) w := fun w => Lib.run_indexByteString x 32 w
  have hz : ∀ w : World, (Extern.BytealgIndexByte.indexByte #[.string x, .int .u8 (((⟨#[32]⟩ : ByteArray)[0]'(by decide)).toNat : Int)]).run Tryd.prog w = .ok (.int .i64 (ixB x)) w := fun w => Lib.run_indexByteString x 32 w
  cases h : ([32] == x.toList)
  · go_enter Tryd.func96, Tryd.ntmps96
    go_wp2
    go_ret
    exact ⟨rfl, rfl⟩
  · obtain rfl : x = ⟨#[32]⟩ := by
      apply byteArray_ext
      rw [← Lib.toList_data]
      exact (beq_iff_eq.1 h).symm
    clear hx hy hz h
    rw [show ixB ⟨#[32]⟩ = 0 from rfl]
    go_enter Tryd.func96, Tryd.ntmps96
    go_wp2
    go_ret
    exact ⟨rfl, rfl⟩

theorem infoString : (Tryd.prog.info? 9).map (fun i => (i.zero, i.size, i.bytes)) = some (some (.string ByteArray.empty), 1, 16) := by kernel_rfl

set_option maxHeartbeats 4000000 in
set_option maxRecDepth 1000000 in
theorem genSplit_blank (s : ByteArray) (hs : s.size ≤ 1048576) (N : Nat) (hN : N = min 5 (s.size + 1)) (w : World) :
    Calls Tryd.prog 83 #[.string s, .string ⟨#[32]⟩, .int .i64 0, .int .i64 5] w fun e w' =>
      e = .returned (.slice (some ⟨w.heap.size, 0, none⟩) (cutK (N - 1) s).length N) ∧ w' = w.alloc (.cells (Lib.cellsOf (cutK (N - 1) s) N) 9) := by
  have eN' : min (5 : Int) ((s.size : Int) + 1) = (N : Int) := by omega
  have hNs : (N : Int) ≤ (s.size : Int) + 1 := by omega
  have hN1 : (1 : Int) ≤ (N : Int) := by omega
  have hmk := run_make_row' (P := Tryd.prog) 67 9 (.string ByteArray.empty) 16 Tryd.underlying67 infoString rfl .i64 .i64 N (by omega) (by omega)
  clear hN
  go_enter Tryd.func83, Tryd.ntmps83
  go_wp2_with fail
  clear hmk
  go_loopg [0, 10] (N - 1) (fun g s0 s10 wr => ∃ (done : List ByteArray) (rest : ByteArray), s0 = .string rest ∧ s10 = .int .i64 done.length ∧ done.length ≤ N - 1 ∧ g = N - 1 - done.length ∧ rest.size ≤ s.size ∧
    wr = w.alloc (.cells (Lib.cellsOf done N) 9) ∧ done ++ cutK (N - 1 - done.length) rest = cutK (N - 1) s)
  case atStart => exact ⟨[], s, rfl, rfl, Nat.zero_le _, rfl, Nat.le_refl _, by rw [Lib.cellsOf_nil], rfl⟩
  case round =>
    obtain ⟨done, rest, rfl, rfl, hd, rfl, hrs, rfl, hsp⟩ := hrel
    have hnext : (Lib.cellsOf done N)[done.length]? = some (.string ByteArray.empty) := Lib.cellsOf_next (by omega)
    have HS : Aside (done ++ cutK (N - 1 - done.length) rest = cutK (N - 1) s) := hsp
    clear hsp
    have fin : cutK (N - 1 - done.length) rest = [rest] → (cutK (N - 1) s).length = done.length + 1 ∧ (Lib.cellsOf done N).setIfInBounds done.length (.string rest) = Lib.cellsOf (cutK (N - 1) s) N := fun h => by
      have e := HS.out
      rw [h] at e
      rw [← e]
      exact ⟨by simp, Lib.cellsOf_set (by omega) rest⟩
    by_cases hlt : done.length < N - 1
    · have hltz : ((done.length : Nat) : Int) < (N : Int) - 1 := by omega
      rcases ixB_cases rest with hix | ⟨i, hix, hroom, -⟩
      · go_wp2_with (first | (go_at_call 96; refine (index_blank rest _).mono ?_; rintro e w' ⟨rfl, rfl⟩; rw [hix]))
        go_ret
        obtain ⟨f1, f2⟩ := fin (cutK_miss _ hix)
        rw [f1, ← f2]
        exact ⟨by first | rfl | (congr 2 <;> omega), rfl⟩
      · have c0 : ¬ ((i : Int) < 0) := by omega
        have c1 : (0 : Int) ≤ (i : Int) := by omega
        have c2 : (i : Int) ≤ (rest.size : Int) := by omega
        have c3 : (0 : Int) ≤ (i : Int) + 1 := by omega
        have c4 : (i : Int) + 1 ≤ (rest.size : Int) := by omega
        go_wp2_with (first | (go_at_call 96; refine (index_blank rest _).mono ?_; rintro e w' ⟨rfl, rfl⟩; rw [hix]))
        go_roundg (N - 1 - (done.length + 1))
        case measure => omega
        case rel =>
          refine ⟨done ++ [rest.extract 0 i], rest.extract (i + 1) rest.size, rfl, by simp, by simp; omega, by simp, by rw [ByteArray.size_extract]; omega, by rw [← Lib.cellsOf_set (by omega)], ?_⟩
          rw [← HS.out, show N - 1 - done.length = (N - 1 - (done.length + 1)) + 1 by omega, cutK_hit _ i hix]
          simp
    · have hltz : ¬ (((done.length : Nat) : Int) < (N : Int) - 1) := by omega
      go_wp2
      go_ret
      obtain ⟨f1, f2⟩ := fin (by rw [show N - 1 - done.length = 0 by omega]; rfl)
      rw [f1, ← f2]
      exact ⟨by first | rfl | (congr 2 <;> omega), rfl⟩

set_option maxHeartbeats 1000000 in
theorem splitN_blank (s : ByteArray) (hs : s.size ≤ 1048576) (N : Nat) (hN : N = min 5 (s.size + 1)) (w : World) :
    Calls Tryd.prog 67 #[.string s, .string ⟨#[32]⟩, .int .i64 5] w fun e w' =>
      e = .returned (.slice (some ⟨w.heap.size, 0, none⟩) (cutK (N - 1) s).length N) ∧ w' = w.alloc (.cells (Lib.cellsOf (cutK (N - 1) s) N) 9) := by
  have HG := Lib.hid (genSplit_blank s hs N hN w)
  clear hN
  go_enter Tryd.func67, Tryd.ntmps67
  go_wp2_with fail
  refine HG.out.mono ?_
  rintro e w1 ⟨rfl, rfl⟩
  go_wp2
  go_ret
  exact ⟨rfl, rfl⟩

end Go.Proofs.YtlbbhiigfgegeaaDoor
