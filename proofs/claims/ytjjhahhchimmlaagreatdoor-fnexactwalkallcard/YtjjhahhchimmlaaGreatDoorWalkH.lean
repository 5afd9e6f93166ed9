/-
  Packets at switches: what the statements' own helpers do with them; one that the statement's row hands over.
-/
import Derived.Test.YtjjhahhchimmlaaGreatDoorWalkBC
import Derived.Test.YtjjhahhchimmlaaGreatDoorRulS
namespace Go.Proofs.YtjjhahhchimmlaaGreatDoor
open Go.ChangeShapes Go.WideShapes Go.ChangeAt Go.RowKit Go.Joins
set_option linter.unusedVariables false

set_option maxHeartbeats 400000 in
theorem toSpot_any (x a b c : Int) (w : World) :
    Calls Tryz.prog 11 #[.agg #[.int .i64 x, .int .i64 a, .int .i64 b, .int .i64 c]] w fun e w' => e = .returned (.agg #[.int .i64 x, .int .i64 a, .int .i64 b, .int .i64 c]) ∧ Below w.heap.size w w' := by
  have HT := Lib.hid (fun W => toHead_any a b c W)
  go_enter Tryz.func11, Tryz.ntmps11
  go_wp2_with fail
  refine (HT.out _).mono ?_
  rintro e w1 ⟨rfl, b1⟩
  have hs := b1.size
  simp at hs
  have h2 : w1.heap[w.heap.size + 1]? = some (.cells #[.int .i64 0, .int .i64 0, .int .i64 0, .int .i64 0] 32) := by
    rw [b1.block _ (by simp), Below.heap_alloc _ _ _ (by simp)]
    have := newBlockM (w.alloc (.cells #[.int .i64 x, .int .i64 a, .int .i64 b, .int .i64 c] 27)) (.cells #[.int .i64 0, .int .i64 0, .int .i64 0, .int .i64 0] 32)
    simpa using this
  have h3 : w1.heap[w.heap.size + 1 + 1]? = some (.cells #[.int .i64 x, .int .i64 0, .int .i64 0, .int .i64 0] 32) := by
    rw [b1.block _ (by simp)]
    have := newBlockM ((w.alloc (.cells #[.int .i64 x, .int .i64 a, .int .i64 b, .int .i64 c] 27)).alloc (.cells #[.int .i64 0, .int .i64 0, .int .i64 0, .int .i64 0] 32)) (.cells #[.int .i64 x, .int .i64 0, .int .i64 0, .int .i64 0] 32)
    simpa using this
  have hb : Below w.heap.size w w1 := (below_alloc3 w (.cells #[.int .i64 x, .int .i64 a, .int .i64 b, .int .i64 c] 27) (.cells #[.int .i64 0, .int .i64 0, .int .i64 0, .int .i64 0] 32) (.cells #[.int .i64 x, .int .i64 0, .int .i64 0, .int .i64 0] 32)).trans (b1.mono (by simp; omega))
  have HB := Lib.hid hb
  obtain ⟨r0, r1, r2, r3, rf⟩ := quad4 h2
  obtain ⟨y0, y1, y2, y3, yf⟩ := quad4 h3
  have g1 : w.heap.size + 1 < w1.heap.size := by omega
  have g2 : w.heap.size + 1 + 1 < w1.heap.size := by omega
  clear h2 h3 hb b1 hs HT
  go_wp2
  exact bodyPost_ret (v := .agg #[.int .i64 x, .int .i64 a, .int .i64 b, .int .i64 c]) (by simp [results, Tryz.results11, go_sem, r0, r1, r2, r3]) rfl
    ⟨rfl, by iterate 7 (refine Below.setCell ?_ (by dsimp only; omega) _)
             exact HB.out⟩

set_option maxHeartbeats 400000 in
theorem eqSpot_same (x a b c : Int) (w : World) :
    Calls Tryz.prog 13 #[.agg #[.int .i64 x, .int .i64 a, .int .i64 b, .int .i64 c], .agg #[.int .i64 x, .int .i64 a, .int .i64 b, .int .i64 c]] w fun e w' => e = .returned (.bool true) ∧ Below w.heap.size w w' := by
  have HT := Lib.hid (fun W => eqHead_same a b c W)
  have HA := Lib.hid (below_alloc2 w (.cells #[.int .i64 x, .int .i64 a, .int .i64 b, .int .i64 c] 32) (.cells #[.int .i64 x, .int .i64 a, .int .i64 b, .int .i64 c] 32))
  go_enter Tryz.func13, Tryz.ntmps13
  go_wp2_with fail
  refine (HT.out _).mono ?_
  rintro e w1 ⟨rfl, b1⟩
  go_wp2
  go_ret
  exact ⟨rfl, belStep HA.out b1⟩

end Go.Proofs.YtjjhahhchimmlaaGreatDoor
