/-
  What the model takes a condition apart into; how deep the model finds it; for which heads it holds by the model.
-/
import Derived.Test.YtddkpimmcmnogaaDoorPredOkAll
import Derived.Test.YtddkpimmcmnogaaDoorPredDeep
import Derived.Laws.DeepStrings4
namespace Go.Proofs.YtddkpimmcmnogaaDoor
open Go.ChangeShapes Go.WideShapes Go.ChangeAt Go.RowKit Go.Joins
set_option linter.unusedVariables false

/-- A slice of strings of a call's own, in a block of its own. -/
def Row (xs : List ByteArray) (w : World) (e : Ending) (w1 : World) : Prop := ∃ g : Nat, e = .returned (.slice (some ⟨g, 0, none⟩) xs.length xs.length) ∧ w.heap.size ≤ g ∧ g < w1.heap.size ∧ w1.heap[g]? = some (.cells (xs.map Value.string).toArray 9) ∧ Below w.heap.size w w1

set_option maxHeartbeats 1000000 in
theorem parts_none (s : ByteArray) (hs0 : 0 < s.size) (x : UInt8) (hb : s[0]'hs0 = x) (n33 : ((x.toNat : Int) == 33) = false) (n38 : ((x.toNat : Int) == 38) = false) (n124 : ((x.toNat : Int) == 124) = false) (w : World) :
    Calls Tryd.prog 41 #[.string s] w (Row [s] w) := by
  unfold Row
  go_enter Tryd.func41, Tryd.ntmps41
  go_wp2
  go_ret
  exact ⟨w.heap.size, rfl, Nat.le_refl _, by simp, heap_alloc_new w _, below_alloc1 _ _⟩

set_option maxHeartbeats 1000000 in
theorem parts_neg (s t : ByteArray) (hs0 : 0 < s.size) (hb : s[0]'hs0 = 33) (f1 : ∀ W : World, (Instr.slice 9 (.string s) (some (.int .i64 1)) none none).run Tryd.prog W = .ok (.string t) W) (w : World) :
    Calls Tryd.prog 41 #[.string s] w (Row [bs [33], t] w) := by
  unfold Row
  go_enter Tryd.func41, Tryd.ntmps41
  go_wp2
  go_ret
  exact ⟨w.heap.size, rfl, Nat.le_refl _, by simp, heap_alloc_new w _, below_alloc1 _ _⟩

set_option maxHeartbeats 1000000 in
theorem parts_two (s t0 t1 t2 : ByteArray) (hs0 : 0 < s.size) (x : UInt8) (hb : s[0]'hs0 = x) (hx : isT x = true) (E : Int) (hE : ∀ W : World, Calls Tryd.prog 38 #[.string s, .int .i64 1] W fun e w' => e = .returned (.int .i64 E) ∧ Below W.heap.size W w')
    (f0 : ∀ W : World, (Instr.slice 9 (.string s) none (some (.int .i64 1)) none).run Tryd.prog W = .ok (.string t0) W)
    (f1 : ∀ W : World, (Instr.slice 9 (.string s) (some (.int .i64 1)) (some (.int .i64 E)) none).run Tryd.prog W = .ok (.string t1) W)
    (f2 : ∀ W : World, (Instr.slice 9 (.string s) (some (.int .i64 E)) none none).run Tryd.prog W = .ok (.string t2) W) (w : World) :
    Calls Tryd.prog 41 #[.string s] w (Row [t0, t1, t2] w) := by
  unfold Row
  have HE := Lib.hid hE
  clear hE
  rcases isT_cases hx with rfl | rfl
  all_goals
    clear hx
    go_enter Tryd.func41, Tryd.ntmps41
    go_wp2_with fail
    refine (HE.out _).mono ?_
    rintro e w1 ⟨rfl, b1⟩
    go_wp2_with fail
    go_region
    go_wp2
    go_ret
    exact ⟨w1.heap.size, rfl, b1.size, by simp [World.drew], heap_alloc_new w1 _, (b1.alloc b1.size _).drew⟩

/-- The parts of a condition. -/
def Cnd.parts : Cnd → List (List UInt8)
  | .one b => [(Cnd.one b).txt]
  | .fld k d => [(Cnd.fld k d).txt]
  | .neg a => [[33], a.txt]
  | .two k a b => [[k], a.txt, b.txt]

theorem bs_first (x : UInt8) (m : List UInt8) (h : 0 < (bs (x :: m)).size) : (bs (x :: m))[0]'h = x := rfl

theorem sliceMid (p l m : List UInt8) (W : World) : (Instr.slice 9 (.string (bs (p ++ (l ++ m)))) (some (.int .i64 (p.length : Int))) (some (.int .i64 ((p.length : Int) + (l.length : Int)))) none).run Tryd.prog W = .ok (.string (bs l)) W := by
  rw [run_slice_string_if (P := Tryd.prog) W 9 _ .i64 .i64 _ _ Tryd.underlying9, bs_extract, bs_size]
  have e : ((p.length : Int) + (l.length : Int)).toNat = p.length + l.length := by omega
  rw [if_pos (by simp; omega), e, Int.toNat_natCast, show p.length + l.length = (p ++ l).length from by simp, ← List.append_assoc, List.take_left, List.drop_left, if_pos (by omega)]
theorem sliceFrom (p m : List UInt8) (W : World) : (Instr.slice 9 (.string (bs (p ++ m))) (some (.int .i64 (p.length : Int))) none none).run Tryd.prog W = .ok (.string (bs m)) W := by
  rw [run_slice_string_from_if (P := Tryd.prog) W 9 _ .i64 _ Tryd.underlying9, bs_extract, bs_size, if_pos (by simp; omega), List.take_length]
  simp

theorem parts_any (c : Cnd) (hk : c.ok = true) (hl : c.txt.length ≤ 1048576) (w : World) :
    Calls Tryd.prog 41 #[.string (bs c.txt)] w (Row (c.parts.map bs) w) := by
  cases c with
  | one b => cases b <;> exact parts_none _ (by simp [bs_size]) _ (bs_first _ _ _) rfl rfl rfl w
  | fld k d =>
    simp [Cnd.ok] at hk
    rcases isF_cases hk.1 with rfl | rfl | rfl <;> exact parts_none _ (by simp [bs_size]) _ (bs_first _ _ _) rfl rfl rfl w
  | neg a => exact parts_neg _ _ (by simp [bs_size]) (bs_first _ _ _) (slice1 33 a.txt) w
  | two k a b =>
    simp [Cnd.ok] at hk
    simp [Cnd.txt] at hl
    refine parts_two (bs (k :: (a.txt ++ b.txt))) (bs [k]) (bs a.txt) (bs b.txt) (by simp [bs_size]) k (bs_first _ _ _) hk.1 (1 + (a.txt.length : Int)) (fun W => ?_) (fun W => ?_) (fun W => ?_) (fun W => ?_) w
    · exact end_yes a hk.2.1 [k] b.txt (by simp; omega) W
    · exact sliceTo [k] (a.txt ++ b.txt) W
    · exact sliceMid [k] a.txt b.txt W
    · have h := sliceFrom (k :: a.txt) b.txt W
      rw [show ((k :: a.txt).length : Int) = 1 + (a.txt.length : Int) from by simp; omega] at h
      exact h

end Go.Proofs.YtddkpimmcmnogaaDoor
