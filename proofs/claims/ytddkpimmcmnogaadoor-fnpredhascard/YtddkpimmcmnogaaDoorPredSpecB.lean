/-
  How deep the model finds a condition; for which heads it holds by the model.
-/
import Derived.Test.YtddkpimmcmnogaaDoorPredSpecA
namespace Go.Proofs.YtddkpimmcmnogaaDoor
open Go.ChangeShapes Go.WideShapes Go.ChangeAt Go.RowKit Go.Joins
set_option linter.unusedVariables false

theorem rowCell {w1 : World} {g : Nat} {xs : List ByteArray} (h : w1.heap[g]? = some (.cells (xs.map Value.string).toArray 9)) (j : Nat) (s : ByteArray) (hj : xs[j]? = some s) : w1.cell? ⟨g, j, none⟩ = some (.string s) := by
  rw [cell_of_block h]
  simp [hj]

set_option maxHeartbeats 2000000 in
theorem sdeep_none (s : ByteArray) (hP : ∀ W : World, Calls Tryd.prog 41 #[.string s] W (Row [s] W)) (w : World) :
    Calls Tryd.prog 49 #[.string s] w fun e w' => e = .returned (.int .i64 1) ∧ Below w.heap.size w w' := by
  have HP := Lib.hid hP
  clear hP
  go_enter Tryd.func49, Tryd.ntmps49
  go_wp2_with fail
  refine (HP.out _).mono ?_
  rintro e w1 ⟨g, rfl, hg0, hg1, hblk, b1⟩
  have HB := Lib.hid hblk
  clear hblk
  simp only [List.length_cons, List.length_nil]
  go_wp2_with fail
  refine wp_loop_rounds 1 ?_
  rw [rounds_succ]
  go_wp2
  go_ret
  exact ⟨rfl, b1⟩

set_option maxRecDepth 100000 in
set_option maxHeartbeats 2000000 in
theorem sdeep_one (s t0 t : ByteArray) (D : Int) (hD0 : 1 ≤ D) (hD : D ≤ 1000000000) (hP : ∀ W : World, Calls Tryd.prog 41 #[.string s] W (Row [t0, t] W)) (hA : ∀ W : World, Calls Tryd.prog 49 #[.string t] W fun e w' => e = .returned (.int .i64 D) ∧ Below W.heap.size W w') (w : World) :
    Calls Tryd.prog 49 #[.string s] w fun e w' => e = .returned (.int .i64 (D + 1)) ∧ Below w.heap.size w w' := by
  have HP := Lib.hid hP
  have HA := Lib.hid hA
  clear hP hA
  go_enter Tryd.func49, Tryd.ntmps49
  go_wp2_with fail
  refine (HP.out _).mono ?_
  rintro e w1 ⟨g, rfl, hg0, hg1, hblk, b1⟩
  have c1 := rowCell hblk 1 t rfl
  have B1 := Lib.hid b1
  clear hblk b1 HP
  simp only [List.length_cons, List.length_nil]
  go_wp2_with fail
  refine wp_loop_rounds 2 ?_
  rw [rounds_succ]
  go_wp2_with fail
  refine (HA.out _).mono ?_
  rintro e w2 ⟨rfl, b2⟩
  have B2 := Lib.hid (belStep B1.out b2)
  clear b2 B1 HA
  go_wp2_with fail
  all_goals
    first
    | (exfalso; omega)
    | (rw [rounds_succ]
       go_wp2
       go_ret
       exact ⟨ret_int (by omega), B2.out⟩)

set_option maxRecDepth 100000 in
set_option maxHeartbeats 2000000 in
theorem sdeep_two (s t0 t t' : ByteArray) (D D' : Int) (hD0 : 1 ≤ D) (hD : D ≤ 1000000000) (hD0' : 1 ≤ D') (hD' : D' ≤ 1000000000) (hP : ∀ W : World, Calls Tryd.prog 41 #[.string s] W (Row [t0, t, t'] W)) (hA : ∀ W : World, Calls Tryd.prog 49 #[.string t] W fun e w' => e = .returned (.int .i64 D) ∧ Below W.heap.size W w') (hA' : ∀ W : World, Calls Tryd.prog 49 #[.string t'] W fun e w' => e = .returned (.int .i64 D') ∧ Below W.heap.size W w') (w : World) :
    Calls Tryd.prog 49 #[.string s] w fun e w' => e = .returned (.int .i64 (max D D' + 1)) ∧ Below w.heap.size w w' := by
  have HP := Lib.hid hP
  have HA := Lib.hid hA
  have HA' := Lib.hid hA'
  clear hP hA hA'
  go_enter Tryd.func49, Tryd.ntmps49
  go_wp2_with fail
  refine (HP.out _).mono ?_
  rintro e w1 ⟨g, rfl, hg0, hg1, hblk, b1⟩
  have c1 := rowCell hblk 1 t rfl
  have C2 := Lib.hid (rowCell hblk 2 t' rfl)
  have B1 := Lib.hid b1
  clear hblk b1 HP
  simp only [List.length_cons, List.length_nil]
  go_wp2_with fail
  refine wp_loop_rounds 3 ?_
  rw [rounds_succ]
  go_wp2_with fail
  refine (HA.out _).mono ?_
  rintro e w2 ⟨rfl, b2⟩
  have c2 := cellLater C2.out b2
  have B2 := Lib.hid (belStep B1.out b2)
  clear b2 B1 HA C2 c1
  go_wp2_with fail
  all_goals
    first
    | (exfalso; omega)
    | (rw [rounds_succ]
       go_wp2_with fail
       refine (HA'.out _).mono ?_
       rintro e w3 ⟨rfl, b3⟩
       have B3 := Lib.hid (belStep B2.out b3)
       clear b3 B2 HA' c2
       go_wp2_with fail
       all_goals
         rw [rounds_succ]
         go_wp2
         go_ret
         exact ⟨ret_int (by omega), B3.out⟩)

theorem sdeep_any : ∀ (c : Cnd) (hk : c.ok = true) (hl : c.txt.length ≤ 1048576) (w : World),
    Calls Tryd.prog 49 #[.string (bs c.txt)] w fun e w' => e = .returned (.int .i64 (c.deep : Int)) ∧ Below w.heap.size w w'
  | .one b, hk, hl, w => sdeep_none _ (fun W => parts_any (.one b) hk hl W) w
  | .fld k d, hk, hl, w => sdeep_none _ (fun W => parts_any (.fld k d) hk hl W) w
  | .neg a, hk, hl, w => by
    have hl' := hl
    simp [Cnd.txt] at hl'
    have hd := a.deep_le
    exact sdeep_one _ _ _ (a.deep : Int) (by have := a.deep_pos; omega) (by omega) (fun W => parts_any (.neg a) hk hl W) (fun W => sdeep_any a hk (by omega) W) w
  | .two k a b, hk, hl, w => by
    have hl' := hl
    simp [Cnd.txt] at hl'
    have hk' := hk
    simp [Cnd.ok] at hk'
    have hd := a.deep_le
    have hd' := b.deep_le
    refine (sdeep_two _ _ _ _ (a.deep : Int) (b.deep : Int) (by have := a.deep_pos; omega) (by omega) (by have := b.deep_pos; omega) (by omega) (fun W => parts_any (.two k a b) hk hl W) (fun W => sdeep_any a hk'.2.1 (by omega) W) (fun W => sdeep_any b hk'.2.2 (by omega) W) w).mono ?_
    rintro e w1 ⟨rfl, b1⟩
    refine ⟨ret_int ?_, b1⟩
    simp only [Cnd.deep]
    omega

set_option maxHeartbeats 1000000 in
theorem sPredDeep_any (l : List UInt8) (hl : l.length ≤ 1048576) (w : World) :
    Calls Tryd.prog 27 #[.string (bs l)] w fun e w' => e = .returned (.int .i64 (deepL l)) ∧ Below w.heap.size w w' := by
  have HO := Lib.hid (sPredOk_any l hl)
  unfold deepL
  cases hw : whole l with
  | some c =>
    obtain ⟨rfl, hk, h16⟩ := whole_some hw
    rw [hw] at HO
    have HD := Lib.hid (sdeep_any c hk hl)
    simp only [Option.isSome_some] at HO ⊢
    clear hw hl h16 hk
    generalize bs c.txt = s at *
    generalize (c.deep : Int) = D at *
    go_enter Tryd.func27, Tryd.ntmps27
    go_wp2_with fail
    refine (HO.out _).mono ?_
    rintro e w1 ⟨rfl, b1⟩
    go_wp2_with fail
    refine (HD.out _).mono ?_
    rintro e w2 ⟨rfl, b2⟩
    go_wp2
    go_ret
    exact ⟨rfl, belStep b1 b2⟩
  | none =>
    rw [hw] at HO
    simp only [Option.isSome_none] at HO ⊢
    clear hw hl
    generalize bs l = s at *
    go_enter Tryd.func27, Tryd.ntmps27
    go_wp2_with fail
    refine (HO.out _).mono ?_
    rintro e w1 ⟨rfl, b1⟩
    go_wp2
    go_ret
    exact ⟨rfl, b1⟩

end Go.Proofs.YtddkpimmcmnogaaDoor
