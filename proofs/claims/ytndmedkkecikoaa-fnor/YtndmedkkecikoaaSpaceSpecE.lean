/-
  Chapter 3, what the model's SpaceOr, SpaceAnd, SpaceLess return.
-/
import Derived.Test.YtndmedkkecikoaaSpaceSpecD
namespace Go.Proofs.Ytndmedkkecikoaa
open Go.ChangeShapes Go.WideShapes Go.ChangeAt Go.RowKit Go.Joins
set_option linter.unusedVariables false

/-- One mask is written over, place by place. -/
def mixO (f : Bool → Bool → Bool) (mx my : List Bool) (k : Nat) : List Bool := (List.range 64).map fun j => bif decide (j < k) then f (mx.getD j false) (my.getD j false) else mx.getD j false
theorem mixO_len (f : Bool → Bool → Bool) (mx my : List Bool) (k : Nat) : (mixO f mx my k).length = 64 := by simp [mixO]
theorem mixO_zero (f : Bool → Bool → Bool) {mx : List Bool} (my : List Bool) (h : mx.length = 64) : mixO f mx my 0 = mx := by
  apply List.ext_getElem
  · simp [mixO, h]
  · intro j h1 h2
    simp [mixO, h2]
theorem mixO_get (f : Bool → Bool → Bool) (mx my : List Bool) {k : Nat} (hk : k < 64) : (mixO f mx my k).getD k false = mx.getD k false := by
  simp [mixO, List.getD_eq_getElem?_getD, List.getElem?_range hk]
theorem mixO_step (f : Bool → Bool → Bool) (mx my : List Bool) {k : Nat} (hk : k < 64) : mixO f mx my (k + 1) = (mixO f mx my k).set k (f (mx.getD k false) (my.getD k false)) := by
  apply List.ext_getElem
  · simp [mixO]
  · intro j h1 h2
    rw [List.getElem_set]
    by_cases e : k = j
    · subst e
      simp [mixO]
    · have e1 : (j < k + 1) = (j < k) := by apply propext; omega
      simp [mixO, e, e1]
theorem mixO_all (f : Bool → Bool → Bool) {mx my : List Bool} (hx : mx.length = 64) (hy : my.length = 64) : mixO f mx my 64 = List.zipWith f mx my := by
  apply List.ext_getElem
  · simp [mixO, hx, hy]
  · intro j h1 h2
    have hj : j < 64 := by simpa [mixO] using h1
    simp [mixO, hj, hx, hy]
theorem BoolRow.other {w : World} {g g' : Nat} {m : List Bool} (h : BoolRow w g m) (hne : g' ≠ g) (j : Nat) (u : Value) : BoolRow (w.setCell ⟨g', j, none⟩ u) g m :=
  ⟨World.ownsRow.kept h.1 (row := some g') ⟨rfl, rfl, rfl, by simp [World.setCell], fun k hk hne' => Below.heap_setCell _ _ _ _ (fun e => hne' (by rw [e]))⟩ (.inr (fun e => by injection e with e; exact hne e.symm)), h.2⟩

set_option maxRecDepth 100000 in
set_option maxHeartbeats 4000000 in
theorem sSpaceOr_any (w : World) (v v' : Value) (l l' : List ByteArray) (hl : Strs w w.heap.size v l) (hl' : Strs w w.heap.size v' l') (hs : Fit6 l) (hs' : Fit6 l') :
    Calls Try.prog 31 #[v, v'] w fun ex w' => ∃ u, ex = .returned u ∧ StrRow w' w.heap.size u (opR (fun x y => x || y) l l') ∧ Below w.heap.size w w' := by
  have HW : Hid (∀ W, Below w.heap.size w W → Strs W W.heap.size v l) := fun W hb => (hl.below hb (Nat.le_refl _)).mono hb.size
  have HW' : Hid (∀ W, Below w.heap.size w W → Strs W W.heap.size v' l') := fun W hb => (hl'.below hb (Nat.le_refl _)).mono hb.size
  have HS := Lib.hid hs
  have HS' := Lib.hid hs'
  clear hl hl' hs hs'
  go_enter Try.func31, Try.ntmps31
  go_wp2_with fail
  refine (sSpaceOk_any _ _ l (HW.out _ (Below.refl _ _)) HS.out).mono ?_
  rintro ex w1 ⟨rfl, b1⟩
  have B1 := Lib.hid b1
  have s1 := b1.size
  clear b1
  cases hk : okSp l
  · have HT : Hid (opR (fun x y => x || y) l l' = []) := by show _ = _; simp [opR, hk]
    go_wp2
    go_ret
    exact ⟨_, rfl, by rw [HT.out]; exact emptyRow _ s1, B1.out.alloc s1 _⟩
  go_wp2_with fail
  refine (sSpaceOk_any _ _ l' (HW'.out _ B1.out) HS'.out).mono ?_
  rintro ex w2 ⟨rfl, b2⟩
  have B2 := Lib.hid (belStep B1.out b2)
  have s2 := B2.out.size
  clear b2
  cases hk' : okSp l'
  · have HT : Hid (opR (fun x y => x || y) l l' = []) := by show _ = _; simp [opR, hk']
    go_wp2
    go_ret
    exact ⟨_, rfl, by rw [HT.out]; exact emptyRow _ s2, B2.out.alloc s2 _⟩
  have HT : Hid (opR (fun x y => x || y) l l' = (tidyB 6 (List.zipWith (fun x y => x || y) (spL l) (spL l'))).map sText) := by show _ = _; simp [opR, hk, hk', tidyT]
  go_wp2_with fail
  refine (l3Mask_any _ _ l (HW.out _ B2.out) hk).mono ?_
  rintro ex w3 ⟨rfl, r3, b3⟩
  have R3 := Lib.hid r3
  have B3 := Lib.hid (belStep B2.out b3)
  have B23 := Lib.hid b3
  have hg3 := r3.cells.2.2
  clear r3 b3
  go_wp2_with fail
  refine (l3Mask_any _ _ l' (HW'.out _ B3.out) hk').mono ?_
  rintro ex w4 ⟨rfl, r4, b4⟩
  have R4 := Lib.hid r4
  have R34 := Lib.hid (R3.out.below b4)
  have B24 : Hid (Below w2.heap.size w2 w4) := belStep B23.out b4
  have hne : w2.heap.size ≠ w3.heap.size := by omega
  clear r4 b4
  have H0 : Hid (mixO (fun x y => x || y) (spL l) (spL l') 0 = spL l) := mixO_zero _ _ (spL_len l)
  have HG : Hid (∀ k, k < 64 → (mixO (fun x y => x || y) (spL l) (spL l') k).getD k false = (spL l).getD k false) := fun k hk => mixO_get _ _ _ hk
  have HP : Hid (∀ k, k < 64 → mixO (fun x y => x || y) (spL l) (spL l') (k + 1) = (mixO (fun x y => x || y) (spL l) (spL l') k).set k ((fun x y => x || y) ((spL l).getD k false) ((spL l').getD k false))) := fun k hk => mixO_step _ _ _ hk
  have HE : Hid (mixO (fun x y => x || y) (spL l) (spL l') 64 = List.zipWith (fun x y => x || y) (spL l) (spL l')) := mixO_all _ (spL_len l) (spL_len l')
  have HLN : Hid ((List.zipWith (fun x y => x || y) (spL l) (spL l')).length = 2 ^ 6) := by show _ = _; simp [spL_len]
  generalize spL l = mx at *
  generalize spL l' = my at *
  go_wp2
  go_loopw [7] (fun i wr => ∃ k : Nat, k ≤ 64 ∧ i = .int .i64 k ∧ BoolRow wr w2.heap.size (mixO (fun x y => x || y) mx my k) ∧ BoolRow wr w3.heap.size my ∧ Below w2.heap.size w2 wr) (fun i _ => 64 - (intOf i).toNat)
  case atStart => exact ⟨0, Nat.zero_le _, rfl, by rw [H0.out]; exact R34.out, R4.out, B24.out⟩
  case round =>
    obtain ⟨k, hk64, rfl, hx, hy, hbel⟩ := hrel
    have HX := Lib.hid hx
    have HY := Lib.hid hy
    by_cases hlt : k < 64
    · have hkz : (k : Int) < 64 := by omega
      have c1 := hx.cells.1 k hlt
      rw [HG.out k hlt] at c1
      have c2 := hy.cells.1 k hlt
      have f1 := hx.cells.2.1
      clear hx hy
      have HP1 := Lib.hid (HP.out k hlt)
      generalize mx.getD k false = x at *
      generalize my.getD k false = y at *
      cases x <;> cases y
      all_goals
        go_wp2
        go_roundw
        case rel => exact ⟨k + 1, by omega, by go_num, by rw [HP1.out]; exact HX.out.put k _, HY.out.other hne k _, hbel.setCell (by exact Nat.le_refl _) _⟩
        case measure => simp [intOf]; omega
    · obtain rfl : k = 64 := by omega
      have HXE : Hid (BoolRow wr w2.heap.size (List.zipWith (fun x y => x || y) mx my)) := by show BoolRow _ _ _; rw [← HE.out]; exact HX.out
      have hsw := hbel.size
      clear hx hy
      go_wp2_with fail
      refine (l3Tidy_any 6 (by omega) _ _ _ HLN.out HXE.out.bools).mono ?_
      rintro ex w5 ⟨u, rfl, r5, b5⟩
      have R5 := Lib.hid r5
      have B5 : Hid (Below w.heap.size w w5) := B2.out.trans ((belStep hbel b5).mono (by omega))
      clear r5 b5
      go_wp2
      go_ret
      exact ⟨_, rfl, by rw [HT.out]; exact R5.out.mono (by omega), B5.out⟩

set_option maxRecDepth 100000 in
set_option maxHeartbeats 4000000 in
theorem sSpaceAnd_any (w : World) (v v' : Value) (l l' : List ByteArray) (hl : Strs w w.heap.size v l) (hl' : Strs w w.heap.size v' l') (hs : Fit6 l) (hs' : Fit6 l') :
    Calls Try.prog 34 #[v, v'] w fun ex w' => ∃ u, ex = .returned u ∧ StrRow w' w.heap.size u (opR (fun x y => x && y) l l') ∧ Below w.heap.size w w' := by
  have HW : Hid (∀ W, Below w.heap.size w W → Strs W W.heap.size v l) := fun W hb => (hl.below hb (Nat.le_refl _)).mono hb.size
  have HW' : Hid (∀ W, Below w.heap.size w W → Strs W W.heap.size v' l') := fun W hb => (hl'.below hb (Nat.le_refl _)).mono hb.size
  have HS := Lib.hid hs
  have HS' := Lib.hid hs'
  clear hl hl' hs hs'
  go_enter Try.func34, Try.ntmps34
  go_wp2_with fail
  refine (sSpaceOk_any _ _ l (HW.out _ (Below.refl _ _)) HS.out).mono ?_
  rintro ex w1 ⟨rfl, b1⟩
  have B1 := Lib.hid b1
  have s1 := b1.size
  clear b1
  cases hk : okSp l
  · have HT : Hid (opR (fun x y => x && y) l l' = []) := by show _ = _; simp [opR, hk]
    go_wp2
    go_ret
    exact ⟨_, rfl, by rw [HT.out]; exact emptyRow _ s1, B1.out.alloc s1 _⟩
  go_wp2_with fail
  refine (sSpaceOk_any _ _ l' (HW'.out _ B1.out) HS'.out).mono ?_
  rintro ex w2 ⟨rfl, b2⟩
  have B2 := Lib.hid (belStep B1.out b2)
  have s2 := B2.out.size
  clear b2
  cases hk' : okSp l'
  · have HT : Hid (opR (fun x y => x && y) l l' = []) := by show _ = _; simp [opR, hk']
    go_wp2
    go_ret
    exact ⟨_, rfl, by rw [HT.out]; exact emptyRow _ s2, B2.out.alloc s2 _⟩
  have HT : Hid (opR (fun x y => x && y) l l' = (tidyB 6 (List.zipWith (fun x y => x && y) (spL l) (spL l'))).map sText) := by show _ = _; simp [opR, hk, hk', tidyT]
  go_wp2_with fail
  refine (l3Mask_any _ _ l (HW.out _ B2.out) hk).mono ?_
  rintro ex w3 ⟨rfl, r3, b3⟩
  have R3 := Lib.hid r3
  have B3 := Lib.hid (belStep B2.out b3)
  have B23 := Lib.hid b3
  have hg3 := r3.cells.2.2
  clear r3 b3
  go_wp2_with fail
  refine (l3Mask_any _ _ l' (HW'.out _ B3.out) hk').mono ?_
  rintro ex w4 ⟨rfl, r4, b4⟩
  have R4 := Lib.hid r4
  have R34 := Lib.hid (R3.out.below b4)
  have B24 : Hid (Below w2.heap.size w2 w4) := belStep B23.out b4
  have hne : w2.heap.size ≠ w3.heap.size := by omega
  clear r4 b4
  have H0 : Hid (mixO (fun x y => x && y) (spL l) (spL l') 0 = spL l) := mixO_zero _ _ (spL_len l)
  have HG : Hid (∀ k, k < 64 → (mixO (fun x y => x && y) (spL l) (spL l') k).getD k false = (spL l).getD k false) := fun k hk => mixO_get _ _ _ hk
  have HP : Hid (∀ k, k < 64 → mixO (fun x y => x && y) (spL l) (spL l') (k + 1) = (mixO (fun x y => x && y) (spL l) (spL l') k).set k ((fun x y => x && y) ((spL l).getD k false) ((spL l').getD k false))) := fun k hk => mixO_step _ _ _ hk
  have HE : Hid (mixO (fun x y => x && y) (spL l) (spL l') 64 = List.zipWith (fun x y => x && y) (spL l) (spL l')) := mixO_all _ (spL_len l) (spL_len l')
  have HLN : Hid ((List.zipWith (fun x y => x && y) (spL l) (spL l')).length = 2 ^ 6) := by show _ = _; simp [spL_len]
  generalize spL l = mx at *
  generalize spL l' = my at *
  go_wp2
  go_loopw [7] (fun i wr => ∃ k : Nat, k ≤ 64 ∧ i = .int .i64 k ∧ BoolRow wr w2.heap.size (mixO (fun x y => x && y) mx my k) ∧ BoolRow wr w3.heap.size my ∧ Below w2.heap.size w2 wr) (fun i _ => 64 - (intOf i).toNat)
  case atStart => exact ⟨0, Nat.zero_le _, rfl, by rw [H0.out]; exact R34.out, R4.out, B24.out⟩
  case round =>
    obtain ⟨k, hk64, rfl, hx, hy, hbel⟩ := hrel
    have HX := Lib.hid hx
    have HY := Lib.hid hy
    by_cases hlt : k < 64
    · have hkz : (k : Int) < 64 := by omega
      have c1 := hx.cells.1 k hlt
      rw [HG.out k hlt] at c1
      have c2 := hy.cells.1 k hlt
      have f1 := hx.cells.2.1
      clear hx hy
      have HP1 := Lib.hid (HP.out k hlt)
      generalize mx.getD k false = x at *
      generalize my.getD k false = y at *
      cases x <;> cases y
      all_goals
        go_wp2
        go_roundw
        case rel => exact ⟨k + 1, by omega, by go_num, by rw [HP1.out]; exact HX.out.put k _, HY.out.other hne k _, hbel.setCell (by exact Nat.le_refl _) _⟩
        case measure => simp [intOf]; omega
    · obtain rfl : k = 64 := by omega
      have HXE : Hid (BoolRow wr w2.heap.size (List.zipWith (fun x y => x && y) mx my)) := by show BoolRow _ _ _; rw [← HE.out]; exact HX.out
      have hsw := hbel.size
      clear hx hy
      go_wp2_with fail
      refine (l3Tidy_any 6 (by omega) _ _ _ HLN.out HXE.out.bools).mono ?_
      rintro ex w5 ⟨u, rfl, r5, b5⟩
      have R5 := Lib.hid r5
      have B5 : Hid (Below w.heap.size w w5) := B2.out.trans ((belStep hbel b5).mono (by omega))
      clear r5 b5
      go_wp2
      go_ret
      exact ⟨_, rfl, by rw [HT.out]; exact R5.out.mono (by omega), B5.out⟩

set_option maxRecDepth 100000 in
set_option maxHeartbeats 4000000 in
theorem sSpaceLess_any (w : World) (v v' : Value) (l l' : List ByteArray) (hl : Strs w w.heap.size v l) (hl' : Strs w w.heap.size v' l') (hs : Fit6 l) (hs' : Fit6 l') :
    Calls Try.prog 37 #[v, v'] w fun ex w' => ∃ u, ex = .returned u ∧ StrRow w' w.heap.size u (opR (fun x y => x && !y) l l') ∧ Below w.heap.size w w' := by
  have HW : Hid (∀ W, Below w.heap.size w W → Strs W W.heap.size v l) := fun W hb => (hl.below hb (Nat.le_refl _)).mono hb.size
  have HW' : Hid (∀ W, Below w.heap.size w W → Strs W W.heap.size v' l') := fun W hb => (hl'.below hb (Nat.le_refl _)).mono hb.size
  have HS := Lib.hid hs
  have HS' := Lib.hid hs'
  clear hl hl' hs hs'
  go_enter Try.func37, Try.ntmps37
  go_wp2_with fail
  refine (sSpaceOk_any _ _ l (HW.out _ (Below.refl _ _)) HS.out).mono ?_
  rintro ex w1 ⟨rfl, b1⟩
  have B1 := Lib.hid b1
  have s1 := b1.size
  clear b1
  cases hk : okSp l
  · have HT : Hid (opR (fun x y => x && !y) l l' = []) := by show _ = _; simp [opR, hk]
    go_wp2
    go_ret
    exact ⟨_, rfl, by rw [HT.out]; exact emptyRow _ s1, B1.out.alloc s1 _⟩
  go_wp2_with fail
  refine (sSpaceOk_any _ _ l' (HW'.out _ B1.out) HS'.out).mono ?_
  rintro ex w2 ⟨rfl, b2⟩
  have B2 := Lib.hid (belStep B1.out b2)
  have s2 := B2.out.size
  clear b2
  cases hk' : okSp l'
  · have HT : Hid (opR (fun x y => x && !y) l l' = []) := by show _ = _; simp [opR, hk']
    go_wp2
    go_ret
    exact ⟨_, rfl, by rw [HT.out]; exact emptyRow _ s2, B2.out.alloc s2 _⟩
  have HT : Hid (opR (fun x y => x && !y) l l' = (tidyB 6 (List.zipWith (fun x y => x && !y) (spL l) (spL l'))).map sText) := by show _ = _; simp [opR, hk, hk', tidyT]
  go_wp2_with fail
  refine (l3Mask_any _ _ l (HW.out _ B2.out) hk).mono ?_
  rintro ex w3 ⟨rfl, r3, b3⟩
  have R3 := Lib.hid r3
  have B3 := Lib.hid (belStep B2.out b3)
  have B23 := Lib.hid b3
  have hg3 := r3.cells.2.2
  clear r3 b3
  go_wp2_with fail
  refine (l3Mask_any _ _ l' (HW'.out _ B3.out) hk').mono ?_
  rintro ex w4 ⟨rfl, r4, b4⟩
  have R4 := Lib.hid r4
  have R34 := Lib.hid (R3.out.below b4)
  have B24 : Hid (Below w2.heap.size w2 w4) := belStep B23.out b4
  have hne : w2.heap.size ≠ w3.heap.size := by omega
  clear r4 b4
  have H0 : Hid (mixO (fun x y => x && !y) (spL l) (spL l') 0 = spL l) := mixO_zero _ _ (spL_len l)
  have HG : Hid (∀ k, k < 64 → (mixO (fun x y => x && !y) (spL l) (spL l') k).getD k false = (spL l).getD k false) := fun k hk => mixO_get _ _ _ hk
  have HP : Hid (∀ k, k < 64 → mixO (fun x y => x && !y) (spL l) (spL l') (k + 1) = (mixO (fun x y => x && !y) (spL l) (spL l') k).set k ((fun x y => x && !y) ((spL l).getD k false) ((spL l').getD k false))) := fun k hk => mixO_step _ _ _ hk
  have HE : Hid (mixO (fun x y => x && !y) (spL l) (spL l') 64 = List.zipWith (fun x y => x && !y) (spL l) (spL l')) := mixO_all _ (spL_len l) (spL_len l')
  have HLN : Hid ((List.zipWith (fun x y => x && !y) (spL l) (spL l')).length = 2 ^ 6) := by show _ = _; simp [spL_len]
  generalize spL l = mx at *
  generalize spL l' = my at *
  go_wp2
  go_loopw [7] (fun i wr => ∃ k : Nat, k ≤ 64 ∧ i = .int .i64 k ∧ BoolRow wr w2.heap.size (mixO (fun x y => x && !y) mx my k) ∧ BoolRow wr w3.heap.size my ∧ Below w2.heap.size w2 wr) (fun i _ => 64 - (intOf i).toNat)
  case atStart => exact ⟨0, Nat.zero_le _, rfl, by rw [H0.out]; exact R34.out, R4.out, B24.out⟩
  case round =>
    obtain ⟨k, hk64, rfl, hx, hy, hbel⟩ := hrel
    have HX := Lib.hid hx
    have HY := Lib.hid hy
    by_cases hlt : k < 64
    · have hkz : (k : Int) < 64 := by omega
      have c1 := hx.cells.1 k hlt
      rw [HG.out k hlt] at c1
      have c2 := hy.cells.1 k hlt
      have f1 := hx.cells.2.1
      clear hx hy
      have HP1 := Lib.hid (HP.out k hlt)
      generalize mx.getD k false = x at *
      generalize my.getD k false = y at *
      cases x <;> cases y
      all_goals
        go_wp2
        go_roundw
        case rel => exact ⟨k + 1, by omega, by go_num, by rw [HP1.out]; exact HX.out.put k _, HY.out.other hne k _, hbel.setCell (by exact Nat.le_refl _) _⟩
        case measure => simp [intOf]; omega
    · obtain rfl : k = 64 := by omega
      have HXE : Hid (BoolRow wr w2.heap.size (List.zipWith (fun x y => x && !y) mx my)) := by show BoolRow _ _ _; rw [← HE.out]; exact HX.out
      have hsw := hbel.size
      clear hx hy
      go_wp2_with fail
      refine (l3Tidy_any 6 (by omega) _ _ _ HLN.out HXE.out.bools).mono ?_
      rintro ex w5 ⟨u, rfl, r5, b5⟩
      have R5 := Lib.hid r5
      have B5 : Hid (Below w.heap.size w w5) := B2.out.trans ((belStep hbel b5).mono (by omega))
      clear r5 b5
      go_wp2
      go_ret
      exact ⟨_, rfl, by rw [HT.out]; exact R5.out.mono (by omega), B5.out⟩

end Go.Proofs.Ytndmedkkecikoaa
