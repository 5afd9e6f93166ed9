/-
  Marks that are written into a slice of links, and read again.
-/
import Derived.Test.YtjjhahhchimmlaaGreatDoorNetIntS
import Derived.Test.YtjjhahhchimmlaaGreatDoorNetBase
namespace Go.Proofs.YtjjhahhchimmlaaGreatDoor
open Go.ChangeShapes Go.WideShapes Go.ChangeAt Go.RowKit Go.Joins
set_option linter.unusedVariables false

theorem growFour {a w : World} {g i j k m : Nat} {x y z u : Value} (h : a.grownBy w (some g)) : a.grownBy ((((w.setCell ⟨g, i, none⟩ x).setCell ⟨g, j, none⟩ y).setCell ⟨g, k, none⟩ z).setCell ⟨g, m, none⟩ u) (some g) := by
  have s : ∀ (W : World) (i : Nat) (x : Value), W.grownBy (W.setCell ⟨g, i, none⟩ x) (some g) := fun W i x => ⟨rfl, rfl, rfl, by simp, fun k _ hk => Below.heap_setCell _ _ _ k (fun e => hk (by rw [e]))⟩
  have t : ∀ {a b c : World}, a.grownBy b (some g) → b.grownBy c (some g) → a.grownBy c (some g) := fun h k => ⟨k.os.trans h.os, k.tape.trans h.tape, k.output.trans h.output, Nat.le_trans h.size k.size, fun i hi hne => (k.block i (Nat.lt_of_lt_of_le hi h.size) hne).trans (h.block i hi hne)⟩
  exact t (t (t (t h (s w i x)) (s _ _ _)) (s _ _ _)) (s _ _ _)

/-- The link that is written with the marks from a number on. -/
def mkK (k : Nat) : K4 := ⟨(k : Int), (k : Int) + 1, (k : Int) + 1 + 1, (k : Int) + 1 + 1 + 1⟩
def marksK (k n : Nat) : List K4 := (List.range n).map (fun i => mkK (k + 4 * i))
theorem marksK_len (k n : Nat) : (marksK k n).length = n := by simp [marksK]
theorem marksK_at (k : Nat) {n j : Nat} (h : j < n) : lkAt (marksK k n) j = mkK (k + 4 * j) := by
  rw [lkAt_lt (by rw [marksK_len]; exact h)]
  simp [marksK]
def mixedK (k : Nat) (l : List K4) (j : Nat) : List K4 := marksK k j ++ l.drop j
theorem mixedK_len (k : Nat) (l : List K4) {j : Nat} (h : j ≤ l.length) : (mixedK k l j).length = l.length := by simp [mixedK, marksK_len]; omega
theorem mixedK_zero (k : Nat) (l : List K4) : mixedK k l 0 = l := rfl
theorem mixedK_all (k : Nat) (l : List K4) : mixedK k l l.length = marksK k l.length := by simp [mixedK]
theorem mixedK_step (k : Nat) (l : List K4) {j : Nat} (h : j < l.length) : mixedK k l (j + 1) = (mixedK k l j).set j (mkK (k + 4 * j)) := by
  unfold mixedK
  rw [List.set_append_right _ _ (by rw [marksK_len]; exact Nat.le_refl _), marksK_len, Nat.sub_self]
  have : l.drop j = (l[j]'h) :: l.drop (j + 1) := List.drop_eq_getElem_cons h
  rw [this, List.set_cons_zero, marksK, marksK, List.range_succ, List.map_append, List.append_assoc]
  rfl

set_option maxRecDepth 100000 in
set_option maxHeartbeats 4000000 in
theorem markLinkS_own (w : World) (base k : Nat) (v : Value) (l : List K4) (h : LkRow w base v l) (hk1 : 1 ≤ k) (hk : k + 4 * l.length ≤ 8000000) (hs : base ≤ w.heap.size) :
    Calls Tryz.prog 19 #[v, .int .i64 k] w fun e w' => e = .returned (.int .i64 ((k + 4 * l.length : Nat) : Int)) ∧ LkRow w' base v (marksK k l.length) ∧ Below base w w' ∧ w.grownBy w' v.ownBlock := by
  rcases h.form with ⟨rfl, rfl⟩ | ⟨g, cap, rfl, hb, hg, hc, hm⟩
  · go_enter Tryz.func19, Tryz.ntmps19
    go_wp2
    go_loop [1, 5] (fun x i => x = .int .i64 k ∧ i = .int .i64 0) (fun _ i => (intOf i).toNat)
    case atStart => exact ⟨rfl, rfl⟩
    case round =>
      obtain ⟨rfl, rfl⟩ := hrel
      go_wp2
      go_ret
      exact ⟨rfl, ⟨rfl, .inl ⟨rfl, rfl⟩⟩, Below.refl _ _, ⟨rfl, rfl, rfl, Nat.le_refl _, fun _ _ _ => rfl⟩⟩
  · have HR := Lib.hid h
    clear h
    unfold maxLen at hm
    have HL := Lib.hid (fun j (hj : j ≤ l.length) => mixedK_len k l hj)
    have HM := Lib.hid (fun j (hj : j < l.length) => mixedK_step k l hj)
    have HA := Lib.hid (mixedK_all k l)
    have HZ := Lib.hid (mixedK_zero k l)
    generalize l.length = n at *
    go_enter Tryz.func19, Tryz.ntmps19
    go_wp2
    go_loopw [1, 5] (fun x i wr => ∃ j : Nat, j ≤ n ∧ i = .int .i64 j ∧ x = .int .i64 ((k + 4 * j : Nat) : Int) ∧ LkRow wr base (.slice (some ⟨g, 0, none⟩) n cap) (mixedK k l j) ∧ w.grownBy wr (some g)) (fun _ i _ => n - (intOf i).toNat)
    case atStart => exact ⟨0, Nat.zero_le _, rfl, rfl, HR.out, ⟨rfl, rfl, rfl, Nat.le_refl _, fun _ _ _ => rfl⟩⟩
    case round =>
      obtain ⟨j, hj, rfl, rfl, hrow, hgr⟩ := hrel
      have HGR := Lib.hid hgr
      clear hgr
      by_cases hlt : j < n
      · have hz : (j : Int) < (n : Int) := by omega
        obtain ⟨K, hK⟩ : ∃ K, k + 4 * j = K := ⟨_, rfl⟩
        have HMJ := Lib.hid (HM.out j hlt)
        rw [hK] at HMJ
        rw [hK]
        have hKb : K + 4 ≤ 8000000 := by omega
        have hK4 : Hid (((k + 4 * (j + 1) : Nat) : Int) = (K : Int) + 1 + 1 + 1 + 1) := by show _ = _; omega
        clear hK
        have HRW := Lib.hid hrow
        obtain ⟨hc1, hf1, hg1⟩ := hrow.cells (HL.out j hj)
        obtain ⟨c0, c1, c2, c3⟩ := hc1 j hlt
        clear hc1 hrow
        go_wp2
        go_roundw
        case rel => exact ⟨j + 1, by omega, by go_num, by rw [hK4.out], LkRow.put (r := mkK K) HRW.out (HL.out j hj) hlt HMJ.out, growFour HGR.out⟩
        case measure => simp [intOf]; omega
      · obtain rfl : j = n := by omega
        have hgs := HGR.out
        go_wp2
        go_ret
        exact ⟨rfl, by rw [← HA.out]; exact hrow, ⟨hgs.os, hgs.tape, hgs.output, hgs.size, fun i hi => hgs.block i (by omega) (fun e => by cases e; omega)⟩, hgs⟩

end Go.Proofs.YtjjhahhchimmlaaGreatDoor
