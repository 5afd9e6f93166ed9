/-
  Rows of numbers of a call's own: what the statements' own helpers do with them.
-/
import Derived.Test.YtcbhdbbdoalbjaaExtReg
import Derived.Deep.Onto
import Derived.OwnWalk
import Derived.Laws.OwnMore
namespace Go.Proofs.Ytcbhdbbdoalbjaa
open Go.ChangeShapes Go.WideShapes Go.ChangeAt Go.RowKit Go.Joins
set_option linter.unusedVariables false

/-- A value is a slice of its own with these numbers; its block is numbered from base on. -/
def IntRow (w : World) (base : Nat) (v : Value) (l : List Int) : Prop := w.ownsRow base 3 1 v l.length (l.map (Value.int .i64))
def inAt (l : List Int) (j : Nat) : Int := l.getD j 0
theorem IntRow.form {w : World} {base : Nat} {v : Value} {l : List Int} (h : IntRow w base v l) :
    (v = .slice none 0 0 ∧ l = []) ∨ ∃ g cap, v = .slice (some ⟨g, 0, none⟩) l.length cap ∧ base ≤ g ∧ g < w.heap.size ∧ l.length ≤ cap ∧ cap ≤ maxLen ∧ (∀ j, j < l.length → w.cell? ⟨g, j, none⟩ = some (.int .i64 (inAt l j))) ∧ ∀ j, w.frozen? ⟨g, j, none⟩ = false := by
  have h0 := h
  obtain ⟨hl, h1 | ⟨g, cap, cur, rfl, hb, hg, hc, hm, hs, ht⟩⟩ := h
  · exact .inl ⟨h1.1, List.eq_nil_of_length_eq_zero h1.2⟩
  · refine .inr ⟨g, cap, rfl, hb, (World.ownsRow.lt h0 g rfl).2, hc, hm, fun j hj => ?_, fun j => World.ownsRow.frozenAt h0 j⟩
    rw [World.ownsRow.cellAt h0 j (by omega)]
    simp [hj, inAt]
theorem IntRow.below {w w' : World} {base : Nat} {v : Value} {l : List Int} (h : IntRow w base v l) (hb : Below w.heap.size w w') : IntRow w' base v l :=
  World.ownsRow.kept h (row := none) ⟨hb.os, hb.tape, hb.output, hb.size, fun k hk _ => hb.block k hk⟩ (by cases v.ownBlock <;> simp)
theorem IntRow.mono {w : World} {base base' : Nat} {v : Value} {l : List Int} (h : IntRow w base v l) (hb : base' ≤ base) : IntRow w base' v l := World.ownsRow.mono h hb
/-- One that lies below what has turned. -/
theorem IntRow.under {w w' : World} {base n : Nat} {v : Value} {l : List Int} (h : IntRow w base v l) (hb : Below n w w') (hv : ∀ k, v.ownBlock = some k → k < n) : IntRow w' base v l := by
  obtain ⟨hl, h1 | ⟨g, cap, cur, rfl, hb0, hg, hc⟩⟩ := h
  · exact ⟨hl, .inl h1⟩
  · exact ⟨hl, .inr ⟨g, cap, cur, rfl, hb0, (hb.block g (hv g rfl)).trans hg, hc⟩⟩
theorem IntRow.put {w : World} {base g cap j n : Nat} {x : Int} {l m : List Int} (h : IntRow w base (.slice (some ⟨g, 0, none⟩) n cap) l) (hn : l.length = n) (hm : m = l.set j x) :
    IntRow (w.setCell ⟨g, j, none⟩ (.int .i64 x)) base (.slice (some ⟨g, 0, none⟩) n cap) m := by
  subst hm hn
  have := (World.ownsRow.stored h j (.int .i64 x)).1
  unfold IntRow
  simpa [List.map_set] using this
theorem IntRow.cells {w : World} {base g cap n : Nat} {l : List Int} (h : IntRow w base (.slice (some ⟨g, 0, none⟩) n cap) l) (hn : l.length = n) : (∀ j, j < n → w.cell? ⟨g, j, none⟩ = some (.int .i64 (inAt l j))) ∧ (∀ j, w.frozen? ⟨g, j, none⟩ = false) ∧ g < w.heap.size := by
  subst hn
  refine ⟨fun j hj => ?_, fun j => World.ownsRow.frozenAt h j, (World.ownsRow.lt h g rfl).2⟩
  rw [World.ownsRow.cellAt h j (by omega)]
  simp [hj, inAt]

set_option maxHeartbeats 4000000 in
theorem eqIntS_same (w : World) (base base' : Nat) (v v' : Value) (l : List Int) (h : IntRow w base v l) (h' : IntRow w base' v' l) (hn : l.length ≤ 1048576) :
    Calls Try.prog 46 #[v, v'] w fun e w' => e = .returned (.bool true) ∧ Below w.heap.size w w' := by
  rcases h.form with ⟨rfl, rfl⟩ | ⟨g, cap, rfl, hb, hg, hc, hm, hcell, hfr⟩
  · rcases h'.form with ⟨rfl, -⟩ | ⟨g', cap', rfl, -, -, -, -, -, -⟩
    all_goals
      go_enter Try.func46, Try.ntmps46
      go_wp2
      go_loop [5] (fun i => i = .int .i64 0) (fun i => (intOf i).toNat)
      case atStart => rfl
      case round =>
        subst hrel
        go_wp2
        go_ret
        exact ⟨rfl, Below.refl _ _⟩
  · rcases h'.form with ⟨rfl, rfl⟩ | ⟨g', cap', rfl, hb', hg', hc', hm', hcell', hfr'⟩
    · go_enter Try.func46, Try.ntmps46
      go_wp2
      go_loop [5] (fun i => i = .int .i64 0) (fun i => (intOf i).toNat)
      case atStart => rfl
      case round =>
        subst hrel
        go_wp2
        go_ret
        exact ⟨rfl, Below.refl _ _⟩
    · have HC := Lib.hid hcell
      have HC' := Lib.hid hcell'
      clear hcell hcell' h h' hfr hfr'
      unfold maxLen at hm hm'
      generalize hN : l.length = n at *
      go_enter Try.func46, Try.ntmps46
      go_wp2
      go_loopw [5] (fun i wr => ∃ k : Nat, k ≤ n ∧ i = .int .i64 k ∧ Below w.heap.size w wr) (fun i _ => n - (intOf i).toNat)
      case atStart => exact ⟨0, Nat.zero_le _, rfl, Below.refl _ _⟩
      case round =>
        obtain ⟨k, hk, rfl, hbel⟩ := hrel
        by_cases hlt : k < n
        · have hz : (k : Int) < (n : Int) := by omega
          have c1 : wr.cell? ⟨g, k, none⟩ = some (.int .i64 (inAt l k)) := (belCell hbel _ _ hg).trans (HC.out k hlt)
          have c2 : wr.cell? ⟨g', k, none⟩ = some (.int .i64 (inAt l k)) := (belCell hbel _ _ hg').trans (HC'.out k hlt)
          generalize inAt l k = x at *
          go_wp2_with fail
          go_quiet (fail)
          go_wp2
          go_roundw
          case rel => exact ⟨k + 1, by omega, by go_num, ⟨hbel.os, hbel.tape, hbel.output, hbel.size, hbel.block⟩⟩
          case measure => simp [intOf]; omega
        · obtain rfl : k = n := by omega
          go_wp2
          go_ret
          exact ⟨rfl, hbel⟩

/-- The numbers that are written as marks. -/
def marksI (k n : Nat) : List Int := (List.range n).map (fun i => ((k + i : Nat) : Int))
theorem marksI_len (k n : Nat) : (marksI k n).length = n := by simp [marksI]
theorem marksI_at (k : Nat) {n j : Nat} (h : j < n) : inAt (marksI k n) j = ((k + j : Nat) : Int) := by simp [inAt, marksI, h]
def mixedI (k : Nat) (l : List Int) (j : Nat) : List Int := marksI k j ++ l.drop j
theorem mixedI_len (k : Nat) (l : List Int) {j : Nat} (h : j ≤ l.length) : (mixedI k l j).length = l.length := by simp [mixedI, marksI_len]; omega
theorem mixedI_zero (k : Nat) (l : List Int) : mixedI k l 0 = l := rfl
theorem mixedI_all (k : Nat) (l : List Int) : mixedI k l l.length = marksI k l.length := by simp [mixedI]
theorem mixedI_step (k : Nat) (l : List Int) {j : Nat} (h : j < l.length) : mixedI k l (j + 1) = (mixedI k l j).set j (((k + j : Nat) : Int)) := by
  unfold mixedI
  rw [List.set_append_right _ _ (by rw [marksI_len]; exact Nat.le_refl _), marksI_len, Nat.sub_self]
  have : l.drop j = (l[j]'h) :: l.drop (j + 1) := List.drop_eq_getElem_cons h
  rw [this, List.set_cons_zero, marksI, marksI, List.range_succ, List.map_append, List.append_assoc]
  rfl

set_option maxHeartbeats 2000000 in
theorem markIntS_own (w : World) (base k : Nat) (v : Value) (l : List Int) (h : IntRow w base v l) (hk1 : 1 ≤ k) (hk : k + l.length ≤ 8000000) (hs : base ≤ w.heap.size) :
    Calls Try.prog 47 #[v, .int .i64 k] w fun e w' => e = .returned (.int .i64 ((k + l.length : Nat) : Int)) ∧ IntRow w' base v (marksI k l.length) ∧ Below base w w' ∧ w.grownBy w' v.ownBlock := by
  rcases h.form with ⟨rfl, rfl⟩ | ⟨g, cap, rfl, hb, hg, hc, hm, hcell, hfr⟩
  · go_enter Try.func47, Try.ntmps47
    go_wp2
    go_loop [1, 5] (fun x i => x = .int .i64 k ∧ i = .int .i64 0) (fun _ i => (intOf i).toNat)
    case atStart => exact ⟨rfl, rfl⟩
    case round =>
      obtain ⟨rfl, rfl⟩ := hrel
      go_wp2
      go_ret
      exact ⟨rfl, World.ownsRow_nil _ _ _ _, Below.refl _ _, ⟨rfl, rfl, rfl, Nat.le_refl _, fun _ _ _ => rfl⟩⟩
  · have HR := Lib.hid h
    clear hcell h hfr
    unfold maxLen at hm
    have HL := Lib.hid (fun j (hj : j ≤ l.length) => mixedI_len k l hj)
    have HM := Lib.hid (fun j (hj : j < l.length) => mixedI_step k l hj)
    have HA := Lib.hid (mixedI_all k l)
    have HZ := Lib.hid (mixedI_zero k l)
    generalize l.length = n at *
    go_enter Try.func47, Try.ntmps47
    go_wp2
    go_loopw [1, 5] (fun x i wr => ∃ j : Nat, j ≤ n ∧ i = .int .i64 j ∧ x = .int .i64 ((k + j : Nat) : Int) ∧ IntRow wr base (.slice (some ⟨g, 0, none⟩) n cap) (mixedI k l j) ∧ w.grownBy wr (some g)) (fun _ i _ => n - (intOf i).toNat)
    case atStart => exact ⟨0, Nat.zero_le _, rfl, rfl, HR.out, ⟨rfl, rfl, rfl, Nat.le_refl _, fun _ _ _ => rfl⟩⟩
    case round =>
      obtain ⟨j, hj, rfl, rfl, hrow, hgr⟩ := hrel
      have HGR := Lib.hid hgr
      have HRW := Lib.hid hrow
      clear hgr
      by_cases hlt : j < n
      · have hz : (j : Int) < (n : Int) := by omega
        obtain ⟨hc1, hf1, hg1⟩ := hrow.cells (HL.out j hj)
        have c1 := hc1 j hlt
        have HPT := Lib.hid (HRW.out.put (HL.out j hj) (HM.out j hlt))
        have HGX : Hid (w.grownBy (wr.setCell ⟨g, j, none⟩ (.int .i64 ((k + j : Nat) : Int))) (some g)) := ⟨HGR.out.os, HGR.out.tape, HGR.out.output, by simpa [World.setCell] using HGR.out.size, fun i hi hne => (Below.heap_setCell _ _ _ _ (fun e => hne (by dsimp only at e; rw [e]))).trans (HGR.out.block i hi hne)⟩
        clear hc1 hrow
        have hcast : ((k + j : Nat) : Int) = (k : Int) + (j : Int) := by omega
        rw [hcast] at HPT HGX
        go_wp2
        go_roundw
        case rel => exact ⟨j + 1, by omega, by go_num, by go_num, HPT.out, HGX.out⟩
        case measure => simp [intOf]; omega
      · obtain rfl : j = n := by omega
        have hgs := HGR.out
        go_wp2
        go_ret
        exact ⟨rfl, by rw [← HA.out]; exact hrow, ⟨hgs.os, hgs.tape, hgs.output, hgs.size, fun i hi => hgs.block i (by omega) (fun e => by cases e; omega)⟩, hgs⟩

set_option maxHeartbeats 2000000 in
theorem heldIntS_at (w : World) (base k n : Nat) (v : Value) (h : IntRow w base v (marksI k n)) (hk1 : 1 ≤ k) (hk : k + n ≤ 8000000) :
    Calls Try.prog 48 #[v, .int .i64 k] w fun e w' => e = .returned (.int .i64 ((k + n : Nat) : Int)) ∧ Below w.heap.size w w' := by
  rcases h.form with ⟨rfl, hnil⟩ | ⟨g, cap, rfl, hb, hg, hc, hm, hcell, hfr⟩
  · obtain rfl : n = 0 := by rw [← marksI_len k n, hnil]; rfl
    go_enter Try.func48, Try.ntmps48
    go_wp2
    go_loop [1, 5] (fun x i => x = .int .i64 k ∧ i = .int .i64 0) (fun _ i => (intOf i).toNat)
    case atStart => exact ⟨rfl, rfl⟩
    case round =>
      obtain ⟨rfl, rfl⟩ := hrel
      go_wp2
      go_ret
      exact ⟨rfl, Below.refl _ _⟩
  · rw [marksI_len] at *
    have HC : Hid (∀ j, j < n → w.cell? ⟨g, j, none⟩ = some (.int .i64 ((k : Int) + (j : Int)))) := fun j hj => by rw [hcell j hj, marksI_at k hj]; simp
    clear hcell h hfr
    unfold maxLen at hm
    go_enter Try.func48, Try.ntmps48
    go_wp2
    go_loopw [1, 5] (fun x i wr => ∃ j : Nat, j ≤ n ∧ i = .int .i64 j ∧ x = .int .i64 ((k + j : Nat) : Int) ∧ Below w.heap.size w wr) (fun _ i _ => n - (intOf i).toNat)
    case atStart => exact ⟨0, Nat.zero_le _, rfl, rfl, Below.refl _ _⟩
    case round =>
      obtain ⟨j, hj, rfl, rfl, hbel⟩ := hrel
      by_cases hlt : j < n
      · have hz : (j : Int) < (n : Int) := by omega
        have c1 := (belCell hbel _ j hg).trans (HC.out j hlt)
        have HBL := Lib.hid hbel
        have hcast : ((k + j : Nat) : Int) = (k : Int) + (j : Int) := by omega
        clear hbel
        go_wp2
        go_roundw
        case rel => exact ⟨j + 1, by omega, by go_num, by go_num, HBL.out⟩
        case measure => simp [intOf]; omega
      · obtain rfl : j = n := by omega
        go_wp2
        go_ret
        exact ⟨rfl, hbel⟩

end Go.Proofs.Ytcbhdbbdoalbjaa
