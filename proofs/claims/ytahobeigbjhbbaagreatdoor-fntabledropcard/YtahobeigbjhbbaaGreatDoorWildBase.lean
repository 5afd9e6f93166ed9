/-
  What the program's own functions on patterns return: a text is read as a set of masks or as none.
-/
import Derived.Test.YtahobeigbjhbbaaGreatDoorWildMath
import Derived.Deep.RegionWith
namespace Go.Proofs.YtahobeigbjhbbaaGreatDoor
open Go.ChangeShapes Go.WideShapes Go.ChangeAt Go.RowKit Go.Joins
set_option linter.unusedVariables false

set_option maxHeartbeats 400000 in
theorem wildBit_at (k : Nat) (hk : k < 6) (w : World) :
    Calls Tryz.prog 116 #[.int .i64 k] w fun e w' => e = .returned (.int .u8 (pw k)) ∧ w = w' := by
  match k, hk with
  | 0, _ | 1, _ | 2, _ | 3, _ | 4, _ | 5, _ =>
    go_enter Tryz.func116, Tryz.ntmps116
    go_wp2
    go_ret
    exact ⟨rfl, rfl⟩

/-- Masks, as a value; and as one of an interface. -/
def mskV (c v : Nat → Bool) : Value := .agg #[.int .u8 (ofB c), .int .u8 (ofB v)]
def mskI (c v : Nat → Bool) : Value := .iface 147 (.agg #[.int .u8 (ofB c), .int .u8 (ofB v)])
def noneI : Value := .iface 145 (.agg #[])

set_option maxHeartbeats 1000000 in
theorem readWild_yes (s : ByteArray) (hk : okS s = true) (w : World) :
    Calls Tryz.prog 78 #[.string s] w fun e w' => e = .returned (.iface 147 (.agg #[.int .u8 (ofB (cf s)), .int .u8 (ofB (vf s))])) ∧ Below w.heap.size w w' := by
  have h6 : s.size = 6 := okS_size hk
  have h6' : ((s.size : Int) != 6) = false := by simp [h6]
  have HK := Lib.hid (okS_sgn hk)
  clear hk
  go_enter Tryz.func78, Tryz.ntmps78
  go_wp2
  go_loopw [10] (fun i wr => ∃ k : Nat, k ≤ 6 ∧ i = .int .i64 k ∧ wr.heap[w.heap.size]? = some (.cells #[.int .u8 (ofB (pre k (cf s))), .int .u8 (ofB (pre k (vf s)))] 147) ∧ Below w.heap.size w wr) (fun i _ => 6 - (intOf i).toNat)
  case atStart => exact ⟨0, Nat.zero_le _, rfl, by rw [pre_zero, pre_zero]; exact (MapKept.heap_alloc w _).1, below_alloc1 _ _⟩
  case round =>
    obtain ⟨k, hk, rfl, hblk, hbel⟩ := hrel
    have c0 : wr.cell? ⟨w.heap.size, 0, none⟩ = some (.int .u8 (ofB (pre k (cf s)))) := by rw [cell_of_block hblk]; rfl
    have c1 : wr.cell? ⟨w.heap.size, 1, none⟩ = some (.int .u8 (ofB (pre k (vf s)))) := by rw [cell_of_block hblk]; rfl
    have f0 := unfrozen_of_block hblk
    by_cases hlt : k < 6
    · have hb : (s[k]'(by omega)) = byA s k := byA_get _
      rcases HK.out k hlt with e | e | e
      · have ec : Hid (cf s k = true) := by show cf s k = true; simp [cf, e]
        have ev : Hid (vf s k = false) := by show vf s k = false; simp [vf, e]
        go_wp2
        go_region_with (go_at_call 116; refine (wildBit_at _ hlt _).mono ?_; rintro e wq ⟨rfl, rfl⟩)
        all_goals
          rw [pre_yes hlt ec.out]
          go_wp2
          go_roundw
          case rel => exact ⟨k + 1, by omega, by go_num, by rw [pre_no ev.out]; exact block_setCell hblk _, (hbel.setCell (Nat.le_refl _) _).drew⟩
          case measure => simp [intOf]; omega
      · have ec : Hid (cf s k = true) := by show cf s k = true; simp [cf, e]
        have ev : Hid (vf s k = true) := by show vf s k = true; simp [vf, e]
        go_wp2
        go_region_with (go_at_call 116; refine (wildBit_at _ hlt _).mono ?_; rintro e wq ⟨rfl, rfl⟩)
        all_goals
          rw [pre_yes hlt ec.out]
          go_wp2
          go_region_with (go_at_call 116; refine (wildBit_at _ hlt _).mono ?_; rintro e wq ⟨rfl, rfl⟩)
          all_goals
            rw [pre_yes hlt ev.out]
            go_wp2
            go_roundw
            case rel => exact ⟨k + 1, by omega, by go_num, block_setCell (w := World.setCell wr _ _) (block_setCell hblk _) _, (((hbel.setCell (Nat.le_refl _) _).setCell (Nat.le_refl _) _).drew).drew⟩
            case measure => simp [intOf]; omega
      · have ec : Hid (cf s k = false) := by show cf s k = false; simp [cf, e]
        have ev : Hid (vf s k = false) := by show vf s k = false; simp [vf, e]
        go_wp2
        go_roundw
        case rel => exact ⟨k + 1, by omega, by go_num, by rw [pre_no ev.out, pre_no ec.out]; exact hblk, hbel⟩
        case measure => simp [intOf]; omega
    · obtain rfl : k = 6 := by omega
      rw [pre_six] at c0 c1
      go_wp2
      go_ret
      exact ⟨rfl, hbel⟩

set_option maxHeartbeats 1000000 in
theorem readWild_short (s : ByteArray) (hs : s.size ≠ 6) (hm : s.size ≤ 1048576) (w : World) :
    Calls Tryz.prog 78 #[.string s] w fun e w' => e = .returned (.iface 145 (.agg #[])) ∧ Below w.heap.size w w' := by
  have h6' : ((s.size : Int) != 6) = true := by simp; omega
  go_enter Tryz.func78, Tryz.ntmps78
  go_wp2
  go_ret
  exact ⟨rfl, Below.refl _ _⟩

set_option maxHeartbeats 1000000 in
theorem readWild_bad (s : ByteArray) (h6 : s.size = 6) (j : Nat) (hj : j < 6) (hbad : sgn (byA s j) = false) (w : World) :
    Calls Tryz.prog 78 #[.string s] w fun e w' => e = .returned (.iface 145 (.agg #[])) ∧ Below w.heap.size w w' := by
  have h6' : ((s.size : Int) != 6) = false := by simp [h6]
  have HB := Lib.hid hbad
  clear hbad
  go_enter Tryz.func78, Tryz.ntmps78
  go_wp2
  go_loopw [10] (fun i wr => ∃ k : Nat, k ≤ j ∧ i = .int .i64 k ∧ (∃ c v : Int, wr.heap[w.heap.size]? = some (.cells #[.int .u8 c, .int .u8 v] 147)) ∧ Below w.heap.size w wr) (fun i _ => 6 - (intOf i).toNat)
  case atStart => exact ⟨0, Nat.zero_le _, rfl, ⟨0, 0, (MapKept.heap_alloc w _).1⟩, below_alloc1 _ _⟩
  case round =>
    obtain ⟨k, hk, rfl, ⟨c, v, hblk⟩, hbel⟩ := hrel
    have c0 : wr.cell? ⟨w.heap.size, 0, none⟩ = some (.int .u8 c) := by rw [cell_of_block hblk]; rfl
    have c1 : wr.cell? ⟨w.heap.size, 1, none⟩ = some (.int .u8 v) := by rw [cell_of_block hblk]; rfl
    have f0 := unfrozen_of_block hblk
    have hlt : k < 6 := by omega
    have hb : (s[k]'(by omega)) = byA s k := byA_get _
    have HN : Hid (sgn (byA s k) = true → k + 1 ≤ j) := by
      intro h
      have : k ≠ j := by
        rintro rfl
        rw [HB.out] at h
        cases h
      omega
    by_cases e48 : byA s k = 48
    · have HN1 := HN.out (by rw [e48]; rfl)
      go_wp2
      go_region_with (go_at_call 116; refine (wildBit_at _ hlt _).mono ?_; rintro e wq ⟨rfl, rfl⟩)
      all_goals
        go_wp2
        go_roundw
        case rel => exact ⟨k + 1, HN1, by go_num, ⟨_, _, block_setCell hblk _⟩, (hbel.setCell (Nat.le_refl _) _).drew⟩
        case measure => simp [intOf]; omega
    have n48 : (((byA s k).toNat : Int) == 48) = false := by
      have : (byA s k).toNat ≠ 48 := fun e => e48 (by apply UInt8.toNat_inj.1; simpa using e)
      simp; omega
    by_cases e49 : byA s k = 49
    · have HN1 := HN.out (by rw [e49]; rfl)
      clear n48 e48
      go_wp2
      go_region_with (go_at_call 116; refine (wildBit_at _ hlt _).mono ?_; rintro e wq ⟨rfl, rfl⟩)
      all_goals
        go_wp2
        go_region_with (go_at_call 116; refine (wildBit_at _ hlt _).mono ?_; rintro e wq ⟨rfl, rfl⟩)
        all_goals
          go_wp2
          go_roundw
          case rel => exact ⟨k + 1, HN1, by go_num, ⟨_, _, block_setCell (w := World.setCell wr _ _) (block_setCell hblk _) _⟩, (((hbel.setCell (Nat.le_refl _) _).setCell (Nat.le_refl _) _).drew).drew⟩
          case measure => simp [intOf]; omega
    have n49 : (((byA s k).toNat : Int) == 49) = false := by
      have : (byA s k).toNat ≠ 49 := fun e => e49 (by apply UInt8.toNat_inj.1; simpa using e)
      simp; omega
    by_cases e120 : byA s k = 120
    · have HN1 := HN.out (by rw [e120]; rfl)
      clear n48 e48 n49 e49
      go_wp2
      go_roundw
      case rel => exact ⟨k + 1, HN1, by go_num, ⟨_, _, hblk⟩, hbel⟩
      case measure => simp [intOf]; omega
    have n120 : (((byA s k).toNat : Int) == 120) = false := by
      have : (byA s k).toNat ≠ 120 := fun e => e120 (by apply UInt8.toNat_inj.1; simpa using e)
      simp; omega
    clear e48 e49 e120
    go_wp2
    go_ret
    exact ⟨rfl, hbel⟩

/-- What is no pattern is read as none. -/
theorem readWild_no (s : ByteArray) (hk : okS s = false) (hm : s.size ≤ 1048576) (w : World) :
    Calls Tryz.prog 78 #[.string s] w fun e w' => e = .returned (.iface 145 (.agg #[])) ∧ Below w.heap.size w w' := by
  by_cases h6 : s.size = 6
  · have : all6 (fun i => sgn (byA s i)) = false := by simpa [okS, h6] using hk
    obtain ⟨j, hj, hb⟩ := all6_not.1 this
    exact readWild_bad s h6 j hj hb w
  · exact readWild_short s h6 hm w

end Go.Proofs.YtahobeigbjhbbaaGreatDoor
