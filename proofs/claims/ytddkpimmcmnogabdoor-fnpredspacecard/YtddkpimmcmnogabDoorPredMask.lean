/-
  The heads of a condition, as a row of 64 bools: by the model's l4Mask; whether two conditions hold for the same heads, by the model.
-/
import Derived.Test.YtddkpimmcmnogabDoorPredB
import Derived.Test.YtddkpimmcmnogabDoorSpaceSp
namespace Go.Proofs.YtddkpimmcmnogabDoor
open Go.ChangeShapes Go.WideShapes Go.ChangeAt Go.RowKit Go.Joins
set_option linter.unusedVariables false

/-- The heads of a condition, and while they are filled in. -/
def evM (c : Cnd) : List Bool := (List.range 64).map fun j : Nat => evn c (j : Int)
def mixC (c : Cnd) (n : Nat) : List Bool := (List.range 64).map fun j : Nat => bif decide (j < n) then evn c (j : Int) else false
theorem evM_len (c : Cnd) : (evM c).length = 64 := by simp [evM]
theorem mixC_len (c : Cnd) (n : Nat) : (mixC c n).length = 64 := by simp [mixC]
theorem mixC_start (c : Cnd) : mixC c 0 = List.replicate 64 false := by
  refine List.eq_replicate_iff.2 ⟨mixC_len _ _, fun b hb => ?_⟩
  obtain ⟨j, _, rfl⟩ := List.mem_map.1 hb
  simp
theorem mixC_end (c : Cnd) : mixC c 64 = evM c := by
  unfold mixC evM
  apply List.map_congr_left
  intro j hj
  have := List.mem_range.1 hj
  simp [this]
theorem mixC_step (c : Cnd) {n : Nat} (hn : n < 64) : mixC c (n + 1) = (mixC c n).set n (evn c (n : Int)) := by
  apply List.ext_getElem
  · simp [mixC]
  · intro j h1 h2
    rw [List.getElem_set]
    by_cases e : n = j
    · subst e
      simp [mixC]
    · have e' : (decide (j < n + 1)) = decide (j < n) := by
        by_cases h : j < n
        · simp [h, show j < n + 1 by omega]
        · simp [h, show ¬ j < n + 1 by omega]
      simp [mixC, e, e']
theorem evM_same (c c' : Cnd) : (evM c == evM c') = true ↔ ∀ n : Int, 0 ≤ n → n ≤ 63 → evn c n = evn c' n := by
  rw [beq_iff_eq]
  constructor
  · intro h n h0 h1
    have := congrArg (fun l : List Bool => l[n.toNat]?) h
    simp only [evM, List.getElem?_map] at this
    rw [List.getElem?_range (by omega)] at this
    simp only [Option.map_some, Option.some.injEq] at this
    rwa [Int.toNat_of_nonneg h0] at this
  · intro h
    unfold evM
    apply List.map_congr_left
    intro j hj
    have := List.mem_range.1 hj
    exact h j (by omega) (by omega)

set_option maxRecDepth 100000 in
set_option maxHeartbeats 4000000 in
theorem l4Mask_any (c : Cnd) (hk : c.ok = true) (hl : c.txt.length ≤ 1048576) (w : World) :
    Calls Tryd.prog 25 #[.string (bs c.txt)] w fun ex w' => ex = .returned (.slice (some ⟨w.heap.size, 0, none⟩) 64 64) ∧ BoolRow w' w.heap.size (evM c) ∧ Below w.heap.size w w' := by
  obtain ⟨i0, hi, hz0, hz1, hz2⟩ := info_parts infoB
  have HI := Lib.hid hi
  have HZ0 := Lib.hid hz0
  have HZ1 := Lib.hid hz1
  have HZ2 := Lib.hid hz2
  clear hi hz0 hz1 hz2
  have HST : Hid (mixC c 0 = List.replicate 64 false) := mixC_start c
  have HEN : Hid (mixC c 64 = evM c) := mixC_end c
  have HSP : Hid (∀ n, n < 64 → mixC c (n + 1) = (mixC c n).set n (evn c (n : Int))) := fun n hn => mixC_step c hn
  have HH : Hid (∀ (n : Int) (W : World), Calls Tryd.prog 44 #[.string (bs c.txt), .agg #[.int .i64 (n / 16), .int .i64 (n / 4 % 4), .int .i64 (n % 4)]] W fun e w' => e = .returned (.bool (evn c n)) ∧ Below W.heap.size W w') := fun n W => shas_any _ _ _ c hk hl W
  clear hk hl
  generalize bs c.txt = s at *
  go_enter Tryd.func25, Tryd.ntmps25
  go_wp2_with (at_make; refine wpList_make_full _ rfl _ _ 58 rfl w.heap.size 4 i0 (.bool false) 1 Tryd.underlying58 HI.out HZ0.out HZ1.out .i64 .i64 _ _ 64 rfl rfl rfl rfl ?b2 ?b3 (Nat.le_refl _) ?_)
  case b2 => rw [HZ2.out]; omega
  case b3 => unfold maxLen; omega
  intro w1 hown hg1
  have HB1 : Hid (Below w.heap.size w w1) := ⟨hg1.os, hg1.tape, hg1.output, hg1.size, fun k hk => hg1.block k hk (by simp)⟩
  have HR1 : Hid (BoolRow w1 w.heap.size (mixC c 0)) := by
    refine ⟨?_, mixC_len _ _⟩
    have := hown
    rw [made_one] at this
    rw [HST.out, List.map_replicate]
    exact this
  clear hown hg1
  go_wp2
  go_loopw [4] (fun x wr => ∃ n : Nat, n ≤ 64 ∧ x = .int .i64 n ∧ BoolRow wr w.heap.size (mixC c n) ∧ Below w.heap.size w wr) (fun x _ => 64 - (intOf x).toNat)
  case atStart => exact ⟨0, Nat.zero_le _, rfl, HR1.out, HB1.out⟩
  case round =>
    obtain ⟨n, hn, rfl, hrow, hbel⟩ := hrel
    have HR := Lib.hid hrow
    have HB := Lib.hid hbel
    clear hrow hbel HR1 HB1
    by_cases hlt : n < 64
    · have hnz64 : (n : Int) < 64 := by omega
      go_wp2_with fail
      refine (l1Of_any (n : Int) (by omega) (by omega) _).mono ?_
      rintro e w2 ⟨rfl, b2⟩
      have HR2 := Lib.hid (HR.out.below b2)
      have HB2 := Lib.hid (belStep HB.out b2)
      clear b2
      go_wp2_with fail
      refine (HH.out (n : Int) _).mono ?_
      rintro e w3 ⟨rfl, b3⟩
      have HR3 := Lib.hid (HR2.out.below b3)
      have HB3 := Lib.hid (belStep HB2.out b3)
      have HS2 := Lib.hid (HSP.out n hlt)
      have hgt3 := HR3.out.cells.1 n hlt
      have hfr3 := HR3.out.cells.2.1
      have hgl3 := HR3.out.cells.2.2
      clear b3 HR HB HR2 HB2
      generalize (mixC c n).getD n false = oo at *
      generalize evn c (n : Int) = nx at *
      go_wp2
      go_roundw
      case rel => exact ⟨n + 1, by omega, by go_num, by rw [HS2.out]; exact HR3.out.put n nx, HB3.out.setCell (by exact Nat.le_refl _) _⟩
      case measure => simp [intOf]; omega
    · obtain rfl : n = 64 := by omega
      go_wp2
      go_ret
      exact ⟨rfl, by rw [← HEN.out]; exact HR.out, HB.out⟩

/-- Whether two texts hold for the same heads. -/
def sameL (l m : List UInt8) : Bool := match whole l, whole m with
  | some c, some c' => evM c == evM c'
  | _, _ => false

end Go.Proofs.YtddkpimmcmnogabDoor
