/-
  Nets, the program: a port is free, or not; links are read into forty numbers.
-/
import Derived.Test.YtjjhahhchimmlaaGreatDoorNetMath
namespace Go.Proofs.YtjjhahhchimmlaaGreatDoor
open Go.ChangeShapes Go.WideShapes Go.ChangeAt Go.RowKit Go.Joins
set_option linter.unusedVariables false

set_option maxHeartbeats 400000 in
theorem switchOk_any (n : Int) (w : World) :
    Calls Tryz.prog 54 #[.int .i64 n] w fun e w' => e = .returned (.bool (swB n)) ∧ w = w' := by
  unfold swB inB
  by_cases h0 : 1 ≤ n
  · by_cases h3 : n ≤ 4
    · go_enter Tryz.func54, Tryz.ntmps54
      go_wp2
      go_ret
      exact ⟨by simp [h0, h3], rfl⟩
    · have h3' : decide (n ≤ 4) = false := by simpa using h3
      go_enter Tryz.func54, Tryz.ntmps54
      go_wp2
      go_ret
      exact ⟨by simp, rfl⟩
  · have h0' : decide (1 ≤ n) = false := by simpa using h0
    go_enter Tryz.func54, Tryz.ntmps54
    go_wp2
    go_ret
    exact ⟨by simp, rfl⟩

set_option maxHeartbeats 400000 in
theorem linkPortOk_any (n : Int) (w : World) :
    Calls Tryz.prog 75 #[.int .i64 n] w fun e w' => e = .returned (.bool (ptB n)) ∧ w = w' := by
  unfold ptB inB
  by_cases h0 : 1 ≤ n
  · by_cases h3 : n ≤ 3
    · go_enter Tryz.func75, Tryz.ntmps75
      go_wp2
      go_ret
      exact ⟨by simp [h0, h3], rfl⟩
    · have h3' : decide (n ≤ 3) = false := by simpa using h3
      go_enter Tryz.func75, Tryz.ntmps75
      go_wp2
      go_ret
      exact ⟨by simp, rfl⟩
  · have h0' : decide (1 ≤ n) = false := by simpa using h0
    go_enter Tryz.func75, Tryz.ntmps75
    go_wp2
    go_ret
    exact ⟨by simp, rfl⟩

theorem sw_nat {n : Int} (h : swB n = true) : ∃ s : Nat, n = (s : Int) ∧ 1 ≤ s ∧ s ≤ 4 := by
  obtain ⟨h0, h1⟩ := inB_true h
  exact ⟨n.toNat, by omega, by omega, by omega⟩
theorem pt_nat {n : Int} (h : ptB n = true) : ∃ s : Nat, n = (s : Int) ∧ 1 ≤ s ∧ s ≤ 3 := by
  obtain ⟨h0, h1⟩ := inB_true h
  exact ⟨n.toNat, by omega, by omega, by omega⟩

theorem duoAt {w : World} {t : TypeId} {a b : Value} : (w.alloc (.cells #[a, b] t)).cell? ⟨w.heap.size, 0, none⟩ = some a ∧ (w.alloc (.cells #[a, b] t)).cell? ⟨w.heap.size, 1, none⟩ = some b ∧ w.heap.size < (w.alloc (.cells #[a, b] t)).heap.size := by
  refine ⟨by simp [go_sem], by simp [go_sem], by simp⟩

set_option maxHeartbeats 2000000 in
theorem free_any (P : Pv) (g : Nat) (sw port : Int) (w : World) (h : Pb w g P) :
    Calls Tryz.prog 67 #[.pointer (some ⟨g, 0, none⟩), .agg #[.int .i64 sw, .int .i64 port]] w fun e w' => e = .returned (.bool (frB P sw port)) ∧ Below w.heap.size w w' := by
  have HS := Lib.hid (fun W => switchOk_any sw W)
  have HT := Lib.hid (fun W => linkPortOk_any port W)
  have hb := below_alloc1 w (.cells #[.int .i64 sw, .int .i64 port] 65)
  obtain ⟨d0, d1, d2⟩ := duoAt (w := w) (t := 65) (a := .int .i64 sw) (b := .int .i64 port)
  have hp := h.below hb h.lt
  have hg := hp.lt
  have q0 := fun m : Ext (w.alloc (.cells #[.int .i64 sw, .int .i64 port] 65)) => m.cell d2 d0
  have q1 := fun m : Ext (w.alloc (.cells #[.int .i64 sw, .int .i64 port] 65)) => m.cell d2 d1
  have HQ : Hid (∀ i, i < 40 → ∀ m : Ext (w.alloc (.cells #[.int .i64 sw, .int .i64 port] 65)), m.W.cell? ⟨g, i, none⟩ = some (.int .i64 (P i))) := fun i hi m => m.cell hg (hp.cell hi)
  have HB := Lib.hid hb
  clear hp hg hb h d0 d1 d2
  cases h1 : swB sw
  · rw [h1] at HS
    rw [show frB P sw port = false from by simp [frB, h1]]
    clear HQ h1
    go_enter Tryz.func67, Tryz.ntmps67
    go_wp2
    generalize (w.alloc (.cells #[.int .i64 sw, .int .i64 port] 65)) = W at *
    refine wp_region_ext (w0 := W) (by kernel_rfl) (by kernel_rfl) (Below.refl _ _) ?_
    repeat (go_big_quiet_step (first | (go_at_call 54; exact ext_same (HS.out _)) | (go_at_call 75; exact ext_same (HT.out _))))
    refine wpQuiet_nil ?_
    intro w1 hx
    have b1 := ext_out hx
    go_wp2
    go_ret
    exact ⟨rfl, belStep HB.out b1⟩
  · cases h2 : ptB port
    · rw [h1] at HS
      rw [h2] at HT
      rw [show frB P sw port = false from by simp [frB, h2]]
      clear HQ h1 h2
      go_enter Tryz.func67, Tryz.ntmps67
      go_wp2
      generalize (w.alloc (.cells #[.int .i64 sw, .int .i64 port] 65)) = W at *
      refine wp_region_ext (w0 := W) (by kernel_rfl) (by kernel_rfl) (Below.refl _ _) ?_
      repeat (go_big_quiet_step (first | (go_at_call 54; exact ext_same (HS.out _)) | (go_at_call 75; exact ext_same (HT.out _))))
      refine wpQuiet_nil ?_
      intro w1 hx
      have b1 := ext_out hx
      go_wp2
      go_ret
      exact ⟨rfl, belStep HB.out b1⟩
    · have HF : Hid (frB P sw port = (P (sw.toNat * 8 + port.toNat * 2) == 0 && P (sw.toNat * 8 + port.toNat * 2 + 1) == 0)) := by
        show _ = _
        simp [frB, h1, h2]
      obtain ⟨s, rfl, s1, s4⟩ := sw_nat h1
      obtain ⟨t, rfl, t1, t4⟩ := pt_nat h2
      rw [h1] at HS
      rw [h2] at HT
      have r0 := HQ.out (s * 8 + t * 2) (by omega)
      have r1 := HQ.out (s * 8 + t * 2 + 1) (by omega)
      rw [HF.out]
      simp only [Int.toNat_natCast]
      generalize P (s * 8 + t * 2) = x at *
      generalize P (s * 8 + t * 2 + 1) = y at *
      have z5 : (s : Int) < 5 := by omega
      have z3 : (t : Int) < 4 := by omega
      clear HQ h1 h2 HF
      have hxy : (x == 0 && y == 0) = true ∧ x = 0 ∧ y = 0 ∨ (x == 0 && y == 0) = false ∧ (x ≠ 0 ∨ (x = 0 ∧ y ≠ 0)) := by
        by_cases hx : x = 0 <;> by_cases hy : y = 0 <;> simp [hx, hy]
      rcases hxy with ⟨he, rfl, rfl⟩ | ⟨he, hx | ⟨rfl, hy⟩⟩
      all_goals
       rw [he]
       clear he
       go_enter Tryz.func67, Tryz.ntmps67
       go_wp2
       generalize (w.alloc (.cells #[.int .i64 (s : Int), .int .i64 (t : Int)] 65)) = W at *
       refine wp_region_ext (w0 := W) (by kernel_rfl) (by kernel_rfl) (Below.refl _ _) ?_
       repeat (go_big_quiet_step (first | (go_at_call 54; exact ext_same (HS.out _)) | (go_at_call 75; exact ext_same (HT.out _))))
       refine wpQuiet_nil ?_
       intro w1 hx
       have b1 := ext_out hx
       go_wp2
       go_ret
       exact ⟨rfl, belStep HB.out b1⟩

end Go.Proofs.YtjjhahhchimmlaaGreatDoor
