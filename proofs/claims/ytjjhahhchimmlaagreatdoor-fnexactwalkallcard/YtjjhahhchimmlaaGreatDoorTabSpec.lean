/-
  The model's TableOk.
-/
import Derived.Test.YtjjhahhchimmlaaGreatDoorTabMath
import Derived.Test.YtjjhahhchimmlaaGreatDoorRuleCmpI
import Derived.Test.YtjjhahhchimmlaaGreatDoorExtReg
namespace Go.Proofs.YtjjhahhchimmlaaGreatDoor
open Go.ChangeShapes Go.WideShapes Go.ChangeAt Go.RowKit Go.Joins
set_option linter.unusedVariables false

theorem sOk_at (r : R4) (w : World) :
    Calls Tryz.prog 61 #[.agg #[.int .i64 r.p, .string r.s, .int .i64 r.o, .int .i64 r.t]] w fun e w' => e = .returned (.bool (okR r)) ∧ Below w.heap.size w w' := sRuleOk_any r.p r.s r.hs r.o r.t w
theorem sCmp_at (a b : R4) (ha : okR a = true) (hb : okR b = true) (w : World) :
    Calls Tryz.prog 62 #[.agg #[.int .i64 a.p, .string a.s, .int .i64 a.o, .int .i64 a.t], .agg #[.int .i64 b.p, .string b.s, .int .i64 b.o, .int .i64 b.t]] w fun e w' => e = .returned (.int .i64 (cmR a b)) ∧ Below w.heap.size w w' := l11Cmp_any a.p a.s a.o a.t b.p b.s b.o b.t ha hb w

set_option maxRecDepth 100000 in
set_option maxHeartbeats 2000000 in
theorem sTableOk_any (w : World) (v : Value) (l : List R4) (h : Rls w w.heap.size v l) (hn : l.length ≤ 1048576) :
    Calls Tryz.prog 47 #[v] w fun e w' => e = .returned (.bool (tOk l)) ∧ Below w.heap.size w w' := by
  obtain ⟨a, cap, rfl, hc, hm, hh⟩ := h
  have hnz : l.length = 0 ∨ ∃ b off, a = some ⟨b, off, none⟩ ∧ b < w.heap.size ∧ Hid (∀ i, i < l.length → Four w b (off + i * 4) (ruAt l i)) := by
    rcases hh with h | ⟨b, off, h1, h2, h3⟩
    · exact .inl (by rw [h]; rfl)
    · exact .inr ⟨b, off, h1, h2, h3⟩
  clear hh
  have HNO : Hid (∀ i, i < l.length → (okR (ruAt l i) = false ∨ (0 < i ∧ 0 ≤ cmR (ruAt l (i - 1)) (ruAt l i))) → tOk l = false) := fun i hi h => by simp [tOk, chain_no hi h]
  have HYES : Hid ((∀ i, i < l.length → okR (ruAt l i) = true ∧ (0 < i → cmR (ruAt l (i - 1)) (ruAt l i) < 0)) → tOk l = decide (l.length ≤ 48)) := fun h => by simp [tOk, chain_mk l h]
  unfold maxLen at hm
  generalize hN : l.length = n at *
  go_enter Tryz.func47, Tryz.ntmps47
  go_wp2
  go_loopw [3] (fun i wr => ∃ k : Nat, k ≤ n ∧ i = .int .i64 k ∧ (∀ j, j < k → okR (ruAt l j) = true ∧ (0 < j → cmR (ruAt l (j - 1)) (ruAt l j) < 0)) ∧ Below w.heap.size w wr) (fun i _ => n - (intOf i).toNat)
  case atStart => exact ⟨0, Nat.zero_le _, rfl, fun j hj => absurd hj (Nat.not_lt_zero _), Below.refl _ _⟩
  case round =>
    obtain ⟨k, hk, rfl, hok, hbel⟩ := hrel
    have HOK := Lib.hid hok
    have HBL := Lib.hid hbel
    clear hok
    by_cases hlt : k < n
    · have hkz : (k : Int) < (n : Int) := by omega
      rcases hnz with h0 | ⟨b, off, rfl, hb, HC⟩
      · omega
      have HF : Hid (∀ i, i < n → ∀ W, Below w.heap.size w W → Four W b (off + i * 4) (ruAt l i)) := fun i hi W hW => (HC.out i hi).below hW hb
      have hbr : b < wr.heap.size := Nat.lt_of_lt_of_le hb HBL.out.size
      have HX : Hid (∀ i, i < n → ∀ m : Ext wr, Four m.W b (off + i * 4) (ruAt l i)) := fun i hi m => (HF.out i hi _ HBL.out).below m.h hbr
      have q0 := fun m : Ext wr => (HX.out k hlt m).1
      have q1 := fun m : Ext wr => (HX.out k hlt m).2.1
      have q2 := fun m : Ext wr => (HX.out k hlt m).2.2.1
      have q3 := fun m : Ext wr => (HX.out k hlt m).2.2.2
      clear hbel
      cases hr : okR (ruAt l k)
      · have HT := Lib.hid (HNO.out k hlt (.inl hr))
        have HSO := Lib.hid (sOk_at (ruAt l k))
        rw [hr] at HSO
        clear hr
        generalize ruAt l k = x at *
        go_wp2
        refine wp_region_ext (w0 := wr) (by kernel_rfl) (by kernel_rfl) (Below.refl _ _) ?_
        repeat (go_big_quiet_step (first | (go_at_call 61; exact ext_of (HSO.out _))))
        refine wpQuiet_nil ?_
        rintro _ ⟨⟨w1, b1⟩, rfl⟩
        go_wp2
        go_ret
        exact ⟨by rw [HT.out]; rfl, belStep HBL.out b1⟩
      by_cases hk0 : k = 0
      · subst hk0
        have HSO := Lib.hid (sOk_at (ruAt l 0))
        rw [hr] at HSO
        have HNX : Hid (∀ j, j < 1 → okR (ruAt l j) = true ∧ (0 < j → cmR (ruAt l (j - 1)) (ruAt l j) < 0)) := fun j hj => by
          obtain rfl : j = 0 := by omega
          exact ⟨hr, fun h => absurd h (Nat.lt_irrefl _)⟩
        clear hr
        generalize ruAt l 0 = x at *
        simp only [Nat.zero_mul, Nat.add_zero] at q0 q1 q2 q3
        go_wp2
        refine wp_region_ext (w0 := wr) (by kernel_rfl) (by kernel_rfl) (Below.refl _ _) ?_
        repeat (go_big_quiet_step (first | (go_at_call 61; exact ext_of (HSO.out _))))
        refine wpQuiet_nil ?_
        rintro _ ⟨⟨w1, b1⟩, rfl⟩
        go_wp2
        go_roundw
        case rel => exact ⟨1, by omega, by go_num, HNX.out, belStep HBL.out b1⟩
        case measure => simp [intOf]; omega
      obtain ⟨j, rfl⟩ : ∃ j, k = j + 1 := ⟨k - 1, by omega⟩
      have hrj := (HOK.out j (by omega)).1
      have HSO := Lib.hid (sOk_at (ruAt l (j + 1)))
      rw [hr] at HSO
      have HSC := Lib.hid (sCmp_at (ruAt l j) (ruAt l (j + 1)) hrj hr)
      have q4 := fun m : Ext wr => (HX.out j (by omega) m).1
      have q5 := fun m : Ext wr => (HX.out j (by omega) m).2.1
      have q6 := fun m : Ext wr => (HX.out j (by omega) m).2.2.1
      have q7 := fun m : Ext wr => (HX.out j (by omega) m).2.2.2
      have HT : Hid (0 ≤ cmR (ruAt l j) (ruAt l (j + 1)) → tOk l = false) := fun hge => HNO.out (j + 1) hlt (.inr ⟨Nat.succ_pos _, hge⟩)
      have HNX : Hid (cmR (ruAt l j) (ruAt l (j + 1)) < 0 → ∀ i, i < j + 1 + 1 → okR (ruAt l i) = true ∧ (0 < i → cmR (ruAt l (i - 1)) (ruAt l i) < 0)) := fun hge i hi => by
        by_cases e : i = j + 1
        · subst e; exact ⟨hr, fun _ => hge⟩
        · exact HOK.out i (by omega)
      have hj0 : (0 : Int) < (j : Int) + 1 := by omega
      clear HF hrj HC HX hr
      generalize cmR (ruAt l j) (ruAt l (j + 1)) = c at *
      generalize ruAt l (j + 1) = x at *
      generalize ruAt l j = y at *
      by_cases hge : 0 ≤ c
      · go_wp2
        refine wp_region_ext (w0 := wr) (by kernel_rfl) (by kernel_rfl) (Below.refl _ _) ?_
        repeat (go_big_quiet_step (first | (go_at_call 61; exact ext_of (HSO.out _)) | (go_at_call 62; exact ext_of (HSC.out _))))
        refine wpQuiet_nil ?_
        rintro _ ⟨⟨w1, b1⟩, rfl⟩
        go_wp2
        go_ret
        exact ⟨by rw [HT.out hge]; rfl, belStep HBL.out b1⟩
      · go_wp2
        refine wp_region_ext (w0 := wr) (by kernel_rfl) (by kernel_rfl) (Below.refl _ _) ?_
        repeat (go_big_quiet_step (first | (go_at_call 61; exact ext_of (HSO.out _)) | (go_at_call 62; exact ext_of (HSC.out _))))
        refine wpQuiet_nil ?_
        rintro _ ⟨⟨w1, b1⟩, rfl⟩
        go_wp2
        go_roundw
        case rel => exact ⟨j + 1 + 1, by omega, by go_num, HNX.out (by omega), belStep HBL.out b1⟩
        case measure => simp [intOf]; omega
    · obtain rfl : k = n := by omega
      go_wp2
      go_ret
      exact ⟨by rw [HYES.out HOK.out]; simp; omega, HBL.out⟩

end Go.Proofs.YtjjhahhchimmlaaGreatDoor
