/-
  For which heads a text holds: by the model, and by the program.
-/
import Derived.Test.YtddkpimmcmnogaaDoorPredSpecC
namespace Go.Proofs.YtddkpimmcmnogaaDoor
open Go.ChangeShapes Go.WideShapes Go.ChangeAt Go.RowKit Go.Joins
set_option linter.unusedVariables false

/-- Whether a text holds for a head. -/
def hasL (l : List UInt8) (x y z : Int) : Bool := match whole l with
  | some c => okB x y z && c.ev x y z
  | none => false

set_option maxHeartbeats 1000000 in
theorem sPredHas_any (l : List UInt8) (hl : l.length ≤ 1048576) (x y z : Int) (w : World) :
    Calls Tryd.prog 22 #[.string (bs l), .agg #[.int .i64 x, .int .i64 y, .int .i64 z]] w fun e w' => e = .returned (.bool (hasL l x y z)) ∧ Below w.heap.size w w' := by
  have HO := Lib.hid (sPredOk_any l hl)
  have HH := Lib.hid (sHeadOk_any x y z)
  unfold hasL
  cases hw : whole l with
  | some c =>
    obtain ⟨rfl, hk, h16⟩ := whole_some hw
    rw [hw] at HO
    have HD := Lib.hid (shas_any x y z c hk hl)
    simp only [Option.isSome_some] at HO ⊢
    clear hw hl h16 hk
    generalize bs c.txt = s at *
    generalize c.ev x y z = v at *
    generalize okB x y z = q at *
    have HC : Hid (∀ W : World, Below (w.alloc (.cells #[.int .i64 x, .int .i64 y, .int .i64 z] 30)).heap.size (w.alloc (.cells #[.int .i64 x, .int .i64 y, .int .i64 z] 30)) W → (W.cell? ⟨w.heap.size, 0, none⟩ = some (.int .i64 x) ∧ W.cell? ⟨w.heap.size, 1, none⟩ = some (.int .i64 y) ∧ W.cell? ⟨w.heap.size, 2, none⟩ = some (.int .i64 z)) ∧ Below w.heap.size w W) := fun W hW =>
      ⟨⟨(belCell hW _ 0 (by simp)).trans (by simp), (belCell hW _ 1 (by simp)).trans (by simp), (belCell hW _ 2 (by simp)).trans (by simp)⟩, (below_alloc1 _ _).trans (hW.mono (by simp))⟩
    cases q
    · go_enter Tryd.func22, Tryd.ntmps22
      go_wp2_with fail
      refine (HO.out _).mono ?_
      rintro e w1 ⟨rfl, b1⟩
      obtain ⟨⟨h0, h1, h2⟩, B1⟩ := HC.out _ b1
      clear b1
      go_wp2_with fail
      refine (HH.out _).mono ?_
      rintro e w2 ⟨rfl, b2⟩
      clear h0 h1 h2
      go_wp2
      go_ret
      exact ⟨rfl, belStep B1 b2⟩
    · go_enter Tryd.func22, Tryd.ntmps22
      go_wp2_with fail
      refine (HO.out _).mono ?_
      rintro e w1 ⟨rfl, b1⟩
      obtain ⟨⟨h0, h1, h2⟩, B1⟩ := HC.out _ b1
      clear B1
      go_wp2_with fail
      refine (HH.out _).mono ?_
      rintro e w2 ⟨rfl, b2⟩
      clear h0 h1 h2
      obtain ⟨⟨h0, h1, h2⟩, B2⟩ := HC.out _ (belStep b1 b2)
      clear b1 b2
      go_wp2_with fail
      refine (HD.out _).mono ?_
      rintro e w3 ⟨rfl, b3⟩
      clear h0 h1 h2
      go_wp2
      go_ret
      exact ⟨by simp, belStep B2 b3⟩
  | none =>
    rw [hw] at HO
    simp only [Option.isSome_none] at HO ⊢
    clear hw hl HH
    generalize bs l = s at *
    go_enter Tryd.func22, Tryd.ntmps22
    go_wp2_with fail
    refine (HO.out _).mono ?_
    rintro e w1 ⟨rfl, b1⟩
    go_wp2
    go_ret
    exact ⟨rfl, (below_alloc1 _ _).trans (b1.mono (by simp))⟩

theorem evn_ev (c : Cnd) {x y z : Int} (h : okB x y z = true) : evn c (16 * x + 4 * y + z) = c.ev x y z := by
  obtain ⟨⟨a0, a3⟩, ⟨b0, b3⟩, ⟨c0, c3⟩⟩ := okB_true h
  unfold evn
  rw [show (16 * x + 4 * y + z) / 16 = x from by omega, show (16 * x + 4 * y + z) / 4 % 4 = y from by omega, show (16 * x + 4 * y + z) % 4 = z from by omega]

set_option maxRecDepth 100000 in
set_option maxHeartbeats 2000000 in
theorem iPredHas_any (l : List UInt8) (hl : l.length ≤ 1048576) (x y z : Int) (ep : Addr) (w : World) (hE : w.cell? ⟨0, 0, none⟩ = some (errV ep)) :
    Calls Tryd.prog 24 #[.string (bs l), .agg #[.int .i64 x, .int .i64 y, .int .i64 z]] w fun e w' => e = .returned (.bool (hasL l x y z)) ∧ Below w.heap.size w w' := by
  have hg := World.block_lt_of_cell? _ _ hE
  have HE : Hid (∀ W : World, Below w.heap.size w W → W.cell? ⟨0, 0, none⟩ = some (.iface 126 (.pointer (some ep)))) := fun W hb => cellLater hE hb
  unfold hasL
  cases hw : whole l with
  | some c =>
    obtain ⟨rfl, hk, h16⟩ := whole_some hw
    have HC : Hid (∀ W : World, Below w.heap.size w W → Calls Tryd.prog 39 #[.string (bs c.txt)] W (Whole c W)) := fun W hb => readPred_yes c hk h16 ep W (cellLater hE hb)
    unfold Whole at HC
    simp only
    clear hE hw hl h16 hk
    generalize bs c.txt = s at *
    cases ho : okB x y z
    · have HB := Lib.hid (bitsOf_no x y z ho)
      clear ho
      go_enter Tryd.func24, Tryd.ntmps24
      go_wp2_with fail
      refine (HB.out _).mono ?_
      rintro e w1 ⟨rfl, b1⟩
      have B1 : Hid (Below w.heap.size w w1) := (below_alloc1 _ _).trans (b1.mono (by simp))
      have s1 := B1.out.size
      clear b1 HB
      go_wp2_with fail
      refine (HC.out _ B1.out).mono ?_
      rintro e w2 ⟨ad, n1, c1, k1, caps, rfl, hR, b2⟩
      have B2 := Lib.hid (belStep B1.out b2)
      clear hR b2 B1 HC
      go_wp2
      go_ret
      exact ⟨rfl, by repeat (first | exact B2.out | refine Below.drew ?_ | refine Below.alloc ?_ (by have := B2.out.size; omega) _)⟩
    · have HB := Lib.hid (bitsOf_yes x y z ho)
      have hn : 0 ≤ 16 * x + 4 * y + z ∧ 16 * x + 4 * y + z ≤ 63 := by
        obtain ⟨⟨a0, a3⟩, ⟨b0, b3⟩, ⟨c0, c3⟩⟩ := okB_true ho
        omega
      rw [Bool.true_and, ← evn_ev c ho]
      generalize 16 * x + 4 * y + z = n at *
      clear ho
      go_enter Tryd.func24, Tryd.ntmps24
      go_wp2_with fail
      refine (HB.out _).mono ?_
      rintro e w1 ⟨rfl, b1⟩
      have B1 : Hid (Below w.heap.size w w1) := (below_alloc1 _ _).trans (b1.mono (by simp))
      have s1 := B1.out.size
      clear b1 HB
      go_wp2_with fail
      refine (HC.out _ B1.out).mono ?_
      rintro e w2 ⟨ad, n1, c1, k1, caps, rfl, hR, b2⟩
      have s2 := b2.size
      have hE2 := HE.out _ (belStep B1.out b2)
      have hg2 : 0 < w2.heap.size := by omega
      have B2 := Lib.hid (belStep B1.out b2)
      obtain ⟨k', caps', hkk, he, hcl⟩ := hR.fn
      obtain ⟨rfl, rfl⟩ : k1 = k' ∧ caps = caps' := by cases hkk; exact ⟨rfl, rfl⟩
      have HF : Hid (∀ W : World, Below w2.heap.size w2 W → Calls Tryd.prog k1 (#[.int .u8 n] ++ caps) W fun e W' => e = .returned (.bool (evn c n)) ∧ Below W.heap.size W W') := fun W hb => hcl W (Ag.of hb (Nat.le_refl _)) n hn.1 hn.2
      clear hR b2 B1 HC hcl hkk
      go_wp2_with fail
      refine (is_nil _ _).mono ?_
      rintro e w3 ⟨rfl, rfl⟩
      go_wp2_with fail
      refine (HF.out _ (below_alloc1 _ _)).mono ?_
      rintro e w4 ⟨rfl, b4⟩
      go_wp2
      go_ret
      exact ⟨rfl, (B2.out.alloc B2.out.size _).trans (b4.mono (by have := B2.out.size; simp; omega))⟩
  | none =>
    have HC : Hid (∀ W : World, Below w.heap.size w W → Calls Tryd.prog 39 #[.string (bs l)] W (NoWhole ep W)) := fun W hb => readPred_no l hw hl ep W (cellLater hE hb)
    unfold NoWhole errV at HC
    clear hE hw hl
    generalize bs l = s at *
    cases ho : okB x y z
    · have HB := Lib.hid (bitsOf_no x y z ho)
      clear ho
      go_enter Tryd.func24, Tryd.ntmps24
      go_wp2_with fail
      refine (HB.out _).mono ?_
      rintro e w1 ⟨rfl, b1⟩
      have B1 : Hid (Below w.heap.size w w1) := (below_alloc1 _ _).trans (b1.mono (by simp))
      have s1 := B1.out.size
      clear b1 HB
      go_wp2_with fail
      refine (HC.out _ B1.out).mono ?_
      rintro e w2 ⟨rfl, b2⟩
      have B2 := Lib.hid (belStep B1.out b2)
      clear b2 B1 HC
      go_wp2
      go_ret
      exact ⟨rfl, by repeat (first | exact B2.out | refine Below.drew ?_ | refine Below.alloc ?_ (by have := B2.out.size; omega) _)⟩
    · have HB := Lib.hid (bitsOf_yes x y z ho)
      generalize 16 * x + 4 * y + z = n at *
      clear ho
      go_enter Tryd.func24, Tryd.ntmps24
      go_wp2_with fail
      refine (HB.out _).mono ?_
      rintro e w1 ⟨rfl, b1⟩
      have B1 : Hid (Below w.heap.size w w1) := (below_alloc1 _ _).trans (b1.mono (by simp))
      have s1 := B1.out.size
      clear b1 HB
      go_wp2_with fail
      refine (HC.out _ B1.out).mono ?_
      rintro e w2 ⟨rfl, b2⟩
      have s2 := b2.size
      have hE2 := HE.out _ (belStep B1.out b2)
      have hg2 : 0 < w2.heap.size := by omega
      have B2 := Lib.hid (belStep B1.out b2)
      clear b2 B1 HC
      go_wp2_with fail
      refine (is_same _ _).mono ?_
      rintro e w3 ⟨rfl, rfl⟩
      go_wp2
      go_ret
      exact ⟨rfl, by repeat (first | exact B2.out | refine Below.drew ?_ | refine Below.alloc ?_ (by have := B2.out.size; omega) _)⟩

end Go.Proofs.YtddkpimmcmnogaaDoor
