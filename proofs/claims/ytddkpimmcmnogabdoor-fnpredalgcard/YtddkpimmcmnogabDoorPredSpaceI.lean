/-
  The heads of a condition as a space: what the program and the model answer.
-/
import Derived.Test.YtddkpimmcmnogabDoorPredOfTest
namespace Go.Proofs.YtddkpimmcmnogabDoor
open Go.ChangeShapes Go.WideShapes Go.ChangeAt Go.RowKit Go.Joins
set_option linter.unusedVariables false

/-- The canonical list of the heads of a text. -/
def spaceT (l : List UInt8) : List ByteArray := match whole l with
  | some c => tidyT (evM c)
  | none => []
theorem spaceT_len (l : List UInt8) : (spaceT l).length ≤ 64 := by
  unfold spaceT
  cases whole l with
  | some c => exact tidyT_len _
  | none => simp

theorem emptyRowP (w : World) {base : Nat} (hb : base ≤ w.heap.size) : StrRow (w.alloc (.cells #[] 9)) base (.slice (some ⟨w.heap.size, 0, none⟩) 0 0) [] :=
  (World.ownsRow_made w #[] 0 (Nat.le_refl _) (Nat.zero_le _) rfl).mono hb

set_option maxRecDepth 100000 in
set_option maxHeartbeats 2000000 in
theorem sPredSpace_any (l : List UInt8) (hl : l.length ≤ 1048576) (w : World) :
    Calls Tryd.prog 8 #[.string (bs l)] w fun e w' => ∃ v, e = .returned v ∧ StrRow w' w.heap.size v (spaceT l) ∧ Below w.heap.size w w' := by
  have HO := Lib.hid (sPredOk_any l hl)
  unfold spaceT
  cases hw : whole l with
  | none =>
    rw [hw] at HO
    simp only [Option.isSome_none] at HO ⊢
    clear hw hl
    generalize bs l = s at *
    go_enter Tryd.func8, Tryd.ntmps8
    go_wp2_with fail
    refine (HO.out _).mono ?_
    rintro e w1 ⟨rfl, b1⟩
    have s1 := b1.size
    have B1 := Lib.hid b1
    clear b1
    go_wp2
    go_ret
    exact ⟨_, rfl, emptyRowP _ s1, B1.out.alloc s1 _⟩
  | some c =>
    obtain ⟨rfl, hk, h16⟩ := whole_some hw
    rw [hw] at HO
    simp only [Option.isSome_some] at HO ⊢
    have HM := Lib.hid (l4Mask_any c hk hl)
    have hlen := evM_len c
    have HT : Hid (tidyT (evM c) = (tidyB 6 (evM c)).map sText) := rfl
    clear hw hl h16 hk
    generalize bs c.txt = s at *
    generalize evM c = M at *
    go_enter Tryd.func8, Tryd.ntmps8
    go_wp2_with fail
    refine (HO.out _).mono ?_
    rintro e w1 ⟨rfl, b1⟩
    have s1 := b1.size
    have B1 := Lib.hid b1
    clear b1
    go_wp2_with fail
    refine (HM.out _).mono ?_
    rintro e w2 ⟨rfl, r2, b2⟩
    have R2 := Lib.hid r2
    have B2 := Lib.hid (belStep B1.out b2)
    have s2 := b2.size
    clear r2 b2 B1
    go_wp2_with fail
    refine (l3Tidy_any 6 (Nat.le_refl _) _ _ _ hlen R2.out.bools).mono ?_
    rintro e w3 ⟨u, rfl, r3, b3⟩
    have R3 := Lib.hid r3
    have B3 := Lib.hid (belStep B2.out b3)
    clear r3 b3 B2
    go_wp2
    go_ret
    exact ⟨_, rfl, by rw [HT.out]; exact R3.out.mono (by omega), B3.out⟩

set_option maxRecDepth 100000 in
set_option maxHeartbeats 4000000 in
theorem iPredSpace_any (l : List UInt8) (hl : l.length ≤ 1048576) (ep : Addr) (w : World) (hE : w.cell? ⟨0, 0, none⟩ = some (errV ep)) :
    Calls Tryd.prog 6 #[.string (bs l)] w fun e w' => ∃ v, e = .returned v ∧ StrRow w' w.heap.size v (spaceT l) ∧ Below w.heap.size w w' := by
  have hg := World.block_lt_of_cell? _ _ hE
  have HE : Hid (∀ W : World, Below w.heap.size w W → W.cell? ⟨0, 0, none⟩ = some (.iface 132 (.pointer (some ep)))) := fun W hb => cellLater hE hb
  unfold spaceT
  cases hw : whole l with
  | some c =>
    obtain ⟨rfl, hk, h16⟩ := whole_some hw
    have HC := Lib.hid (readPred_yes c hk h16 ep w hE)
    unfold Whole at HC
    clear hE hw hl h16 hk
    have HV : Hid (tabF 6 (fun l => evn c (ofB (bitF ([] ++ l)))) = evM c) := (evM_tab c).symm
    have HFN : Hid (∀ (W : World) (x0 x1 : Value) (k : Nat) (caps : Array Value), CRep W w.heap.size c x0 x1 (.func (.func k) #[] caps) → ∀ (b e : Nat) (w' : World), W.heap.size ≤ b → Dg w' b e [] → Ag w.heap.size W w' →
      Calls Tryd.prog 22 #[.agg #[.map (some b), .pointer (some ⟨e, 0, none⟩)], .int .i64 0, .int .u8 0, .func (.func k) #[] caps] w' fun ex w'' => ∃ p, ex = .returned (.pointer p) ∧ Good w' w'' b e [] 6 p (evM c)) := fun W x0 x1 k caps hR b e w' hb hd hA => by
      obtain ⟨k', caps', hkk, he, hcl⟩ := hR.fn
      cases hkk
      have := ofTest_any W w.heap.size k caps (evn c) he hcl b e hb 6 [] rfl w' [] hd hA
      rw [HV.out] at this
      exact this
    generalize bs c.txt = s at *
    simp only
    go_enter Tryd.func6, Tryd.ntmps6
    go_wp2_with fail
    refine HC.out.mono ?_
    rintro e w1 ⟨ad, n1, c1, k1, caps, rfl, hR, b1⟩
    have hE1 := HE.out _ b1
    have hs1 := b1.size
    have hg1 : 0 < w1.heap.size := by omega
    have HR := Lib.hid hR
    have B1 := Lib.hid b1
    clear hR HC b1
    go_wp2_with fail
    refine (is_nil _ _).mono ?_
    rintro e w2 ⟨rfl, rfl⟩
    go_wp2_with fail
    have RW := Lib.hid (CRep.later (Ag.of (below_alloc1 w1 (.cells #[.string s, .slice ad n1 c1, .func (.func k1) #[] caps] 43)) (Nat.le_refl _)) HR.out)
    have BW : Hid (Below w.heap.size w (w1.alloc (.cells #[.string s, .slice ad n1 c1, .func (.func k1) #[] caps] 43))) := B1.out.alloc hs1 _
    have KW : Hid (∀ W', Below (w1.alloc (.cells #[.string s, .slice ad n1 c1, .func (.func k1) #[] caps] 43)).heap.size (w1.alloc (.cells #[.string s, .slice ad n1 c1, .func (.func k1) #[] caps] 43)) W' → W'.cell? ⟨w1.heap.size, 2, none⟩ = some (.func (.func k1) #[] caps)) := fun W' hb => (belCell hb _ 2 (by simp)).trans (by simp)
    have D0 : Hid (Below (w1.alloc (.cells #[.string s, .slice ad n1 c1, .func (.func k1) #[] caps] 43)).heap.size (w1.alloc (.cells #[.string s, .slice ad n1 c1, .func (.func k1) #[] caps] 43)) (w1.alloc (.cells #[.string s, .slice ad n1 c1, .func (.func k1) #[] caps] 43)).drew) := (Below.refl _ _).drew
    clear HE hE1 hg1 HR B1 hs1 hg HV
    generalize w1.alloc (.cells #[.string s, .slice ad n1 c1, .func (.func k1) #[] caps] 43) = W at *
    have hWs := BW.out.size
    go_region_held3 (fun W' => W'.cell? ⟨w1.heap.size, 2, none⟩ = some (.func (.func k1) #[] caps))
      (first | exact KW.out _ D0.out | exact KW.out _ D3.out | exact KW.out _ D2.out | exact KW.out _ D1.out)
      (first
        | (go_at_call 21; ((with_reducible refine (newDiagram_any _).mono ?_); rintro ex w2 ⟨b, e, rfl, hb, d2, b2⟩; have HB2 : Hid (W.heap.size ≤ b) := Nat.le_trans D0.out.size hb; have DD2 := Lib.hid d2; have D1 : Hid (Below W.heap.size W w2) := belStep D0.out b2; clear hb d2 b2))
        | (go_at_call 22; ((with_reducible refine (HFN.out W _ _ _ _ RW.out _ _ _ HB2.out DD2.out (Ag.of D1.out (Nat.le_refl _))).mono ?_); rintro ex w3 ⟨p3, rfl, E3, s3, d3, R3, g3⟩; have DD3 := Lib.hid d3; have RR3 := Lib.hid R3; have D2 : Hid (Below W.heap.size W w3) := D1.out.trans (sBel g3 HB2.out D1.out.size); clear s3 d3 R3 g3))
        | (go_at_call 23; ((with_reducible refine (texts_any _ _ _ _ _ _ DD3.out RR3.out).mono ?_); rintro ex w4 ⟨u, rfl, r4, b4⟩; have R4 := Lib.hid (r4.mono (Nat.le_trans hWs D2.out.size)); have D3 : Hid (Below W.heap.size W w4) := belStep D2.out b4; clear r4 b4)))
    go_wp2
    go_ret
    exact ⟨_, rfl, R4.out, BW.out.trans (D3.out.mono hWs)⟩
  | none =>
    have HC := Lib.hid (readPred_no l hw hl ep w hE)
    unfold NoWhole errV at HC
    clear hE hw hl
    generalize bs l = s at *
    go_enter Tryd.func6, Tryd.ntmps6
    go_wp2_with fail
    refine HC.out.mono ?_
    rintro e w1 ⟨rfl, b1⟩
    have hE1 := HE.out _ b1
    have hg1 : 0 < w1.heap.size := by have := b1.size; omega
    have B1 := Lib.hid b1
    clear HC b1
    go_wp2_with fail
    refine (is_same _ _).mono ?_
    rintro e w2 ⟨rfl, rfl⟩
    go_wp2
    go_ret
    exact ⟨_, rfl, World.ownsRow_nil _ _ _ _, by repeat (first | exact B1.out | refine Below.drew ?_ | refine Below.alloc ?_ (by have := B1.out.size; omega) _)⟩

end Go.Proofs.YtddkpimmcmnogabDoor
