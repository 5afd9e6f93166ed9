/-
  The parts of a text: by the program, and by the model: the same, at every text.
-/
import Derived.Test.YtddkpimmcmnogaaDoorPredParts
namespace Go.Proofs.YtddkpimmcmnogaaDoor
open Go.ChangeShapes Go.WideShapes Go.ChangeAt Go.RowKit Go.Joins
set_option linter.unusedVariables false

/-- The parts of a text. -/
def partsT (l : List UInt8) : List ByteArray := match whole l with
  | some c => c.parts.map bs
  | none => []
theorem partsT_len (l : List UInt8) : (partsT l).length ≤ 3 := by
  unfold partsT
  cases whole l with
  | none => simp
  | some c => cases c <;> simp [Cnd.parts]

theorem iparts_any (c : Cnd) (w : World) (base : Nat) (x0 x1 x2 : Value) (hR : CRep w base c x0 x1 x2) (hl : c.txt.length ≤ 1048576) :
    Calls Tryd.prog 42 #[.agg #[x0, x1, x2]] w fun e w' => ∃ v, e = .returned v ∧ StrRow w' w.heap.size v (c.parts.map bs) ∧ Below w.heap.size w w' := by
  cases c with
  | one b =>
    obtain ⟨k, caps, rfl, _⟩ := hR.fn
    obtain ⟨rfl, rfl, _⟩ := hR
    exact iparts_none _ (by rw [bs_size]; exact hl) k caps w
  | fld k d =>
    obtain ⟨k, caps, rfl, _⟩ := hR.fn
    obtain ⟨rfl, rfl, _⟩ := hR
    exact iparts_none _ (by rw [bs_size]; exact hl) k caps w
  | neg a =>
    obtain ⟨k, caps, rfl, _⟩ := hR.fn
    obtain ⟨rfl, ⟨r, cap, rfl, hb, y0, y1, y2, e0, e1, e2, ha⟩, _⟩ := hR
    obtain ⟨ad, n1, c1, k1, caps1, rfl, rfl, rfl⟩ := ha.form
    simp [Cnd.txt] at hl
    exact iparts_one _ (bs [33]) k caps r cap _ ad n1 c1 k1 caps1 w (by rw [bs_size]; omega) (by simp [bs_size]) (fun W => sliceTo [33] a.txt W) e0 e1 e2
  | two q a b =>
    obtain ⟨k, caps, rfl, _⟩ := hR.fn
    obtain ⟨rfl, ⟨r, cap, rfl, hb, ⟨y0, y1, y2, e0, e1, e2, ha⟩, z0, z1, z2, d0, d1, d2, hb'⟩, _⟩ := hR
    obtain ⟨ad, n1, c1, k1, caps1, rfl, rfl, rfl⟩ := ha.form
    obtain ⟨ad', n1', c1', k1', caps1', rfl, rfl, rfl⟩ := hb'.form
    simp [Cnd.txt] at hl
    exact iparts_two _ (bs [q]) k caps r cap _ ad n1 c1 k1 caps1 _ ad' n1' c1' k1' caps1' w (by rw [bs_size]; omega) (by rw [bs_size]; omega) (by simp [bs_size]) (fun W => sliceTo [q] (a.txt ++ b.txt) W) e0 e1 e2 d0 d1 d2

theorem noRow (w : World) (base : Nat) : StrRow w base (.slice none 0 0) [] := World.ownsRow_nil w base 9 1

set_option maxHeartbeats 1000000 in
theorem iPredParts_any (l : List UInt8) (hl : l.length ≤ 1048576) (ep : Addr) (w : World) (hE : w.cell? ⟨0, 0, none⟩ = some (errV ep)) :
    Calls Tryd.prog 18 #[.string (bs l)] w fun e w' => ∃ v, e = .returned v ∧ StrRow w' w.heap.size v (partsT l) ∧ Below w.heap.size w w' := by
  have hg := World.block_lt_of_cell? _ _ hE
  have HE : Hid (∀ W : World, Below w.heap.size w W → W.cell? ⟨0, 0, none⟩ = some (.iface 126 (.pointer (some ep)))) := fun W hb => cellLater hE hb
  unfold partsT
  cases hw : whole l with
  | some c =>
    obtain ⟨rfl, hk, h16⟩ := whole_some hw
    have HC := Lib.hid (readPred_yes c hk h16 ep w hE)
    unfold Whole at HC
    have HD : Hid (∀ (W : World) (base : Nat) (x0 x1 x2 : Value), CRep W base c x0 x1 x2 → Calls Tryd.prog 42 #[.agg #[x0, x1, x2]] W fun e w' => ∃ v, e = .returned v ∧ StrRow w' W.heap.size v (c.parts.map bs) ∧ Below W.heap.size W w') := fun W base x0 x1 x2 hR => iparts_any c W base x0 x1 x2 hR hl
    simp only
    clear hE hw hl h16 hk
    generalize bs c.txt = s at *
    generalize c.parts.map bs = L at *
    go_enter Tryd.func18, Tryd.ntmps18
    go_wp2_with fail
    refine HC.out.mono ?_
    rintro e w1 ⟨ad, n1, c1, k1, caps, rfl, hR, b1⟩
    have hE1 := HE.out _ b1
    have hs1 := b1.size
    have hg1 : 0 < w1.heap.size := by omega
    have HR := Lib.hid hR
    have B1 := Lib.hid b1
    clear hR HC b1
    go_wp2_with fail
    refine (is_nil _ _).mono ?_
    rintro e w2 ⟨rfl, rfl⟩
    go_wp2_with fail
    refine (HD.out _ _ _ _ _ (CRep.later (Ag.of (below_alloc1 _ _) (Nat.le_refl _)) HR.out)).mono ?_
    rintro e w3 ⟨v, rfl, r3, b3⟩
    have R3 := Lib.hid r3
    clear r3
    go_wp2
    go_ret
    exact ⟨_, rfl, R3.out.mono (by simp; omega), (B1.out.alloc (by omega) _).trans (b3.mono (by simp; omega))⟩
  | none =>
    have HC := Lib.hid (readPred_no l hw hl ep w hE)
    unfold NoWhole errV at HC
    clear hE hw hl
    generalize bs l = s at *
    go_enter Tryd.func18, Tryd.ntmps18
    go_wp2_with fail
    refine HC.out.mono ?_
    rintro e w1 ⟨rfl, b1⟩
    have hE1 := HE.out _ b1
    have hg1 : 0 < w1.heap.size := by have := b1.size; omega
    have B1 := Lib.hid b1
    clear HC b1
    go_wp2_with fail
    refine (is_same _ _).mono ?_
    rintro e w2 ⟨rfl, rfl⟩
    go_wp2
    go_ret
    exact ⟨_, rfl, noRow _ _, by repeat (first | exact B1.out | refine Below.drew ?_ | refine Below.alloc ?_ (by have := B1.out.size; omega) _)⟩

theorem rowStr {w w1 : World} {xs : List ByteArray} {g : Nat} (h0 : w.heap.size ≤ g) (h : w1.heap[g]? = some (.cells (xs.map Value.string).toArray 9)) (hl : xs.length ≤ 1000) : StrRow w1 w.heap.size (.slice (some ⟨g, 0, none⟩) xs.length xs.length) xs :=
  ⟨by simp, .inr ⟨g, xs.length, (xs.map Value.string).toArray, rfl, h0, h, Nat.le_refl _, by unfold maxLen; omega, by simp, by rw [Nat.mul_one, List.toList_toArray, List.take_of_length_le (by simp)]⟩⟩

set_option maxHeartbeats 1000000 in
theorem sPredParts_any (l : List UInt8) (hl : l.length ≤ 1048576) (w : World) :
    Calls Tryd.prog 17 #[.string (bs l)] w fun e w' => ∃ v, e = .returned v ∧ StrRow w' w.heap.size v (partsT l) ∧ Below w.heap.size w w' := by
  have HO := Lib.hid (sPredOk_any l hl)
  have hlen := partsT_len l
  unfold partsT at *
  cases hw : whole l with
  | some c =>
    rw [hw] at hlen
    obtain ⟨rfl, hk, h16⟩ := whole_some hw
    rw [hw] at HO
    have HD := Lib.hid (parts_any c hk hl)
    simp only [Option.isSome_some] at HO hlen ⊢
    clear hw hl h16 hk
    generalize bs c.txt = s at *
    generalize c.parts.map bs = L at *
    go_enter Tryd.func17, Tryd.ntmps17
    go_wp2_with fail
    refine (HO.out _).mono ?_
    rintro e w1 ⟨rfl, b1⟩
    have hs1 := b1.size
    go_wp2_with fail
    refine (HD.out _).mono ?_
    rintro e w2 ⟨g, rfl, hg0, hg1, hblk, b2⟩
    have HB := Lib.hid hblk
    clear hblk
    go_wp2
    go_ret
    exact ⟨_, rfl, (rowStr hg0 HB.out (by omega)).mono hs1, belStep b1 b2⟩
  | none =>
    rw [hw] at HO
    simp only [Option.isSome_none] at HO ⊢
    clear hw hl hlen
    generalize bs l = s at *
    go_enter Tryd.func17, Tryd.ntmps17
    go_wp2_with fail
    refine (HO.out _).mono ?_
    rintro e w1 ⟨rfl, b1⟩
    go_wp2
    go_ret
    exact ⟨_, rfl, rowStr (xs := []) b1.size (heap_alloc_new w1 _) (by simp), b1.alloc b1.size _⟩

end Go.Proofs.YtddkpimmcmnogaaDoor
