/-
  What the model's text of a number below ten, and of a head, is.
-/
import Derived.Test.YtahobeigbjhbbaaGreatDoorHeadMore
import Derived.Deep.RegionHeld3
namespace Go.Proofs.YtahobeigbjhbbaaGreatDoor
open Go.ChangeShapes Go.WideShapes Go.ChangeAt Go.RowKit Go.Joins
set_option linter.unusedVariables false

/-- The text of a number below ten. -/
def digB (n : Int) : ByteArray := ⟨#[UInt8.ofNat (48 + n).toNat]⟩
theorem digB_size (n : Int) : (digB n).size = 1 := rfl

theorem convert_one (w : World) (x : Int) (h0 : 0 ≤ x) (h1 : x ≤ 255) :
    (convert 22 9 (.slice (some ⟨w.heap.size, 0, none⟩) 1 1)).run Tryz.prog (w.alloc (.cells #[.int .u8 x] 5)) = .ok (.string ⟨#[UInt8.ofNat x.toNat]⟩) (w.alloc (.cells #[.int .u8 x] 5)) := by
  have := run_convert_bytes_back (P := Tryz.prog) (w.alloc (.cells #[.int .u8 x] 5)) 22 9 5 ⟨w.heap.size, 0, none⟩ 1 [UInt8.ofNat x.toNat] Tryz.underlying22 Tryz.underlying5 Tryz.underlying9 (by
    intro j hj
    simp at hj
    subst hj
    simp [Addr.add, go_sem]
    omega)
  simpa using this

set_option maxRecDepth 100000 in
set_option maxHeartbeats 400000 in
theorem l6Dec_digit (n : Int) (h0 : 0 ≤ n) (h9 : n ≤ 9) (w : World) :
    Calls Tryz.prog 139 #[.int .i64 n] w fun e w' => e = .returned (.string (digB n)) ∧ Below w.heap.size w w' := by
  have hx : ¬ n < -9223372036854775807 := by omega
  have hc := convert_one w (48 + n) (by omega) (by omega)
  go_enter Tryz.func139, Tryz.ntmps139
  go_wp2
  go_ret
  exact ⟨rfl, below_alloc1 _ _⟩

/-- The text of a head. -/
def textB (a b c : Int) : ByteArray := digB a ++ ⟨#[46]⟩ ++ digB b ++ ⟨#[46]⟩ ++ digB c

/-! ### Reading a head -/

theorem byteSub (b : UInt8) : wrap64 (wrap64 (b.toNat : Int) - 48) = (b.toNat : Int) - 48 := by
  have := b.toNat_lt
  unfold wrap64
  omega
theorem digB_byte (b : UInt8) : digB ((b.toNat : Int) - 48) = ⟨#[b]⟩ := by
  unfold digB
  have e : (48 + ((b.toNat : Int) - 48)).toNat = b.toNat := by omega
  rw [e]
  simp
theorem textB_bytes (b0 b2 b4 : UInt8) : textB ((b0.toNat : Int) - 48) ((b2.toNat : Int) - 48) ((b4.toNat : Int) - 48) = ⟨#[b0, 46, b2, 46, b4]⟩ := by
  unfold textB
  rw [digB_byte, digB_byte, digB_byte]
  rfl
theorem text_same (b0 b1 b2 b3 b4 : UInt8) : ((textB ((b0.toNat : Int) - 48) ((b2.toNat : Int) - 48) ((b4.toNat : Int) - 48)).toList == [b0, b1, b2, b3, b4]) = ((b1 == 46) && (b3 == 46)) := by
  rw [textB_bytes, ByteArray.toList_eq, Bool.eq_iff_iff]
  simp
  constructor
  · rintro ⟨h1, h2⟩; exact ⟨h1.symm, h2.symm⟩
  · rintro ⟨h1, h2⟩; exact ⟨h1.symm, h2.symm⟩

/-- What a text of five bytes reads as: a head, and whether it is one. -/
def ReadAs (b0 b1 b2 b3 b4 : UInt8) (w : World) (e : Ending) (w' : World) : Prop :=
  (if (b1 == 46) && ((b3 == 46) && okB ((b0.toNat : Int) - 48) ((b2.toNat : Int) - 48) ((b4.toNat : Int) - 48)) then
    e = .returned (.tuple #[.agg #[.int .i64 ((b0.toNat : Int) - 48), .int .i64 ((b2.toNat : Int) - 48), .int .i64 ((b4.toNat : Int) - 48)], .bool true])
  else e = .returned (.tuple #[.agg #[.int .i64 0, .int .i64 0, .int .i64 0], .bool false])) ∧ Below w.heap.size w w'
theorem readAs_yes {b0 b1 b2 b3 b4 : UInt8} {w : World} (w' : World) (h1 : (b1 == 46) = true) (h3 : (b3 == 46) = true) (hk : okB ((b0.toNat : Int) - 48) ((b2.toNat : Int) - 48) ((b4.toNat : Int) - 48) = true) (hb : Below w.heap.size w w') :
    ReadAs b0 b1 b2 b3 b4 w (.returned (.tuple #[.agg #[.int .i64 ((b0.toNat : Int) - 48), .int .i64 ((b2.toNat : Int) - 48), .int .i64 ((b4.toNat : Int) - 48)], .bool true])) w' := by
  refine ⟨?_, hb⟩
  rw [h1, h3, hk]
  rfl
theorem readAs_no {b0 b1 b2 b3 b4 : UInt8} {w : World} (w' : World) (h : ((b1 == 46) && ((b3 == 46) && okB ((b0.toNat : Int) - 48) ((b2.toNat : Int) - 48) ((b4.toNat : Int) - 48))) = false) (hb : Below w.heap.size w w') :
    ReadAs b0 b1 b2 b3 b4 w (.returned (.tuple #[.agg #[.int .i64 0, .int .i64 0, .int .i64 0], .bool false])) w' := by
  refine ⟨?_, hb⟩
  rw [h]
  rfl

theorem twoHeads' {w w1 W : World} {t u : TypeId} {a b c d e f : Value} (hW : W = ((w.alloc (.cells #[a, b, c] t)).alloc (.cells #[d, e, f] u)).drew) (hb : Below W.heap.size W w1) :
    (w1.cell? ⟨w.heap.size, 0, none⟩ = some a ∧ w1.cell? ⟨w.heap.size, 1, none⟩ = some b ∧ w1.cell? ⟨w.heap.size, 2, none⟩ = some c ∧
    w1.cell? ⟨w.heap.size + 1, 0, none⟩ = some d ∧ w1.cell? ⟨w.heap.size + 1, 1, none⟩ = some e ∧ w1.cell? ⟨w.heap.size + 1, 2, none⟩ = some f) ∧ (∀ o, w1.frozen? ⟨w.heap.size, o, none⟩ = false) ∧ Below w.heap.size w w1 := by
  subst hW
  have hb' : Below ((w.alloc (.cells #[a, b, c] t)).alloc (.cells #[d, e, f] u)).heap.size ((w.alloc (.cells #[a, b, c] t)).alloc (.cells #[d, e, f] u)) w1 := ⟨hb.os, hb.tape, hb.output, hb.size, hb.block⟩
  refine ⟨twoHeads hb', fun o => ?_, (below_alloc2 _ _ _).trans (hb'.mono (by simp; omega))⟩
  have := belFrozen hb' w.heap.size o (by simp; omega)
  rw [this]
  simp [go_sem]

/-- A string of five bytes, written out. -/
theorem five_bytes {s : ByteArray} (h : s.size = 5) : ∃ b0 b1 b2 b3 b4 : UInt8, s = ⟨#[b0, b1, b2, b3, b4]⟩ := by
  obtain ⟨⟨l⟩⟩ := s
  match l, h with
  | [b0, b1, b2, b3, b4], _ => exact ⟨b0, b1, b2, b3, b4, rfl⟩

theorem textB_list (a b c : Int) : (textB a b c).toList = [UInt8.ofNat (48 + a).toNat, 46, UInt8.ofNat (48 + b).toNat, 46, UInt8.ofNat (48 + c).toNat] := by
  rw [ByteArray.toList_eq]; rfl

theorem textB_eq (a b c : Int) : textB a b c = ⟨#[UInt8.ofNat (48 + a).toNat, 46, UInt8.ofNat (48 + b).toNat, 46, UInt8.ofNat (48 + c).toNat]⟩ := rfl

theorem byte_back {a : Int} (h0 : 0 ≤ a) (h3 : a ≤ 3) : ((UInt8.ofNat (48 + a).toNat).toNat : Int) - 48 = a := by
  simp
  omega

end Go.Proofs.YtahobeigbjhbbaaGreatDoor
