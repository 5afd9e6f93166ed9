/-
  What the small functions of chapter 1 return, the program's and the model's, at every argument: a field is within its range, a head is one whose three fields are, the number of a head and the head of a number. Memory that was there stays as it was.
  What the other functions of chapter 1 that return heads return, the program's and the model's: the head of a number, a head with another tag; and what the statements' own helpers return: two heads are the same if their fields are.
  What the model's text of a number below ten, and of a head, is.
-/
import Derived.Test.YtndmedkkecikoaaRows
import Derived.WalkKit
import Derived.ProofKit
import Derived.OpenShut
import Derived.Lib.SmallJoins
import Derived.Lib.Hide
import Derived.Deep.RegionHeld3

namespace Go.Proofs.Ytndmedkkecikoaa
open Go.ChangeShapes Go.WideShapes Go.ChangeAt Go.RowKit Go.Joins
set_option linter.unusedVariables false

theorem own : ownKnob Try.prog.godebug = none := by kernel_rfl
theorem laidOut : laidOutB Try.prog = true := by kernel_rfl

theorem cellsImplHead : Try.prog.cellsOf 25 = 3 := by kernel_rfl

/-! ### Plain facts -/

/-- What lay below the heap's size reads on as it did. -/
theorem belCell {W w1 : World} (hb : Below W.heap.size W w1) : ∀ b o, b < W.heap.size → w1.cell? ⟨b, o, none⟩ = W.cell? ⟨b, o, none⟩ := fun b o h => hb.cell (p := ⟨b, o, none⟩) h
theorem belFrozen {W w1 : World} (hb : Below W.heap.size W w1) : ∀ b o, b < W.heap.size → w1.frozen? ⟨b, o, none⟩ = W.frozen? ⟨b, o, none⟩ := fun b o h => hb.frozen (p := ⟨b, o, none⟩) h

theorem belStep {W a b : World} (h : Below W.heap.size W a) (k : Below a.heap.size a b) : Below W.heap.size W b := h.trans (k.mono h.size)

/-- A number is between two others. -/
def inB (n lo hi : Int) : Bool := decide (lo ≤ n) && decide (n ≤ hi)
/-- A field's number is within its range. -/
def fldB (n : Int) : Bool := decide (0 ≤ n) && decide (n ≤ 3)
theorem inB_fld (n : Int) : inB n 0 3 = fldB n := rfl
theorem inB_true {n lo hi : Int} (h : inB n lo hi = true) : lo ≤ n ∧ n ≤ hi := by simpa [inB] using h
theorem inB_mk {n lo hi : Int} (h : lo ≤ n) (k : n ≤ hi) : inB n lo hi = true := by simp [inB, h, k]
theorem inB_not {n lo hi : Int} (h : n < lo ∨ hi < n) : inB n lo hi = false := by
  rcases h with h | h
  · have : ¬ lo ≤ n := by omega
    simp [inB, this]
  · have : ¬ n ≤ hi := by omega
    simp [inB, this]
theorem fldB_true {n : Int} (h : fldB n = true) : 0 ≤ n ∧ n ≤ 3 := by simpa [fldB] using h
theorem fldB_mk {n : Int} (h : 0 ≤ n) (k : n ≤ 3) : fldB n = true := by simp [fldB, h, k]
/-- A head whose three fields are. -/
def okB (a b c : Int) : Bool := fldB a && (fldB b && fldB c)
theorem okB_true {a b c : Int} (h : okB a b c = true) : (0 ≤ a ∧ a ≤ 3) ∧ (0 ≤ b ∧ b ≤ 3) ∧ (0 ≤ c ∧ c ≤ 3) := by
  simp only [okB, Bool.and_eq_true] at h
  exact ⟨fldB_true h.1, fldB_true h.2.1, fldB_true h.2.2⟩
theorem okB_mk {a b c : Int} (ha0 : 0 ≤ a) (ha3 : a ≤ 3) (hb0 : 0 ≤ b) (hb3 : b ≤ 3) (hc0 : 0 ≤ c) (hc3 : c ≤ 3) : okB a b c = true := by
  simp [okB, fldB, ha0, ha3, hb0, hb3, hc0, hc3]

theorem four {a : Int} (h0 : 0 ≤ a) (h3 : a ≤ 3) : a = 0 ∨ a = 1 ∨ a = 2 ∨ a = 3 := by omega
theorem bits_pack {a b c : Int} (ha0 : 0 ≤ a) (ha3 : a ≤ 3) (hb0 : 0 ≤ b) (hb3 : b ≤ 3) (hc0 : 0 ≤ c) (hc3 : c ≤ 3) :
    bits BinOp.or IntKind.i64 (bits BinOp.or IntKind.i64 (a * 16) (b * 4)) c % 256 = 16 * a + 4 * b + c := by
  rcases four ha0 ha3 with rfl | rfl | rfl | rfl <;> rcases four hb0 hb3 with rfl | rfl | rfl | rfl <;> rcases four hc0 hc3 with rfl | rfl | rfl | rfl <;> decide
theorem bits_low_fin : ∀ m : Fin 64, wrap64 (bits BinOp.and IntKind.u8 ((m.val : Nat) : Int) 3) = ((m.val : Nat) : Int) % 4 := by decide +kernel
theorem bits_low {m : Int} (h0 : 0 ≤ m) (h1 : m ≤ 63) : wrap64 (bits BinOp.and IntKind.u8 m 3) = m % 4 := by
  obtain ⟨k, rfl⟩ := Int.eq_ofNat_of_zero_le h0
  exact bits_low_fin ⟨k, by omega⟩
theorem bits_put_fin : ∀ (m : Fin 64) (t : Fin 4), bits BinOp.or IntKind.u8 (bits BinOp.andNot IntKind.u8 ((m.val : Nat) : Int) 3) ((t.val : Nat) : Int) = ((m.val : Nat) : Int) / 4 * 4 + ((t.val : Nat) : Int) := by decide +kernel
theorem bits_put {m t : Int} (h0 : 0 ≤ m) (h1 : m ≤ 63) (t0 : 0 ≤ t) (t3 : t ≤ 3) : bits BinOp.or IntKind.u8 (bits BinOp.andNot IntKind.u8 m 3) t = m / 4 * 4 + t := by
  obtain ⟨k, rfl⟩ := Int.eq_ofNat_of_zero_le h0
  obtain ⟨j, rfl⟩ := Int.eq_ofNat_of_zero_le t0
  exact bits_put_fin ⟨k, by omega⟩ ⟨j, by omega⟩
theorem ret_int {k : IntKind} {a b : Int} (h : a = b) : Ending.returned (.int k a) = .returned (.int k b) := by rw [h]

/-! ### Fields -/

set_option maxHeartbeats 400000 in
theorem fieldOk_any (n : Int) (w : World) :
    Calls Try.prog 93 #[.int .i64 n] w fun e w' => e = .returned (.bool (fldB n)) ∧ w = w' := by
  by_cases h0 : 0 ≤ n
  · by_cases h3 : n ≤ 3
    · rw [fldB_mk h0 h3]
      go_enter Try.func93, Try.ntmps93
      go_wp2
      go_ret
      exact ⟨rfl, rfl⟩
    · have e : fldB n = false := by simp [fldB, h0, h3]
      have h3' : decide (n ≤ 3) = false := by simpa using h3
      rw [e]
      clear e
      go_enter Try.func93, Try.ntmps93
      go_wp2
      go_ret
      exact ⟨rfl, rfl⟩
  · have e : fldB n = false := by simp [fldB, h0]
    have h0' : decide (0 ≤ n) = false := by simpa using h0
    rw [e]
    clear e
    go_enter Try.func93, Try.ntmps93
    go_wp2
    go_ret
    exact ⟨rfl, rfl⟩

set_option maxHeartbeats 400000 in
theorem l6In_any (n lo hi : Int) (w : World) :
    Calls Try.prog 84 #[.int .i64 n, .int .i64 lo, .int .i64 hi] w fun e w' => e = .returned (.bool (inB n lo hi)) ∧ w = w' := by
  by_cases h0 : lo ≤ n
  · by_cases h3 : n ≤ hi
    · rw [inB_mk h0 h3]
      go_enter Try.func84, Try.ntmps84
      go_wp2
      go_ret
      exact ⟨rfl, rfl⟩
    · have e : inB n lo hi = false := inB_not (.inr (by omega))
      have h3' : decide (n ≤ hi) = false := by simpa using h3
      rw [e]
      clear e
      go_enter Try.func84, Try.ntmps84
      go_wp2
      go_ret
      exact ⟨rfl, rfl⟩
  · have e : inB n lo hi = false := inB_not (.inl (by omega))
    have h0' : decide (lo ≤ n) = false := by simpa using h0
    rw [e]
    clear e
    go_enter Try.func84, Try.ntmps84
    go_wp2
    go_ret
    exact ⟨rfl, rfl⟩

set_option maxHeartbeats 400000 in
theorem l1Field_any (n : Int) (w : World) :
    Calls Try.prog 60 #[.int .i64 n] w fun e w' => e = .returned (.bool (fldB n)) ∧ w = w' := by
  go_enter Try.func60, Try.ntmps60
  go_wp2_with (go_at_call 84; refine (l6In_any _ _ _ _).mono ?_; rintro e w' ⟨rfl, rfl⟩)
  go_ret
  exact ⟨rfl, rfl⟩

/-! ### Heads -/

set_option maxHeartbeats 400000 in
theorem iHeadOk_any (a b c : Int) (w : World) :
    Calls Try.prog 79 #[.agg #[.int .i64 a, .int .i64 b, .int .i64 c]] w fun e w' => e = .returned (.bool (okB a b c)) ∧ Below w.heap.size w w' := by
  cases ha : fldB a
  · rw [show okB a b c = false from by simp [okB, ha]]
    go_enter Try.func79, Try.ntmps79
    go_wp2_with (go_at_call 93; refine (fieldOk_any _ _).mono ?_; rintro e w' ⟨rfl, rfl⟩)
    go_ret
    exact ⟨rfl, below_alloc1 _ _⟩
  · cases hb : fldB b
    · rw [show okB a b c = false from by simp [okB, hb]]
      go_enter Try.func79, Try.ntmps79
      go_wp2_with (go_at_call 93; refine (fieldOk_any _ _).mono ?_; rintro e w' ⟨rfl, rfl⟩)
      go_ret
      exact ⟨rfl, below_alloc1 _ _⟩
    · rw [show okB a b c = fldB c from by simp [okB, ha, hb]]
      go_enter Try.func79, Try.ntmps79
      go_wp2_with (go_at_call 93; refine (fieldOk_any _ _).mono ?_; rintro e w' ⟨rfl, rfl⟩)
      go_ret
      exact ⟨rfl, below_alloc1 _ _⟩

set_option maxHeartbeats 400000 in
theorem sHeadOk_any (a b c : Int) (w : World) :
    Calls Try.prog 19 #[.agg #[.int .i64 a, .int .i64 b, .int .i64 c]] w fun e w' => e = .returned (.bool (okB a b c)) ∧ Below w.heap.size w w' := by
  cases ha : fldB a
  · rw [show okB a b c = false from by simp [okB, ha]]
    go_enter Try.func19, Try.ntmps19
    go_wp2_with (go_at_call 60; refine (l1Field_any _ _).mono ?_; rintro e w' ⟨rfl, rfl⟩)
    go_ret
    exact ⟨rfl, below_alloc1 _ _⟩
  · cases hb : fldB b
    · rw [show okB a b c = false from by simp [okB, hb]]
      go_enter Try.func19, Try.ntmps19
      go_wp2_with (go_at_call 60; refine (l1Field_any _ _).mono ?_; rintro e w' ⟨rfl, rfl⟩)
      go_ret
      exact ⟨rfl, below_alloc1 _ _⟩
    · rw [show okB a b c = fldB c from by simp [okB, ha, hb]]
      go_enter Try.func19, Try.ntmps19
      go_wp2_with (go_at_call 60; refine (l1Field_any _ _).mono ?_; rintro e w' ⟨rfl, rfl⟩)
      go_ret
      exact ⟨rfl, below_alloc1 _ _⟩

/-! ### Numbers of heads -/

set_option maxHeartbeats 400000 in
theorem l1Num_yes (a b c : Int) (ha0 : 0 ≤ a) (ha3 : a ≤ 3) (hb0 : 0 ≤ b) (hb3 : b ≤ 3) (hc0 : 0 ≤ c) (hc3 : c ≤ 3) (w : World) :
    Calls Try.prog 59 #[.agg #[.int .i64 a, .int .i64 b, .int .i64 c]] w fun e w' => e = .returned (.int .i64 (16 * a + 4 * b + c)) ∧ Below w.heap.size w w' := by
  go_enter Try.func59, Try.ntmps59
  go_wp2
  go_ret
  exact ⟨rfl, below_alloc1 _ _⟩

set_option maxHeartbeats 400000 in
theorem bitsOf_yes (a b c : Int) (hk : okB a b c = true) (w : World) :
    Calls Try.prog 54 #[.agg #[.int .i64 a, .int .i64 b, .int .i64 c]] w fun e w' => e = .returned (.tuple #[.int .u8 (16 * a + 4 * b + c), .bool true]) ∧ Below w.heap.size w w' := by
  obtain ⟨⟨ha0, ha3⟩, ⟨hb0, hb3⟩, ⟨hc0, hc3⟩⟩ := okB_true hk
  rw [← bits_pack ha0 ha3 hb0 hb3 hc0 hc3]
  go_enter Try.func54, Try.ntmps54
  go_wp2_with (go_at_call 79; refine (iHeadOk_any _ _ _ _).mono ?_; rintro e w1 ⟨rfl, hb⟩; have hc := belCell hb)
  go_ret2
  exact ⟨rfl, (below_alloc1 _ _).trans (hb.mono (by simp))⟩

set_option maxHeartbeats 400000 in
theorem bitsOf_no (a b c : Int) (hk : okB a b c = false) (w : World) :
    Calls Try.prog 54 #[.agg #[.int .i64 a, .int .i64 b, .int .i64 c]] w fun e w' => e = .returned (.tuple #[.int .u8 0, .bool false]) ∧ Below w.heap.size w w' := by
  go_enter Try.func54, Try.ntmps54
  go_wp2_with (go_at_call 79; refine (iHeadOk_any _ _ _ _).mono ?_; rintro e w1 ⟨rfl, hb⟩; have hc := belCell hb)
  go_ret2
  exact ⟨rfl, (below_alloc1 _ _).trans (hb.mono (by simp))⟩

end Go.Proofs.Ytndmedkkecikoaa

namespace Go.Proofs.Ytndmedkkecikoaa
open Go.ChangeShapes Go.WideShapes Go.ChangeAt Go.RowKit Go.Joins
set_option linter.unusedVariables false

set_option maxHeartbeats 400000 in
theorem src_any (n : Int) (h0 : 0 ≤ n) (h1 : n ≤ 63) (w : World) :
    Calls Try.prog 118 #[.int .u8 n] w fun e w' => e = .returned (.int .i64 (n / 16)) ∧ w = w' := by
  rw [show n / 16 = wrap64 (bits BinOp.and IntKind.u8 (n / 16) 3) from by rw [bits_low (by omega) (by omega)]; omega]
  go_enter Try.func118, Try.ntmps118
  go_wp2
  go_ret
  exact ⟨rfl, rfl⟩

set_option maxHeartbeats 400000 in
theorem dst_any (n : Int) (h0 : 0 ≤ n) (h1 : n ≤ 63) (w : World) :
    Calls Try.prog 115 #[.int .u8 n] w fun e w' => e = .returned (.int .i64 (n / 4 % 4)) ∧ w = w' := by
  rw [show n / 4 % 4 = wrap64 (bits BinOp.and IntKind.u8 (n / 4) 3) from by rw [bits_low (by omega) (by omega)]]
  go_enter Try.func115, Try.ntmps115
  go_wp2
  go_ret
  exact ⟨rfl, rfl⟩

set_option maxHeartbeats 400000 in
theorem tag_any (n : Int) (h0 : 0 ≤ n) (h1 : n ≤ 63) (w : World) :
    Calls Try.prog 119 #[.int .u8 n] w fun e w' => e = .returned (.int .i64 (n % 4)) ∧ w = w' := by
  rw [show n % 4 = wrap64 (bits BinOp.and IntKind.u8 n 3) from by rw [bits_low (by omega) (by omega)]]
  go_enter Try.func119, Try.ntmps119
  go_wp2
  go_ret
  exact ⟨rfl, rfl⟩

set_option maxHeartbeats 400000 in
theorem l1Of_any (n : Int) (h0 : 0 ≤ n) (h1 : n ≤ 63) (w : World) :
    Calls Try.prog 78 #[.int .i64 n] w fun e w' => e = .returned (.agg #[.int .i64 (n / 16), .int .i64 (n / 4 % 4), .int .i64 (n % 4)]) ∧ Below w.heap.size w w' := by
  go_enter Try.func78, Try.ntmps78
  go_wp2
  exact bodyPost_ret (v := .agg #[.int .i64 (n / 16), .int .i64 (n / 4 % 4), .int .i64 (n % 4)]) (by simp [results, Try.results78, go_sem]) rfl ⟨rfl, below_alloc1 _ _⟩

/-! ### A head with another tag -/

/-- Two heads of the call's own, behind a call that leaves what was there. -/
theorem twoHeads {w w1 : World} {t u : TypeId} {a b c d e f : Value} (hb : Below ((w.alloc (.cells #[a, b, c] t)).alloc (.cells #[d, e, f] u)).heap.size ((w.alloc (.cells #[a, b, c] t)).alloc (.cells #[d, e, f] u)) w1) :
    w1.cell? ⟨w.heap.size, 0, none⟩ = some a ∧ w1.cell? ⟨w.heap.size, 1, none⟩ = some b ∧ w1.cell? ⟨w.heap.size, 2, none⟩ = some c ∧
    w1.cell? ⟨w.heap.size + 1, 0, none⟩ = some d ∧ w1.cell? ⟨w.heap.size + 1, 1, none⟩ = some e ∧ w1.cell? ⟨w.heap.size + 1, 2, none⟩ = some f := by
  have hc := belCell hb
  refine ⟨?_, ?_, ?_, ?_, ?_, ?_⟩ <;> (rw [hc _ _ (by simp; try omega)]; simp [go_sem])

theorem tag_math {a b c t : Int} (ha0 : 0 ≤ a) (ha3 : a ≤ 3) (hb0 : 0 ≤ b) (hb3 : b ≤ 3) (hc0 : 0 ≤ c) (hc3 : c ≤ 3) (t0 : 0 ≤ t) (t3 : t ≤ 3) :
    ((16 * a + 4 * b + c) / 4 * 4 + t) / 16 = a ∧ ((16 * a + 4 * b + c) / 4 * 4 + t) / 4 % 4 = b ∧ ((16 * a + 4 * b + c) / 4 * 4 + t) % 4 = t ∧ 0 ≤ (16 * a + 4 * b + c) / 4 * 4 + t ∧ (16 * a + 4 * b + c) / 4 * 4 + t ≤ 63 := by omega

/-! ### The statements' own helpers -/

end Go.Proofs.Ytndmedkkecikoaa

namespace Go.Proofs.Ytndmedkkecikoaa
open Go.ChangeShapes Go.WideShapes Go.ChangeAt Go.RowKit Go.Joins
set_option linter.unusedVariables false

/-- The text of a number below ten. -/
def digB (n : Int) : ByteArray := ⟨#[UInt8.ofNat (48 + n).toNat]⟩
theorem digB_size (n : Int) : (digB n).size = 1 := rfl

theorem convert_one (w : World) (x : Int) (h0 : 0 ≤ x) (h1 : x ≤ 255) :
    (convert 22 9 (.slice (some ⟨w.heap.size, 0, none⟩) 1 1)).run Try.prog (w.alloc (.cells #[.int .u8 x] 5)) = .ok (.string ⟨#[UInt8.ofNat x.toNat]⟩) (w.alloc (.cells #[.int .u8 x] 5)) := by
  have := run_convert_bytes_back (P := Try.prog) (w.alloc (.cells #[.int .u8 x] 5)) 22 9 5 ⟨w.heap.size, 0, none⟩ 1 [UInt8.ofNat x.toNat] Try.underlying22 Try.underlying5 Try.underlying9 (by
    intro j hj
    simp at hj
    subst hj
    simp [Addr.add, go_sem]
    omega)
  simpa using this

/-- The text of a head. -/
def textB (a b c : Int) : ByteArray := digB a ++ ⟨#[46]⟩ ++ digB b ++ ⟨#[46]⟩ ++ digB c

/-! ### Reading a head -/

theorem byteSub (b : UInt8) : wrap64 (wrap64 (b.toNat : Int) - 48) = (b.toNat : Int) - 48 := by
  have := b.toNat_lt
  unfold wrap64
  omega
theorem digB_byte (b : UInt8) : digB ((b.toNat : Int) - 48) = ⟨#[b]⟩ := by
  unfold digB
  have e : (48 + ((b.toNat : Int) - 48)).toNat = b.toNat := by omega
  rw [e]
  simp
theorem textB_bytes (b0 b2 b4 : UInt8) : textB ((b0.toNat : Int) - 48) ((b2.toNat : Int) - 48) ((b4.toNat : Int) - 48) = ⟨#[b0, 46, b2, 46, b4]⟩ := by
  unfold textB
  rw [digB_byte, digB_byte, digB_byte]
  rfl
theorem text_same (b0 b1 b2 b3 b4 : UInt8) : ((textB ((b0.toNat : Int) - 48) ((b2.toNat : Int) - 48) ((b4.toNat : Int) - 48)).toList == [b0, b1, b2, b3, b4]) = ((b1 == 46) && (b3 == 46)) := by
  rw [textB_bytes, ByteArray.toList_eq, Bool.eq_iff_iff]
  simp
  constructor
  · rintro ⟨h1, h2⟩; exact ⟨h1.symm, h2.symm⟩
  · rintro ⟨h1, h2⟩; exact ⟨h1.symm, h2.symm⟩

/-- What a text of five bytes reads as: a head, and whether it is one. -/
def ReadAs (b0 b1 b2 b3 b4 : UInt8) (w : World) (e : Ending) (w' : World) : Prop :=
  (if (b1 == 46) && ((b3 == 46) && okB ((b0.toNat : Int) - 48) ((b2.toNat : Int) - 48) ((b4.toNat : Int) - 48)) then
    e = .returned (.tuple #[.agg #[.int .i64 ((b0.toNat : Int) - 48), .int .i64 ((b2.toNat : Int) - 48), .int .i64 ((b4.toNat : Int) - 48)], .bool true])
  else e = .returned (.tuple #[.agg #[.int .i64 0, .int .i64 0, .int .i64 0], .bool false])) ∧ Below w.heap.size w w'
theorem readAs_yes {b0 b1 b2 b3 b4 : UInt8} {w : World} (w' : World) (h1 : (b1 == 46) = true) (h3 : (b3 == 46) = true) (hk : okB ((b0.toNat : Int) - 48) ((b2.toNat : Int) - 48) ((b4.toNat : Int) - 48) = true) (hb : Below w.heap.size w w') :
    ReadAs b0 b1 b2 b3 b4 w (.returned (.tuple #[.agg #[.int .i64 ((b0.toNat : Int) - 48), .int .i64 ((b2.toNat : Int) - 48), .int .i64 ((b4.toNat : Int) - 48)], .bool true])) w' := by
  refine ⟨?_, hb⟩
  rw [h1, h3, hk]
  rfl
theorem readAs_no {b0 b1 b2 b3 b4 : UInt8} {w : World} (w' : World) (h : ((b1 == 46) && ((b3 == 46) && okB ((b0.toNat : Int) - 48) ((b2.toNat : Int) - 48) ((b4.toNat : Int) - 48))) = false) (hb : Below w.heap.size w w') :
    ReadAs b0 b1 b2 b3 b4 w (.returned (.tuple #[.agg #[.int .i64 0, .int .i64 0, .int .i64 0], .bool false])) w' := by
  refine ⟨?_, hb⟩
  rw [h]
  rfl

theorem twoHeads' {w w1 W : World} {t u : TypeId} {a b c d e f : Value} (hW : W = ((w.alloc (.cells #[a, b, c] t)).alloc (.cells #[d, e, f] u)).drew) (hb : Below W.heap.size W w1) :
    (w1.cell? ⟨w.heap.size, 0, none⟩ = some a ∧ w1.cell? ⟨w.heap.size, 1, none⟩ = some b ∧ w1.cell? ⟨w.heap.size, 2, none⟩ = some c ∧
    w1.cell? ⟨w.heap.size + 1, 0, none⟩ = some d ∧ w1.cell? ⟨w.heap.size + 1, 1, none⟩ = some e ∧ w1.cell? ⟨w.heap.size + 1, 2, none⟩ = some f) ∧ (∀ o, w1.frozen? ⟨w.heap.size, o, none⟩ = false) ∧ Below w.heap.size w w1 := by
  subst hW
  have hb' : Below ((w.alloc (.cells #[a, b, c] t)).alloc (.cells #[d, e, f] u)).heap.size ((w.alloc (.cells #[a, b, c] t)).alloc (.cells #[d, e, f] u)) w1 := ⟨hb.os, hb.tape, hb.output, hb.size, hb.block⟩
  refine ⟨twoHeads hb', fun o => ?_, (below_alloc2 _ _ _).trans (hb'.mono (by simp; omega))⟩
  have := belFrozen hb' w.heap.size o (by simp; omega)
  rw [this]
  simp [go_sem]

/-- A string of five bytes, written out. -/
theorem five_bytes {s : ByteArray} (h : s.size = 5) : ∃ b0 b1 b2 b3 b4 : UInt8, s = ⟨#[b0, b1, b2, b3, b4]⟩ := by
  obtain ⟨⟨l⟩⟩ := s
  match l, h with
  | [b0, b1, b2, b3, b4], _ => exact ⟨b0, b1, b2, b3, b4, rfl⟩

theorem textB_list (a b c : Int) : (textB a b c).toList = [UInt8.ofNat (48 + a).toNat, 46, UInt8.ofNat (48 + b).toNat, 46, UInt8.ofNat (48 + c).toNat] := by
  rw [ByteArray.toList_eq]; rfl

theorem textB_eq (a b c : Int) : textB a b c = ⟨#[UInt8.ofNat (48 + a).toNat, 46, UInt8.ofNat (48 + b).toNat, 46, UInt8.ofNat (48 + c).toNat]⟩ := rfl

theorem byte_back {a : Int} (h0 : 0 ≤ a) (h3 : a ≤ 3) : ((UInt8.ofNat (48 + a).toNat).toNat : Int) - 48 = a := by
  simp
  omega

end Go.Proofs.Ytndmedkkecikoaa
