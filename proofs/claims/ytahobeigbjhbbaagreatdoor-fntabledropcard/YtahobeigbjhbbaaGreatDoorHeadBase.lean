/-
  What the small functions of chapter 1 return, the program's and the model's, at every argument: a field is within its range, a head is one whose three fields are, the number of a head and the head of a number. Memory that was there stays as it was.
-/
import Derived.Test.YtahobeigbjhbbaaGreatDoorRows
import Derived.WalkKit
import Derived.ProofKit
import Derived.OpenShut
import Derived.Lib.SmallJoins
import Derived.Lib.Hide
namespace Go.Proofs.YtahobeigbjhbbaaGreatDoor
open Go.ChangeShapes Go.WideShapes Go.ChangeAt Go.RowKit Go.Joins
set_option linter.unusedVariables false

theorem own : ownKnob Tryz.prog.godebug = none := by kernel_rfl
theorem laidOut : laidOutB Tryz.prog = true := by kernel_rfl
theorem cellsImplHead : Tryz.prog.cellsOf 36 = 3 := by kernel_rfl

/-! ### Plain facts -/

/-- What lay below the heap's size reads on as it did. -/
theorem belCell {W w1 : World} (hb : Below W.heap.size W w1) : ∀ b o, b < W.heap.size → w1.cell? ⟨b, o, none⟩ = W.cell? ⟨b, o, none⟩ := fun b o h => hb.cell (p := ⟨b, o, none⟩) h
theorem belFrozen {W w1 : World} (hb : Below W.heap.size W w1) : ∀ b o, b < W.heap.size → w1.frozen? ⟨b, o, none⟩ = W.frozen? ⟨b, o, none⟩ := fun b o h => hb.frozen (p := ⟨b, o, none⟩) h

theorem belStep {W a b : World} (h : Below W.heap.size W a) (k : Below a.heap.size a b) : Below W.heap.size W b := h.trans (k.mono h.size)

/-- A number is between two others. -/
def inB (n lo hi : Int) : Bool := decide (lo ≤ n) && decide (n ≤ hi)
/-- A field's number is within its range. -/
def fldB (n : Int) : Bool := decide (0 ≤ n) && decide (n ≤ 3)
theorem inB_fld (n : Int) : inB n 0 3 = fldB n := rfl
theorem inB_true {n lo hi : Int} (h : inB n lo hi = true) : lo ≤ n ∧ n ≤ hi := by simpa [inB] using h
theorem inB_mk {n lo hi : Int} (h : lo ≤ n) (k : n ≤ hi) : inB n lo hi = true := by simp [inB, h, k]
theorem inB_not {n lo hi : Int} (h : n < lo ∨ hi < n) : inB n lo hi = false := by
  rcases h with h | h
  · have : ¬ lo ≤ n := by omega
    simp [inB, this]
  · have : ¬ n ≤ hi := by omega
    simp [inB, this]
theorem fldB_true {n : Int} (h : fldB n = true) : 0 ≤ n ∧ n ≤ 3 := by simpa [fldB] using h
theorem fldB_mk {n : Int} (h : 0 ≤ n) (k : n ≤ 3) : fldB n = true := by simp [fldB, h, k]
/-- A head whose three fields are. -/
def okB (a b c : Int) : Bool := fldB a && (fldB b && fldB c)
theorem okB_true {a b c : Int} (h : okB a b c = true) : (0 ≤ a ∧ a ≤ 3) ∧ (0 ≤ b ∧ b ≤ 3) ∧ (0 ≤ c ∧ c ≤ 3) := by
  simp only [okB, Bool.and_eq_true] at h
  exact ⟨fldB_true h.1, fldB_true h.2.1, fldB_true h.2.2⟩
theorem okB_mk {a b c : Int} (ha0 : 0 ≤ a) (ha3 : a ≤ 3) (hb0 : 0 ≤ b) (hb3 : b ≤ 3) (hc0 : 0 ≤ c) (hc3 : c ≤ 3) : okB a b c = true := by
  simp [okB, fldB, ha0, ha3, hb0, hb3, hc0, hc3]

theorem four {a : Int} (h0 : 0 ≤ a) (h3 : a ≤ 3) : a = 0 ∨ a = 1 ∨ a = 2 ∨ a = 3 := by omega
theorem bits_pack {a b c : Int} (ha0 : 0 ≤ a) (ha3 : a ≤ 3) (hb0 : 0 ≤ b) (hb3 : b ≤ 3) (hc0 : 0 ≤ c) (hc3 : c ≤ 3) :
    bits BinOp.or IntKind.i64 (bits BinOp.or IntKind.i64 (a * 16) (b * 4)) c % 256 = 16 * a + 4 * b + c := by
  rcases four ha0 ha3 with rfl | rfl | rfl | rfl <;> rcases four hb0 hb3 with rfl | rfl | rfl | rfl <;> rcases four hc0 hc3 with rfl | rfl | rfl | rfl <;> decide
theorem bits_low_fin : ∀ m : Fin 64, wrap64 (bits BinOp.and IntKind.u8 ((m.val : Nat) : Int) 3) = ((m.val : Nat) : Int) % 4 := by decide +kernel
theorem bits_low {m : Int} (h0 : 0 ≤ m) (h1 : m ≤ 63) : wrap64 (bits BinOp.and IntKind.u8 m 3) = m % 4 := by
  obtain ⟨k, rfl⟩ := Int.eq_ofNat_of_zero_le h0
  exact bits_low_fin ⟨k, by omega⟩
theorem bits_put_fin : ∀ (m : Fin 64) (t : Fin 4), bits BinOp.or IntKind.u8 (bits BinOp.andNot IntKind.u8 ((m.val : Nat) : Int) 3) ((t.val : Nat) : Int) = ((m.val : Nat) : Int) / 4 * 4 + ((t.val : Nat) : Int) := by decide +kernel
theorem bits_put {m t : Int} (h0 : 0 ≤ m) (h1 : m ≤ 63) (t0 : 0 ≤ t) (t3 : t ≤ 3) : bits BinOp.or IntKind.u8 (bits BinOp.andNot IntKind.u8 m 3) t = m / 4 * 4 + t := by
  obtain ⟨k, rfl⟩ := Int.eq_ofNat_of_zero_le h0
  obtain ⟨j, rfl⟩ := Int.eq_ofNat_of_zero_le t0
  exact bits_put_fin ⟨k, by omega⟩ ⟨j, by omega⟩
theorem ret_int {k : IntKind} {a b : Int} (h : a = b) : Ending.returned (.int k a) = .returned (.int k b) := by rw [h]

/-! ### Fields -/

set_option maxHeartbeats 400000 in
theorem fieldOk_any (n : Int) (w : World) :
    Calls Tryz.prog 114 #[.int .i64 n] w fun e w' => e = .returned (.bool (fldB n)) ∧ w = w' := by
  by_cases h0 : 0 ≤ n
  · by_cases h3 : n ≤ 3
    · rw [fldB_mk h0 h3]
      go_enter Tryz.func114, Tryz.ntmps114
      go_wp2
      go_ret
      exact ⟨rfl, rfl⟩
    · have e : fldB n = false := by simp [fldB, h0, h3]
      have h3' : decide (n ≤ 3) = false := by simpa using h3
      rw [e]
      clear e
      go_enter Tryz.func114, Tryz.ntmps114
      go_wp2
      go_ret
      exact ⟨rfl, rfl⟩
  · have e : fldB n = false := by simp [fldB, h0]
    have h0' : decide (0 ≤ n) = false := by simpa using h0
    rw [e]
    clear e
    go_enter Tryz.func114, Tryz.ntmps114
    go_wp2
    go_ret
    exact ⟨rfl, rfl⟩

set_option maxHeartbeats 400000 in
theorem l6In_any (n lo hi : Int) (w : World) :
    Calls Tryz.prog 66 #[.int .i64 n, .int .i64 lo, .int .i64 hi] w fun e w' => e = .returned (.bool (inB n lo hi)) ∧ w = w' := by
  by_cases h0 : lo ≤ n
  · by_cases h3 : n ≤ hi
    · rw [inB_mk h0 h3]
      go_enter Tryz.func66, Tryz.ntmps66
      go_wp2
      go_ret
      exact ⟨rfl, rfl⟩
    · have e : inB n lo hi = false := inB_not (.inr (by omega))
      have h3' : decide (n ≤ hi) = false := by simpa using h3
      rw [e]
      clear e
      go_enter Tryz.func66, Tryz.ntmps66
      go_wp2
      go_ret
      exact ⟨rfl, rfl⟩
  · have e : inB n lo hi = false := inB_not (.inl (by omega))
    have h0' : decide (lo ≤ n) = false := by simpa using h0
    rw [e]
    clear e
    go_enter Tryz.func66, Tryz.ntmps66
    go_wp2
    go_ret
    exact ⟨rfl, rfl⟩

set_option maxHeartbeats 400000 in
theorem l1Field_any (n : Int) (w : World) :
    Calls Tryz.prog 76 #[.int .i64 n] w fun e w' => e = .returned (.bool (fldB n)) ∧ w = w' := by
  go_enter Tryz.func76, Tryz.ntmps76
  go_wp2_with (go_at_call 66; refine (l6In_any _ _ _ _).mono ?_; rintro e w' ⟨rfl, rfl⟩)
  go_ret
  exact ⟨rfl, rfl⟩

/-! ### Heads -/

set_option maxHeartbeats 400000 in
theorem iHeadOk_any (a b c : Int) (w : World) :
    Calls Tryz.prog 74 #[.agg #[.int .i64 a, .int .i64 b, .int .i64 c]] w fun e w' => e = .returned (.bool (okB a b c)) ∧ Below w.heap.size w w' := by
  cases ha : fldB a
  · rw [show okB a b c = false from by simp [okB, ha]]
    go_enter Tryz.func74, Tryz.ntmps74
    go_wp2_with (go_at_call 114; refine (fieldOk_any _ _).mono ?_; rintro e w' ⟨rfl, rfl⟩)
    go_ret
    exact ⟨rfl, below_alloc1 _ _⟩
  · cases hb : fldB b
    · rw [show okB a b c = false from by simp [okB, hb]]
      go_enter Tryz.func74, Tryz.ntmps74
      go_wp2_with (go_at_call 114; refine (fieldOk_any _ _).mono ?_; rintro e w' ⟨rfl, rfl⟩)
      go_ret
      exact ⟨rfl, below_alloc1 _ _⟩
    · rw [show okB a b c = fldB c from by simp [okB, ha, hb]]
      go_enter Tryz.func74, Tryz.ntmps74
      go_wp2_with (go_at_call 114; refine (fieldOk_any _ _).mono ?_; rintro e w' ⟨rfl, rfl⟩)
      go_ret
      exact ⟨rfl, below_alloc1 _ _⟩

set_option maxHeartbeats 400000 in
theorem sHeadOk_any (a b c : Int) (w : World) :
    Calls Tryz.prog 29 #[.agg #[.int .i64 a, .int .i64 b, .int .i64 c]] w fun e w' => e = .returned (.bool (okB a b c)) ∧ Below w.heap.size w w' := by
  cases ha : fldB a
  · rw [show okB a b c = false from by simp [okB, ha]]
    go_enter Tryz.func29, Tryz.ntmps29
    go_wp2_with (go_at_call 76; refine (l1Field_any _ _).mono ?_; rintro e w' ⟨rfl, rfl⟩)
    go_ret
    exact ⟨rfl, below_alloc1 _ _⟩
  · cases hb : fldB b
    · rw [show okB a b c = false from by simp [okB, hb]]
      go_enter Tryz.func29, Tryz.ntmps29
      go_wp2_with (go_at_call 76; refine (l1Field_any _ _).mono ?_; rintro e w' ⟨rfl, rfl⟩)
      go_ret
      exact ⟨rfl, below_alloc1 _ _⟩
    · rw [show okB a b c = fldB c from by simp [okB, ha, hb]]
      go_enter Tryz.func29, Tryz.ntmps29
      go_wp2_with (go_at_call 76; refine (l1Field_any _ _).mono ?_; rintro e w' ⟨rfl, rfl⟩)
      go_ret
      exact ⟨rfl, below_alloc1 _ _⟩

/-! ### Numbers of heads -/

set_option maxHeartbeats 400000 in
theorem l1Num_yes (a b c : Int) (ha0 : 0 ≤ a) (ha3 : a ≤ 3) (hb0 : 0 ≤ b) (hb3 : b ≤ 3) (hc0 : 0 ≤ c) (hc3 : c ≤ 3) (w : World) :
    Calls Tryz.prog 111 #[.agg #[.int .i64 a, .int .i64 b, .int .i64 c]] w fun e w' => e = .returned (.int .i64 (16 * a + 4 * b + c)) ∧ Below w.heap.size w w' := by
  go_enter Tryz.func111, Tryz.ntmps111
  go_wp2
  go_ret
  exact ⟨rfl, below_alloc1 _ _⟩

set_option maxHeartbeats 400000 in
theorem bitsOf_yes (a b c : Int) (hk : okB a b c = true) (w : World) :
    Calls Tryz.prog 77 #[.agg #[.int .i64 a, .int .i64 b, .int .i64 c]] w fun e w' => e = .returned (.tuple #[.int .u8 (16 * a + 4 * b + c), .bool true]) ∧ Below w.heap.size w w' := by
  obtain ⟨⟨ha0, ha3⟩, ⟨hb0, hb3⟩, ⟨hc0, hc3⟩⟩ := okB_true hk
  rw [← bits_pack ha0 ha3 hb0 hb3 hc0 hc3]
  go_enter Tryz.func77, Tryz.ntmps77
  go_wp2_with (go_at_call 74; refine (iHeadOk_any _ _ _ _).mono ?_; rintro e w1 ⟨rfl, hb⟩; have hc := belCell hb)
  go_ret2
  exact ⟨rfl, (below_alloc1 _ _).trans (hb.mono (by simp))⟩

set_option maxHeartbeats 400000 in
theorem bitsOf_no (a b c : Int) (hk : okB a b c = false) (w : World) :
    Calls Tryz.prog 77 #[.agg #[.int .i64 a, .int .i64 b, .int .i64 c]] w fun e w' => e = .returned (.tuple #[.int .u8 0, .bool false]) ∧ Below w.heap.size w w' := by
  go_enter Tryz.func77, Tryz.ntmps77
  go_wp2_with (go_at_call 74; refine (iHeadOk_any _ _ _ _).mono ?_; rintro e w1 ⟨rfl, hb⟩; have hc := belCell hb)
  go_ret2
  exact ⟨rfl, (below_alloc1 _ _).trans (hb.mono (by simp))⟩

end Go.Proofs.YtahobeigbjhbbaaGreatDoor
