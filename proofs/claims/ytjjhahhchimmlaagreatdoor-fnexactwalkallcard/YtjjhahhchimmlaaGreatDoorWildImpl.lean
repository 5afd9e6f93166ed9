/-
  What the program's functions of chapter 2 return, at every text and every head (WildLess apart).
-/
import Derived.Test.YtjjhahhchimmlaaGreatDoorWildB
namespace Go.Proofs.YtjjhahhchimmlaaGreatDoor
open Go.ChangeShapes Go.WideShapes Go.ChangeAt Go.RowKit Go.Joins
set_option linter.unusedVariables false

/-- The bits of a head. -/
def hB (a b c : Int) (i : Nat) : Bool := match i with
  | 0 => decide (2 ≤ a) | 1 => a % 2 == 1 | 2 => decide (2 ≤ b) | 3 => b % 2 == 1 | 4 => decide (2 ≤ c) | _ => c % 2 == 1
theorem num_ofB {a b c : Int} (h : okB a b c = true) : 16 * a + 4 * b + c = ofB (hB a b c) := by
  obtain ⟨⟨ha0, ha3⟩, ⟨hb0, hb3⟩, ⟨hc0, hc3⟩⟩ := okB_true h
  rcases four ha0 ha3 with rfl | rfl | rfl | rfl <;> rcases four hb0 hb3 with rfl | rfl | rfl | rfl <;> rcases four hc0 hc3 with rfl | rfl | rfl | rfl <;> decide

def hasS (s : ByteArray) (a b c : Int) : Bool := okB a b c && (okS s && hasM (cf s) (vf s) (hB a b c))
def meetS (a b : ByteArray) : Bool := okS a && (okS b && meetB (cf a) (vf a) (cf b) (vf b))
def andS (a b : ByteArray) : ByteArray := bif meetS a b then txt (fun i => cf a i || cf b i) (fun i => vf a i || vf b i) else ⟨#[]⟩
def inS (a b : ByteArray) : Bool := okS a && (okS b && inM (cf a) (vf a) (cf b) (vf b))
def manyS (s : ByteArray) : Int := bif okS s then manyB (cf s) else 0
def ofS (a b c : Int) : ByteArray := bif okB a b c then txt (fun _ => true) (hB a b c) else ⟨#[]⟩

set_option maxHeartbeats 400000 in
theorem iWildOk_any (s : ByteArray) (hm : s.size ≤ 1048576) (w : World) :
    Calls Tryz.prog 93 #[.string s] w fun e w' => e = .returned (.bool (okS s)) ∧ Below w.heap.size w w' := by
  cases hk : okS s
  · go_enter Tryz.func93, Tryz.ntmps93
    go_wp2_with (first
      | (go_at_call 97; refine (readWild_no _ hk hm _).mono ?_; rintro e w1 ⟨rfl, b1⟩)
      | (go_at_call 106; refine (masksOf_no _).mono ?_; rintro e w2 ⟨rfl, b2⟩))
    go_ret
    exact ⟨rfl, (belStep b1 b2).alloc (Nat.le_trans b1.size b2.size) _⟩
  · go_enter Tryz.func93, Tryz.ntmps93
    go_wp2_with (first
      | (go_at_call 97; refine (readWild_yes _ hk _).mono ?_; rintro e w1 ⟨rfl, b1⟩)
      | (go_at_call 106; refine (masksOf_yes _ _ _).mono ?_; rintro e w2 ⟨rfl, b2⟩))
    go_ret
    exact ⟨rfl, (belStep b1 b2).alloc (Nat.le_trans b1.size b2.size) _⟩

set_option maxHeartbeats 400000 in
theorem iWildHas_any (s : ByteArray) (hm : s.size ≤ 1048576) (a b c : Int) (w : World) :
    Calls Tryz.prog 84 #[.string s, .agg #[.int .i64 a, .int .i64 b, .int .i64 c]] w fun e w' => e = .returned (.bool (hasS s a b c)) ∧ Below w.heap.size w w' := by
  cases ho : okB a b c
  · rw [show hasS s a b c = false from by unfold hasS; rw [ho]; rfl]
    go_enter Tryz.func84, Tryz.ntmps84
    go_wp2_with (go_at_call 96; refine (bitsOf_no _ _ _ ho _).mono ?_; rintro e w1 ⟨rfl, b1⟩)
    go_ret
    exact ⟨rfl, (below_alloc1 _ _).trans (b1.mono (by simp))⟩
  · have hn := num_ofB ho
    cases hk : okS s
    · rw [show hasS s a b c = false from by unfold hasS; rw [ho, hk]; rfl]
      have hme := methNone_has
      go_enter Tryz.func84, Tryz.ntmps84
      go_wp2_with (first
        | (go_at_call 96; refine (bitsOf_yes _ _ _ ho _).mono ?_; rintro e w1 ⟨rfl, b1⟩)
        | (go_at_call 97; refine (readWild_no _ hk hm _).mono ?_; rintro e w2 ⟨rfl, b2⟩)
        | (go_at_call 153; refine (hasNone_any _ _).mono ?_; rintro e w3 ⟨rfl, b3⟩))
      go_ret
      exact ⟨rfl, (below_alloc1 _ _).trans ((belStep b1 (belStep b2 b3)).mono (by simp))⟩
    · rw [show hasS s a b c = hasM (cf s) (vf s) (hB a b c) from by unfold hasS; rw [ho, hk]; rfl]
      have hme := meth_has
      clear hn
      go_enter Tryz.func84, Tryz.ntmps84
      go_wp2_with (first
        | (go_at_call 96; refine (bitsOf_yes _ _ _ ho _).mono ?_; rintro e w1 ⟨rfl, b1⟩; rw [num_ofB ho])
        | (go_at_call 97; refine (readWild_yes _ hk _).mono ?_; rintro e w2 ⟨rfl, b2⟩)
        | (go_at_call 149; refine (has_any _ _ _ _).mono ?_; rintro e w3 ⟨rfl, b3⟩))
      go_ret
      exact ⟨rfl, (below_alloc1 _ _).trans ((belStep b1 (belStep b2 b3)).mono (by simp))⟩

theorem ofB_all : ofB (fun _ => true) = 63 := by decide

/-! ### What two have in common -/

/-! ### One in another -/

/-- Two masks of the call's own are stored into. -/
theorem belFour {w w4 : World} {n : Nat} (h : Below n w w4) (hn : n ≤ w4.heap.size) (a b c d : Value) (o : Obj) :
    Below n w (((((w4.setCell ⟨n, 0, none⟩ a).setCell ⟨n, 1, none⟩ b).setCell ⟨n + 1, 0, none⟩ c).setCell ⟨n + 1, 1, none⟩ d).alloc o).drew :=
  (((((h.setCell (Nat.le_refl _) _).setCell (Nat.le_refl _) _).setCell (Nat.le_succ _) _).setCell (Nat.le_succ _) _).alloc (by simpa using hn) _).drew

end Go.Proofs.YtjjhahhchimmlaaGreatDoor
