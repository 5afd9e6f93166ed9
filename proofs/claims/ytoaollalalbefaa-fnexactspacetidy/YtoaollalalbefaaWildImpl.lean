/-
  What the program's functions of chapter 2 return, at every text and every head (WildLess apart).
-/
import Derived.Test.YtoaollalalbefaaWildB
namespace Go.Proofs.Ytoaollalalbefaa
open Go.ChangeShapes Go.WideShapes Go.ChangeAt Go.RowKit Go.Joins
set_option linter.unusedVariables false

/-- The bits of a head. -/
def hB (a b c : Int) (i : Nat) : Bool := match i with
  | 0 => decide (2 ≤ a) | 1 => a % 2 == 1 | 2 => decide (2 ≤ b) | 3 => b % 2 == 1 | 4 => decide (2 ≤ c) | _ => c % 2 == 1
theorem num_ofB {a b c : Int} (h : okB a b c = true) : 16 * a + 4 * b + c = ofB (hB a b c) := by
  obtain ⟨⟨ha0, ha3⟩, ⟨hb0, hb3⟩, ⟨hc0, hc3⟩⟩ := okB_true h
  rcases four ha0 ha3 with rfl | rfl | rfl | rfl <;> rcases four hb0 hb3 with rfl | rfl | rfl | rfl <;> rcases four hc0 hc3 with rfl | rfl | rfl | rfl <;> decide

def hasS (s : ByteArray) (a b c : Int) : Bool := okB a b c && (okS s && hasM (cf s) (vf s) (hB a b c))
def meetS (a b : ByteArray) : Bool := okS a && (okS b && meetB (cf a) (vf a) (cf b) (vf b))
def andS (a b : ByteArray) : ByteArray := bif meetS a b then txt (fun i => cf a i || cf b i) (fun i => vf a i || vf b i) else ⟨#[]⟩
def inS (a b : ByteArray) : Bool := okS a && (okS b && inM (cf a) (vf a) (cf b) (vf b))
def manyS (s : ByteArray) : Int := bif okS s then manyB (cf s) else 0
def ofS (a b c : Int) : ByteArray := bif okB a b c then txt (fun _ => true) (hB a b c) else ⟨#[]⟩

theorem ofB_all : ofB (fun _ => true) = 63 := by decide

/-! ### What two have in common -/

/-! ### One in another -/

/-- Two masks of the call's own are stored into. -/
theorem belFour {w w4 : World} {n : Nat} (h : Below n w w4) (hn : n ≤ w4.heap.size) (a b c d : Value) (o : Obj) :
    Below n w (((((w4.setCell ⟨n, 0, none⟩ a).setCell ⟨n, 1, none⟩ b).setCell ⟨n + 1, 0, none⟩ c).setCell ⟨n + 1, 1, none⟩ d).alloc o).drew :=
  (((((h.setCell (Nat.le_refl _) _).setCell (Nat.le_refl _) _).setCell (Nat.le_succ _) _).setCell (Nat.le_succ _) _).alloc (by simpa using hn) _).drew

end Go.Proofs.Ytoaollalalbefaa
