/-
  Chapter 3, the program: the texts of a set; how many heads it has.
-/
import Derived.Test.YtddkpimmcmnogaaDoorSpaceLoop
import Derived.RangeFuncNested
import Derived.Shelf.RegionOpen
namespace Go.Proofs.YtddkpimmcmnogaaDoor
open Go.ChangeShapes Go.WideShapes Go.ChangeAt Go.RowKit Go.Joins
open Go.Shelf
set_option linter.unusedVariables false
attribute [local go_sem] Oper.semAt_some

theorem masks_any (p : Option Addr) (w : World) :
    Calls Tryd.prog 71 #[.pointer p] w fun e w' => e = .returned (.func (.func 83) #[] #[.pointer (some ⟨w.heap.size, 0, none⟩)]) ∧ w' = w.alloc (.cells #[.pointer p] 64) := by
  have hmf : ∀ (fn : Fn) (first cap : Array Value) (w : World), (Instr.makeFunc fn first cap).run Tryd.prog w = .ok (.func fn first cap) w := fun _ _ _ _ => rfl
  go_enter Tryd.func71, Tryd.ntmps71
  go_wp2
  go_ret
  exact ⟨rfl, rfl⟩

/-- A round that stores into one box of the caller's, behind calls that leave what was there. -/
theorem round_set {W w2 : World} {n B LB : Nat} {t : TypeId} {v : Value} (v' : Value) (hv : Boxed W B t v) (ht : t ≠ 97) (hb : Below W.heap.size W w2) (hn : n ≤ B) (hB : B < LB) :
    KeepsFrom LB W (w2.setCell ⟨B, 0, none⟩ v') ∧ KpM n W (w2.setCell ⟨B, 0, none⟩ v') ∧ Boxed (w2.setCell ⟨B, 0, none⟩ v') B t v' ∧ Below n W (w2.setCell ⟨B, 0, none⟩ v') := by
  have hv2 : Boxed w2 B t v := (hb.block B hv.lt).trans hv
  have hg : W.grownBy (w2.setCell ⟨B, 0, none⟩ v') (some B) := sTrans (sOf _ hb) ⟨rfl, rfl, rfl, by simp [World.setCell], fun k hk hne => Below.heap_setCell _ _ _ _ (fun e => hne (by rw [e]))⟩
  have hbn : Below n W (w2.setCell ⟨B, 0, none⟩ v') := sBel hg hn (Nat.le_trans hn (Nat.le_of_lt hv.lt))
  refine ⟨KeepsFrom.of_grownBy hg (fun j e => by cases e; exact hB), ⟨hbn, fun k cs hk => ?_⟩, hv2.set v', hbn⟩
  refine (hg.block k (Array.getElem?_eq_some_iff.1 hk).1 ?_).trans hk
  intro e
  cases e
  rw [show W.heap[B]? = _ from hv] at hk
  cases hk
  exact ht rfl

/-- How many heads the patterns have that came. -/
def sumL6 (l : List (List UInt8)) : Int := (l.map fun x => manyB (cL x)).sum
theorem sumL6_snoc (l : List (List UInt8)) (x : List UInt8) : sumL6 (l ++ [x]) = sumL6 l + manyB (cL x) := by simp [sumL6]
theorem manyB_le (c : Nat → Bool) : 0 ≤ manyB c ∧ manyB c ≤ 64 := by
  unfold manyB
  have h : ∀ n, n ≤ 6 → (0 : Int) ≤ 2 ^ (6 - n) ∧ (2 : Int) ^ (6 - n) ≤ 64 := by decide
  exact h _ (cnt6_le _ _ _ _ _ _)
theorem sumL6_bound : ∀ (l : List (List UInt8)), 0 ≤ sumL6 l ∧ sumL6 l ≤ 64 * l.length
  | [] => by simp [sumL6]
  | x :: l => by
    have h1 := sumL6_bound l
    have h2 := manyB_le (cL x)
    unfold sumL6 at *
    simp only [List.map_cons, List.sum_cons, List.length_cons]
    omega

end Go.Proofs.YtddkpimmcmnogaaDoor
