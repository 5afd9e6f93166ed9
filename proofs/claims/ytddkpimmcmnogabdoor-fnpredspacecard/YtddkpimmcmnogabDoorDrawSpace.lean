/-
  Chapter 3's draws: a space from a reader of codes; two of them.
-/
import Derived.Test.YtddkpimmcmnogabDoorSpaceSp
import Derived.Test.YtddkpimmcmnogabDoorDrawWild
namespace Go.Proofs.YtddkpimmcmnogabDoor
open Go.ChangeShapes Go.WideShapes Go.ChangeAt Go.RowKit Go.Joins
set_option linter.unusedVariables false

/-- Short texts, not many. -/
def Short (l : List ByteArray) : Prop := l.length ≤ 66 ∧ ∀ s ∈ l, s.size ≤ 8
theorem Short.fit {l : List ByteArray} (h : Short l) : ∀ i, i < l.length → (strAt l i).size ≤ 1048576 := strs_max fun s hs => Nat.le_trans (h.2 s hs) (by omega)
def lenOf : Value → Nat
  | .slice _ n _ => n
  | _ => 0
/-- A space is drawn by the reader at block g. -/
def SpaceDrawn (g B : Nat) (w : World) (e : Ending) (w' : World) : Prop :=
  ∃ (v : Value) (l : List ByteArray), e = .returned v ∧ Short l ∧ StrRow w' w.heap.size v l ∧ RdOk w' g (B + 100) ∧ w.grownBy w' (some g)

theorem StrRow.apart2 {w wr w2 : World} {g : Nat} {v : Value} {l : List ByteArray} (h : StrRow wr w.heap.size v l) (hg : wr.grownBy w2 (some g)) (hlt : g < w.heap.size) : StrRow w2 w.heap.size v l :=
  World.ownsRow.kept h hg (by
    cases hv : v.ownBlock with
    | none => exact .inl rfl
    | some k => exact .inr (fun e => by have := (World.ownsRow.lt h k hv).1; injection e with e; omega))
/-- Behind an append of one text. -/
theorem appended {w w1 w2 : World} {g B : Nat} {o v' : Value} {l : List ByteArray} {t : ByteArray} {tmp : Obj} (hg : g < w.heap.size) (hgr : w.grownBy w1 (some g)) (hrow : StrRow w1 w.heap.size o l) (hr : RdOk w1 g B)
    (hown : w2.ownsRow w.heap.size 9 1 v' (l.length + 1) (l.map Value.string ++ [.string t])) (hg2 : (w1.alloc tmp).grownBy w2 o.ownBlock) :
    StrRow w2 w.heap.size v' (l ++ [t]) ∧ RdOk w2 g B ∧ w.grownBy w2 (some g) := by
  have hs := hgr.size
  have hb : Below w.heap.size (w1.alloc tmp) w2 := grownBelow (World.ownsRow.alloc hrow tmp) hg2 (by simp; omega)
  refine ⟨?_, (hr.alloc tmp).below hb hg, gBelow (gAlloc hgr tmp) hb (Nat.le_refl _)⟩
  show w2.ownsRow _ _ _ _ _ _
  rw [List.length_append, List.map_append]
  exact hown

/-- Spaces are drawn from a code. -/
def SpaceFrom (w : World) (e : Ending) (w' : World) : Prop := ∃ v l, e = .returned v ∧ Short l ∧ Strs w' w'.heap.size v l ∧ Below w.heap.size w w'
def SpacesFrom (w : World) (e : Ending) (w' : World) : Prop := ∃ v l v' l', e = .returned (.tuple #[v, v']) ∧ Short l ∧ Short l' ∧ Strs w' w'.heap.size v l ∧ Strs w' w'.heap.size v' l' ∧ Below w.heap.size w w'

end Go.Proofs.YtddkpimmcmnogabDoor
