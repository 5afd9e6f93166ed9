/-
  A region that draws its order, whose operations only read, and whose callees leave all that was there: one walk, in the order of the text.
-/
import Derived.Test.YtcipidcnkllanaaDoorHeadB
import Derived.Deep.QuietTactic
import Derived.BigQuiet
namespace Go.Proofs.YtcipidcnkllanaaDoor
open Go.ChangeShapes Go.WideShapes Go.ChangeAt Go.RowKit Go.Joins
set_option linter.unusedVariables false

/-- A world in which all lies that lay in w. -/
structure Ext (w : World) where
  W : World
  h : Below w.heap.size w W

instance (w : World) : Inhabited (Ext w) := ⟨⟨w, Below.refl _ _⟩⟩
instance (w : World) : Nonempty (Ext w) := ⟨⟨w, Below.refl _ _⟩⟩

theorem wp_region_ext {P : Program} {id : Nat} {Q : Exit → Act → World → Prop} {a : Act} {w0 w : World} {l : List Oper} (hm : P.follows .mixedOrders = true) (hB : Region.lexB .any l.toArray = true) (h0 : Below w0.heap.size w0 w)
    (h : wpQuiet P l.toArray (fun w' => ∃ n : Ext w0, w' = n.W) (fun a' => ∀ w', (∃ n : Ext w0, w' = n.W) → Q .normal a' w') l a) : (Code.region id l.toArray true).wp P Q a w :=
  wp_region_quiet (C := fun w' => ∃ n : Ext w0, w' = n.W) hm hB ⟨⟨w.drew, h0.drew⟩, rfl⟩ (by simpa using h)
theorem ext_of {P : Program} {f : FuncId} {args : Array Value} {w0 : World} {n : Ext w0} {v : Value} (h : Calls P f args n.W fun e w' => e = .returned v ∧ Below n.W.heap.size n.W w') :
    Calls P f args n.W fun e w'' => e = .returned v ∧ ∃ m : Ext w0, w'' = m.W :=
  h.mono fun _ w' ⟨he, hb⟩ => ⟨he, ⟨w', belStep n.h hb⟩, rfl⟩
theorem ext_same {P : Program} {f : FuncId} {args : Array Value} {w0 : World} {n : Ext w0} {v : Value} (h : Calls P f args n.W fun e w' => e = .returned v ∧ n.W = w') :
    Calls P f args n.W fun e w'' => e = .returned v ∧ ∃ m : Ext w0, w'' = m.W :=
  h.mono fun _ w' ⟨he, hb⟩ => ⟨he, n, hb.symm⟩
theorem ext_out {w0 w' : World} (h : ∃ n : Ext w0, w' = n.W) : Below w0.heap.size w0 w' := by
  obtain ⟨n, rfl⟩ := h
  exact n.h
theorem Ext.cell {w0 : World} (n : Ext w0) {b k : Nat} {v : Value} (hb : b < w0.heap.size) (h : w0.cell? ⟨b, k, none⟩ = some v) : n.W.cell? ⟨b, k, none⟩ = some v := (belCell n.h _ _ hb).trans h

end Go.Proofs.YtcipidcnkllanaaDoor
