/-
  What the card's list of variables gives: the program's error value, in memory; and that it reads on behind the call.
-/
import Derived.Test.YtcipidcnkllanaaDoorCards
import Derived.Test.YtcipidcnkllanaaDoorTie
import Derived.Test.YtcipidcnkllanaaDoorPredB
import Derived.Deep.DeepHandedRow
import Derived.Stop.LaidErr
namespace Go.Proofs.YtcipidcnkllanaaDoor
open Go.ChangeShapes Go.WideShapes Go.ChangeAt Go.RowKit Go.Joins
set_option linter.unusedVariables false

theorem gE : Tryd.prog.globalNamed "loop.example/crossbuck/impl.errPred" = some 0 := by kernel_rfl
theorem gEt : (Tryd.prog.globals[0]?).map (·.type) = some 56 := by kernel_rfl
theorem cellsE : Tryd.prog.cellsOf 128 = 1 := by kernel_rfl
theorem cellsS : Tryd.prog.cellsOf 9 = 1 := by kernel_rfl
theorem starE : "*" ++ "errors.errorString" = "*errors.errorString" := by decide
theorem rowE (u : TypeId) (h : Tryd.prog.typeName? 3 u = some "*errors.errorString") : u = 103 :=
  typeName_ptr_named (nm := "errors.errorString") (by rw [starE]; kernel_rfl) (by kernel_rfl) (by decide) u (by rw [starE]; exact h)

theorem laidErr {W : World} (h : laidMet Tryd.prog [("loop.example/crossbuck/impl.errPred", Rows.laid_loop_example_crossbuck_impl_errPred)] W) :
    ∃ a : Addr, W.var? Tryd.prog "loop.example/crossbuck/impl.errPred" = some #[.iface 103 (.pointer (some a))] := by
  obtain ⟨a, s, hv, _⟩ := laid_sentinel h gE gEt Tryd.underlying56 rowE Tryd.underlying103 Tryd.underlying128 rfl rfl Tryd.underlying9 cellsE cellsS
  exact ⟨a, hv⟩

theorem varCell {W : World} {a : Addr} (h : W.var? Tryd.prog "loop.example/crossbuck/impl.errPred" = some #[.iface 103 (.pointer (some a))]) : W.cell? ⟨0, 0, none⟩ = some (errV a) := by
  simpa [errV] using World.var?_cell gE h 0

theorem varLater {W W' : World} {x : Array Value} (h : W.var? Tryd.prog "loop.example/crossbuck/impl.errPred" = some x) (hb : Below W.heap.size W W') : W'.var? Tryd.prog "loop.example/crossbuck/impl.errPred" = some x := by
  unfold World.var? at h ⊢
  rw [gE] at h ⊢
  simp only [Option.bind_some] at h ⊢
  have hlt : 0 < W.heap.size := by
    rcases Nat.lt_or_ge 0 W.heap.size with h' | h'
    · exact h'
    · rw [Array.getElem?_eq_none h'] at h
      cases h
  rw [hb.block _ hlt]
  exact h

end Go.Proofs.YtcipidcnkllanaaDoor
