/-
  Packets at switches: one that the statement's row hands over.
-/
import Derived.Test.YtjjhahhchimmlaaGreatDoorWalkBC
import Derived.Test.YtjjhahhchimmlaaGreatDoorRulS
import Derived.Deep.Strs
namespace Go.Proofs.YtjjhahhchimmlaaGreatDoor
open Go.ChangeShapes Go.WideShapes Go.ChangeAt Go.RowKit Go.Joins
set_option linter.unusedVariables false

set_option maxRecDepth 100000 in
theorem spot_of {H : Type} {enc : TypeId × Value → H} {w : World} {v : Value} {b0 : Nat} {d : DataW H} {ps : List MemPlace} {r : Reach} (hv : Value.okWide Tryz.prog w r b0 27 v)
    (h : DataW.Trod enc Tryz.prog w 0 (fun _ => true) true 27 v d ps) : ∃ x a b c : Int, v = .agg #[.int .i64 x, .int .i64 a, .int .i64 b, .int .i64 c] := by
  obtain ⟨cs, rfl, hsz⟩ := okWide_struct Tryz.underlying27 hv
  obtain ⟨c0, c1, c2, c3, rfl⟩ := array4 (hsz.trans (show Tryz.prog.cellsOf 27 = 4 by kernel_rfl))
  obtain ⟨fuel, hf⟩ := h
  obtain ⟨y0, y1, n, hx, _, h0, h1⟩ := trod_struct2 Tryz.underlying27 hf
  have e0 : Tryz.prog.cellsOf 3 = 1 := by kernel_rfl
  have e1 : Tryz.prog.cellsOf 25 = 3 := by kernel_rfl
  simp [Value.cells, e0] at h0
  simp [Value.cells, e1] at h1
  obtain ⟨z0, z1, z2, m, hy, _, k0, k1, k2⟩ := Go.Deep.trod_struct3 Tryz.underlying25 h1
  simp [e0] at k0 k1 k2
  obtain ⟨x, ex, -, -⟩ := DataW.trod_int Tryz.underlying3 h0
  obtain ⟨a, ea, -, -⟩ := DataW.trod_int Tryz.underlying3 k0
  obtain ⟨b, eb, -, -⟩ := DataW.trod_int Tryz.underlying3 k1
  obtain ⟨c, ec, -, -⟩ := DataW.trod_int Tryz.underlying3 k2
  simp at ex ea eb ec
  subst ex ea eb ec
  exact ⟨_, _, _, _, rfl⟩

end Go.Proofs.YtjjhahhchimmlaaGreatDoor
