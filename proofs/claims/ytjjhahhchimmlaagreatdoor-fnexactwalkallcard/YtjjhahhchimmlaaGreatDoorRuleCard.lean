/-
  What the card's list of variables gives a walk: the library's variable holds the handle of the type error.
-/
import Derived.Test.YtjjhahhchimmlaaGreatDoorCards
import Derived.Test.YtjjhahhchimmlaaGreatDoorTie
import Derived.Test.YtjjhahhchimmlaaGreatDoorRuleA
import Derived.Deep.DeepHandedRow
import Derived.LaidLaws
import Derived.LaidHandle
import Derived.Stop.Joined
namespace Go.Proofs.YtjjhahhchimmlaaGreatDoor
open Go.ChangeShapes Go.WideShapes Go.ChangeAt Go.RowKit Go.Joins
set_option linter.unusedVariables false

theorem etName : Tryz.prog.globalNamed "errors.errorType" = some 0 := by kernel_rfl
theorem rtName : (Tryz.prog.cutTypes.find? (·.1 == "internal/reflectlite.rtype")).map (·.2) = some 176 := by kernel_rfl
theorem errRows : ((List.range 238).filter fun t => Tryz.prog.rowNamed t [101, 114, 114, 111, 114]) = [137] := by kernel_rfl
theorem typesSize : Tryz.prog.types.size = 238 := by kernel_rfl

theorem etOk_of {W : World} {l : List (String × DataW Unit)} (h : laidMetH Tryz.prog l W) (hx : ("errors.errorType", Rows.laid_errors_errorType) ∈ l) : EtOk W := by
  have hm : ("errors.errorType", Rows.laid_errors_errorType) ∈ l.filter fun x => x.2.handleName?.isSome := List.mem_filter.2 ⟨hx, by rfl⟩
  have h2 : handlesMet Tryz.prog (l.filter fun x => x.2.handleName?.isSome) W := by
    unfold laidMetH at h
    generalize (l.filter fun x => x.2.handleName?.isSome) = fl at h hm ⊢
    cases fl with
    | nil => cases hm
    | cons a rest => exact h.2
  obtain ⟨name, u, ty, e1, e2, e3, e4, e5⟩ := h2 _ hm
  have en : name = [101, 114, 114, 111, 114] := (Option.some.inj e1).symm
  subst en
  obtain rfl := Option.some.inj (rtName.symm.trans e2)
  have hty : ty ∈ (List.range 238).filter fun t => Tryz.prog.rowNamed t [101, 114, 114, 111, 114] := List.mem_filter.2 ⟨List.mem_range.2 (by rw [← typesSize]; exact e3), e4⟩
  rw [errRows] at hty
  obtain rfl := List.mem_singleton.1 hty
  have hh : typeHandle Tryz.prog 137 = .pointer (some ⟨5, 137, none⟩) := by kernel_rfl
  rw [hh] at e5
  have := World.var?_cell etName e5 0
  simpa [EtOk, etV] using this

end Go.Proofs.YtjjhahhchimmlaaGreatDoor
