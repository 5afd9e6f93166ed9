/-
  Chapter 3, what the program's SpaceTidy, SpaceOr, SpaceAnd, SpaceLess, SpaceMany return.
-/
import Derived.Test.YtddkpimmcmnogaaDoorSpaceV
import Derived.Test.YtddkpimmcmnogaaDoorSpaceImplA
namespace Go.Proofs.YtddkpimmcmnogaaDoor
open Go.ChangeShapes Go.WideShapes Go.ChangeAt Go.RowKit Go.Joins
set_option linter.unusedVariables false

def tidyR (l : List ByteArray) : List ByteArray := bif okSp l then tidyT (spL l) else []
def opR (f : Bool → Bool → Bool) (l l' : List ByteArray) : List ByteArray := bif okSp l && okSp l' then tidyT (List.zipWith f (spL l) (spL l')) else []
def manyR (l : List ByteArray) : Int := bif okSp l then sumL6 (tidyB 6 (spL l)) else -1
theorem tidyR_len (l : List ByteArray) : (tidyR l).length ≤ 64 := by
  unfold tidyR
  cases okSp l
  · simp
  · exact tidyT_len _
theorem opR_len (f : Bool → Bool → Bool) (l l' : List ByteArray) : (opR f l l').length ≤ 64 := by
  unfold opR
  cases okSp l && okSp l'
  · simp
  · exact tidyT_len _

theorem keep_or : keepF true true true = fun x y => x || y := by funext x y; cases x <;> cases y <;> rfl
theorem keep_and : keepF false true false = fun x y => x && y := by funext x y; cases x <;> cases y <;> rfl
theorem keep_less : keepF true false false = fun x y => x && !y := by funext x y; cases x <;> cases y <;> rfl

end Go.Proofs.YtddkpimmcmnogaaDoor
