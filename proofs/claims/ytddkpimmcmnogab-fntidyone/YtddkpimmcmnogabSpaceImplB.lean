/-
  Chapter 3, what the program's SpaceTidy, SpaceOr, SpaceAnd, SpaceLess, SpaceMany return.
-/
import Derived.Test.YtddkpimmcmnogabSpaceTextsB
import Derived.Test.YtddkpimmcmnogabSpaceImplA
namespace Go.Proofs.Ytddkpimmcmnogab
open Go.ChangeShapes Go.WideShapes Go.ChangeAt Go.RowKit Go.Joins
set_option linter.unusedVariables false

def tidyR (l : List ByteArray) : List ByteArray := bif okSp l then tidyT (spL l) else []
def opR (f : Bool → Bool → Bool) (l l' : List ByteArray) : List ByteArray := bif okSp l && okSp l' then tidyT (List.zipWith f (spL l) (spL l')) else []
def manyR (l : List ByteArray) : Int := bif okSp l then sumL6 (tidyB 6 (spL l)) else -1
theorem tidyR_len (l : List ByteArray) : (tidyR l).length ≤ 64 := by
  unfold tidyR
  cases okSp l
  · simp
  · exact tidyT_len _
theorem opR_len (f : Bool → Bool → Bool) (l l' : List ByteArray) : (opR f l l').length ≤ 64 := by
  unfold opR
  cases okSp l && okSp l'
  · simp
  · exact tidyT_len _

set_option maxRecDepth 100000 in
set_option maxHeartbeats 2000000 in
theorem iSpaceTidy_any (w : World) (v : Value) (l : List ByteArray) (hl : Strs w w.heap.size v l) (hs : Fit6 l) :
    Calls Try.prog 11 #[v] w fun ex w' => ∃ u, ex = .returned u ∧ StrRow w' w.heap.size u (tidyR l) ∧ Below w.heap.size w w' := by
  have HL := Lib.hid hl
  have HS := Lib.hid hs
  clear hl hs
  go_enter Try.func11, Try.ntmps11
  go_wp2_with fail
  refine (newDiagram_any _).mono ?_
  rintro ex w2 ⟨b, e, rfl, hb, d2, b2⟩
  have s2 := b2.size
  have B2 := Lib.hid b2
  have HL2 : Hid (Strs w2 w.heap.size v l) := HL.out.below b2 (Nat.le_refl _)
  have DD2 := Lib.hid d2
  clear b2 d2 HL
  go_wp2_with fail
  refine (read_any _ _ _ w.heap.size _ _ _ DD2.out HL2.out (by omega) HS.out).mono ?_
  rintro ex w3 ⟨p, rfl, E1, s3, d3, R3, g3⟩
  have s3' := g3.size
  have B3 : Hid (Below w.heap.size w w3) := B2.out.trans (sBel g3 (by omega) (by omega))
  have hs3 := B3.out.size
  have DD3 := Lib.hid d3
  have RR3 := Lib.hid R3
  clear s3 d3 R3 g3
  cases hk : okSp l
  · have HT : Hid (tidyR l = []) := by show _ = _; simp [tidyR, hk]
    go_wp2
    go_ret
    exact ⟨_, rfl, by rw [HT.out]; exact World.ownsRow_nil _ _ _ _, B3.out⟩
  · have HT : Hid (tidyR l = tidyT (spL l)) := by show _ = _; simp [tidyR, hk]
    have HR : Hid (Rep E1 e 6 p (spL l)) := by
      have := RR3.out
      rw [setL, hk] at this
      exact this
    go_wp2_with fail
    refine (texts_any _ _ _ _ _ _ DD3.out HR.out).mono ?_
    rintro ex w4 ⟨u, rfl, r4, b4⟩
    have R4 := Lib.hid r4
    have B4 := Lib.hid (belStep B3.out b4)
    clear r4 b4
    go_wp2
    go_ret
    exact ⟨_, rfl, by rw [HT.out]; exact R4.out.mono (by omega), B4.out⟩

theorem keep_or : keepF true true true = fun x y => x || y := by funext x y; cases x <;> cases y <;> rfl
theorem keep_and : keepF false true false = fun x y => x && y := by funext x y; cases x <;> cases y <;> rfl
theorem keep_less : keepF true false false = fun x y => x && !y := by funext x y; cases x <;> cases y <;> rfl

end Go.Proofs.Ytddkpimmcmnogab
