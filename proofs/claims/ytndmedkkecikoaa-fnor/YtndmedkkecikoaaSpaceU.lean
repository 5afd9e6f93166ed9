/-
  Spaces: two sets together.
-/
import Derived.Test.YtndmedkkecikoaaSpaceN
namespace Go.Proofs.Ytndmedkkecikoaa
open Go.ChangeShapes Go.WideShapes Go.ChangeAt Go.RowKit Go.Joins
set_option linter.unusedVariables false


set_option maxRecDepth 100000 in
set_option maxHeartbeats 2000000 in
theorem union_any (w : World) (b e h : Nat) (E : List Nd) (p q : Option Addr) (m m' : List Bool) (hd : Dg w b e E) (hp : Rep E e h p m) (hq : Rep E e h q m') :
    Calls Try.prog 80 #[.agg #[.map (some b), .pointer (some ⟨e, 0, none⟩)], .pointer p, .pointer q] w fun ex w' => ∃ r, ex = .returned (.pointer r) ∧ Good w w' b e E h r (List.zipWith (keepF true true true) m m') := by
  have HC := Lib.hid (fun W hW => combine_any b e true true true h E p q m m' W hW hp hq)
  have HD := Lib.hid hd
  clear hd hp hq
  go_enter Try.func80, Try.ntmps80
  go_wp2_with fail
  refine (HC.out _ (HD.out.alloc _)).mono ?_
  rintro ex w1 ⟨r, rfl, hg⟩
  have HG := Lib.hid hg
  clear hg HC HD
  go_wp2
  go_ret
  obtain ⟨E', h1, h2, h3, h4⟩ := HG.out
  have h5 := World.grownBy_alloc w (.cells #[.map (some b), .pointer (some ⟨e, 0, none⟩)] 62) (some b)
  exact ⟨r, rfl, E', h1, h2, h3, ⟨h4.os.trans h5.os, h4.tape.trans h5.tape, h4.output.trans h5.output, Nat.le_trans h5.size h4.size, fun i hi hne => (h4.block i (Nat.lt_of_lt_of_le hi h5.size) hne).trans (h5.block i hi hne)⟩⟩

end Go.Proofs.Ytndmedkkecikoaa
