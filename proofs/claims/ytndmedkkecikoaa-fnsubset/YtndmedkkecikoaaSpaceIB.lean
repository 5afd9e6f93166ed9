/-
  Spaces: the program's exported functions (behind SpaceV, SpaceImplA).
-/
import Derived.Test.YtndmedkkecikoaaSpaceV
import Derived.Test.YtndmedkkecikoaaSpaceImplA
import Derived.Test.YtndmedkkecikoaaStrB

namespace Go.Proofs.Ytndmedkkecikoaa
open Go.ChangeShapes Go.WideShapes Go.ChangeAt Go.RowKit Go.Joins
set_option linter.unusedVariables false

def tidyR (l : List ByteArray) : List ByteArray := bif okSp l then tidyT (spL l) else []
def opR (f : Bool → Bool → Bool) (l l' : List ByteArray) : List ByteArray := bif okSp l && okSp l' then tidyT (List.zipWith f (spL l) (spL l')) else []
def manyR (l : List ByteArray) : Int := bif okSp l then sumL6 (tidyB 6 (spL l)) else -1
theorem tidyR_len (l : List ByteArray) : (tidyR l).length ≤ 64 := by
  unfold tidyR
  cases okSp l
  · simp
  · exact tidyT_len _
theorem opR_len (f : Bool → Bool → Bool) (l l' : List ByteArray) : (opR f l l').length ≤ 64 := by
  unfold opR
  cases okSp l && okSp l'
  · simp
  · exact tidyT_len _

set_option maxRecDepth 100000 in
set_option maxHeartbeats 2000000 in
theorem iSpaceTidy_any (w : World) (v : Value) (l : List ByteArray) (hl : Strs w w.heap.size v l) (hs : Fit6 l) :
    Calls Try.prog 22 #[v] w fun ex w' => ∃ u, ex = .returned u ∧ StrRow w' w.heap.size u (tidyR l) ∧ Below w.heap.size w w' := by
  have HL := Lib.hid hl
  have HS := Lib.hid hs
  clear hl hs
  go_enter Try.func22, Try.ntmps22
  go_wp2_with fail
  refine (newDiagram_any _).mono ?_
  rintro ex w2 ⟨b, e, rfl, hb, d2, b2⟩
  have s2 := b2.size
  have B2 := Lib.hid b2
  have HL2 : Hid (Strs w2 w.heap.size v l) := HL.out.below b2 (Nat.le_refl _)
  have DD2 := Lib.hid d2
  clear b2 d2 HL
  go_wp2_with fail
  refine (read_any _ _ _ w.heap.size _ _ _ DD2.out HL2.out (by omega) HS.out).mono ?_
  rintro ex w3 ⟨p, rfl, E1, s3, d3, R3, g3⟩
  have s3' := g3.size
  have B3 : Hid (Below w.heap.size w w3) := B2.out.trans (sBel g3 (by omega) (by omega))
  have hs3 := B3.out.size
  have DD3 := Lib.hid d3
  have RR3 := Lib.hid R3
  clear s3 d3 R3 g3
  cases hk : okSp l
  · have HT : Hid (tidyR l = []) := by show _ = _; simp [tidyR, hk]
    go_wp2
    go_ret
    exact ⟨_, rfl, by rw [HT.out]; exact World.ownsRow_nil _ _ _ _, B3.out⟩
  · have HT : Hid (tidyR l = tidyT (spL l)) := by show _ = _; simp [tidyR, hk]
    have HR : Hid (Rep E1 e 6 p (spL l)) := by
      have := RR3.out
      rw [setL, hk] at this
      exact this
    go_wp2_with fail
    refine (texts_any _ _ _ _ _ _ DD3.out HR.out).mono ?_
    rintro ex w4 ⟨u, rfl, r4, b4⟩
    have R4 := Lib.hid r4
    have B4 := Lib.hid (belStep B3.out b4)
    clear r4 b4
    go_wp2
    go_ret
    exact ⟨_, rfl, by rw [HT.out]; exact R4.out.mono (by omega), B4.out⟩

set_option maxRecDepth 100000 in
set_option maxHeartbeats 2000000 in
theorem iSpaceMany_any (w : World) (v : Value) (l : List ByteArray) (hl : Strs w w.heap.size v l) (hs : Fit6 l) :
    Calls Try.prog 40 #[v] w fun ex w' => ex = .returned (.int .i64 (manyR l)) ∧ Below w.heap.size w w' := by
  have HL := Lib.hid hl
  have HS := Lib.hid hs
  clear hl hs
  go_enter Try.func40, Try.ntmps40
  go_wp2_with fail
  refine (newDiagram_any _).mono ?_
  rintro ex w2 ⟨b, e, rfl, hb, d2, b2⟩
  have s2 := b2.size
  have B2 := Lib.hid b2
  have HL2 : Hid (Strs w2 w.heap.size v l) := HL.out.below b2 (Nat.le_refl _)
  have DD2 := Lib.hid d2
  clear b2 d2 HL
  go_wp2_with fail
  refine (read_any _ _ _ w.heap.size _ _ _ DD2.out HL2.out (by omega) HS.out).mono ?_
  rintro ex w3 ⟨p, rfl, E1, s3, d3, R3, g3⟩
  have s3' := g3.size
  have B3 : Hid (Below w.heap.size w w3) := B2.out.trans (sBel g3 (by omega) (by omega))
  have DD3 := Lib.hid d3
  have RR3 := Lib.hid R3
  clear s3 d3 R3 g3
  cases hk : okSp l
  · have HT : Hid (manyR l = -1) := by show _ = _; simp [manyR, hk]
    go_wp2
    go_ret
    exact ⟨congrArg (fun x => Ending.returned (Value.int IntKind.i64 x)) HT.out.symm, B3.out⟩
  · have HT : Hid (manyR l = sumL6 (tidyB 6 (spL l))) := by show _ = _; simp [manyR, hk]
    have HR : Hid (Rep E1 e 6 p (spL l)) := by
      have := RR3.out
      rw [setL, hk] at this
      exact this
    go_wp2_with fail
    refine (many_node _ _ _ _ _ _ DD3.out HR.out).mono ?_
    rintro ex w4 ⟨rfl, b4⟩
    have B4 := Lib.hid (belStep B3.out b4)
    clear b4
    go_wp2
    go_ret
    exact ⟨congrArg (fun x => Ending.returned (Value.int IntKind.i64 x)) HT.out.symm, B4.out⟩

set_option maxRecDepth 100000 in
set_option maxHeartbeats 2000000 in
theorem combineSpaces_any (w : World) (v v' : Value) (l l' : List ByteArray) (f t s : Bool) (hl : Strs w w.heap.size v l) (hl' : Strs w w.heap.size v' l') (hs : Fit6 l) (hs' : Fit6 l') :
    Calls Try.prog 67 #[v, v', .agg #[.bool f, .bool t, .bool s]] w fun ex w' => ∃ u, ex = .returned u ∧ StrRow w' w.heap.size u (opR (keepF f t s) l l') ∧ Below w.heap.size w w' := by
  have HA : Hid (∀ W, Below (w.heap.size + 1) (w.alloc (.cells #[.bool f, .bool t, .bool s] 81)) W → Below w.heap.size w W ∧ W.cell? ⟨w.heap.size, 0, none⟩ = some (.bool f) ∧ W.cell? ⟨w.heap.size, 1, none⟩ = some (.bool t) ∧ W.cell? ⟨w.heap.size, 2, none⟩ = some (.bool s)) := fun W hb =>
    ⟨(below_alloc1 _ _).trans (hb.mono (by omega)), trioCells ((hb.block _ (by omega)).trans (newBlockM w _))⟩
  have HL := Lib.hid hl
  have HL' := Lib.hid hl'
  have HS := Lib.hid hs
  have HS' := Lib.hid hs'
  clear hl hl' hs hs'
  go_enter Try.func67, Try.ntmps67
  go_wp2_with fail
  refine (newDiagram_any _).mono ?_
  rintro ex w2 ⟨b, e, rfl, hb, d2, b2⟩
  have s2 := b2.size
  simp at s2 hb
  have B2 : Hid (Below (w.heap.size + 1) (w.alloc (.cells #[.bool f, .bool t, .bool s] 81)) (w2.alloc (.cells #[.map (some b), .pointer (some ⟨e, 0, none⟩)] 62))) := (by simpa using b2 : Below (w.heap.size + 1) (w.alloc (.cells #[.bool f, .bool t, .bool s] 81)) w2).alloc (by omega) _
  have DD2 : Hid (Dg (w2.alloc (.cells #[.map (some b), .pointer (some ⟨e, 0, none⟩)] 62)) b e []) := d2.alloc _
  have HL2 : Hid (Strs (w2.alloc (.cells #[.map (some b), .pointer (some ⟨e, 0, none⟩)] 62)) w.heap.size v l) := HL.out.below (HA.out _ B2.out).1 (Nat.le_refl _)
  have HL2' : Hid (Strs (w2.alloc (.cells #[.map (some b), .pointer (some ⟨e, 0, none⟩)] 62)) w.heap.size v' l') := HL'.out.below (HA.out _ B2.out).1 (Nat.le_refl _)
  have hbox := newBlockM w2 (.cells #[.map (some b), .pointer (some ⟨e, 0, none⟩)] 62)
  have hb2 := d2.lt_b
  clear b2 d2 HL HL'
  go_wp2_with fail
  refine (readTwo_any _ _ _ w.heap.size _ _ _ _ _ DD2.out HL2.out HL2'.out (by simp; omega) (by omega) HS.out HS'.out).mono ?_
  rintro ex w3 ⟨p, q, rfl, E1, d3, R3, R3', g3⟩
  have s3 := g3.size
  simp at s3
  have B3 : Hid (Below (w.heap.size + 1) (w.alloc (.cells #[.bool f, .bool t, .bool s] 81)) w3) := B2.out.trans (sBel g3 (by omega) (by simp; omega))
  have hbox3 := duoCells ((g3.block w2.heap.size (by simp) (by intro e; cases e; omega)).trans hbox)
  obtain ⟨x0, x1, x2⟩ := hbox3
  obtain ⟨-, y0, y1, y2⟩ := HA.out _ B3.out
  have DD3 := Lib.hid d3
  have RR3 := Lib.hid R3
  have RR3' := Lib.hid R3'
  clear d3 R3 R3' g3 hbox
  cases hk : okSp l
  · have HT : Hid (opR (keepF f t s) l l' = []) := by show _ = _; simp [opR, hk]
    go_wp2
    go_ret
    exact ⟨_, rfl, by rw [HT.out]; exact World.ownsRow_nil _ _ _ _, (HA.out _ B3.out).1⟩
  cases hk' : okSp l'
  · have HT : Hid (opR (keepF f t s) l l' = []) := by show _ = _; simp [opR, hk']
    go_wp2
    go_ret
    exact ⟨_, rfl, by rw [HT.out]; exact World.ownsRow_nil _ _ _ _, (HA.out _ B3.out).1⟩
  have HT : Hid (opR (keepF f t s) l l' = tidyT (List.zipWith (keepF f t s) (spL l) (spL l'))) := by show _ = _; simp [opR, hk, hk']
  have HR : Hid (Rep E1 e 6 p (spL l)) := by
    have := RR3.out
    rw [setL, hk] at this
    exact this
  have HR' : Hid (Rep E1 e 6 q (spL l')) := by
    have := RR3'.out
    rw [setL, hk'] at this
    exact this
  go_wp2_with fail
  refine (combine_any _ _ _ _ _ 6 _ _ _ _ _ _ DD3.out HR.out HR'.out).mono ?_
  rintro ex w4 ⟨r, rfl, E2, s4, d4, R4, g4⟩
  have s4' := g4.size
  have B4 : Hid (Below w.heap.size w w4) := (HA.out _ B3.out).1.trans (sBel g4 (by omega) (by omega))
  have DD4 := Lib.hid d4
  have RR4 := Lib.hid R4
  clear s4 d4 R4 g4
  go_wp2_with fail
  refine (texts_any _ _ _ _ _ _ DD4.out RR4.out).mono ?_
  rintro ex w5 ⟨u, rfl, r5, b5⟩
  have R5 := Lib.hid r5
  have B5 := Lib.hid (belStep B4.out b5)
  have hs4 := B4.out.size
  clear r5 b5
  go_wp2
  go_ret
  exact ⟨_, rfl, by rw [HT.out]; exact R5.out.mono (by omega), B5.out⟩

theorem keep_or : keepF true true true = fun x y => x || y := by funext x y; cases x <;> cases y <;> rfl
theorem keep_and : keepF false true false = fun x y => x && y := by funext x y; cases x <;> cases y <;> rfl
theorem keep_less : keepF true false false = fun x y => x && !y := by funext x y; cases x <;> cases y <;> rfl

set_option maxHeartbeats 1000000 in
theorem iSpaceOr_any (w : World) (v v' : Value) (l l' : List ByteArray) (hl : Strs w w.heap.size v l) (hl' : Strs w w.heap.size v' l') (hs : Fit6 l) (hs' : Fit6 l') :
    Calls Try.prog 30 #[v, v'] w fun ex w' => ∃ u, ex = .returned u ∧ StrRow w' w.heap.size u (opR (fun x y => x || y) l l') ∧ Below w.heap.size w w' := by
  rw [← keep_or]
  have HC := Lib.hid (combineSpaces_any w v v' l l' true true true hl hl' hs hs')
  clear hl hl' hs hs'
  go_enter Try.func30, Try.ntmps30
  go_wp2_with (go_at_call 67; refine HC.out.mono ?_; rintro ex w2 ⟨u, rfl, hh⟩; have HH := Lib.hid hh; clear hh)
  go_ret
  exact ⟨u, rfl, HH.out⟩

set_option maxHeartbeats 1000000 in
theorem iSpaceAnd_any (w : World) (v v' : Value) (l l' : List ByteArray) (hl : Strs w w.heap.size v l) (hl' : Strs w w.heap.size v' l') (hs : Fit6 l) (hs' : Fit6 l') :
    Calls Try.prog 33 #[v, v'] w fun ex w' => ∃ u, ex = .returned u ∧ StrRow w' w.heap.size u (opR (fun x y => x && y) l l') ∧ Below w.heap.size w w' := by
  rw [← keep_and]
  have HC := Lib.hid (combineSpaces_any w v v' l l' false true false hl hl' hs hs')
  clear hl hl' hs hs'
  go_enter Try.func33, Try.ntmps33
  go_wp2_with (go_at_call 67; refine HC.out.mono ?_; rintro ex w2 ⟨u, rfl, hh⟩; have HH := Lib.hid hh; clear hh)
  go_ret
  exact ⟨u, rfl, HH.out⟩

set_option maxHeartbeats 1000000 in
theorem iSpaceLess_any (w : World) (v v' : Value) (l l' : List ByteArray) (hl : Strs w w.heap.size v l) (hl' : Strs w w.heap.size v' l') (hs : Fit6 l) (hs' : Fit6 l') :
    Calls Try.prog 36 #[v, v'] w fun ex w' => ∃ u, ex = .returned u ∧ StrRow w' w.heap.size u (opR (fun x y => x && !y) l l') ∧ Below w.heap.size w w' := by
  rw [← keep_less]
  have HC := Lib.hid (combineSpaces_any w v v' l l' true false false hl hl' hs hs')
  clear hl hl' hs hs'
  go_enter Try.func36, Try.ntmps36
  go_wp2_with (go_at_call 67; refine HC.out.mono ?_; rintro ex w2 ⟨u, rfl, hh⟩; have HH := Lib.hid hh; clear hh)
  go_ret
  exact ⟨u, rfl, HH.out⟩

end Go.Proofs.Ytndmedkkecikoaa
