/-
  Chapter 3, what the program's SpaceOk, SpaceHas, SpaceSame return.
-/
import Derived.Test.YtahobeigbjhbbaaGreatDoorSpaceSet
namespace Go.Proofs.YtahobeigbjhbbaaGreatDoor
open Go.ChangeShapes Go.WideShapes Go.ChangeAt Go.RowKit Go.Joins
set_option linter.unusedVariables false

/-- No text is too long. -/
def Fit6 (l : List ByteArray) : Prop := ∀ i, i < l.length → (strAt l i).size ≤ 1048576

/-- The sets of two spaces in one diagram. -/
def Good2 (w w' : World) (b e : Nat) (p q : Option Addr) (m m' : List Bool) : Prop :=
  ∃ E', Dg w' b e E' ∧ Rep E' e 6 p m ∧ Rep E' e 6 q m' ∧ w.grownBy w' (some b)

set_option maxRecDepth 100000 in
set_option maxHeartbeats 2000000 in
theorem iSpaceHas_any (w : World) (v : Value) (l : List ByteArray) (x y z : Int) (hl : Strs w w.heap.size v l) (hs : Fit6 l) :
    Calls Tryz.prog 52 #[v, .agg #[.int .i64 x, .int .i64 y, .int .i64 z]] w fun ex w' => ex = .returned (.bool (okB x y z && (okSp l && inSp l (f6 (hB x y z))))) ∧ Below w.heap.size w w' := by
  have HL := Lib.hid hl
  have HS := Lib.hid hs
  clear hl hs
  have HB : ∃ (n : Int), (okB x y z = true → n = ofB (hB x y z)) ∧ ∀ W, Calls Tryz.prog 77 #[.agg #[.int .i64 x, .int .i64 y, .int .i64 z]] W fun e w' => e = .returned (.tuple #[.int .u8 n, .bool (okB x y z)]) ∧ Below W.heap.size W w' := by
    cases ho : okB x y z
    · exact ⟨0, (fun h => by cases h), fun W => bitsOf_no _ _ _ ho W⟩
    · exact ⟨16 * x + 4 * y + z, (fun _ => num_ofB ho), fun W => bitsOf_yes _ _ _ ho W⟩
  obtain ⟨n, hn, hbits⟩ := HB
  have HN := Lib.hid hn
  have HBI := Lib.hid hbits
  clear hn hbits
  go_enter Tryz.func52, Tryz.ntmps52
  go_wp2_with fail
  refine (HBI.out _).mono ?_
  rintro ex w1 ⟨rfl, b1⟩
  have s1 := b1.size
  simp at s1
  have B1 : Hid (Below w.heap.size w w1) := (below_alloc1 _ _).trans (b1.mono (by simp))
  clear b1
  go_wp2_with fail
  refine (newDiagram_any _).mono ?_
  rintro ex w2 ⟨b, e, rfl, hb, d2, b2⟩
  have s2 := b2.size
  have B2 : Hid (Below w.heap.size w w2) := belStep B1.out b2
  have HL2 : Hid (Strs w2 w.heap.size v l) := HL.out.below B2.out (Nat.le_refl _)
  have DD2 := Lib.hid d2
  clear b2 d2 B1 HL
  go_wp2_with fail
  refine (read_any _ _ _ w.heap.size _ _ _ DD2.out HL2.out (by omega) HS.out).mono ?_
  rintro ex w3 ⟨p, rfl, E1, s3, d3, R3, g3⟩
  have s3' := g3.size
  have B3 : Hid (Below w.heap.size w w3) := B2.out.trans (sBel g3 (by omega) (by omega))
  have DD3 := Lib.hid d3
  have RR3 := Lib.hid R3
  clear s3 d3 R3 g3
  have HIN : Hid (setL l = bif okSp l then spL l else noL 6) := rfl
  cases hh : okB x y z
  · cases hk : okSp l <;>
    · go_wp2
      go_ret
      exact ⟨by rw [hh]; rfl, B3.out⟩
  · have hn := HN.out hh
    subst hn
    cases hk : okSp l
    · go_wp2
      go_ret
      exact ⟨by rw [hh, hk]; rfl, B3.out⟩
    · have hR : Rep E1 e 6 p (tabF 6 (inSp l)) := by
        have := RR3.out
        rw [HIN.out, hk] at this
        exact this
      have HR := Lib.hid hR
      clear hR
      go_wp2_with (go_at_call 98; refine (has_node _ _ _ _ _ _ _ DD3.out HR.out).mono ?_; rintro ex w4 ⟨rfl, rfl⟩)
      go_ret
      exact ⟨by rw [hh, hk]; rfl, B3.out⟩

end Go.Proofs.YtahobeigbjhbbaaGreatDoor
