/-
  Chapter 3, what the program's SpaceOk, SpaceHas, SpaceSame return.
-/
import Derived.Test.YtndmedkkecikoaaSpaceSet
namespace Go.Proofs.Ytndmedkkecikoaa
open Go.ChangeShapes Go.WideShapes Go.ChangeAt Go.RowKit Go.Joins
set_option linter.unusedVariables false

/-- No text is too long. -/
def Fit6 (l : List ByteArray) : Prop := ∀ i, i < l.length → (strAt l i).size ≤ 1048576

set_option maxHeartbeats 1000000 in
theorem iSpaceOk_any (w : World) (v : Value) (l : List ByteArray) (hl : Strs w w.heap.size v l) (hs : Fit6 l) :
    Calls Try.prog 38 #[v] w fun ex w' => ex = .returned (.bool (okSp l)) ∧ Below w.heap.size w w' := by
  have HL := Lib.hid hl
  have HS := Lib.hid hs
  clear hl hs
  go_enter Try.func38, Try.ntmps38
  go_wp2_with (go_at_call 68; refine (readSpace_any _ _ l HL.out HS.out).mono ?_; rintro ex w2 ⟨u, rfl, b2, hno, hyes⟩; clear hno hyes)
  go_ret
  exact ⟨rfl, b2⟩

/-- The sets of two spaces in one diagram. -/
def Good2 (w w' : World) (b e : Nat) (p q : Option Addr) (m m' : List Bool) : Prop :=
  ∃ E', Dg w' b e E' ∧ Rep E' e 6 p m ∧ Rep E' e 6 q m' ∧ w.grownBy w' (some b)

set_option maxRecDepth 100000 in
set_option maxHeartbeats 2000000 in
theorem readTwo_any (w : World) (b e g : Nat) (E : List Nd) (v v' : Value) (l l' : List ByteArray) (hd : Dg w b e E) (hl : Strs w g v l) (hl' : Strs w g v' l') (hg : g ≤ w.heap.size) (hgb : g ≤ b) (hs : Fit6 l) (hs' : Fit6 l') :
    Calls Try.prog 65 #[.agg #[.map (some b), .pointer (some ⟨e, 0, none⟩)], v, v'] w fun ex w' => ∃ p q, ex = .returned (.tuple #[.pointer p, .pointer q, .bool (okSp l && okSp l')]) ∧ Good2 w w' b e p q (setL l) (setL l') := by
  have HD : Hid (Dg (w.alloc (.cells #[.map (some b), .pointer (some ⟨e, 0, none⟩)] 62)) b e E) := hd.alloc _
  have HL : Hid (Strs (w.alloc (.cells #[.map (some b), .pointer (some ⟨e, 0, none⟩)] 62)) g v l) := hl.below ((Below.refl _ _).alloc (Nat.le_refl _) _) hg
  have HL' : Hid (Strs (w.alloc (.cells #[.map (some b), .pointer (some ⟨e, 0, none⟩)] 62)) g v' l') := hl'.below ((Below.refl _ _).alloc (Nat.le_refl _) _) hg
  have HS := Lib.hid hs
  have HS' := Lib.hid hs'
  have hb : b < w.heap.size := hd.lt_b
  have hg1 : g ≤ (w.alloc (.cells #[.map (some b), .pointer (some ⟨e, 0, none⟩)] 62)).heap.size := by simp; omega
  clear hd hl hl' hs hs'
  go_enter Try.func65, Try.ntmps65
  go_wp2_with fail
  refine (read_any _ _ _ g _ _ _ HD.out HL.out hg1 HS.out).mono ?_
  rintro ex w2 ⟨p, rfl, E1, s1, d1, R1, g1⟩
  have sz := g1.size
  simp at sz
  have hbox := duoCells ((g1.block w.heap.size (by simp) (by intro e; cases e; omega)).trans (newBlockM w _))
  have c0 := hbox.1
  have c1 := hbox.2.1
  have HG1 : Hid (w.grownBy w2 (some b)) := sTrans (World.grownBy_alloc _ _ _) g1
  have DD1 := Lib.hid d1
  have RR1 := Lib.hid R1
  have HL2 : Hid (Strs w2 g v' l') := HL'.out.grown g1 hgb hg1
  clear s1 d1 R1 g1 hbox HL HL' HD
  go_wp2_with fail
  refine (read_any _ _ _ g _ _ _ DD1.out HL2.out (by omega) HS'.out).mono ?_
  rintro ex w3 ⟨q, rfl, E2, s2, d2, R2, g2⟩
  have HG2 : Hid (w.grownBy w3 (some b)) := sTrans HG1.out g2
  have DD2 := Lib.hid d2
  have RR2 := Lib.hid R2
  have RR1' : Hid (Rep E2 e 6 p (setL l)) := RR1.out.mono s2
  clear s2 d2 R2 g2 c0 c1 DD1 RR1
  cases hk : okSp l <;> cases hk' : okSp l'
  all_goals
    go_wp2
    exact bodyPost_ret (v := .tuple #[.pointer p, .pointer q, .bool (okSp l && okSp l')]) (by rw [hk, hk']; simp [results, Try.results65, go_sem]) rfl ⟨p, q, rfl, E2, DD2.out, RR1'.out, RR2.out, HG2.out⟩

set_option maxRecDepth 100000 in
set_option maxHeartbeats 2000000 in
theorem iSpaceHas_any (w : World) (v : Value) (l : List ByteArray) (x y z : Int) (hl : Strs w w.heap.size v l) (hs : Fit6 l) :
    Calls Try.prog 16 #[v, .agg #[.int .i64 x, .int .i64 y, .int .i64 z]] w fun ex w' => ex = .returned (.bool (okB x y z && (okSp l && inSp l (f6 (hB x y z))))) ∧ Below w.heap.size w w' := by
  have HL := Lib.hid hl
  have HS := Lib.hid hs
  clear hl hs
  have HB : ∃ (n : Int), (okB x y z = true → n = ofB (hB x y z)) ∧ ∀ W, Calls Try.prog 54 #[.agg #[.int .i64 x, .int .i64 y, .int .i64 z]] W fun e w' => e = .returned (.tuple #[.int .u8 n, .bool (okB x y z)]) ∧ Below W.heap.size W w' := by
    cases ho : okB x y z
    · exact ⟨0, (fun h => by cases h), fun W => bitsOf_no _ _ _ ho W⟩
    · exact ⟨16 * x + 4 * y + z, (fun _ => num_ofB ho), fun W => bitsOf_yes _ _ _ ho W⟩
  obtain ⟨n, hn, hbits⟩ := HB
  have HN := Lib.hid hn
  have HBI := Lib.hid hbits
  clear hn hbits
  go_enter Try.func16, Try.ntmps16
  go_wp2_with fail
  refine (HBI.out _).mono ?_
  rintro ex w1 ⟨rfl, b1⟩
  have s1 := b1.size
  simp at s1
  have B1 : Hid (Below w.heap.size w w1) := (below_alloc1 _ _).trans (b1.mono (by simp))
  clear b1
  go_wp2_with fail
  refine (newDiagram_any _).mono ?_
  rintro ex w2 ⟨b, e, rfl, hb, d2, b2⟩
  have s2 := b2.size
  have B2 : Hid (Below w.heap.size w w2) := belStep B1.out b2
  have HL2 : Hid (Strs w2 w.heap.size v l) := HL.out.below B2.out (Nat.le_refl _)
  have DD2 := Lib.hid d2
  clear b2 d2 B1 HL
  go_wp2_with fail
  refine (read_any _ _ _ w.heap.size _ _ _ DD2.out HL2.out (by omega) HS.out).mono ?_
  rintro ex w3 ⟨p, rfl, E1, s3, d3, R3, g3⟩
  have s3' := g3.size
  have B3 : Hid (Below w.heap.size w w3) := B2.out.trans (sBel g3 (by omega) (by omega))
  have DD3 := Lib.hid d3
  have RR3 := Lib.hid R3
  clear s3 d3 R3 g3
  have HIN : Hid (setL l = bif okSp l then spL l else noL 6) := rfl
  cases hh : okB x y z
  · cases hk : okSp l <;>
    · go_wp2
      go_ret
      exact ⟨by rw [hh]; rfl, B3.out⟩
  · have hn := HN.out hh
    subst hn
    cases hk : okSp l
    · go_wp2
      go_ret
      exact ⟨by rw [hh, hk]; rfl, B3.out⟩
    · have hR : Rep E1 e 6 p (tabF 6 (inSp l)) := by
        have := RR3.out
        rw [HIN.out, hk] at this
        exact this
      have HR := Lib.hid hR
      clear hR
      go_wp2_with (go_at_call 57; refine (has_node _ _ _ _ _ _ _ DD3.out HR.out).mono ?_; rintro ex w4 ⟨rfl, rfl⟩)
      go_ret
      exact ⟨by rw [hh, hk]; rfl, B3.out⟩

set_option maxRecDepth 100000 in
set_option maxHeartbeats 2000000 in
theorem iSpaceSame_any (w : World) (v v' : Value) (l l' : List ByteArray) (hl : Strs w w.heap.size v l) (hl' : Strs w w.heap.size v' l') (hs : Fit6 l) (hs' : Fit6 l') :
    Calls Try.prog 27 #[v, v'] w fun ex w' => ex = .returned (.bool (okSp l && okSp l' && (spL l == spL l'))) ∧ Below w.heap.size w w' := by
  have HL := Lib.hid hl
  have HL' := Lib.hid hl'
  have HS := Lib.hid hs
  have HS' := Lib.hid hs'
  clear hl hl' hs hs'
  go_enter Try.func27, Try.ntmps27
  go_wp2_with fail
  refine (newDiagram_any _).mono ?_
  rintro ex w2 ⟨b, e, rfl, hb, d2, b2⟩
  have s2 := b2.size
  have HL2 : Hid (Strs w2 w.heap.size v l) := HL.out.below b2 (Nat.le_refl _)
  have HL2' : Hid (Strs w2 w.heap.size v' l') := HL'.out.below b2 (Nat.le_refl _)
  have DD2 := Lib.hid d2
  have B2 := Lib.hid b2
  clear b2 d2 HL HL'
  go_wp2_with fail
  refine (readTwo_any _ _ _ w.heap.size _ _ _ _ _ DD2.out HL2.out HL2'.out (by omega) hb HS.out HS'.out).mono ?_
  rintro ex w3 ⟨p, q, rfl, E1, d3, R3, R3', g3⟩
  have B3 : Hid (Below w.heap.size w w3) := B2.out.trans (sBel g3 hb (by omega))
  have heq := eql_ptr w3 (d3.pk R3.vp) (d3.pk R3'.vp)
  have HE : Hid (okSp l = true → okSp l' = true → decide (p = q) = (spL l == spL l')) := fun h h' => by
    have e1 : setL l = spL l := by simp [setL, h]
    have e2 : setL l' = spL l' := by simp [setL, h']
    rw [e1] at R3
    rw [e2] at R3'
    by_cases hm : spL l = spL l'
    · rw [hm] at R3
      have := R3.same_ptr d3.uniq R3'
      simp [this, hm]
    · have : p ≠ q := fun e => hm (by subst e; exact R3.same_set d3.uniq R3')
      simp [this, hm]
  clear d3 R3 R3' g3
  cases hk : okSp l <;> cases hk' : okSp l'
  · go_wp2
    go_ret
    exact ⟨by rw [hk]; rfl, B3.out⟩
  · go_wp2
    go_ret
    exact ⟨by rw [hk]; rfl, B3.out⟩
  · go_wp2
    go_ret
    exact ⟨by rw [hk, hk']; rfl, B3.out⟩
  · have h1 := HE.out hk hk'
    rw [h1] at heq
    go_wp2
    go_ret
    exact ⟨by rw [hk, hk']; rfl, B3.out⟩

end Go.Proofs.Ytndmedkkecikoaa
