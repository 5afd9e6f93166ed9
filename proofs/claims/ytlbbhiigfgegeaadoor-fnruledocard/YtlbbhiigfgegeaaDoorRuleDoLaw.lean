/-
  Proved: promise 40 (a rule does what it says), at every code from which the rule and the head are drawn; the code reads on as it did. No condition but the card's own: the listed variable of the library stands as its text lays it.
-/
import Derived.Test.YtlbbhiigfgegeaaDoorRuleCard
import Derived.Test.YtlbbhiigfgegeaaDoorRuleDoI
import Derived.Test.YtlbbhiigfgegeaaDoorRuleDrawD
import Derived.Deep.RegionHeld3
namespace Go.Proofs.YtlbbhiigfgegeaaDoor
open Go.ChangeShapes Go.WideShapes Go.ChangeAt Go.RowKit Go.Joins
set_option linter.unusedVariables false

/-- A rule's and a head's block stay behind calls that leave what was there. -/
theorem sevenK {w w1 : World} {t u : TypeId} {a b c d x y z : Value} (hb : Below ((w.alloc (.cells #[a, b, c, d] t)).alloc (.cells #[x, y, z] u)).heap.size ((w.alloc (.cells #[a, b, c, d] t)).alloc (.cells #[x, y, z] u)) w1) :
    w1.cell? ⟨w.heap.size, 0, none⟩ = some a ∧ w1.cell? ⟨w.heap.size, 1, none⟩ = some b ∧ w1.cell? ⟨w.heap.size, 2, none⟩ = some c ∧ w1.cell? ⟨w.heap.size, 3, none⟩ = some d ∧
    w1.cell? ⟨w.heap.size + 1, 0, none⟩ = some x ∧ w1.cell? ⟨w.heap.size + 1, 1, none⟩ = some y ∧ w1.cell? ⟨w.heap.size + 1, 2, none⟩ = some z := by
  have hc := belCell hb
  refine ⟨?_, ?_, ?_, ?_, ?_, ?_, ?_⟩ <;> (rw [hc _ _ (by simp; try omega)]; simp [go_sem])

/-- Four blocks stay behind calls that leave what was there. -/
theorem keep13 {W w' : World} {i j k l : Nat} {A0 A1 A2 A3 B0 B1 B2 C0 C1 C2 D0 D1 D2 : Value} (hb : Below W.heap.size W w') (hi : i < W.heap.size) (hj : j < W.heap.size) (hk : k < W.heap.size) (hl : l < W.heap.size)
    (h : W.cell? ⟨i, 0, none⟩ = some A0 ∧ W.cell? ⟨i, 1, none⟩ = some A1 ∧ W.cell? ⟨i, 2, none⟩ = some A2 ∧ W.cell? ⟨i, 3, none⟩ = some A3 ∧ W.cell? ⟨j, 0, none⟩ = some B0 ∧ W.cell? ⟨j, 1, none⟩ = some B1 ∧ W.cell? ⟨j, 2, none⟩ = some B2 ∧ W.cell? ⟨k, 0, none⟩ = some C0 ∧ W.cell? ⟨k, 1, none⟩ = some C1 ∧ W.cell? ⟨k, 2, none⟩ = some C2 ∧ W.cell? ⟨l, 0, none⟩ = some D0 ∧ W.cell? ⟨l, 1, none⟩ = some D1 ∧ W.cell? ⟨l, 2, none⟩ = some D2) : w'.cell? ⟨i, 0, none⟩ = some A0 ∧ w'.cell? ⟨i, 1, none⟩ = some A1 ∧ w'.cell? ⟨i, 2, none⟩ = some A2 ∧ w'.cell? ⟨i, 3, none⟩ = some A3 ∧ w'.cell? ⟨j, 0, none⟩ = some B0 ∧ w'.cell? ⟨j, 1, none⟩ = some B1 ∧ w'.cell? ⟨j, 2, none⟩ = some B2 ∧ w'.cell? ⟨k, 0, none⟩ = some C0 ∧ w'.cell? ⟨k, 1, none⟩ = some C1 ∧ w'.cell? ⟨k, 2, none⟩ = some C2 ∧ w'.cell? ⟨l, 0, none⟩ = some D0 ∧ w'.cell? ⟨l, 1, none⟩ = some D1 ∧ w'.cell? ⟨l, 2, none⟩ = some D2 := by
  have hc := belCell hb
  obtain ⟨a0, a1, a2, a3, b0, b1, b2, c0, c1, c2, d0, d1, d2⟩ := h
  exact ⟨(hc _ _ hi).trans a0, (hc _ _ hi).trans a1, (hc _ _ hi).trans a2, (hc _ _ hi).trans a3, (hc _ _ hj).trans b0, (hc _ _ hj).trans b1, (hc _ _ hj).trans b2, (hc _ _ hk).trans c0, (hc _ _ hk).trans c1, (hc _ _ hk).trans c2, (hc _ _ hl).trans d0, (hc _ _ hl).trans d1, (hc _ _ hl).trans d2⟩

set_option maxHeartbeats 8000000 in
theorem walk_FnRuleDo (a : Option Addr) (len cap : Nat) (w : World) (hb : BytesIn w w.heap.size a len cap) (hE : EtOk w) :
    Calls Tryd.prog 5 #[.slice a len cap] w fun e w' => e = .returned (.bool true) ∧ Below w.heap.size w w' := by
  have HB := Lib.hid hb
  have HE := Lib.hid hE
  have hm : (len : Int) ≤ maxLen := by have := hb.1; have := hb.2.1; omega
  unfold maxLen at hm
  clear hb hE
  by_cases hlen : (1048576 : Int) < (len : Int)
  · go_enter Tryd.func5, Tryd.ntmps5
    go_wp2
    go_ret
    exact ⟨rfl, Below.refl _ _⟩
  go_enter Tryd.func5, Tryd.ntmps5
  go_wp2_with fail
  refine (drawRuleDo_any _ _ _ _ HB.out).mono ?_
  rintro e w1 ⟨p, s, o, t, x, y, z, hs, hnr, rfl, b1⟩
  have hm7 : s.size ≤ 1048576 := by have := hs.2.1; omega
  clear hs hnr
  have HE1 := Lib.hid (((HE.out.below b1).alloc (.cells #[.int .i64 p, .string s, .int .i64 o, .int .i64 t] 24)).alloc (.cells #[.int .i64 x, .int .i64 y, .int .i64 z] 33))
  have B1 : Hid (Below w.heap.size w ((w1.alloc (.cells #[.int .i64 p, .string s, .int .i64 o, .int .i64 t] 24)).alloc (.cells #[.int .i64 x, .int .i64 y, .int .i64 z] 33))) := (b1.alloc b1.size _).alloc (by have := b1.size; simp; omega) _
  have s1 := b1.size
  clear b1
  have HI := Lib.hid (iRuleDo_any p s hm7 o t x y z)
  have HSp := Lib.hid (sRuleDo_any p s hm7 o t x y z)
  cases hd : doB p s o t x y z
  · have hV : doV p s o t x y z = .tuple #[.agg #[.int .i64 0, .int .i64 0, .int .i64 0], .int .i64 0, .bool false] := by rw [doV, hd]; rfl
    rw [hV] at HI HSp
    clear hV
    go_wp2_with fail
    refine (HSp.out _).mono ?_
    rintro e w2 ⟨rfl, b2⟩
    obtain ⟨q0, q1, q2, q3, h0, h1, h2⟩ := sevenK b2
    have s2 := b2.size
    simp at s2
    have HE2 := Lib.hid ((HE1.out.below b2).alloc (.cells #[.int .i64 0, .int .i64 0, .int .i64 0] 33))
    have y2 : w1.heap.size < w2.heap.size := by omega
    have z2 : w1.heap.size + 1 < w2.heap.size := by omega
    go_wp2_with fail
    refine (HI.out _ HE2.out).mono ?_
    rintro e w3 ⟨rfl, b3⟩
    have b23 : Below w2.heap.size w2 w3 := (below_alloc1 _ _).trans (b3.mono (by simp))
    have c3 := belCell b3
    have H3 := Lib.hid (sevenK (belStep b2 b23))
    have W3 : Hid (w3.cell? ⟨w2.heap.size, 0, none⟩ = some (.int .i64 0) ∧ w3.cell? ⟨w2.heap.size, 1, none⟩ = some (.int .i64 0) ∧ w3.cell? ⟨w2.heap.size, 2, none⟩ = some (.int .i64 0)) := by
      refine ⟨?_, ?_, ?_⟩ <;> (rw [c3 _ _ (by simp)]; simp [go_sem])
    have s3 := b3.size
    simp at s3
    have HE3 := Lib.hid ((HE2.out.below b3).alloc (.cells #[.int .i64 0, .int .i64 0, .int .i64 0] 33))
    have B3 : Hid (Below w.heap.size w (w3.alloc (.cells #[.int .i64 0, .int .i64 0, .int .i64 0] 33))) := by
      have h := belStep B1.out (belStep b2 b23)
      exact h.alloc h.size _
    have y3 : w1.heap.size < w3.heap.size := by omega
    have z3 : w1.heap.size + 1 < w3.heap.size := by omega
    have x3 : w2.heap.size < w3.heap.size := by omega
    have K3 : Hid ((w3.alloc (.cells #[.int .i64 0, .int .i64 0, .int .i64 0] 33)).cell? ⟨w1.heap.size, 0, none⟩ = some (.int .i64 p) ∧ (w3.alloc (.cells #[.int .i64 0, .int .i64 0, .int .i64 0] 33)).cell? ⟨w1.heap.size, 1, none⟩ = some (.string s) ∧ (w3.alloc (.cells #[.int .i64 0, .int .i64 0, .int .i64 0] 33)).cell? ⟨w1.heap.size, 2, none⟩ = some (.int .i64 o) ∧ (w3.alloc (.cells #[.int .i64 0, .int .i64 0, .int .i64 0] 33)).cell? ⟨w1.heap.size, 3, none⟩ = some (.int .i64 t) ∧ (w3.alloc (.cells #[.int .i64 0, .int .i64 0, .int .i64 0] 33)).cell? ⟨w1.heap.size + 1, 0, none⟩ = some (.int .i64 x) ∧ (w3.alloc (.cells #[.int .i64 0, .int .i64 0, .int .i64 0] 33)).cell? ⟨w1.heap.size + 1, 1, none⟩ = some (.int .i64 y) ∧ (w3.alloc (.cells #[.int .i64 0, .int .i64 0, .int .i64 0] 33)).cell? ⟨w1.heap.size + 1, 2, none⟩ = some (.int .i64 z) ∧ (w3.alloc (.cells #[.int .i64 0, .int .i64 0, .int .i64 0] 33)).cell? ⟨w2.heap.size, 0, none⟩ = some (.int .i64 0) ∧ (w3.alloc (.cells #[.int .i64 0, .int .i64 0, .int .i64 0] 33)).cell? ⟨w2.heap.size, 1, none⟩ = some (.int .i64 0) ∧ (w3.alloc (.cells #[.int .i64 0, .int .i64 0, .int .i64 0] 33)).cell? ⟨w2.heap.size, 2, none⟩ = some (.int .i64 0) ∧ (w3.alloc (.cells #[.int .i64 0, .int .i64 0, .int .i64 0] 33)).cell? ⟨w3.heap.size, 0, none⟩ = some (.int .i64 0) ∧ (w3.alloc (.cells #[.int .i64 0, .int .i64 0, .int .i64 0] 33)).cell? ⟨w3.heap.size, 1, none⟩ = some (.int .i64 0) ∧ (w3.alloc (.cells #[.int .i64 0, .int .i64 0, .int .i64 0] 33)).cell? ⟨w3.heap.size, 2, none⟩ = some (.int .i64 0)) := by
      obtain ⟨q0, q1, q2, q3, h0, h1, h2⟩ := H3.out
      obtain ⟨u0, u1, u2⟩ := W3.out
      refine ⟨?_, ?_, ?_, ?_, ?_, ?_, ?_, ?_, ?_, ?_, ?_, ?_, ?_⟩ <;> simp [go_sem, q0, q1, q2, q3, h0, h1, h2, u0, u1, u2, y3, z3, x3]
    clear q0 q1 q2 q3 h0 h1 h2 c3 b2 b3 b23 HE1 HE2 B1 HI HSp
    obtain ⟨q0, q1, q2, q3, h0, h1, h2⟩ := H3.out
    obtain ⟨u0, u1, u2⟩ := W3.out
    go_wp2_with fail
    refine (sRuleOk_any _ _ hm7 _ _ _).mono ?_
    rintro e w4 ⟨rfl, b4⟩
    have s4 := b4.size
    simp at s4
    have K4 := Lib.hid (keep13 b4 (by simp; omega) (by simp; omega) (by simp; omega) (by simp) K3.out)
    clear q0 q1 q2 q3 h0 h1 h2 u0 u1 u2
    obtain ⟨q0, q1, q2, q3, h0, h1, h2, u0, u1, u2, v0, v1, v2⟩ := K4.out
    cases hk : rOk p s o t
    · go_wp2
      go_ret
      exact ⟨rfl, belStep B3.out b4⟩
    · have hh : hasS s x y z = false := by simpa [doB, hk] using hd
      go_wp2_with fail
      refine (sHeadOk_any _ _ _ _).mono ?_
      rintro e w5 ⟨rfl, b5⟩
      have K5 := Lib.hid (keep13 b5 (by omega) (by omega) (by omega) (by omega) K4.out)
      clear q0 q1 q2 q3 h0 h1 h2 u0 u1 u2 v0 v1 v2
      obtain ⟨q0, q1, q2, q3, h0, h1, h2, u0, u1, u2, v0, v1, v2⟩ := K5.out
      cases ho : okB x y z
      · go_wp2
        go_ret
        exact ⟨rfl, belStep B3.out (belStep b4 b5)⟩
      · go_wp2_with fail
        refine (iWildHas_any _ hm7 _ _ _ _).mono ?_
        rintro e w6 ⟨rfl, b6⟩
        rw [hh]
        go_wp2
        go_ret
        exact ⟨rfl, belStep B3.out (belStep b4 (belStep b5 b6))⟩
  · obtain ⟨hk, hh⟩ : rOk p s o t = true ∧ hasS s x y z = true := by simpa [doB] using hd
    have ho : okB x y z = true := by
      unfold hasS at hh
      simp only [Bool.and_eq_true] at hh
      exact hh.1
    obtain ⟨-, -, -, t0, t1⟩ := rOk_true hk
    by_cases ht : 0 ≤ t
    · have hV : doV p s o t x y z = .tuple #[.agg #[.int .i64 x, .int .i64 y, .int .i64 t], .int .i64 o, .bool true] := by rw [doV, hd, cond_true, tagTo, if_pos ht]
      have hok : okB x y t = true := by
        obtain ⟨⟨x0, x1⟩, ⟨y0, y1⟩, -⟩ := okB_true ho
        exact okB_mk x0 x1 y0 y1 ht t1
      rw [hV] at HI HSp
      clear hV hd
      go_wp2_with fail
      refine (HSp.out _).mono ?_
      rintro e w2 ⟨rfl, b2⟩
      obtain ⟨q0, q1, q2, q3, h0, h1, h2⟩ := sevenK b2
      have s2 := b2.size
      simp at s2
      have HE2 := Lib.hid ((HE1.out.below b2).alloc (.cells #[.int .i64 x, .int .i64 y, .int .i64 t] 33))
      have y2 : w1.heap.size < w2.heap.size := by omega
      have z2 : w1.heap.size + 1 < w2.heap.size := by omega
      go_wp2_with fail
      refine (HI.out _ HE2.out).mono ?_
      rintro e w3 ⟨rfl, b3⟩
      have b23 : Below w2.heap.size w2 w3 := (below_alloc1 _ _).trans (b3.mono (by simp))
      have c3 := belCell b3
      have H3 := Lib.hid (sevenK (belStep b2 b23))
      have W3 : Hid (w3.cell? ⟨w2.heap.size, 0, none⟩ = some (.int .i64 x) ∧ w3.cell? ⟨w2.heap.size, 1, none⟩ = some (.int .i64 y) ∧ w3.cell? ⟨w2.heap.size, 2, none⟩ = some (.int .i64 t)) := by
        refine ⟨?_, ?_, ?_⟩ <;> (rw [c3 _ _ (by simp)]; simp [go_sem])
      have s3 := b3.size
      simp at s3
      have HE3 := Lib.hid ((HE2.out.below b3).alloc (.cells #[.int .i64 x, .int .i64 y, .int .i64 t] 33))
      have B3 : Hid (Below w.heap.size w (w3.alloc (.cells #[.int .i64 x, .int .i64 y, .int .i64 t] 33))) := by
        have h := belStep B1.out (belStep b2 b23)
        exact h.alloc h.size _
      have y3 : w1.heap.size < w3.heap.size := by omega
      have z3 : w1.heap.size + 1 < w3.heap.size := by omega
      have x3 : w2.heap.size < w3.heap.size := by omega
      have K3 : Hid ((w3.alloc (.cells #[.int .i64 x, .int .i64 y, .int .i64 t] 33)).cell? ⟨w1.heap.size, 0, none⟩ = some (.int .i64 p) ∧ (w3.alloc (.cells #[.int .i64 x, .int .i64 y, .int .i64 t] 33)).cell? ⟨w1.heap.size, 1, none⟩ = some (.string s) ∧ (w3.alloc (.cells #[.int .i64 x, .int .i64 y, .int .i64 t] 33)).cell? ⟨w1.heap.size, 2, none⟩ = some (.int .i64 o) ∧ (w3.alloc (.cells #[.int .i64 x, .int .i64 y, .int .i64 t] 33)).cell? ⟨w1.heap.size, 3, none⟩ = some (.int .i64 t) ∧ (w3.alloc (.cells #[.int .i64 x, .int .i64 y, .int .i64 t] 33)).cell? ⟨w1.heap.size + 1, 0, none⟩ = some (.int .i64 x) ∧ (w3.alloc (.cells #[.int .i64 x, .int .i64 y, .int .i64 t] 33)).cell? ⟨w1.heap.size + 1, 1, none⟩ = some (.int .i64 y) ∧ (w3.alloc (.cells #[.int .i64 x, .int .i64 y, .int .i64 t] 33)).cell? ⟨w1.heap.size + 1, 2, none⟩ = some (.int .i64 z) ∧ (w3.alloc (.cells #[.int .i64 x, .int .i64 y, .int .i64 t] 33)).cell? ⟨w2.heap.size, 0, none⟩ = some (.int .i64 x) ∧ (w3.alloc (.cells #[.int .i64 x, .int .i64 y, .int .i64 t] 33)).cell? ⟨w2.heap.size, 1, none⟩ = some (.int .i64 y) ∧ (w3.alloc (.cells #[.int .i64 x, .int .i64 y, .int .i64 t] 33)).cell? ⟨w2.heap.size, 2, none⟩ = some (.int .i64 t) ∧ (w3.alloc (.cells #[.int .i64 x, .int .i64 y, .int .i64 t] 33)).cell? ⟨w3.heap.size, 0, none⟩ = some (.int .i64 x) ∧ (w3.alloc (.cells #[.int .i64 x, .int .i64 y, .int .i64 t] 33)).cell? ⟨w3.heap.size, 1, none⟩ = some (.int .i64 y) ∧ (w3.alloc (.cells #[.int .i64 x, .int .i64 y, .int .i64 t] 33)).cell? ⟨w3.heap.size, 2, none⟩ = some (.int .i64 t)) := by
        obtain ⟨q0, q1, q2, q3, h0, h1, h2⟩ := H3.out
        obtain ⟨u0, u1, u2⟩ := W3.out
        refine ⟨?_, ?_, ?_, ?_, ?_, ?_, ?_, ?_, ?_, ?_, ?_, ?_, ?_⟩ <;> simp [go_sem, q0, q1, q2, q3, h0, h1, h2, u0, u1, u2, y3, z3, x3]
      clear q0 q1 q2 q3 h0 h1 h2 c3 b2 b3 b23 HE1 HE2 B1 HI HSp
      obtain ⟨q0, q1, q2, q3, h0, h1, h2⟩ := H3.out
      obtain ⟨u0, u1, u2⟩ := W3.out
      go_wp2_with fail
      refine (sRuleOk_any _ _ hm7 _ _ _).mono ?_
      rintro e w4 ⟨rfl, b4⟩
      have s4 := b4.size
      simp at s4
      have K4 := Lib.hid (keep13 b4 (by simp; omega) (by simp; omega) (by simp; omega) (by simp) K3.out)
      clear q0 q1 q2 q3 h0 h1 h2 u0 u1 u2
      obtain ⟨q0, q1, q2, q3, h0, h1, h2, u0, u1, u2, v0, v1, v2⟩ := K4.out
      rw [hk]
      go_wp2_with fail
      refine (sHeadOk_any _ _ _ _).mono ?_
      rintro e w5 ⟨rfl, b5⟩
      have s5 := b5.size
      have K5 := Lib.hid (keep13 b5 (by omega) (by omega) (by omega) (by omega) K4.out)
      clear q0 q1 q2 q3 h0 h1 h2 u0 u1 u2 v0 v1 v2
      obtain ⟨q0, q1, q2, q3, h0, h1, h2, u0, u1, u2, v0, v1, v2⟩ := K5.out
      rw [ho]
      have HE5 := Lib.hid ((HE3.out.below b4).below b5)
      have B5 := Lib.hid (belStep B3.out (belStep b4 b5))
      have n1 : w1.heap.size < w5.heap.size := by omega
      have n2 : w1.heap.size + 1 < w5.heap.size := by omega
      have n3 : w2.heap.size < w5.heap.size := by omega
      have n4 : w3.heap.size < w5.heap.size := by omega
      go_wp2_with fail
      refine (iWildHas_any _ hm7 _ _ _ _).mono ?_
      rintro e w6 ⟨rfl, b6⟩
      rw [hh]
      have b56 : Below w5.heap.size w5 w6 := (below_alloc1 _ _).trans (b6.mono (by simp))
      have K6 := Lib.hid (keep13 b56 n1 n2 n3 n4 K5.out)
      have Y6 : Hid (w6.cell? ⟨w5.heap.size, 0, none⟩ = some (.int .i64 x) ∧ w6.cell? ⟨w5.heap.size, 1, none⟩ = some (.int .i64 y) ∧ w6.cell? ⟨w5.heap.size, 2, none⟩ = some (.int .i64 t)) := by
        have c6 := belCell b6
        refine ⟨?_, ?_, ?_⟩ <;> (rw [c6 _ _ (by simp)]; simp [go_sem])
      clear q0 q1 q2 q3 h0 h1 h2 u0 u1 u2 v0 v1 v2
      obtain ⟨q0, q1, q2, q3, h0, h1, h2, u0, u1, u2, v0, v1, v2⟩ := K6.out
      obtain ⟨y0, y1, y2⟩ := Y6.out
      go_wp2_with fail
      refine (iHeadOk_any _ _ _ _).mono ?_
      rintro e w7 ⟨rfl, b7⟩
      rw [hok]
      go_wp2
      go_ret
      exact ⟨rfl, belStep B5.out (belStep b56 b7)⟩
    · have hV : doV p s o t x y z = .tuple #[.agg #[.int .i64 x, .int .i64 y, .int .i64 z], .int .i64 o, .bool true] := by rw [doV, hd, cond_true, tagTo, if_neg ht]
      have hok := ho
      rw [hV] at HI HSp
      clear hV hd
      go_wp2_with fail
      refine (HSp.out _).mono ?_
      rintro e w2 ⟨rfl, b2⟩
      obtain ⟨q0, q1, q2, q3, h0, h1, h2⟩ := sevenK b2
      have s2 := b2.size
      simp at s2
      have HE2 := Lib.hid ((HE1.out.below b2).alloc (.cells #[.int .i64 x, .int .i64 y, .int .i64 z] 33))
      have y2 : w1.heap.size < w2.heap.size := by omega
      have z2 : w1.heap.size + 1 < w2.heap.size := by omega
      go_wp2_with fail
      refine (HI.out _ HE2.out).mono ?_
      rintro e w3 ⟨rfl, b3⟩
      have b23 : Below w2.heap.size w2 w3 := (below_alloc1 _ _).trans (b3.mono (by simp))
      have c3 := belCell b3
      have H3 := Lib.hid (sevenK (belStep b2 b23))
      have W3 : Hid (w3.cell? ⟨w2.heap.size, 0, none⟩ = some (.int .i64 x) ∧ w3.cell? ⟨w2.heap.size, 1, none⟩ = some (.int .i64 y) ∧ w3.cell? ⟨w2.heap.size, 2, none⟩ = some (.int .i64 z)) := by
        refine ⟨?_, ?_, ?_⟩ <;> (rw [c3 _ _ (by simp)]; simp [go_sem])
      have s3 := b3.size
      simp at s3
      have HE3 := Lib.hid ((HE2.out.below b3).alloc (.cells #[.int .i64 x, .int .i64 y, .int .i64 z] 33))
      have B3 : Hid (Below w.heap.size w (w3.alloc (.cells #[.int .i64 x, .int .i64 y, .int .i64 z] 33))) := by
        have h := belStep B1.out (belStep b2 b23)
        exact h.alloc h.size _
      have y3 : w1.heap.size < w3.heap.size := by omega
      have z3 : w1.heap.size + 1 < w3.heap.size := by omega
      have x3 : w2.heap.size < w3.heap.size := by omega
      have K3 : Hid ((w3.alloc (.cells #[.int .i64 x, .int .i64 y, .int .i64 z] 33)).cell? ⟨w1.heap.size, 0, none⟩ = some (.int .i64 p) ∧ (w3.alloc (.cells #[.int .i64 x, .int .i64 y, .int .i64 z] 33)).cell? ⟨w1.heap.size, 1, none⟩ = some (.string s) ∧ (w3.alloc (.cells #[.int .i64 x, .int .i64 y, .int .i64 z] 33)).cell? ⟨w1.heap.size, 2, none⟩ = some (.int .i64 o) ∧ (w3.alloc (.cells #[.int .i64 x, .int .i64 y, .int .i64 z] 33)).cell? ⟨w1.heap.size, 3, none⟩ = some (.int .i64 t) ∧ (w3.alloc (.cells #[.int .i64 x, .int .i64 y, .int .i64 z] 33)).cell? ⟨w1.heap.size + 1, 0, none⟩ = some (.int .i64 x) ∧ (w3.alloc (.cells #[.int .i64 x, .int .i64 y, .int .i64 z] 33)).cell? ⟨w1.heap.size + 1, 1, none⟩ = some (.int .i64 y) ∧ (w3.alloc (.cells #[.int .i64 x, .int .i64 y, .int .i64 z] 33)).cell? ⟨w1.heap.size + 1, 2, none⟩ = some (.int .i64 z) ∧ (w3.alloc (.cells #[.int .i64 x, .int .i64 y, .int .i64 z] 33)).cell? ⟨w2.heap.size, 0, none⟩ = some (.int .i64 x) ∧ (w3.alloc (.cells #[.int .i64 x, .int .i64 y, .int .i64 z] 33)).cell? ⟨w2.heap.size, 1, none⟩ = some (.int .i64 y) ∧ (w3.alloc (.cells #[.int .i64 x, .int .i64 y, .int .i64 z] 33)).cell? ⟨w2.heap.size, 2, none⟩ = some (.int .i64 z) ∧ (w3.alloc (.cells #[.int .i64 x, .int .i64 y, .int .i64 z] 33)).cell? ⟨w3.heap.size, 0, none⟩ = some (.int .i64 x) ∧ (w3.alloc (.cells #[.int .i64 x, .int .i64 y, .int .i64 z] 33)).cell? ⟨w3.heap.size, 1, none⟩ = some (.int .i64 y) ∧ (w3.alloc (.cells #[.int .i64 x, .int .i64 y, .int .i64 z] 33)).cell? ⟨w3.heap.size, 2, none⟩ = some (.int .i64 z)) := by
        obtain ⟨q0, q1, q2, q3, h0, h1, h2⟩ := H3.out
        obtain ⟨u0, u1, u2⟩ := W3.out
        refine ⟨?_, ?_, ?_, ?_, ?_, ?_, ?_, ?_, ?_, ?_, ?_, ?_, ?_⟩ <;> simp [go_sem, q0, q1, q2, q3, h0, h1, h2, u0, u1, u2, y3, z3, x3]
      clear q0 q1 q2 q3 h0 h1 h2 c3 b2 b3 b23 HE1 HE2 B1 HI HSp
      obtain ⟨q0, q1, q2, q3, h0, h1, h2⟩ := H3.out
      obtain ⟨u0, u1, u2⟩ := W3.out
      go_wp2_with fail
      refine (sRuleOk_any _ _ hm7 _ _ _).mono ?_
      rintro e w4 ⟨rfl, b4⟩
      have s4 := b4.size
      simp at s4
      have K4 := Lib.hid (keep13 b4 (by simp; omega) (by simp; omega) (by simp; omega) (by simp) K3.out)
      clear q0 q1 q2 q3 h0 h1 h2 u0 u1 u2
      obtain ⟨q0, q1, q2, q3, h0, h1, h2, u0, u1, u2, v0, v1, v2⟩ := K4.out
      rw [hk]
      go_wp2_with fail
      refine (sHeadOk_any _ _ _ _).mono ?_
      rintro e w5 ⟨rfl, b5⟩
      have s5 := b5.size
      have K5 := Lib.hid (keep13 b5 (by omega) (by omega) (by omega) (by omega) K4.out)
      clear q0 q1 q2 q3 h0 h1 h2 u0 u1 u2 v0 v1 v2
      obtain ⟨q0, q1, q2, q3, h0, h1, h2, u0, u1, u2, v0, v1, v2⟩ := K5.out
      rw [ho]
      have HE5 := Lib.hid ((HE3.out.below b4).below b5)
      have B5 := Lib.hid (belStep B3.out (belStep b4 b5))
      have n1 : w1.heap.size < w5.heap.size := by omega
      have n2 : w1.heap.size + 1 < w5.heap.size := by omega
      have n3 : w2.heap.size < w5.heap.size := by omega
      have n4 : w3.heap.size < w5.heap.size := by omega
      go_wp2_with fail
      refine (iWildHas_any _ hm7 _ _ _ _).mono ?_
      rintro e w6 ⟨rfl, b6⟩
      rw [hh]
      have b56 : Below w5.heap.size w5 w6 := (below_alloc1 _ _).trans (b6.mono (by simp))
      have K6 := Lib.hid (keep13 b56 n1 n2 n3 n4 K5.out)
      have Y6 : Hid (w6.cell? ⟨w5.heap.size, 0, none⟩ = some (.int .i64 x) ∧ w6.cell? ⟨w5.heap.size, 1, none⟩ = some (.int .i64 y) ∧ w6.cell? ⟨w5.heap.size, 2, none⟩ = some (.int .i64 z)) := by
        have c6 := belCell b6
        refine ⟨?_, ?_, ?_⟩ <;> (rw [c6 _ _ (by simp)]; simp [go_sem])
      clear q0 q1 q2 q3 h0 h1 h2 u0 u1 u2 v0 v1 v2
      obtain ⟨q0, q1, q2, q3, h0, h1, h2, u0, u1, u2, v0, v1, v2⟩ := K6.out
      obtain ⟨y0, y1, y2⟩ := Y6.out
      go_wp2_with fail
      refine (iHeadOk_any _ _ _ _).mono ?_
      rintro e w7 ⟨rfl, b7⟩
      rw [hok]
      go_wp2
      go_ret
      exact ⟨rfl, belStep B5.out (belStep b56 b7)⟩

set_option maxRecDepth 100000 in
theorem contract_FnRuleDo (H : Type) (enc : TypeId × Value → H) (W : World) (base : Nat) (args : Array Value) (ds gs : List (DataW H)) (before : List MemPlace)
    (hval : ∀ (j : Nat) t v, Tryd.f5.params[j]? = some t → args[j]? = some v → Value.okWide Tryd.prog W .any base t v)
    (hW : DataW.Whole enc Tryd.prog Tryd.f5.params.toList Rows.fnRuleDoSpec.vars false W args.toList ds gs before) (hE : EtOk W) :
    Calls Tryd.prog 5 args W fun e W' => ∃ v, e = .returned v ∧ Rows.fnRuleDoSpec.post enc Tryd.prog Tryd.f5 false true false false W args v W' := by
  have hW' := hW
  obtain ⟨p, q, hA0, hV, rfl, hfz, hnd⟩ := hW
  have hA : DataW.TrodAll enc Tryd.prog W 0 (fun _ => true) true Tryd.f5.params.toList args.toList ds p := hA0
  rw [Tryd.params5] at hA hval
  obtain ⟨v0, vs0, d0, ds0, p0, q0, hargs, rfl, rfl, h0, r0⟩ := trodAll_cons hA
  obtain ⟨rfl, rfl, rfl⟩ := trodAll_nil r0
  obtain rfl : args = #[v0] := by cases args; simp_all
  obtain ⟨rfl, rfl⟩ := trodVars_none hV
  have k0 := h0
  have lt0 : ∀ x ∈ p0, x.block < W.heap.size := by obtain ⟨m, hm⟩ := k0; exact DataW.trod_lt m _ _ _ hm
  obtain ⟨a0, len0, cap0, rfl⟩ := okWide_slice Tryd.underlying22 (hval 0 22 v0 rfl rfl)
  have w0 : BytesIn W W.heap.size a0 len0 cap0 := isRow_of h0
  clear hA0
  refine (walk_FnRuleDo a0 len0 cap0 W w0 hE).mono fun e W' ⟨he, bel⟩ => ?_
  subst he
  exact ⟨_, rfl, _, _, _, [], _, [], hW', trodAll_mk1 (shut_bool Tryd.underlying4 _), (trodAll_cons_mk (Below.trod laidOut (by kernel_rfl) (of_decide_eq_true (by kernel_rfl)) k0 bel lt0) (trodAll_mk0)), rfl, bel.frame _, fun h => by cases h⟩

/-- A world for the witness: the settled one, with the listed variables as the text lays them. -/
noncomputable def laidWorld_FnRuleDo (os : Os) : World :=
  { World.holding Tryd.prog os ⟨#[], #[], []⟩ with heap := ((World.holding Tryd.prog os ⟨#[], #[], []⟩).heap).modify 0 (fun | .cells _ t frozen => .cells #[.iface 122 (.agg #[.pointer (some ⟨7, 60, none⟩)])] t frozen | o => o) }

theorem laidMet_FnRuleDo (os : Os) : laidMetH Tryd.prog Rows.fnRuleDoRow.laid ((laidWorld_FnRuleDo os).forCall (fun _ _ => 0) ⟨#[], #[.slice none 0 0], []⟩).memory :=
  laidMetH_of_parts (laidMet_nil _ _) (by kernel_rfl)

theorem reads_FnRuleDo (os : Os) {H : Type} (enc : TypeId × Value → H) : ∃ places, DataW.whole enc Tryd.prog ((laidWorld_FnRuleDo os).forCall (fun _ _ => 0) ⟨#[], #[.slice none 0 0], []⟩).memory Tryd.f5.params.toList Rows.fnRuleDoSpec.vars false (#[.slice none 0 0] : Array Value).toList 8 = some ([.nil], [], places) :=
  ⟨[], by kernel_rfl⟩

set_option maxRecDepth 100000 in
theorem lifted_FnRuleDo (os : Os) (started : os.Started) (H : Type) (enc : TypeId × Value → H) (F : Stop.Interp) :
    ReturnsInHanded {} Tryd.checked os 5 .any ((OpenSpec.ofChange Rows.fnRuleDoSpec).preRow enc Tryd.prog Tryd.f5 Rows.fnRuleDoRow.domain false Rows.fnRuleDoRow.laid) (((OpenSpec.ofChange Rows.fnRuleDoSpec).at F).post enc Tryd.prog Tryd.f5 false true false false) := by
  obtain ⟨places, hx⟩ := reads_FnRuleDo os enc
  refine returnsInHanded_of_row (C := Tryd.checked) (s := OpenSpec.ofChange Rows.fnRuleDoSpec) own started (by kernel_rfl) Tryd.func5
    (witness_row_at (enc := enc) (C := Tryd.checked) false (laidWorld_FnRuleDo os) #[.slice none 0 0] rfl (by kernel_rfl) (by kernel_rfl) (by kernel_rfl)
      (OpenSpec.preRow_of_cond 8 hx (by kernel_rfl) (fun k hk => by cases hk) (by kernel_rfl) (laidMet_FnRuleDo os))) ?_
  intro W base args ds gs before hval hW _ _ _ hL _ _
  exact contract_FnRuleDo H enc W base args ds gs before hval hW (etOk_of hL (by simp [Rows.fnRuleDoRow]))

theorem said_FnRuleDo : Rows.FnRuleDoSaid :=
  OpenClaim.holds_of_cond 5 Tryd.f5 rfl rfl rfl rfl rfl rfl rfl ⟨rfl, rfl, rfl, rfl, rfl⟩ rfl rfl rfl rfl rfl (by kernel_rfl) Tryd.func5 (by kernel_rfl)
    (of_decide_eq_true (by kernel_rfl)) (by unfold Func.isWrapper; first | (rw [if_pos (by decide +kernel)]; kernel_rfl) | (rw [if_neg (by decide +kernel)]; exact ⟨rfl, rfl⟩))
    (fun os started H enc _ F => by rw [OpenClaim.pre_eq_preRow]; exact lifted_FnRuleDo os started H enc F)

theorem plain_FnRuleDo (f : FuncId) (fn : Func) (hf : Tryd.pinned.checked.prog.funcNamed "loop.example/crossbuck/laws.FnRuleDo" = some f) (hfn : Tryd.pinned.checked.prog.funcs[f]? = some fn) :
    true = Tryd.pinned.checked.prog.looks [] ∧ ∀ (j : Nat) t, fn.params[j]? = some t → Tryd.pinned.checked.prog.wantsStandIn t = false := by
  obtain rfl : f = 5 := Option.some.inj ((show Tryd.prog.funcNamed "loop.example/crossbuck/laws.FnRuleDo" = some 5 by kernel_rfl).symm.trans hf) |>.symm
  obtain rfl : fn = Tryd.f5 := (Option.some.inj (Tryd.func5.symm.trans hfn)).symm
  refine ⟨by kernel_rfl, fun j t ht => ?_⟩
  rw [Tryd.params5] at ht
  obtain rfl : t = 22 := by simpa using Array.mem_of_getElem? ht
  exact (show Tryd.prog.wantsStandIn 22 = false by kernel_rfl)

theorem proved_FnRuleDo : Rows.FnRuleDoCardSaid :=
  Claim7.holds_tied_plain_at .later [] _ _ _ _ said_FnRuleDo (fun _ h => by cases h) (by kernel_rfl) (fun _ h => by cases h) fnRuleDo_row_tie rfl ⟨rfl, rfl⟩ (by kernel_rfl) rfl plain_FnRuleDo (by kernel_rfl)

end Go.Proofs.YtlbbhiigfgegeaaDoor
