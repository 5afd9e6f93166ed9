/-
  Chapter 3, the program: a new diagram; the set of a pattern.
-/
import Derived.Test.YtddkpimmcmnogabSpaceComb
import Derived.Test.YtddkpimmcmnogabWildBase
namespace Go.Proofs.Ytddkpimmcmnogab
open Go.ChangeShapes Go.WideShapes Go.ChangeAt Go.RowKit Go.Joins
set_option linter.unusedVariables false

theorem Uniq.nil : Uniq [] := ⟨(fun _ _ _ _ h => nomatch h), (fun _ _ _ _ _ h => nomatch h)⟩

set_option maxHeartbeats 2000000 in
theorem newDiagram_any (w : World) :
    Calls Try.prog 24 #[] w fun ex w' => ∃ b e, ex = .returned (.agg #[.map (some b), .pointer (some ⟨e, 0, none⟩)]) ∧ w.heap.size ≤ b ∧ Dg w' b e [] ∧ Below w.heap.size w w' := by
  have hmm := @run_makeMap Try.prog
  go_enter Try.func24, Try.ntmps24
  go_wp2
  refine bodyPost_ret (v := .agg #[.map (some (w.heap.size + 1)), .pointer (some ⟨w.heap.size + 1 + 1, 0, none⟩)]) (by simp [results, Try.results24, go_sem]) rfl ⟨w.heap.size + 1, w.heap.size + 1 + 1, rfl, by omega, ⟨?_, ⟨#[], 0, ?_, rfl⟩, (fun _ _ _ h => nomatch h), Uniq.nil⟩, ?_⟩
  · have := newBlockM ((w.alloc (.cells #[.map (some (w.heap.size + 1)), .pointer (some ⟨w.heap.size + 1 + 1, 0, none⟩)] 46)).alloc (.map #[] 0)) (.cells #[.pointer none, .pointer none] 78)
    simpa using this
  · refine (Below.heap_alloc _ _ _ (by simp)).trans ?_
    have := newBlockM (w.alloc (.cells #[.map (some (w.heap.size + 1)), .pointer (some ⟨w.heap.size + 1 + 1, 0, none⟩)] 46)) (.map #[] 0)
    simpa using this
  · exact (((Below.refl _ _).alloc (Nat.le_refl _) _).alloc (by simp) _).alloc (by simp; omega) _

set_option maxRecDepth 100000 in
set_option maxHeartbeats 4000000 in
theorem ofMasks_any (w : World) (b e : Nat) (E : List Nd) (c v : Nat → Bool) (hd : Dg w b e E) :
    Calls Try.prog 40 #[.agg #[.map (some b), .pointer (some ⟨e, 0, none⟩)], .agg #[.int .u8 (ofB c), .int .u8 (ofB v)]] w fun ex w' => ∃ p, ex = .returned (.pointer p) ∧ Good w w' b e E 6 p (sufL c v 6) := by
  have K1 : ((w.alloc (.cells #[.map (some b), .pointer (some ⟨e, 0, none⟩)] 46)).alloc (.cells #[.int .u8 (ofB c), .int .u8 (ofB v)] 67)).heap[w.heap.size]? = some (.cells #[.map (some b), .pointer (some ⟨e, 0, none⟩)] 46) :=
    (Below.heap_alloc _ _ _ (by simp)).trans (newBlockM w _)
  have K2 : ((w.alloc (.cells #[.map (some b), .pointer (some ⟨e, 0, none⟩)] 46)).alloc (.cells #[.int .u8 (ofB c), .int .u8 (ofB v)] 67)).heap[w.heap.size + 1]? = some (.cells #[.int .u8 (ofB c), .int .u8 (ofB v)] 67) := by
    have := newBlockM (w.alloc (.cells #[.map (some b), .pointer (some ⟨e, 0, none⟩)] 46)) (.cells #[.int .u8 (ofB c), .int .u8 (ofB v)] 67)
    simpa using this
  have HS : Hid (Good w ((w.alloc (.cells #[.map (some b), .pointer (some ⟨e, 0, none⟩)] 46)).alloc (.cells #[.int .u8 (ofB c), .int .u8 (ofB v)] 67)) b e E 0 (some ⟨e, 0, none⟩) (sufL c v 0)) :=
    ⟨E, fun x hx => hx, (hd.alloc _).alloc _, ⟨rfl, rfl⟩, sTrans (World.grownBy_alloc _ _ _) (World.grownBy_alloc _ _ _)⟩
  have HB : Hid (b < w.heap.size) := hd.lt_b
  have HK1 := Lib.hid K1
  have HK2 := Lib.hid K2
  clear hd K1 K2
  go_enter Try.func40, Try.ntmps40
  go_wp2
  go_loopw [5, 6] (fun n i wr => ∃ (h j : Nat) (p : Option Addr), h + j = 6 ∧ i = .int .i64 ((j : Int) - 1) ∧ n = .pointer p ∧ Good w wr b e E h p (sufL c v h) ∧
      wr.heap[w.heap.size]? = some (.cells #[.map (some b), .pointer (some ⟨e, 0, none⟩)] 46) ∧ wr.heap[w.heap.size + 1]? = some (.cells #[.int .u8 (ofB c), .int .u8 (ofB v)] 67)) (fun _ i _ => (intOf i + 1).toNat)
  case atStart => exact ⟨0, 6, _, rfl, rfl, rfl, HS.out, HK1.out, HK2.out⟩
  case round =>
    obtain ⟨h, j, p, hj, rfl, rfl, hg, k1, k2⟩ := hrel
    obtain ⟨E1, s1, d1, R1, g1⟩ := hg
    have S1 := Lib.hid s1
    have DD1 := Lib.hid d1
    have RR1 := Lib.hid R1
    have G1 := Lib.hid g1
    have HL1 := Lib.hid k1
    have HL2 := Lib.hid k2
    have c1 := duoCells k1
    have c2 := duoCells k2
    have hl1 := (Array.getElem?_eq_some_iff.1 k1).1
    have hl2 := (Array.getElem?_eq_some_iff.1 k2).1
    clear s1 d1 R1 g1 k1 k2
    obtain ⟨c10, c11, c1f⟩ := c1
    obtain ⟨c20, c21, c2f⟩ := c2
    cases j with
    | zero =>
      have hh : h = 6 := by omega
      subst hh
      go_wp2
      go_ret
      exact ⟨_, rfl, E1, S1.out, DD1.out, RR1.out, G1.out⟩
    | succ j =>
      have e0 : (((j + 1 : Nat) : Int) - 1) = (j : Int) := by omega
      rw [e0]
      have hj6 : j < 6 := by omega
      have e5 : 5 - h = j := by omega
      have tc := and_pw c hj6
      have tv := and_pw v hj6
      have hpos : (0 : Int) ≤ (j : Int) := Int.natCast_nonneg _
      have HX : Hid (∀ (w1 : World) (q : Option Addr) (m : List Bool), Good wr w1 b e E1 (h + 1) q m → m = sufL c v (h + 1) → Good w w1 b e E (h + 1) q (sufL c v (h + 1)) ∧
          w1.heap[w.heap.size]? = some (.cells #[.map (some b), .pointer (some ⟨e, 0, none⟩)] 46) ∧ w1.heap[w.heap.size + 1]? = some (.cells #[.int .u8 (ofB c), .int .u8 (ofB v)] 67)) := by
        intro w1 q m hG hm
        obtain ⟨E2, s2, d2, R2, g2⟩ := hG
        subst hm
        have hb := HB.out
        exact ⟨⟨E2, fun x hx => s2 x (S1.out x hx), d2, R2, sTrans G1.out g2⟩, (g2.block _ hl1 (by intro e; cases e; omega)).trans HL1.out, (g2.block _ hl2 (by intro e; cases e; omega)).trans HL2.out⟩
      have HNO : Hid (Rep E1 e h none (noL h)) := Rep.none_iff.2 rfl
      cases hc : c j
      · rw [hc] at tc
        go_wp2_with (first
          | (go_at_call 43; refine (wildBit_at _ hj6 _).mono ?_; rintro e wq ⟨rfl, rfl⟩)
          | (go_at_call 48; refine (node_any _ _ _ h _ _ _ _ _ DD1.out RR1.out RR1.out).mono ?_; rintro ex w1 ⟨q, rfl, hG⟩; have HG := Lib.hid hG; clear hG))
        go_roundw
        case rel => exact ⟨h + 1, j, q, by omega, by simp, rfl, HX.out _ _ _ HG.out (by simp [sufL, e5, hc])⟩
        case measure => simp [intOf]
      · rw [hc] at tc
        cases hv : v j
        · rw [hv] at tv
          go_wp2_with (first
            | (go_at_call 43; refine (wildBit_at _ hj6 _).mono ?_; rintro e wq ⟨rfl, rfl⟩)
            | (go_at_call 48; refine (node_any _ _ _ h _ _ _ _ _ DD1.out RR1.out HNO.out).mono ?_; rintro ex w1 ⟨q, rfl, hG⟩; have HG := Lib.hid hG; clear hG))
          go_roundw
          case rel => exact ⟨h + 1, j, q, by omega, by simp, rfl, HX.out _ _ _ HG.out (by simp [sufL, e5, hc, hv])⟩
          case measure => simp [intOf]
        · rw [hv] at tv
          go_wp2_with (first
            | (go_at_call 43; refine (wildBit_at _ hj6 _).mono ?_; rintro e wq ⟨rfl, rfl⟩)
            | (go_at_call 48; refine (node_any _ _ _ h _ _ _ _ _ DD1.out HNO.out RR1.out).mono ?_; rintro ex w1 ⟨q, rfl, hG⟩; have HG := Lib.hid hG; clear hG))
          go_roundw
          case rel => exact ⟨h + 1, j, q, by omega, by simp, rfl, HX.out _ _ _ HG.out (by simp [sufL, e5, hc, hv])⟩
          case measure => simp [intOf]

/-! ### Whether a head is in a set -/

def f6 (f : Nat → Bool) : List Bool := [f 0, f 1, f 2, f 3, f 4, f 5]
theorem f6_take (f : Nat → Bool) {k : Nat} (hk : k < 6) (l : List Bool) : (f6 f).take k ++ f k :: l = (f6 f).take (k + 1) ++ l := by
  match k, hk with
  | 0, _ => rfl
  | 1, _ => rfl
  | 2, _ => rfl
  | 3, _ => rfl
  | 4, _ => rfl
  | 5, _ => rfl

end Go.Proofs.Ytddkpimmcmnogab
