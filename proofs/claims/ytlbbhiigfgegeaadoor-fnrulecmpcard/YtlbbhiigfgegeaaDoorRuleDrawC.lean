/-
  What the two rules are that the statements draw from a code.
-/
import Derived.Test.YtlbbhiigfgegeaaDoorRuleDrawB
import Derived.Deep.RegionWith
namespace Go.Proofs.YtlbbhiigfgegeaaDoor
open Go.ChangeShapes Go.WideShapes Go.ChangeAt Go.RowKit Go.Joins
set_option linter.unusedVariables false

/-- Two rules are drawn from a code. -/
def TwoCoded (w : World) (e : Ending) (w' : World) : Prop := ∃ (p : Int) (s : ByteArray) (o t p' : Int) (s' : ByteArray) (o' t' : Int), SmallR p s o t ∧ SmallR p' s' o' t' ∧ e = .returned (.tuple #[.agg #[.int .i64 p, .string s, .int .i64 o, .int .i64 t], .agg #[.int .i64 p', .string s', .int .i64 o', .int .i64 t']]) ∧ Below w.heap.size w w'

set_option maxHeartbeats 4000000 in
theorem drawRuleCmp_any (w : World) (a : Option Addr) (len cap : Nat) (hb : BytesIn w w.heap.size a len cap) :
    Calls Tryd.prog 28 #[.slice a len cap] w (TwoCoded w) := by
  have HB := Lib.hid ((hb.keep (w' := (w.alloc (.cells #[.int .i64 0, .string ⟨#[]⟩, .int .i64 0, .int .i64 0] 24)).alloc (.cells #[.int .i64 0, .string ⟨#[]⟩, .int .i64 0, .int .i64 0] 24)) (fun k hk => (Below.heap_alloc _ _ _ (by simp; omega)).trans (Below.heap_alloc _ _ _ hk))).up (g' := w.heap.size + 1 + 1) (by omega))
  clear hb
  go_enter Tryd.func28, Tryd.ntmps28
  go_wp2_with fail
  refine (open_any _ _ _ _ (by simpa using HB.out)).mono ?_
  rintro e w1 ⟨rfl, hr, b1⟩
  have HR := Lib.hid hr
  have s1 := hr.lt
  clear hr
  simp at s1
  have r1 : Hid (w1.heap[w.heap.size]? = some (.cells #[.int .i64 0, .string ⟨#[]⟩, .int .i64 0, .int .i64 0] 24)) := (b1.block _ (by simp; omega)).trans ((Below.heap_alloc _ _ _ (by simp)).trans (newBlock w _))
  have k1 : Hid (w1.heap[w.heap.size + 1]? = some (.cells #[.int .i64 0, .string ⟨#[]⟩, .int .i64 0, .int .i64 0] 24)) := (b1.block _ (by simp)).trans (by simpa using newBlock (w.alloc (.cells #[.int .i64 0, .string ⟨#[]⟩, .int .i64 0, .int .i64 0] 24)) _)
  have B1 : Hid (Below w.heap.size w w1) := (below_alloc2 _ _ _).trans (b1.mono (by simp; omega))
  clear b1
  go_wp2_with fail
  refine (l91Rule_any _ _ _ (by simpa using HR.out) (by omega)).mono ?_
  rintro e w2 ⟨p, s, o, t, hn, rfl, hr2, g2⟩
  have HN := Lib.hid hn
  have s2 := g2.size
  have HR2 := Lib.hid (hr2.alloc (.cells #[.int .i64 p, .string s, .int .i64 o, .int .i64 t] 24))
  clear hr2 hn
  have r2 := Lib.hid ((g2.block _ (by omega) (someNe (by omega))).trans r1.out)
  have k2 := Lib.hid ((g2.block _ (by omega) (someNe (by omega))).trans k1.out)
  have B2 : Hid (Below w.heap.size w w2) := B1.out.trans (gBel g2 (by omega) (by omega))
  clear g2 r1 k1 B1 HR
  go_wp2_with fail
  refine (l91Rule_any _ _ _ HR2.out (by omega)).mono ?_
  rintro e w3 ⟨p', s', o', t', hn', rfl, hr3, g3⟩
  have HN' := Lib.hid hn'
  have s3 := g3.size
  simp at s3
  have HR3 := Lib.hid (hr3.alloc (.cells #[.int .i64 p', .string s', .int .i64 o', .int .i64 t'] 24))
  clear hr3 hn'
  have r3 := Lib.hid ((g3.block _ (by simp; omega) (someNe (by omega))).trans ((Below.heap_alloc _ _ _ (by omega)).trans r2.out))
  have k3 := Lib.hid ((g3.block _ (by simp; omega) (someNe (by omega))).trans ((Below.heap_alloc _ _ _ (by omega)).trans k2.out))
  have x3 := Lib.hid ((g3.block _ (by simp) (someNe (by omega))).trans (newBlock w2 (.cells #[.int .i64 p, .string s, .int .i64 o, .int .i64 t] 24)))
  have B3 : Hid (Below w.heap.size w w3) := (B2.out.alloc (by omega) _).trans (gBel g3 (by omega) (by simp; omega))
  clear g3 r2 k2 B2 HR2
  go_wp2_with fail
  refine (pick_any _ _ _ _ HR3.out (by omega) (by omega)).mono ?_
  rintro e w4 ⟨v, v0, v1, rfl, hr4, g4⟩
  have HR4 := Lib.hid hr4
  have s4 := g4.size
  simp at s4
  clear hr4
  have r4 := Lib.hid ((g4.block _ (by simp; omega) (someNe (by omega))).trans ((Below.heap_alloc _ _ _ (by omega)).trans r3.out))
  have k4 := Lib.hid ((g4.block _ (by simp; omega) (someNe (by omega))).trans ((Below.heap_alloc _ _ _ (by omega)).trans k3.out))
  have x4 := Lib.hid ((g4.block _ (by simp; omega) (someNe (by omega))).trans ((Below.heap_alloc _ _ _ (by omega)).trans x3.out))
  have y4 := Lib.hid ((g4.block _ (by simp) (someNe (by omega))).trans (newBlock w3 (.cells #[.int .i64 p', .string s', .int .i64 o', .int .i64 t'] 24)))
  have B4 : Hid (Below w.heap.size w w4) := (B3.out.alloc (by omega) _).trans (gBel g4 (by omega) (by simp; omega))
  have m1 : w2.heap.size ≠ w.heap.size := by omega
  have m2 : w2.heap.size ≠ w.heap.size + 1 := by omega
  have m3 : w3.heap.size ≠ w.heap.size := by omega
  have m4 : w3.heap.size ≠ w.heap.size + 1 := by omega
  have m5 : w2.heap.size ≠ w3.heap.size := by omega
  have m6 : w3.heap.size ≠ w2.heap.size := by omega
  clear g4 r3 k3 x3 B3 HR3
  by_cases hv : v = 0
  · subst hv
    obtain ⟨xa, xb, xc, xd, xf⟩ := quad_cells x4.out
    obtain ⟨ya, yb, yc, yd, yf⟩ := quad_cells y4.out
    have hlt := HR4.out.lt
    have HR5 := Lib.hid ((((HR4.out.setCell (p := ⟨w3.heap.size, 0, none⟩) (by dsimp only; omega) (.int .i64 p)).setCell (p := ⟨w3.heap.size, 1, none⟩) (by dsimp only; omega) (.string s)).setCell (p := ⟨w3.heap.size, 2, none⟩) (by dsimp only; omega) (.int .i64 o)).setCell (p := ⟨w3.heap.size, 3, none⟩) (by dsimp only; omega) (.int .i64 t))
    have Y5 : Hid (((((w4.setCell ⟨w3.heap.size, 0, none⟩ (.int .i64 p)).setCell ⟨w3.heap.size, 1, none⟩ (.string s)).setCell ⟨w3.heap.size, 2, none⟩ (.int .i64 o)).setCell ⟨w3.heap.size, 3, none⟩ (.int .i64 t)).heap[w3.heap.size]? = some (.cells #[.int .i64 p, .string s, .int .i64 o, .int .i64 t] 24)) :=
      block_setCell (block_setCell (block_setCell (block_setCell y4.out _) _) _) _
    have E5 : Hid (∀ b, b ≠ w3.heap.size → ((((w4.setCell ⟨w3.heap.size, 0, none⟩ (.int .i64 p)).setCell ⟨w3.heap.size, 1, none⟩ (.string s)).setCell ⟨w3.heap.size, 2, none⟩ (.int .i64 o)).setCell ⟨w3.heap.size, 3, none⟩ (.int .i64 t)).heap[b]? = w4.heap[b]?) := fun b hb =>
      (((Below.heap_setCell _ _ _ _ (by dsimp only; exact hb)).trans (Below.heap_setCell _ _ _ _ (by dsimp only; exact hb))).trans (Below.heap_setCell _ _ _ _ (by dsimp only; exact hb))).trans (Below.heap_setCell _ _ _ _ (by dsimp only; exact hb))
    have B5 : Hid (Below w.heap.size w ((((w4.setCell ⟨w3.heap.size, 0, none⟩ (.int .i64 p)).setCell ⟨w3.heap.size, 1, none⟩ (.string s)).setCell ⟨w3.heap.size, 2, none⟩ (.int .i64 o)).setCell ⟨w3.heap.size, 3, none⟩ (.int .i64 t))) := (((B4.out.setCell (by dsimp only; omega) _).setCell (by dsimp only; omega) _).setCell (by dsimp only; omega) _).setCell (by dsimp only; omega) _
    go_wp2_with fail
    refine (pick_any _ _ _ _ HR5.out (by omega) (by omega)).mono ?_
    rintro e w5 ⟨u, u0, u1, rfl, hr5, g5⟩
    have s5 := g5.size
    simp at s5
    clear hr5 xa xb xc xd xf ya yb yc yd yf
    obtain ⟨ra, rb, rc, rd, rf⟩ := quad_cells ((g5.block _ (by simp; omega) (someNe (by omega))).trans ((E5.out _ (by omega)).trans r4.out))
    obtain ⟨ka, kb, kc, kd, kf⟩ := quad_cells ((g5.block _ (by simp; omega) (someNe (by omega))).trans ((E5.out _ (by omega)).trans k4.out))
    obtain ⟨xa, xb, xc, xd, xf⟩ := quad_cells ((g5.block _ (by simp; omega) (someNe (by omega))).trans ((E5.out _ (by omega)).trans x4.out))
    obtain ⟨ya, yb, yc, yd, yf⟩ := quad_cells ((g5.block _ (by simp; omega) (someNe (by omega))).trans Y5.out)
    have B6 : Hid (Below w.heap.size w w5) := B5.out.trans (gBel g5 (by omega) (by simp; omega))
    clear g5 r4 k4 x4 y4 E5 Y5 B5 HR5
    go_wp2
    go_region_with (fail)
    all_goals
      go_wp2
      exact bodyPost_ret (v := .tuple #[.agg #[.int .i64 p, .string s, .int .i64 o, .int .i64 t], .agg #[.int .i64 p, .string s, .int .i64 u, .int .i64 t]]) (by simp [results, Tryd.results28, go_sem, ra, rb, rc, rd, ka, kb, kc, kd]) rfl
        ⟨p, s, o, t, p, s, u, t, HN.out, ⟨HN.out.1, HN.out.2.1, by omega, HN.out.2.2.2⟩, rfl, ((((((((((B6.out).setCell (by dsimp only; omega) _).setCell (by dsimp only; omega) _).setCell (by dsimp only; omega) _).setCell (by dsimp only; omega) _).setCell (by dsimp only; omega) _).setCell (by dsimp only; omega) _).setCell (by dsimp only; omega) _).setCell (by dsimp only; omega) _).setCell (by dsimp only; omega) _).drew⟩
  · have hv' : (v == 0) = false := by simpa using hv
    obtain ⟨ra, rb, rc, rd, rf⟩ := quad_cells r4.out
    obtain ⟨ka, kb, kc, kd, kf⟩ := quad_cells k4.out
    obtain ⟨xa, xb, xc, xd, xf⟩ := quad_cells x4.out
    obtain ⟨ya, yb, yc, yd, yf⟩ := quad_cells y4.out
    go_wp2
    go_region_with (fail)
    all_goals
      go_wp2
      exact bodyPost_ret (v := .tuple #[.agg #[.int .i64 p, .string s, .int .i64 o, .int .i64 t], .agg #[.int .i64 p', .string s', .int .i64 o', .int .i64 t']]) (by simp [results, Tryd.results28, go_sem, ra, rb, rc, rd, ka, kb, kc, kd]) rfl
        ⟨p, s, o, t, p', s', o', t', HN.out, HN'.out, rfl, (((((((((B4.out).setCell (by dsimp only; omega) _).setCell (by dsimp only; omega) _).setCell (by dsimp only; omega) _).setCell (by dsimp only; omega) _).setCell (by dsimp only; omega) _).setCell (by dsimp only; omega) _).setCell (by dsimp only; omega) _).setCell (by dsimp only; omega) _).drew⟩

end Go.Proofs.YtlbbhiigfgegeaaDoor
