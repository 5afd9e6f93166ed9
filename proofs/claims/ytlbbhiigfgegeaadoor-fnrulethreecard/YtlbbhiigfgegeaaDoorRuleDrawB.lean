/-
  What the rules are that the statements draw from a code.
-/
import Derived.Test.YtlbbhiigfgegeaaDoorRuleDraw
namespace Go.Proofs.YtlbbhiigfgegeaaDoor
open Go.ChangeShapes Go.WideShapes Go.ChangeAt Go.RowKit Go.Joins
set_option linter.unusedVariables false

/-- A rule is drawn from a code. -/
def RuleCoded (w : World) (e : Ending) (w' : World) : Prop := ∃ (p : Int) (s : ByteArray) (o t : Int), SmallR p s o t ∧ e = .returned (.agg #[.int .i64 p, .string s, .int .i64 o, .int .i64 t]) ∧ Below w.heap.size w w'

set_option maxHeartbeats 2000000 in
theorem drawRuleText_any (w : World) (a : Option Addr) (len cap : Nat) (hb : BytesIn w w.heap.size a len cap) :
    Calls Tryd.prog 14 #[.slice a len cap] w (RuleCoded w) := by
  have HB := Lib.hid ((hb.keep (w' := w.alloc (.cells #[.int .i64 0, .string ⟨#[]⟩, .int .i64 0, .int .i64 0] 24)) (fun k hk => Below.heap_alloc _ _ _ hk)).up (g' := w.heap.size + 1) (by omega))
  clear hb
  go_enter Tryd.func14, Tryd.ntmps14
  go_wp2_with fail
  refine (open_any _ _ _ _ (by simpa using HB.out)).mono ?_
  rintro e w1 ⟨rfl, hr, b1⟩
  have HR := Lib.hid hr
  have s1 := hr.lt
  clear hr
  simp at s1
  go_wp2_with fail
  refine (l91Rule_any _ _ _ (by simpa using HR.out) (by omega)).mono ?_
  rintro e w2 ⟨p, s, o, t, hn, rfl, hr2, g2⟩
  have HN := Lib.hid hn
  clear hr2 hn
  have r1 : Hid (w1.heap[w.heap.size]? = some (.cells #[.int .i64 0, .string ⟨#[]⟩, .int .i64 0, .int .i64 0] 24)) := (b1.block _ (by simp)).trans (newBlock w _)
  obtain ⟨ra, rb, rc, rd, rf⟩ := quad_cells ((g2.block _ (by omega) (someNe (by omega))).trans r1.out)
  have HB2 : Hid (Below w.heap.size w w2) := ((below_alloc1 _ _).trans (b1.mono (by simp))).trans (gBel g2 (by omega) (by omega))
  go_wp2
  exact bodyPost_ret (v := .agg #[.int .i64 p, .string s, .int .i64 o, .int .i64 t]) (by simp [results, Tryd.results14, go_sem, ra, rb, rc, rd]) rfl
    ⟨p, s, o, t, HN.out, rfl, by repeat (first | refine Below.setCell ?_ (by dsimp only; omega) _ | exact HB2.out)⟩

set_option maxHeartbeats 2000000 in
theorem drawRuleOk_any (w : World) (a : Option Addr) (len cap : Nat) (hb : BytesIn w w.heap.size a len cap) :
    Calls Tryd.prog 31 #[.slice a len cap] w (RuleCoded w) := by
  have HB := Lib.hid ((hb.keep (w' := w.alloc (.cells #[.int .i64 0, .string ⟨#[]⟩, .int .i64 0, .int .i64 0] 24)) (fun k hk => Below.heap_alloc _ _ _ hk)).up (g' := w.heap.size + 1) (by omega))
  clear hb
  go_enter Tryd.func31, Tryd.ntmps31
  go_wp2_with fail
  refine (open_any _ _ _ _ (by simpa using HB.out)).mono ?_
  rintro e w1 ⟨rfl, hr, b1⟩
  have HR := Lib.hid hr
  have s1 := hr.lt
  clear hr
  simp at s1
  go_wp2_with fail
  refine (l91Rule_any _ _ _ (by simpa using HR.out) (by omega)).mono ?_
  rintro e w2 ⟨p, s, o, t, hn, rfl, hr2, g2⟩
  have HN := Lib.hid hn
  have s2 := g2.size
  have HR2 := Lib.hid (hr2.alloc (.cells #[.int .i64 p, .string s, .int .i64 o, .int .i64 t] 24))
  clear hr2 hn
  have r1 : Hid (w1.heap[w.heap.size]? = some (.cells #[.int .i64 0, .string ⟨#[]⟩, .int .i64 0, .int .i64 0] 24)) := (b1.block _ (by simp)).trans (newBlock w _)
  have r2 := Lib.hid ((g2.block _ (by omega) (someNe (by omega))).trans r1.out)
  have HB2 : Hid (Below w.heap.size w w2) := ((below_alloc1 _ _).trans (b1.mono (by simp))).trans (gBel g2 (by omega) (by omega))
  clear r1 g2 b1
  go_wp2_with fail
  refine (pick_any _ _ _ _ HR2.out (by omega) (by omega)).mono ?_
  rintro e w3 ⟨v, v0, v1, rfl, hr3, g3⟩
  have HR3 := Lib.hid hr3
  have s3 := g3.size
  simp at s3
  clear hr3
  have r3 := Lib.hid ((g3.block _ (by simp; omega) (someNe (by omega))).trans ((Below.heap_alloc _ _ _ (by omega)).trans r2.out))
  have x3 := Lib.hid ((g3.block _ (by simp) (someNe (by omega))).trans (newBlock w2 (.cells #[.int .i64 p, .string s, .int .i64 o, .int .i64 t] 24)))
  have HB3 : Hid (Below w.heap.size w w3) := (HB2.out.alloc (by omega) _).trans (gBel g3 (by omega) (by simp; omega))
  have zx : w.heap.size < w2.heap.size := by omega
  have nx : w2.heap.size ≠ w.heap.size := by omega
  clear g3 r2 HB2
  by_cases hv : v = 0
  · subst hv
    go_wp2_with fail
    refine (pick_any _ _ _ _ HR3.out (by omega) (by omega)).mono ?_
    rintro e w4 ⟨u, u0, u1, rfl, hr4, g4⟩
    have s4 := g4.size
    clear hr4
    obtain ⟨ra, rb, rc, rd, rf⟩ := quad_cells ((g4.block _ (by omega) (someNe (by omega))).trans r3.out)
    obtain ⟨xa, xb, xc, xd, xf⟩ := quad_cells ((g4.block _ (by omega) (someNe (by omega))).trans x3.out)
    have HB4 : Hid (Below w.heap.size w w4) := HB3.out.trans (gBel g4 (by omega) (by omega))
    clear g4 r3 x3
    go_wp2
    exact bodyPost_ret (v := .agg #[.int .i64 p, .string s, .int .i64 o, .int .i64 (u - 2)]) (by simp [results, Tryd.results31, go_sem, ra, rb, rc, rd]) rfl
      ⟨p, s, o, _, ⟨HN.out.1, HN.out.2.1, HN.out.2.2.1, by omega⟩, rfl, by repeat (first | refine Below.setCell ?_ (by dsimp only; omega) _ | exact HB4.out)⟩
  · have hv' : (v == 0) = false := by simpa using hv
    obtain ⟨ra, rb, rc, rd, rf⟩ := quad_cells r3.out
    obtain ⟨xa, xb, xc, xd, xf⟩ := quad_cells x3.out
    go_wp2
    exact bodyPost_ret (v := .agg #[.int .i64 p, .string s, .int .i64 o, .int .i64 t]) (by simp [results, Tryd.results31, go_sem, ra, rb, rc, rd]) rfl
      ⟨p, s, o, t, HN.out, rfl, by repeat (first | refine Below.setCell ?_ (by dsimp only; omega) _ | exact HB3.out)⟩

end Go.Proofs.YtlbbhiigfgegeaaDoor
