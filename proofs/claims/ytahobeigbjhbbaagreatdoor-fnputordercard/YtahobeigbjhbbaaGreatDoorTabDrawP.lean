/-
  A table and a rule are drawn: the table's memory is the call's own.
-/
import Derived.Test.YtahobeigbjhbbaaGreatDoorTabDrawAt
namespace Go.Proofs.YtahobeigbjhbbaaGreatDoor
open Go.ChangeShapes Go.WideShapes Go.ChangeAt Go.RowKit Go.Joins
set_option linter.unusedVariables false

/-- A table and a rule were drawn. -/
def TabRuleR (w : World) (e : Ending) (w' : World) : Prop :=
  ∃ (v : Value) (l : List R4) (r : R4), e = .returned (.tuple #[v, .agg #[.int .i64 r.p, .string r.s, .int .i64 r.o, .int .i64 r.t]]) ∧ l.length ≤ 100 ∧ RulRow w' w.heap.size v l ∧ Below w.heap.size w w'

set_option maxRecDepth 100000 in
set_option maxHeartbeats 4000000 in
theorem drawTablePut_any (w : World) (a : Option Addr) (len cap : Nat) (hb : BytesIn w w.heap.size a len cap) :
    Calls Tryz.prog 14 #[.slice a len cap] w (TabRuleR w) := by
  have HB := Lib.hid ((hb.keep (w' := w.alloc (.cells #[.int .i64 0, .string ⟨#[]⟩, .int .i64 0, .int .i64 0] 25)) (fun k hk => Below.heap_alloc _ _ _ hk)).up (g' := w.heap.size + 1) (by omega))
  clear hb
  go_enter Tryz.func14, Tryz.ntmps14
  go_wp2_with fail
  refine (open_any _ _ _ _ (by simpa using HB.out)).mono ?_
  rintro e w1 ⟨rfl, hr, b1⟩
  have hr' : RdOk w1 (w.heap.size + 1) 0 := by simpa using hr
  have HR := Lib.hid hr'
  have s1 := HR.out.lt
  have R1 : Hid (w1.heap[w.heap.size]? = some (.cells #[.int .i64 0, .string ⟨#[]⟩, .int .i64 0, .int .i64 0] 25)) := (b1.block _ (by simp)).trans (newBlock w _)
  have B1 : Hid (Below w.heap.size w w1) := (below_alloc1 _ _).trans (b1.mono (by simp))
  clear hr hr' b1
  simp only [World.size_alloc]
  go_wp2_with fail
  refine (l91Table_any _ _ _ HR.out (by omega)).mono ?_
  rintro e w2 ⟨v, l, rfl, hrow, hlen, hr2, g2⟩
  have HXZ : Hid (RulRow w2 w1.heap.size v l) := hrow
  have HRZ := Lib.hid hr2
  have s2 := g2.size
  have RZ : Hid (w2.heap[w.heap.size]? = some (.cells #[.int .i64 0, .string ⟨#[]⟩, .int .i64 0, .int .i64 0] 25)) := (g2.block _ (by omega) (someNe (by omega))).trans R1.out
  have BZ : Hid (Below w.heap.size w w2) := B1.out.trans (gBel g2 (by omega) (by omega))
  clear hrow hr2 g2 R1 B1 HR
  obtain ⟨va, vc, rfl, hform⟩ : ∃ va vc, v = .slice va l.length vc ∧ (0 < l.length → ∃ gv, va = some ⟨gv, 0, none⟩) := by
    rcases HXZ.out.form with ⟨rfl, rfl⟩ | ⟨gv, c', rfl, -⟩
    · exact ⟨none, 0, rfl, fun h => absurd h (Nat.lt_irrefl _)⟩
    · exact ⟨_, c', rfl, fun _ => ⟨gv, rfl⟩⟩
  by_cases hz : 0 < l.length
  · obtain ⟨gv, rfl⟩ := hform hz
    have hzi : (0 : Int) < (l.length : Int) := by omega
    clear hform
    go_wp2_with fail
    refine (pick_any _ _ _ _ HRZ.out (by omega) (by omega)).mono ?_
    rintro e w3 ⟨x0, x1, x2, rfl, hr3, g3⟩
    have s3 := g3.size
    replace HRZ := Lib.hid hr3
    replace RZ : Hid (w3.heap[w.heap.size]? = some (.cells #[.int .i64 0, .string ⟨#[]⟩, .int .i64 0, .int .i64 0] 25)) := (g3.block _ (by omega) (someNe (by omega))).trans RZ.out
    replace BZ : Hid (Below w.heap.size w w3) := BZ.out.trans (gBel g3 (by omega) (by omega))
    replace HXZ : Hid (RulRow w3 w1.heap.size (.slice (some ⟨gv, 0, none⟩) l.length vc) l) := HXZ.out.grow g3 s1
    clear hr3 g3
    by_cases hy : x0 = 0
    · subst hy
      have HRD := Lib.hid (HRZ.out.keep (w' := w3.drew) fun _ _ => rfl)
      have HXD : Hid (RulRow w3.drew w1.heap.size (.slice (some ⟨gv, 0, none⟩) l.length vc) l) := HXZ.out.below (Below.refl _ _).drew
      have hgne : ¬ gv = w.heap.size := by have := (World.ownsRow.lt HXZ.out gv rfl).1; omega
      have hsz3 : w3.drew.heap.size = w3.heap.size := rfl
      go_wp2
      go_region_with (go_at_call 58; ((with_reducible refine (pick_any _ _ _ _ HRD.out (by omega) (by omega)).mono ?_); rintro e w4 ⟨y0, y1, y2, rfl, hr4, g4⟩; have s4 := g4.size; have RZ4 : Hid (w4.heap[w.heap.size]? = some (.cells #[.int .i64 0, .string ⟨#[]⟩, .int .i64 0, .int .i64 0] 25)) := ((g4.block _ (by omega) (someNe (by omega))).trans RZ.out); have BZ4 : Hid (Below w.heap.size w w4) := (BZ.out.drew.trans (gBel g4 (by omega) (by omega))); have HXZ4 : Hid (RulRow w4 w1.heap.size (.slice (some ⟨gv, 0, none⟩) l.length vc) l) := (HXD.out.grow g4 s1); obtain ⟨j, rfl⟩ : ∃ j : Nat, y0 = j := ⟨y0.toNat, by omega⟩; have hj : j < l.length := (by omega); clear hr4 g4; obtain ⟨c0, c1, c2, c3⟩ := (HXZ4.out.cells rfl).1 j hj; obtain ⟨ra, rb, rc, rd, rf⟩ := quad_cells RZ4.out; have HRS := Lib.hid (ruAt l j).hs))
      all_goals
        go_wp2
        exact bodyPost_ret (v := .tuple #[.slice (some ⟨gv, 0, none⟩) l.length vc, .agg #[.int .i64 (ruAt l j).p, .string (ruAt l j).s, .int .i64 (ruAt l j).o, .int .i64 (ruAt l j).t]]) (by simp [results, Tryz.results14, go_sem, ra, rb, rc, rd]) rfl
          ⟨_, l, ruAt l j, rfl, hlen, (HXZ4.out.grow (gOwnT (gOwnT (gOwnT (gOwnT (gRefl _ _) 0 _) 1 _) 2 _) 3 _) (by omega)).mono (by omega), (((BZ4.out.setCell (by exact Nat.le_refl _) _).setCell (by exact Nat.le_refl _) _).setCell (by exact Nat.le_refl _) _).setCell (by exact Nat.le_refl _) _⟩
    · skip
      go_wp2_with fail
      refine (l91Rule_any _ _ _ HRZ.out (by omega)).mono ?_
      rintro e w5 ⟨p, s, o, t, hn, rfl, hr5, g5⟩
      have hm7 : s.size ≤ 1048576 := by have := hn.2.1; omega
      have s5 := g5.size
      have R5 : Hid (w5.heap[w.heap.size]? = some (.cells #[.int .i64 0, .string ⟨#[]⟩, .int .i64 0, .int .i64 0] 25)) := (g5.block _ (by omega) (someNe (by omega))).trans RZ.out
      have B5 : Hid (Below w.heap.size w w5) := BZ.out.trans (gBel g5 (by omega) (by omega))
      have HX5 : Hid (RulRow w5 w1.heap.size (.slice (some ⟨gv, 0, none⟩) l.length vc) l) := HXZ.out.grow g5 s1
      clear hr5 hn g5 RZ BZ HXZ HRZ
      obtain ⟨ra, rb, rc, rd, rf⟩ := quad_cells R5.out
      go_wp2
      exact bodyPost_ret (v := .tuple #[.slice (some ⟨gv, 0, none⟩) l.length vc, .agg #[.int .i64 p, .string s, .int .i64 o, .int .i64 t]]) (by simp [results, Tryz.results14, go_sem, ra, rb, rc, rd]) rfl
        ⟨_, l, ⟨p, s, o, t, hm7⟩, rfl, hlen, (HX5.out.grow (gOwnT (gOwnT (gOwnT (gOwnT (gRefl _ _) 0 _) 1 _) 2 _) 3 _) (by omega)).mono (by omega), (((B5.out.setCell (by exact Nat.le_refl _) _).setCell (by exact Nat.le_refl _) _).setCell (by exact Nat.le_refl _) _).setCell (by exact Nat.le_refl _) _⟩
  · obtain rfl : l = [] := List.eq_nil_of_length_eq_zero (by omega)
    clear hform
    go_wp2_with fail
    refine (l91Rule_any _ _ _ HRZ.out (by omega)).mono ?_
    rintro e w5 ⟨p, s, o, t, hn, rfl, hr5, g5⟩
    have hm7 : s.size ≤ 1048576 := by have := hn.2.1; omega
    have s5 := g5.size
    have R5 : Hid (w5.heap[w.heap.size]? = some (.cells #[.int .i64 0, .string ⟨#[]⟩, .int .i64 0, .int .i64 0] 25)) := (g5.block _ (by omega) (someNe (by omega))).trans RZ.out
    have B5 : Hid (Below w.heap.size w w5) := BZ.out.trans (gBel g5 (by omega) (by omega))
    have HX5 : Hid (RulRow w5 w1.heap.size (.slice va ([] : List R4).length vc) []) := HXZ.out.grow g5 s1
    clear hr5 hn g5 RZ BZ HXZ HRZ
    obtain ⟨ra, rb, rc, rd, rf⟩ := quad_cells R5.out
    go_wp2
    exact bodyPost_ret (v := .tuple #[.slice va ([] : List R4).length vc, .agg #[.int .i64 p, .string s, .int .i64 o, .int .i64 t]]) (by simp [results, Tryz.results14, go_sem, ra, rb, rc, rd]) rfl
      ⟨_, [], ⟨p, s, o, t, hm7⟩, rfl, hlen, (HX5.out.grow (gOwnT (gOwnT (gOwnT (gOwnT (gRefl _ _) 0 _) 1 _) 2 _) 3 _) (by omega)).mono (by omega), (((B5.out.setCell (by exact Nat.le_refl _) _).setCell (by exact Nat.le_refl _) _).setCell (by exact Nat.le_refl _) _).setCell (by exact Nat.le_refl _) _⟩

set_option maxRecDepth 100000 in
set_option maxHeartbeats 4000000 in
theorem drawTableDrop_any (w : World) (a : Option Addr) (len cap : Nat) (hb : BytesIn w w.heap.size a len cap) :
    Calls Tryz.prog 23 #[.slice a len cap] w (TabRuleR w) := by
  have HB := Lib.hid ((hb.keep (w' := w.alloc (.cells #[.int .i64 0, .string ⟨#[]⟩, .int .i64 0, .int .i64 0] 25)) (fun k hk => Below.heap_alloc _ _ _ hk)).up (g' := w.heap.size + 1) (by omega))
  clear hb
  go_enter Tryz.func23, Tryz.ntmps23
  go_wp2_with fail
  refine (open_any _ _ _ _ (by simpa using HB.out)).mono ?_
  rintro e w1 ⟨rfl, hr, b1⟩
  have hr' : RdOk w1 (w.heap.size + 1) 0 := by simpa using hr
  have HR := Lib.hid hr'
  have s1 := HR.out.lt
  have R1 : Hid (w1.heap[w.heap.size]? = some (.cells #[.int .i64 0, .string ⟨#[]⟩, .int .i64 0, .int .i64 0] 25)) := (b1.block _ (by simp)).trans (newBlock w _)
  have B1 : Hid (Below w.heap.size w w1) := (below_alloc1 _ _).trans (b1.mono (by simp))
  clear hr hr' b1
  simp only [World.size_alloc]
  go_wp2_with fail
  refine (l91Table_any _ _ _ HR.out (by omega)).mono ?_
  rintro e w2 ⟨v, l, rfl, hrow, hlen, hr2, g2⟩
  have HXZ : Hid (RulRow w2 w1.heap.size v l) := hrow
  have HRZ := Lib.hid hr2
  have s2 := g2.size
  have RZ : Hid (w2.heap[w.heap.size]? = some (.cells #[.int .i64 0, .string ⟨#[]⟩, .int .i64 0, .int .i64 0] 25)) := (g2.block _ (by omega) (someNe (by omega))).trans R1.out
  have BZ : Hid (Below w.heap.size w w2) := B1.out.trans (gBel g2 (by omega) (by omega))
  clear hrow hr2 g2 R1 B1 HR
  obtain ⟨va, vc, rfl, hform⟩ : ∃ va vc, v = .slice va l.length vc ∧ (0 < l.length → ∃ gv, va = some ⟨gv, 0, none⟩) := by
    rcases HXZ.out.form with ⟨rfl, rfl⟩ | ⟨gv, c', rfl, -⟩
    · exact ⟨none, 0, rfl, fun h => absurd h (Nat.lt_irrefl _)⟩
    · exact ⟨_, c', rfl, fun _ => ⟨gv, rfl⟩⟩
  by_cases hz : 0 < l.length
  · obtain ⟨gv, rfl⟩ := hform hz
    have hzi : (0 : Int) < (l.length : Int) := by omega
    clear hform
    go_wp2_with fail
    refine (pick_any _ _ _ _ HRZ.out (by omega) (by omega)).mono ?_
    rintro e w3 ⟨x0, x1, x2, rfl, hr3, g3⟩
    have s3 := g3.size
    replace HRZ := Lib.hid hr3
    replace RZ : Hid (w3.heap[w.heap.size]? = some (.cells #[.int .i64 0, .string ⟨#[]⟩, .int .i64 0, .int .i64 0] 25)) := (g3.block _ (by omega) (someNe (by omega))).trans RZ.out
    replace BZ : Hid (Below w.heap.size w w3) := BZ.out.trans (gBel g3 (by omega) (by omega))
    replace HXZ : Hid (RulRow w3 w1.heap.size (.slice (some ⟨gv, 0, none⟩) l.length vc) l) := HXZ.out.grow g3 s1
    clear hr3 g3
    by_cases hy : 0 < x0
    · skip
      have HRD := Lib.hid (HRZ.out.keep (w' := w3.drew) fun _ _ => rfl)
      have HXD : Hid (RulRow w3.drew w1.heap.size (.slice (some ⟨gv, 0, none⟩) l.length vc) l) := HXZ.out.below (Below.refl _ _).drew
      have hgne : ¬ gv = w.heap.size := by have := (World.ownsRow.lt HXZ.out gv rfl).1; omega
      have hsz3 : w3.drew.heap.size = w3.heap.size := rfl
      go_wp2
      go_region_with (go_at_call 58; ((with_reducible refine (pick_any _ _ _ _ HRD.out (by omega) (by omega)).mono ?_); rintro e w4 ⟨y0, y1, y2, rfl, hr4, g4⟩; have s4 := g4.size; have RZ4 : Hid (w4.heap[w.heap.size]? = some (.cells #[.int .i64 0, .string ⟨#[]⟩, .int .i64 0, .int .i64 0] 25)) := ((g4.block _ (by omega) (someNe (by omega))).trans RZ.out); have BZ4 : Hid (Below w.heap.size w w4) := (BZ.out.drew.trans (gBel g4 (by omega) (by omega))); have HXZ4 : Hid (RulRow w4 w1.heap.size (.slice (some ⟨gv, 0, none⟩) l.length vc) l) := (HXD.out.grow g4 s1); obtain ⟨j, rfl⟩ : ∃ j : Nat, y0 = j := ⟨y0.toNat, by omega⟩; have hj : j < l.length := (by omega); clear hr4 g4; obtain ⟨c0, c1, c2, c3⟩ := (HXZ4.out.cells rfl).1 j hj; obtain ⟨ra, rb, rc, rd, rf⟩ := quad_cells RZ4.out; have HRS := Lib.hid (ruAt l j).hs))
      all_goals
        go_wp2
        exact bodyPost_ret (v := .tuple #[.slice (some ⟨gv, 0, none⟩) l.length vc, .agg #[.int .i64 (ruAt l j).p, .string (ruAt l j).s, .int .i64 (ruAt l j).o, .int .i64 (ruAt l j).t]]) (by simp [results, Tryz.results23, go_sem, ra, rb, rc, rd]) rfl
          ⟨_, l, ruAt l j, rfl, hlen, (HXZ4.out.grow (gOwnT (gOwnT (gOwnT (gOwnT (gRefl _ _) 0 _) 1 _) 2 _) 3 _) (by omega)).mono (by omega), (((BZ4.out.setCell (by exact Nat.le_refl _) _).setCell (by exact Nat.le_refl _) _).setCell (by exact Nat.le_refl _) _).setCell (by exact Nat.le_refl _) _⟩
    · skip
      go_wp2_with fail
      refine (l91Rule_any _ _ _ HRZ.out (by omega)).mono ?_
      rintro e w5 ⟨p, s, o, t, hn, rfl, hr5, g5⟩
      have hm7 : s.size ≤ 1048576 := by have := hn.2.1; omega
      have s5 := g5.size
      have R5 : Hid (w5.heap[w.heap.size]? = some (.cells #[.int .i64 0, .string ⟨#[]⟩, .int .i64 0, .int .i64 0] 25)) := (g5.block _ (by omega) (someNe (by omega))).trans RZ.out
      have B5 : Hid (Below w.heap.size w w5) := BZ.out.trans (gBel g5 (by omega) (by omega))
      have HX5 : Hid (RulRow w5 w1.heap.size (.slice (some ⟨gv, 0, none⟩) l.length vc) l) := HXZ.out.grow g5 s1
      clear hr5 hn g5 RZ BZ HXZ HRZ
      obtain ⟨ra, rb, rc, rd, rf⟩ := quad_cells R5.out
      go_wp2
      exact bodyPost_ret (v := .tuple #[.slice (some ⟨gv, 0, none⟩) l.length vc, .agg #[.int .i64 p, .string s, .int .i64 o, .int .i64 t]]) (by simp [results, Tryz.results23, go_sem, ra, rb, rc, rd]) rfl
        ⟨_, l, ⟨p, s, o, t, hm7⟩, rfl, hlen, (HX5.out.grow (gOwnT (gOwnT (gOwnT (gOwnT (gRefl _ _) 0 _) 1 _) 2 _) 3 _) (by omega)).mono (by omega), (((B5.out.setCell (by exact Nat.le_refl _) _).setCell (by exact Nat.le_refl _) _).setCell (by exact Nat.le_refl _) _).setCell (by exact Nat.le_refl _) _⟩
  · obtain rfl : l = [] := List.eq_nil_of_length_eq_zero (by omega)
    clear hform
    go_wp2_with fail
    refine (l91Rule_any _ _ _ HRZ.out (by omega)).mono ?_
    rintro e w5 ⟨p, s, o, t, hn, rfl, hr5, g5⟩
    have hm7 : s.size ≤ 1048576 := by have := hn.2.1; omega
    have s5 := g5.size
    have R5 : Hid (w5.heap[w.heap.size]? = some (.cells #[.int .i64 0, .string ⟨#[]⟩, .int .i64 0, .int .i64 0] 25)) := (g5.block _ (by omega) (someNe (by omega))).trans RZ.out
    have B5 : Hid (Below w.heap.size w w5) := BZ.out.trans (gBel g5 (by omega) (by omega))
    have HX5 : Hid (RulRow w5 w1.heap.size (.slice va ([] : List R4).length vc) []) := HXZ.out.grow g5 s1
    clear hr5 hn g5 RZ BZ HXZ HRZ
    obtain ⟨ra, rb, rc, rd, rf⟩ := quad_cells R5.out
    go_wp2
    exact bodyPost_ret (v := .tuple #[.slice va ([] : List R4).length vc, .agg #[.int .i64 p, .string s, .int .i64 o, .int .i64 t]]) (by simp [results, Tryz.results23, go_sem, ra, rb, rc, rd]) rfl
      ⟨_, [], ⟨p, s, o, t, hm7⟩, rfl, hlen, (HX5.out.grow (gOwnT (gOwnT (gOwnT (gOwnT (gRefl _ _) 0 _) 1 _) 2 _) 3 _) (by omega)).mono (by omega), (((B5.out.setCell (by exact Nat.le_refl _) _).setCell (by exact Nat.le_refl _) _).setCell (by exact Nat.le_refl _) _).setCell (by exact Nat.le_refl _) _⟩

end Go.Proofs.YtahobeigbjhbbaaGreatDoor
