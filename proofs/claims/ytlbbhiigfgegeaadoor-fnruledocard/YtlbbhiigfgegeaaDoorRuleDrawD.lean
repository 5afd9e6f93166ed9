/-
  What the rule and the head are that the statements draw from a code.
-/
import Derived.Test.YtlbbhiigfgegeaaDoorRuleDrawB
import Derived.Test.YtlbbhiigfgegeaaDoorWildSpec
import Derived.Deep.RegionWith
import Derived.Deep.RegionHeld3
namespace Go.Proofs.YtlbbhiigfgegeaaDoor
open Go.ChangeShapes Go.WideShapes Go.ChangeAt Go.RowKit Go.Joins
set_option linter.unusedVariables false

/-- A rule and a head are drawn from a code. -/
def PairCoded (w : World) (e : Ending) (w' : World) : Prop := ∃ (p : Int) (s : ByteArray) (o t a b c : Int), SmallR p s o t ∧ Near a b c ∧ e = .returned (.tuple #[.agg #[.int .i64 p, .string s, .int .i64 o, .int .i64 t], .agg #[.int .i64 a, .int .i64 b, .int .i64 c]]) ∧ Below w.heap.size w w'

set_option maxHeartbeats 8000000 in
theorem drawRuleDo_any (w : World) (a : Option Addr) (len cap : Nat) (hb : BytesIn w w.heap.size a len cap) :
    Calls Tryd.prog 21 #[.slice a len cap] w (PairCoded w) := by
  have HB := Lib.hid ((hb.keep (w' := (w.alloc (.cells #[.int .i64 0, .string ⟨#[]⟩, .int .i64 0, .int .i64 0] 24)).alloc (.cells #[.int .i64 0, .int .i64 0, .int .i64 0] 33)) (fun k hk => (Below.heap_alloc _ _ _ (by simp; omega)).trans (Below.heap_alloc _ _ _ hk))).up (g' := w.heap.size + 1 + 1) (by omega))
  clear hb
  go_enter Tryd.func21, Tryd.ntmps21
  go_wp2_with fail
  refine (open_any _ _ _ _ (by simpa using HB.out)).mono ?_
  rintro e w1 ⟨rfl, hr, b1⟩
  have HR := Lib.hid hr
  have s1 := hr.lt
  clear hr
  simp at s1
  have r1 : Hid (w1.heap[w.heap.size]? = some (.cells #[.int .i64 0, .string ⟨#[]⟩, .int .i64 0, .int .i64 0] 24)) := (b1.block _ (by simp; omega)).trans ((Below.heap_alloc _ _ _ (by simp)).trans (newBlock w _))
  have k1 : Hid (w1.heap[w.heap.size + 1]? = some (.cells #[.int .i64 0, .int .i64 0, .int .i64 0] 33)) := (b1.block _ (by simp)).trans (by simpa using newBlock (w.alloc (.cells #[.int .i64 0, .string ⟨#[]⟩, .int .i64 0, .int .i64 0] 24)) _)
  have B1 : Hid (Below w.heap.size w w1) := (below_alloc2 _ _ _).trans (b1.mono (by simp; omega))
  clear b1
  go_wp2_with fail
  refine (l91Rule_any _ _ _ (by simpa using HR.out) (by omega)).mono ?_
  rintro e w2 ⟨p, s, o, t, hn, rfl, hr2, g2⟩
  have HN := Lib.hid hn
  have hm7 : s.size ≤ 1048576 := by have := hn.2.1; omega
  have s2 := g2.size
  have HR2 := Lib.hid (hr2.alloc (.cells #[.int .i64 p, .string s, .int .i64 o, .int .i64 t] 24))
  clear hr2 hn
  have r2 := Lib.hid ((g2.block _ (by omega) (someNe (by omega))).trans r1.out)
  have k2 := Lib.hid ((g2.block _ (by omega) (someNe (by omega))).trans k1.out)
  have B2 : Hid (Below w.heap.size w w2) := B1.out.trans (gBel g2 (by omega) (by omega))
  clear g2 r1 k1 B1 HR
  go_wp2_with fail
  refine (l91Head_any _ _ _ HR2.out (by omega)).mono ?_
  rintro e w3 ⟨x, y, z, hn', rfl, hr3, g3⟩
  have HN' := Lib.hid hn'
  have s3 := g3.size
  simp at s3
  have HR3 := Lib.hid (hr3.alloc (.cells #[.int .i64 x, .int .i64 y, .int .i64 z] 33))
  clear hr3 hn'
  have r3 := Lib.hid ((g3.block _ (by simp; omega) (someNe (by omega))).trans ((Below.heap_alloc _ _ _ (by omega)).trans r2.out))
  have k3 := Lib.hid ((g3.block _ (by simp; omega) (someNe (by omega))).trans ((Below.heap_alloc _ _ _ (by omega)).trans k2.out))
  have x3 := Lib.hid ((g3.block _ (by simp) (someNe (by omega))).trans (newBlock w2 (.cells #[.int .i64 p, .string s, .int .i64 o, .int .i64 t] 24)))
  have B3 : Hid (Below w.heap.size w w3) := (B2.out.alloc (by omega) _).trans (gBel g3 (by omega) (by simp; omega))
  clear g3 r2 k2 B2 HR2
  have m1 : w2.heap.size ≠ w.heap.size := by omega
  have m2 : w2.heap.size ≠ w.heap.size + 1 := by omega
  have m3 : w3.heap.size ≠ w.heap.size := by omega
  have m4 : w3.heap.size ≠ w.heap.size + 1 := by omega
  have m5 : w2.heap.size ≠ w3.heap.size := by omega
  have m6 : w3.heap.size ≠ w2.heap.size := by omega
  go_wp2
  go_loopw [7] (fun i wr => ∃ k : Nat, k ≤ 12 ∧ i = .int .i64 k ∧ (∃ x y z : Int, Near x y z ∧ wr.heap[w3.heap.size]? = some (.cells #[.int .i64 x, .int .i64 y, .int .i64 z] 33)) ∧ wr.heap[w2.heap.size]? = some (.cells #[.int .i64 p, .string s, .int .i64 o, .int .i64 t] 24) ∧ wr.heap[w.heap.size]? = some (.cells #[.int .i64 0, .string ⟨#[]⟩, .int .i64 0, .int .i64 0] 24) ∧ wr.heap[w.heap.size + 1]? = some (.cells #[.int .i64 0, .int .i64 0, .int .i64 0] 33) ∧ RdOk wr (w.heap.size + 1 + 1) (100 + 4 * k) ∧ Below w.heap.size w wr ∧ w3.heap.size < wr.heap.size) (fun i _ => 12 - (intOf i).toNat)
  case atStart =>
    exact ⟨0, by omega, rfl, ⟨x, y, z, HN'.out, newBlock w3 _⟩, (Below.heap_alloc _ _ _ (by omega)).trans x3.out, (Below.heap_alloc _ _ _ (by omega)).trans r3.out, (Below.heap_alloc _ _ _ (by omega)).trans k3.out, by simpa using (HR3.out.le (by omega)), B3.out.alloc (by omega) _, by simp⟩
  case round =>
    obtain ⟨k, hk, rfl, ⟨xh, yh, zh, hnear, hh⟩, hx, hr0, hk0, hrd, hbel, hsz⟩ := hrel
    have HH := Lib.hid hh
    have HX := Lib.hid hx
    have H0 := Lib.hid hr0
    have HK := Lib.hid hk0
    have HRD := Lib.hid hrd
    have HBL := Lib.hid hbel
    have HNr := Lib.hid hnear
    clear hh hx hr0 hk0 hrd hbel hnear
    by_cases hlt : k < 12
    · have hlt' : (k : Int) < 12 := by omega
      go_wp2_with fail
      refine (pick_any _ _ _ _ HRD.out (by omega) (by omega)).mono ?_
      rintro e w4 ⟨v, v0, v1, rfl, hr4, g4⟩
      have HR4 := Lib.hid hr4
      have s4 := g4.size
      clear hr4
      have H04 := Lib.hid ((g4.block _ (by omega) (someNe (by omega))).trans H0.out)
      have HK4 := Lib.hid ((g4.block _ (by omega) (someNe (by omega))).trans HK.out)
      have HX4 := Lib.hid ((g4.block _ (by omega) (someNe (by omega))).trans HX.out)
      have HH4 := Lib.hid ((g4.block _ (by omega) (someNe (by omega))).trans HH.out)
      have B4 : Hid (Below w.heap.size w w4) := HBL.out.trans (gBel g4 (by omega) (by have := HBL.out.size; omega))
      clear g4 H0 HK HX HH HBL HRD
      obtain ⟨ra, rb, rc, rd, rf⟩ := quad_cells H04.out
      obtain ⟨ka, kb, kc, kf⟩ := trip_cells HK4.out
      obtain ⟨xa, xb, xc, xd, xf⟩ := quad_cells HX4.out
      obtain ⟨ya, yb, yc, yf⟩ := trip_cells HH4.out
      by_cases hv : v = 0
      · subst hv
        go_wp2
        go_region_with (fail)
        all_goals
          go_wp2
          exact bodyPost_ret (v := .tuple #[.agg #[.int .i64 p, .string s, .int .i64 o, .int .i64 t], .agg #[.int .i64 xh, .int .i64 yh, .int .i64 zh]]) (by simp [results, Tryd.results21, go_sem, ra, rb, rc, rd, ka, kb, kc]) rfl
            ⟨p, s, o, t, xh, yh, zh, HN.out, HNr.out, rfl, ((((((((B4.out).setCell (by dsimp only; omega) _).setCell (by dsimp only; omega) _).setCell (by dsimp only; omega) _).setCell (by dsimp only; omega) _).setCell (by dsimp only; omega) _).setCell (by dsimp only; omega) _).setCell (by dsimp only; omega) _).drew⟩
      · have hv' : 0 < v := by omega
        go_wp2_with fail
        refine (sWildHas_any _ hm7 _ _ _ _).mono ?_
        rintro e w5 ⟨rfl, b5⟩
        have s5 := b5.size
        clear ra rb rc rd rf ka kb kc kf xa xb xc xd xf ya yb yc yf
        have H05 := Lib.hid ((b5.block _ (by omega)).trans H04.out)
        have HK5 := Lib.hid ((b5.block _ (by omega)).trans HK4.out)
        have HX5 := Lib.hid ((b5.block _ (by omega)).trans HX4.out)
        have HH5 := Lib.hid ((b5.block _ (by omega)).trans HH4.out)
        have HR5 := Lib.hid (HR4.out.below b5 (by omega))
        have B5 : Hid (Below w.heap.size w w5) := belStep B4.out b5
        clear b5 H04 HK4 HX4 HH4 HR4 B4
        obtain ⟨ra, rb, rc, rd, rf⟩ := quad_cells H05.out
        obtain ⟨ka, kb, kc, kf⟩ := trip_cells HK5.out
        obtain ⟨xa, xb, xc, xd, xf⟩ := quad_cells HX5.out
        obtain ⟨ya, yb, yc, yf⟩ := trip_cells HH5.out
        cases hasS s xh yh zh
        · go_wp2_with fail
          refine (l91Head_any _ _ _ HR5.out (by omega)).mono ?_
          rintro e w6 ⟨x', y', z', hn6, rfl, hr6, g6⟩
          have HN6 := Lib.hid hn6
          have HR6 := Lib.hid (hr6.le (B' := 100 + 4 * (k + 1)) (by omega))
          have s6 := g6.size
          clear hr6 hn6 ra rb rc rd rf ka kb kc kf xa xb xc xd xf ya yb yc yf
          have H06 := Lib.hid ((g6.block _ (by omega) (someNe (by omega))).trans H05.out)
          have HK6 := Lib.hid ((g6.block _ (by omega) (someNe (by omega))).trans HK5.out)
          have HX6 := Lib.hid ((g6.block _ (by omega) (someNe (by omega))).trans HX5.out)
          have HH6 := Lib.hid ((g6.block _ (by omega) (someNe (by omega))).trans HH5.out)
          have B6 : Hid (Below w.heap.size w w6) := B5.out.trans (gBel g6 (by omega) (by have := B5.out.size; omega))
          clear g6 H05 HK5 HX5 HH5 HR5 B5
          obtain ⟨ya, yb, yc, yf⟩ := trip_cells HH6.out
          go_wp2
          go_roundw
          case rel =>
            exact ⟨k + 1, by omega, by go_num, ⟨x', y', z', HN6.out, block_setCell (block_setCell (block_setCell HH6.out _) _) _⟩,
              (Below.heap_setCell _ _ _ _ (by dsimp only; omega)).trans ((Below.heap_setCell _ _ _ _ (by dsimp only; omega)).trans ((Below.heap_setCell _ _ _ _ (by dsimp only; omega)).trans HX6.out)),
              (Below.heap_setCell _ _ _ _ (by dsimp only; omega)).trans ((Below.heap_setCell _ _ _ _ (by dsimp only; omega)).trans ((Below.heap_setCell _ _ _ _ (by dsimp only; omega)).trans H06.out)),
              (Below.heap_setCell _ _ _ _ (by dsimp only; omega)).trans ((Below.heap_setCell _ _ _ _ (by dsimp only; omega)).trans ((Below.heap_setCell _ _ _ _ (by dsimp only; omega)).trans HK6.out)),
              ((HR6.out.setCell (by dsimp only; omega) _).setCell (by dsimp only; omega) _).setCell (by dsimp only; omega) _,
              ((B6.out.setCell (by dsimp only; omega) _).setCell (by dsimp only; omega) _).setCell (by dsimp only; omega) _, by simp; omega⟩
          case measure => simp [intOf]; omega
        · go_wp2
          go_region_with (fail)
          all_goals
            go_wp2
            exact bodyPost_ret (v := .tuple #[.agg #[.int .i64 p, .string s, .int .i64 o, .int .i64 t], .agg #[.int .i64 xh, .int .i64 yh, .int .i64 zh]]) (by simp [results, Tryd.results21, go_sem, ra, rb, rc, rd, ka, kb, kc]) rfl
              ⟨p, s, o, t, xh, yh, zh, HN.out, HNr.out, rfl, ((((((((B5.out).setCell (by dsimp only; omega) _).setCell (by dsimp only; omega) _).setCell (by dsimp only; omega) _).setCell (by dsimp only; omega) _).setCell (by dsimp only; omega) _).setCell (by dsimp only; omega) _).setCell (by dsimp only; omega) _).drew⟩
    · have hk12 : k = 12 := by omega
      subst hk12
      obtain ⟨ra, rb, rc, rd, rf⟩ := quad_cells H0.out
      obtain ⟨ka, kb, kc, kf⟩ := trip_cells HK.out
      obtain ⟨xa, xb, xc, xd, xf⟩ := quad_cells HX.out
      obtain ⟨ya, yb, yc, yf⟩ := trip_cells HH.out
      go_wp2
      go_region_with (fail)
      all_goals
        go_wp2
        exact bodyPost_ret (v := .tuple #[.agg #[.int .i64 p, .string s, .int .i64 o, .int .i64 t], .agg #[.int .i64 xh, .int .i64 yh, .int .i64 zh]]) (by simp [results, Tryd.results21, go_sem, ra, rb, rc, rd, ka, kb, kc]) rfl
          ⟨p, s, o, t, xh, yh, zh, HN.out, HNr.out, rfl, ((((((((HBL.out).setCell (by dsimp only; omega) _).setCell (by dsimp only; omega) _).setCell (by dsimp only; omega) _).setCell (by dsimp only; omega) _).setCell (by dsimp only; omega) _).setCell (by dsimp only; omega) _).setCell (by dsimp only; omega) _).drew⟩

end Go.Proofs.YtlbbhiigfgegeaaDoor
