/-
  More of the texts that the statements draw: one that is cut, or has a sign more; one, and a head; two.
-/
import Derived.Test.YtddkpimmcmnogaaDoorPredDrawB
namespace Go.Proofs.YtddkpimmcmnogaaDoor
open Go.ChangeShapes Go.WideShapes Go.ChangeAt Go.RowKit Go.Joins
set_option linter.unusedVariables false

set_option maxRecDepth 100000 in
set_option maxHeartbeats 4000000 in
theorem drawPredOk_any (w : World) (a : Option Addr) (len cap : Nat) (hb : BytesIn w w.heap.size a len cap) :
    Calls Tryd.prog 35 #[.slice a len cap] w (FromP w) := by
  have HB := Lib.hid hb
  clear hb
  go_enter Tryd.func35, Tryd.ntmps35
  go_wp2_with fail
  refine (open_any _ _ _ _ HB.out).mono ?_
  rintro e w1 ⟨rfl, hr, b1⟩
  have HR := Lib.hid hr
  have s1 := hr.lt
  have z1 := b1.size
  clear hr
  go_wp2_with fail
  refine (l91Fine_any _ _ _ HR.out (by omega)).mono ?_
  rintro e w2 ⟨s, hs, rfl, hr2, g2⟩
  have HR2 := Lib.hid hr2
  have s2 := g2.size
  have G2 := Lib.hid g2
  clear hr2 g2
  go_wp2_with fail
  refine (pick_any _ _ _ _ HR2.out (by omega) (by omega)).mono ?_
  rintro e w3 ⟨v, v0, v1, rfl, hr3, g3⟩
  have HR3 := Lib.hid hr3
  have s3 := g3.size
  have G3 := Lib.hid (gTrans G2.out g3)
  clear hr3 g3 G2
  go_wp2_with fail
  refine (pick_any _ _ _ _ HR3.out (by omega) (by omega)).mono ?_
  rintro e w4 ⟨u, u0, u1, rfl, hr4, g4⟩
  have HR4 := Lib.hid hr4
  have s4 := g4.size
  have G4 := Lib.hid (gTrans G3.out g4)
  clear hr4 g4 G3
  have hvl : v ≤ (s.size : Int) := by omega
  obtain ⟨p, hp⟩ : ∃ p : ByteArray, p = s.extract 0 v.toNat := ⟨_, rfl⟩
  obtain ⟨q, hq⟩ : ∃ q : ByteArray, q = s.extract v.toNat s.size := ⟨_, rfl⟩
  have f1 : ∀ W : World, (Instr.slice 9 (.string s) none (some (.int .i64 v)) none).run Tryd.prog W = .ok (.string p) W := fun W => by
    rw [run_slice_string_to_if (P := Tryd.prog) W 9 s .i64 v Tryd.underlying9, if_pos ⟨v0, hvl⟩, hp]
  have f2 : ∀ W : World, (Instr.slice 9 (.string s) (some (.int .i64 v)) none none).run Tryd.prog W = .ok (.string q) W := fun W => by
    rw [run_slice_string_from_if (P := Tryd.prog) W 9 s .i64 v Tryd.underlying9, if_pos ⟨v0, hvl⟩, hq]
  have zp : p.size ≤ 24 := by rw [hp]; simp; omega
  have zpq : p.size + q.size ≤ 24 := by rw [hp, hq]; simp; omega
  have zq : q.size ≤ 24 := by omega
  clear hp hq
  obtain rfl | hu0 := Decidable.em (u = 0)
  · go_wp2
    go_ret
    exact ⟨p, by omega, rfl, b1.trans (gBel G4.out (Nat.le_refl _) (by omega))⟩
  · obtain rfl | hu1 := Decidable.em (u = 1)
    · have HC := Lib.hid (listCells (xs := [⟨#[38]⟩, ⟨#[33]⟩, ⟨#[115]⟩, ⟨#[49]⟩]) (fun s => s.size = 1) (newBlock w4 (.cells #[.string ⟨#[38]⟩, .string ⟨#[33]⟩, .string ⟨#[115]⟩, .string ⟨#[49]⟩] 9)) (by simp; exact ⟨rfl, rfl, rfl, rfl⟩))
      have HO := Lib.hid (of_someP (w4.alloc (.cells #[.string ⟨#[38]⟩, .string ⟨#[33]⟩, .string ⟨#[115]⟩, .string ⟨#[49]⟩] 9)).drew w.heap.size (0 + 200 + 1 + 1) w4.heap.size 4 (fun s => s.size = 1) (rdDrewP (HR4.out.alloc _)) (by omega) (by omega) (by omega) (by omega) (by simp) HC.out)
      clear HC
      go_wp2_with fail
      go_region_held3 (fun w' => True) (trivial)
        (first
          | (go_at_call 58; ((with_reducible refine HO.out.mono ?_); rintro e w6 ⟨t', ht', rfl, hr6, g6⟩; have ht3 : t'.size ≤ 1 := Nat.le_of_eq ht'; have ht4 : ¬ (9223372036854775807 < p.size + t'.size) := (by omega); have ht5 : ¬ (9223372036854775807 < p.size + t'.size + q.size) := (by omega); clear ht')))
      have G6 := Lib.hid (gTrans (gAlloc G4.out _) (⟨g6.os, g6.tape, g6.output, g6.size, g6.block⟩ : (w4.alloc (.cells #[.string ⟨#[38]⟩, .string ⟨#[33]⟩, .string ⟨#[115]⟩, .string ⟨#[49]⟩] 9)).grownBy w6 (some w.heap.size)))
      clear hr6 g6 HO
      go_wp2
      go_ret
      exact ⟨_, by rw [ByteArray.size_append, ByteArray.size_append]; omega, rfl, b1.trans (gBel G6.out (Nat.le_refl _) (by omega))⟩
    · have e0 : (u == 0) = false := by simpa using hu0
      have e1 : (u == 1) = false := by simpa using hu1
      go_wp2
      go_ret
      exact ⟨s, by omega, rfl, b1.trans (gBel G4.out (Nat.le_refl _) (by omega))⟩

theorem belHeadP {n : Nat} {w v : World} (h : Below n w v) {r : Nat} (hr : n ≤ r) (a b c : Value) : Below n w (((v.setCell ⟨r, 0, none⟩ a).setCell ⟨r, 1, none⟩ b).setCell ⟨r, 2, none⟩ c) := ((h.setCell hr _).setCell hr _).setCell hr _

set_option maxRecDepth 100000 in
set_option maxHeartbeats 4000000 in
theorem drawPredHas_any (w : World) (a : Option Addr) (len cap : Nat) (hb : BytesIn w w.heap.size a len cap) :
    Calls Tryd.prog 36 #[.slice a len cap] w (HeadFromP w) := by
  have HB := Lib.hid ((hb.keep (w' := w.alloc (.cells #[.int .i64 0, .int .i64 0, .int .i64 0] 30)) (fun k hk => Below.heap_alloc _ _ _ hk)).up (g' := w.heap.size + 1) (by omega))
  clear hb
  go_enter Tryd.func36, Tryd.ntmps36
  go_wp2_with fail
  refine (open_any _ _ _ _ (by simpa using HB.out)).mono ?_
  rintro e w1 ⟨rfl, hr, b1⟩
  have hr' : RdOk w1 (w.heap.size + 1) 0 := by simpa using hr
  have HR := Lib.hid hr'
  have s1 := HR.out.lt
  have R1 : Hid (w1.heap[w.heap.size]? = some (.cells #[.int .i64 0, .int .i64 0, .int .i64 0] 30)) := (b1.block _ (by simp)).trans (newBlock w _)
  have B1 : Hid (Below w.heap.size w w1) := (below_alloc1 _ _).trans (b1.mono (by simp))
  clear hr hr' b1
  simp only [World.size_alloc]
  go_wp2_with fail
  refine (l91Fine_any _ _ _ HR.out (by omega)).mono ?_
  rintro e w2 ⟨s, hs, rfl, hr2, g2⟩
  have HR2 := Lib.hid hr2
  have s2 := g2.size
  have R2 : Hid (w2.heap[w.heap.size]? = some (.cells #[.int .i64 0, .int .i64 0, .int .i64 0] 30)) := (g2.block _ (by omega) (someNe (by omega))).trans R1.out
  have B2 : Hid (Below w.heap.size w w2) := B1.out.trans (gBel g2 (by omega) (by omega))
  clear hr2
  go_wp2_with fail
  refine (l91Head_any _ _ _ HR2.out (by omega)).mono ?_
  rintro e w3 ⟨x, y, z, hn, rfl, hr3, g3⟩
  have s3 := g3.size
  clear hr3 hn
  have R3 : Hid (w3.heap[w.heap.size]? = some (.cells #[.int .i64 0, .int .i64 0, .int .i64 0] 30)) := (g3.block _ (by omega) (someNe (by omega))).trans R2.out
  have B3 : Hid (Below w.heap.size w w3) := B2.out.trans (gBel g3 (by omega) (by omega))
  clear g2 g3 R1 R2 B1 B2 HR HR2
  obtain ⟨ra, rb, rc, rf⟩ := trip_cells R3.out
  go_wp2
  exact bodyPost_ret (v := .tuple #[.string s, .agg #[.int .i64 x, .int .i64 y, .int .i64 z]]) (by simp [results, Tryd.results36, go_sem, ra, rb, rc]) rfl
    ⟨s, x, y, z, by omega, rfl, belHeadP B3.out (Nat.le_refl _) _ _ _⟩

set_option maxRecDepth 100000 in
set_option maxHeartbeats 4000000 in
theorem drawPredSame_any (w : World) (a : Option Addr) (len cap : Nat) (hb : BytesIn w w.heap.size a len cap) :
    Calls Tryd.prog 33 #[.slice a len cap] w (TwoFromP w) := by
  have HB := Lib.hid hb
  clear hb
  go_enter Tryd.func33, Tryd.ntmps33
  go_wp2_with fail
  refine (open_any _ _ _ _ HB.out).mono ?_
  rintro e w1 ⟨rfl, hr, b1⟩
  have HR := Lib.hid hr
  have s1 := hr.lt
  have z1 := b1.size
  clear hr
  go_wp2_with fail
  refine (l91Fine_any _ _ _ HR.out (by omega)).mono ?_
  rintro e w2 ⟨s, hs, rfl, hr2, g2⟩
  have HR2 := Lib.hid hr2
  have s2 := g2.size
  have G2 := Lib.hid g2
  clear hr2 g2
  go_wp2_with fail
  refine (pick_any _ _ _ _ HR2.out (by omega) (by omega)).mono ?_
  rintro e w3 ⟨v, v0, v1, rfl, hr3, g3⟩
  have HR3 := Lib.hid hr3
  have s3 := g3.size
  have G3 := Lib.hid (gTrans G2.out g3)
  clear hr3 g3 G2
  have B3 := Lib.hid (b1.trans (gBel G3.out (Nat.le_refl _) (by omega)))
  obtain rfl | rfl | rfl | rfl : v = 0 ∨ v = 1 ∨ v = 2 ∨ v = 3 := by omega
  · go_wp2
    go_ret2
    exact ⟨s, _, by omega, by rw [ByteArray.size_append]; show 2 + _ ≤ _; omega, rfl, B3.out⟩
  · go_wp2
    go_ret2
    exact ⟨s, _, by omega, by rw [ByteArray.size_append, ByteArray.size_append]; show 1 + _ + 1 ≤ _; omega, rfl, B3.out⟩
  · go_wp2
    go_ret2
    exact ⟨s, _, by omega, by rw [ByteArray.size_append]; show 2 + _ ≤ _; omega, rfl, B3.out⟩
  · go_wp2_with fail
    refine (l91Fine_any _ _ _ HR3.out (by omega)).mono ?_
    rintro e w4 ⟨t, ht, rfl, hr4, g4⟩
    have B4 := Lib.hid (b1.trans (gBel (gTrans G3.out g4) (Nat.le_refl _) (by omega)))
    clear hr4 g4
    go_wp2
    go_ret2
    exact ⟨s, t, by omega, by omega, rfl, B4.out⟩

end Go.Proofs.YtddkpimmcmnogaaDoor
