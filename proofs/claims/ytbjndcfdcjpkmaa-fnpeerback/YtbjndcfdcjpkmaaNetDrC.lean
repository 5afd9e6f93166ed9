/-
  What the statements draw: a net, a switch and a port.
-/
import Derived.Test.YtbjndcfdcjpkmaaNetDr
import Derived.Test.YtbjndcfdcjpkmaaExtReg
namespace Go.Proofs.Ytbjndcfdcjpkmaa
open Go.ChangeShapes Go.WideShapes Go.ChangeAt Go.RowKit Go.Joins
set_option linter.unusedVariables false

/-- A net of the call's own, and two numbers. -/
def NetPeerR (w : World) (e : Ending) (w' : World) : Prop :=
  ∃ (v : Value) (l : List K4) (x y : Int), e = .returned (.tuple #[v, .int .i64 x, .int .i64 y]) ∧ l.length ≤ 9 ∧ LkRow w' w.heap.size v l ∧ Below w.heap.size w w'

set_option maxRecDepth 100000 in
set_option maxHeartbeats 4000000 in
theorem drawNetPeer_any (w : World) (a : Option Addr) (len cap : Nat) (hb : BytesIn w w.heap.size a len cap) :
    Calls Try.prog 29 #[.slice a len cap] w (NetPeerR w) := by
  have HB := Lib.hid hb
  clear hb
  go_enter Try.func29, Try.ntmps29
  go_wp2_with fail
  refine (open_any _ _ _ _ HB.out).mono ?_
  rintro e w1 ⟨rfl, hr, b1⟩
  have HR := Lib.hid hr
  have s1 := HR.out.lt
  have B1 := Lib.hid b1
  clear hr b1
  go_wp2_with fail
  refine (l92Net_any _ _ _ HR.out (by omega)).mono ?_
  rintro e w2 ⟨v, l, rfl, hrow, hlen, hr2, g2⟩
  have HROW := Lib.hid hrow
  have HR2 := Lib.hid hr2
  have G2 := Lib.hid g2
  obtain ⟨va, vc, rfl⟩ : ∃ va vc, v = .slice va l.length vc := by
    rcases hrow.form with ⟨rfl, rfl⟩ | ⟨_, _, rfl, -⟩ <;> exact ⟨_, _, rfl⟩
  clear hrow hr2 HR g2
  generalize hN : l.length = N at *
  have HN := Lib.hid hN
  clear hN
  have HEND : Hid (∀ (W : World) (x y : Int), LkRow W w1.heap.size (.slice va N vc) l → w1.grownBy W (some w.heap.size) → NetPeerR w (.returned (.tuple #[.slice va N vc, .int .i64 x, .int .i64 y])) W) := fun W x y hrow hg =>
    ⟨_, l, x, y, rfl, by have := HN.out; omega, hrow.mono (by omega), B1.out.trans (gBel hg (Nat.le_refl _) (by omega))⟩
  by_cases h0 : N = 0
  · subst h0
    go_wp2_with fail
    refine (pick_any _ _ _ _ HR2.out (by omega) (by omega)).mono ?_
    rintro e w3 ⟨x0, x1, x2, rfl, hr3, g3⟩
    have HR3 := Lib.hid hr3
    have G3 := Lib.hid (gTrans G2.out g3)
    have HROW3 := Lib.hid (HROW.out.grow g3 s1)
    clear hr3 g3 HROW HR2 G2
    go_wp2_with fail
    refine (pick_any _ _ _ _ HR3.out (by omega) (by omega)).mono ?_
    rintro e w4 ⟨y0, y1, y2, rfl, hr4, g4⟩
    have G4 := Lib.hid (gTrans G3.out g4)
    have HROW4 := Lib.hid (HROW3.out.grow g4 s1)
    clear hr4 g4 HROW3 HR3 G3
    go_wp2
    exact bodyPost_ret (v := .tuple #[.slice va 0 vc, .int .i64 x0, .int .i64 y0]) (by simp [results, Try.results29, go_sem]) rfl (HEND.out _ _ _ HROW4.out G4.out)
  have hp : (0 : Int) < (N : Int) := by omega
  have hpn : 0 < N := by omega
  go_wp2_with fail
  refine (pick_any _ _ _ _ HR2.out (by omega) (by omega)).mono ?_
  rintro e w3 ⟨x0, x1, x2, rfl, hr3, g3⟩
  have HR3 := Lib.hid hr3
  have G3 := Lib.hid (gTrans G2.out g3)
  have HROW3 := Lib.hid (HROW.out.grow g3 s1)
  clear hr3 g3 HROW HR2 G2
  by_cases hx0 : x0 = 0
  · subst hx0
    go_wp2_with fail
    refine (pick_any _ _ _ _ HR3.out (by omega) (by omega)).mono ?_
    rintro e w4 ⟨y0, y1, y2, rfl, hr4, g4⟩
    have HR4 := Lib.hid hr4
    have G4 := Lib.hid (gTrans G3.out g4)
    have HROW4 := Lib.hid (HROW3.out.grow g4 s1)
    clear hr4 g4 HROW3 HR3 G3
    go_wp2_with fail
    refine (pick_any _ _ _ _ HR4.out (by omega) (by omega)).mono ?_
    rintro e w5 ⟨z0, z1, z2, rfl, hr5, g5⟩
    have G5 := Lib.hid (gTrans G4.out g5)
    have HROW5 := Lib.hid (HROW4.out.grow g5 s1)
    clear hr5 g5 HROW4 HR4 G4
    go_wp2
    exact bodyPost_ret (v := .tuple #[.slice va N vc, .int .i64 y0, .int .i64 z0]) (by simp [results, Try.results29, go_sem]) rfl (HEND.out _ _ _ HROW5.out G5.out)
  have hxp : (0 : Int) < x0 := by omega
  go_wp2_with fail
  refine (pick_any _ _ _ _ HR3.out (by omega) (by omega)).mono ?_
  rintro e w4 ⟨z, z1, z2, rfl, hr4, g4⟩
  have HR4 := Lib.hid hr4
  have G4 := Lib.hid (gTrans G3.out g4)
  have HROW4 := Lib.hid (HROW3.out.grow g4 s1)
  clear hr4 g4 HROW3 HR3 G3
  obtain ⟨k, rfl⟩ : ∃ k : Nat, z = (k : Int) := ⟨z.toNat, by omega⟩
  have hkn : k < N := by omega
  obtain ⟨b, hvb, hf⟩ : ∃ b, va = some ⟨b, 0, none⟩ ∧ FourK w4 b (k * 4) (lkAt l k) := by
    rcases HROW4.out.form with ⟨-, h'⟩ | ⟨b, cap', h, -⟩
    · have := HN.out
      rw [h'] at this
      simp at this
      omega
    · rw [HN.out] at h
      simp at h
      obtain ⟨rfl, rfl⟩ := h
      exact ⟨b, rfl, (HROW4.out.cells HN.out).1 k hkn⟩
  subst hvb
  obtain ⟨c0, c1, c2, c3⟩ := hf
  have s4 : Hid (w1.heap.size ≤ w4.heap.size) := G4.out.size
  generalize lkAt l k = x at *
  go_wp2_with fail
  have HA := Lib.hid (below_alloc1 w4 (.cells #[.int .i64 x.p, .int .i64 x.s, .int .i64 x.o, .int .i64 x.t] 44))
  have HF := Lib.hid (newFourK w4 x)
  have HROW5 := Lib.hid (HROW4.out.below HA.out)
  have HR5 := Lib.hid (HR4.out.alloc (.cells #[.int .i64 x.p, .int .i64 x.s, .int .i64 x.o, .int .i64 x.t] 44))
  have G5 := Lib.hid (gAlloc G4.out (.cells #[.int .i64 x.p, .int .i64 x.s, .int .i64 x.o, .int .i64 x.t] 44))
  have s5 : w4.heap.size < (w4.alloc (.cells #[.int .i64 x.p, .int .i64 x.s, .int .i64 x.o, .int .i64 x.t] 44)).heap.size := by simp
  have hs4 := s4.out
  clear HA HROW4 HR4 G4 c0 c1 c2 c3 s4
  generalize w4.alloc (.cells #[.int .i64 x.p, .int .i64 x.s, .int .i64 x.o, .int .i64 x.t] 44) = W5 at *
  generalize w4.heap.size = lb at *
  refine (pick_any _ _ _ _ HR5.out (by omega) (by omega)).mono ?_
  rintro e w6 ⟨y0, y1, y2, rfl, hr6, g6⟩
  have HROW6 := Lib.hid (HROW5.out.grow g6 s1)
  have G6 := Lib.hid (gTrans G5.out g6)
  have hf6 := HF.out.grown g6 s5 (fun e => by have := Option.some.inj e; omega)
  have hlb : lb < w6.heap.size := Nat.lt_of_lt_of_le s5 g6.size
  obtain ⟨f0, f1, f2, f3⟩ := hf6
  simp at f0 f1 f2 f3
  have k0 := fun m : Ext w6 => m.cell hlb f0
  have k1 := fun m : Ext w6 => m.cell hlb f1
  have k2 := fun m : Ext w6 => m.cell hlb f2
  have k3 := fun m : Ext w6 => m.cell hlb f3
  have HEN : Hid (∀ (w7 : World) (x y : Int), Below w6.heap.size w6 w7 → NetPeerR w (.returned (.tuple #[.slice (some ⟨b, 0, none⟩) N vc, .int .i64 x, .int .i64 y])) w7) := fun w7 x y hb => HEND.out w7 x y (HROW6.out.below hb) (gBelow G6.out hb (by have := G6.out.size; omega))
  clear hr6 g6 HF HROW5 HR5 G5 HROW6 G6 HEND f0 f1 f2 f3
  by_cases hy : y0 = 0
  · subst hy
    go_wp2_with fail
    refine wp_region_ext (w0 := w6) (by kernel_rfl) (by kernel_rfl) (Below.refl _ _) ?_
    repeat (go_big_quiet_step (fail))
    refine wpQuiet_nil ?_
    intro w7 hx7
    have HB7 := Lib.hid (ext_out hx7)
    clear hx7 k0 k1 k2 k3
    go_wp2
    exact bodyPost_ret (v := .tuple #[.slice (some ⟨b, 0, none⟩) N vc, .int .i64 x.p, .int .i64 x.s]) (by simp [results, Try.results29, go_sem]) rfl (HEN.out _ _ _ HB7.out)
  · have hy' : (y0 == 0) = false := by simpa using hy
    go_wp2_with fail
    refine wp_region_ext (w0 := w6) (by kernel_rfl) (by kernel_rfl) (Below.refl _ _) ?_
    repeat (go_big_quiet_step (fail))
    refine wpQuiet_nil ?_
    intro w7 hx7
    have HB7 := Lib.hid (ext_out hx7)
    clear hx7 k0 k1 k2 k3
    go_wp2
    exact bodyPost_ret (v := .tuple #[.slice (some ⟨b, 0, none⟩) N vc, .int .i64 x.o, .int .i64 x.t]) (by simp [results, Try.results29, go_sem]) rfl (HEN.out _ _ _ HB7.out)

end Go.Proofs.Ytbjndcfdcjpkmaa
