/-
  How deep a condition is: what the program answers.
-/
import Derived.Test.YtddkpimmcmnogaaDoorPredImpl
namespace Go.Proofs.YtddkpimmcmnogaaDoor
open Go.ChangeShapes Go.WideShapes Go.ChangeAt Go.RowKit Go.Joins
set_option linter.unusedVariables false

set_option maxHeartbeats 1000000 in
theorem deep_none (s : ByteArray) (k : Nat) (caps : Array Value) (w : World) :
    Calls Tryd.prog 50 #[.agg #[.string s, .slice none 0 0, .func (.func k) #[] caps]] w fun e w' => e = .returned (.int .i64 1) ∧ Below w.heap.size w w' := by
  go_enter Tryd.func50, Tryd.ntmps50
  go_wp2_with fail
  refine wp_loop_rounds 1 ?_
  rw [rounds_succ]
  go_wp2
  go_ret
  exact ⟨rfl, by repeat (first | exact Below.refl _ _ | refine Below.alloc ?_ (by simp) _)⟩

set_option maxRecDepth 100000 in
set_option maxHeartbeats 4000000 in
theorem deep_one (s : ByteArray) (k : Nat) (caps : Array Value) (r cap : Nat) (t : ByteArray) (ad : Option Addr) (n1 c1 k1 : Nat) (caps1 : Array Value) (D : Int) (hD0 : 1 ≤ D) (hD : D ≤ 1000000000) (w : World)
    (e0 : w.cell? ⟨r, 0, none⟩ = some (.string t)) (e1 : w.cell? ⟨r, 1, none⟩ = some (.slice ad n1 c1)) (e2 : w.cell? ⟨r, 2, none⟩ = some (.func (.func k1) #[] caps1))
    (ih : ∀ W : World, Below w.heap.size w W → Calls Tryd.prog 50 #[.agg #[.string t, .slice ad n1 c1, .func (.func k1) #[] caps1]] W fun e w' => e = .returned (.int .i64 D) ∧ Below W.heap.size W w') :
    Calls Tryd.prog 50 #[.agg #[.string s, .slice (some ⟨r, 0, none⟩) 1 cap, .func (.func k) #[] caps]] w fun e w' => e = .returned (.int .i64 (D + 1)) ∧ Below w.heap.size w w' := by
  have hr := World.block_lt_of_cell? _ _ e0
  have IH := Lib.hid ih
  clear ih
  go_enter Tryd.func50, Tryd.ntmps50
  go_wp2_with fail
  refine wp_loop_rounds 2 ?_
  rw [rounds_succ]
  go_wp2_with fail
  refine (IH.out _ (below_alloc2 _ _ _)).mono ?_
  rintro e w1 ⟨rfl, b1⟩
  have B1 : Hid (Below w.heap.size w w1) := (below_alloc2 _ _ _).trans (b1.mono (by simp; omega))
  clear b1 IH
  go_wp2_with fail
  all_goals
    first
    | (exfalso; omega)
    | (rw [rounds_succ]
       go_wp2
       go_ret
       exact ⟨ret_int (by omega), B1.out⟩)

set_option maxRecDepth 100000 in
set_option maxHeartbeats 4000000 in
theorem deep_two (s : ByteArray) (k : Nat) (caps : Array Value) (r cap : Nat) (t : ByteArray) (ad : Option Addr) (n1 c1 k1 : Nat) (caps1 : Array Value) (t' : ByteArray) (ad' : Option Addr) (n1' c1' k1' : Nat) (caps1' : Array Value) (D D' : Int) (hD0 : 1 ≤ D) (hD : D ≤ 1000000000) (hD0' : 1 ≤ D') (hD' : D' ≤ 1000000000) (w : World)
    (e0 : w.cell? ⟨r, 0, none⟩ = some (.string t)) (e1 : w.cell? ⟨r, 1, none⟩ = some (.slice ad n1 c1)) (e2 : w.cell? ⟨r, 2, none⟩ = some (.func (.func k1) #[] caps1))
    (d0 : w.cell? ⟨r, 3, none⟩ = some (.string t')) (d1 : w.cell? ⟨r, 4, none⟩ = some (.slice ad' n1' c1')) (d2 : w.cell? ⟨r, 5, none⟩ = some (.func (.func k1') #[] caps1'))
    (ih : ∀ W : World, Below w.heap.size w W → Calls Tryd.prog 50 #[.agg #[.string t, .slice ad n1 c1, .func (.func k1) #[] caps1]] W fun e w' => e = .returned (.int .i64 D) ∧ Below W.heap.size W w')
    (ih' : ∀ W : World, Below w.heap.size w W → Calls Tryd.prog 50 #[.agg #[.string t', .slice ad' n1' c1', .func (.func k1') #[] caps1']] W fun e w' => e = .returned (.int .i64 D') ∧ Below W.heap.size W w') :
    Calls Tryd.prog 50 #[.agg #[.string s, .slice (some ⟨r, 0, none⟩) 2 cap, .func (.func k) #[] caps]] w fun e w' => e = .returned (.int .i64 (max D D' + 1)) ∧ Below w.heap.size w w' := by
  have hr := World.block_lt_of_cell? _ _ e0
  have IH := Lib.hid ih
  have IH' := Lib.hid ih'
  clear ih ih'
  have D3 := Lib.hid d0
  have D4 := Lib.hid d1
  have D5 := Lib.hid d2
  clear d0 d1 d2
  go_enter Tryd.func50, Tryd.ntmps50
  go_wp2_with fail
  refine wp_loop_rounds 3 ?_
  rw [rounds_succ]
  go_wp2_with fail
  refine (IH.out _ (below_alloc2 _ _ _)).mono ?_
  rintro e w1 ⟨rfl, b1⟩
  have B1 : Hid (Below w.heap.size w w1) := (below_alloc2 _ _ _).trans (b1.mono (by simp; omega))
  have s1 := b1.size
  simp at s1
  clear b1 IH e0 e1 e2
  have f0 := cellLater D3.out B1.out
  have f1 := cellLater D4.out B1.out
  have f2 := cellLater D5.out B1.out
  have hr1 : r < w1.heap.size := by omega
  clear D3 D4 D5
  go_wp2_with fail
  all_goals
    first
    | (exfalso; omega)
    | (rw [rounds_succ]
       go_wp2_with fail
       refine (IH'.out _ (B1.out.alloc (by omega) _)).mono ?_
       rintro e w2 ⟨rfl, b2⟩
       have B2 : Hid (Below w.heap.size w w2) := (B1.out.alloc (by omega) _).trans (b2.mono (by simp; omega))
       clear b2 IH' f0 f1 f2 B1
       go_wp2_with fail
       all_goals
         rw [rounds_succ]
         go_wp2
         go_ret
         exact ⟨ret_int (by omega), B2.out⟩)

/-- How deep: at every condition in memory. -/
theorem deep_any : ∀ (c : Cnd) (w : World) (base : Nat) (x0 x1 x2 : Value) (hR : CRep w base c x0 x1 x2) (hl : c.txt.length ≤ 1048576),
    Calls Tryd.prog 50 #[.agg #[x0, x1, x2]] w fun e w' => e = .returned (.int .i64 (c.deep : Int)) ∧ Below w.heap.size w w'
  | .one b, w, base, x0, x1, x2, hR, hl => by
    obtain ⟨k, caps, rfl, _⟩ := hR.fn
    obtain ⟨rfl, rfl, _⟩ := hR
    exact deep_none _ k caps w
  | .fld k d, w, base, x0, x1, x2, hR, hl => by
    obtain ⟨k, caps, rfl, _⟩ := hR.fn
    obtain ⟨rfl, rfl, _⟩ := hR
    exact deep_none _ k caps w
  | .neg a, w, base, x0, x1, x2, hR, hl => by
    obtain ⟨k, caps, rfl, _⟩ := hR.fn
    obtain ⟨rfl, ⟨r, cap, rfl, hb, y0, y1, y2, e0, e1, e2, ha⟩, _⟩ := hR
    obtain ⟨ad, n1, c1, k1, caps1, rfl, rfl, rfl⟩ := ha.form
    simp [Cnd.txt] at hl
    have hd := a.deep_le
    exact deep_one _ k caps r cap _ ad n1 c1 k1 caps1 (a.deep : Int) (by have := a.deep_pos; omega) (by omega) w e0 e1 e2 fun W hW => deep_any a W base _ _ _ (CRep.later (Ag.of hW (Nat.le_refl _)) ha) (by omega)
  | .two q a b, w, base, x0, x1, x2, hR, hl => by
    obtain ⟨k, caps, rfl, _⟩ := hR.fn
    obtain ⟨rfl, ⟨r, cap, rfl, hb, ⟨y0, y1, y2, e0, e1, e2, ha⟩, z0, z1, z2, d0, d1, d2, hb'⟩, _⟩ := hR
    obtain ⟨ad, n1, c1, k1, caps1, rfl, rfl, rfl⟩ := ha.form
    obtain ⟨ad', n1', c1', k1', caps1', rfl, rfl, rfl⟩ := hb'.form
    simp [Cnd.txt] at hl
    have hd := a.deep_le
    have hd' := b.deep_le
    refine (deep_two _ k caps r cap _ ad n1 c1 k1 caps1 _ ad' n1' c1' k1' caps1' (a.deep : Int) (b.deep : Int) (by have := a.deep_pos; omega) (by omega) (by have := b.deep_pos; omega) (by omega) w e0 e1 e2 d0 d1 d2 (fun W hW => deep_any a W base _ _ _ (CRep.later (Ag.of hW (Nat.le_refl _)) ha) (by omega)) fun W hW => deep_any b W base _ _ _ (CRep.later (Ag.of hW (Nat.le_refl _)) hb') (by omega)).mono ?_
    rintro e w1 ⟨rfl, b1⟩
    refine ⟨?_, b1⟩
    congr 2
    simp only [Cnd.deep]
    omega

/-- How deep a text is. -/
def deepL (l : List UInt8) : Int := match whole l with
  | some c => (c.deep : Int)
  | none => 0

set_option maxHeartbeats 1000000 in
theorem iPredDeep_any (l : List UInt8) (hl : l.length ≤ 1048576) (ep : Addr) (w : World) (hE : w.cell? ⟨0, 0, none⟩ = some (errV ep)) :
    Calls Tryd.prog 28 #[.string (bs l)] w fun e w' => e = .returned (.int .i64 (deepL l)) ∧ Below w.heap.size w w' := by
  have hg := World.block_lt_of_cell? _ _ hE
  have HE : Hid (∀ W : World, Below w.heap.size w W → W.cell? ⟨0, 0, none⟩ = some (.iface 126 (.pointer (some ep)))) := fun W hb => cellLater hE hb
  unfold deepL
  cases hw : whole l with
  | some c =>
    obtain ⟨rfl, hk, h16⟩ := whole_some hw
    have HC := Lib.hid (readPred_yes c hk h16 ep w hE)
    unfold Whole at HC
    have HD : Hid (∀ (W : World) (base : Nat) (x0 x1 x2 : Value), CRep W base c x0 x1 x2 → Calls Tryd.prog 50 #[.agg #[x0, x1, x2]] W fun e w' => e = .returned (.int .i64 (c.deep : Int)) ∧ Below W.heap.size W w') := fun W base x0 x1 x2 hR => deep_any c W base x0 x1 x2 hR hl
    clear hE hw hl h16 hk
    generalize bs c.txt = s at *
    show Calls _ _ _ _ _
    simp only
    generalize (c.deep : Int) = D at *
    go_enter Tryd.func28, Tryd.ntmps28
    go_wp2_with fail
    refine HC.out.mono ?_
    rintro e w1 ⟨ad, n1, c1, k1, caps, rfl, hR, b1⟩
    have hE1 := HE.out _ b1
    have hs1 := b1.size
    have hg1 : 0 < w1.heap.size := by omega
    have HR := Lib.hid hR
    have B1 := Lib.hid b1
    clear hR HC b1
    go_wp2_with fail
    refine (is_nil _ _).mono ?_
    rintro e w2 ⟨rfl, rfl⟩
    go_wp2_with fail
    refine (HD.out _ _ _ _ _ (CRep.later (Ag.of (below_alloc1 _ _) (Nat.le_refl _)) HR.out)).mono ?_
    rintro e w3 ⟨rfl, b3⟩
    go_wp2
    go_ret
    exact ⟨rfl, (B1.out.alloc (by omega) _).trans (b3.mono (by simp; omega))⟩
  | none =>
    have HC := Lib.hid (readPred_no l hw hl ep w hE)
    unfold NoWhole errV at HC
    clear hE hw hl
    generalize bs l = s at *
    go_enter Tryd.func28, Tryd.ntmps28
    go_wp2_with fail
    refine HC.out.mono ?_
    rintro e w1 ⟨rfl, b1⟩
    have hE1 := HE.out _ b1
    have hg1 : 0 < w1.heap.size := by have := b1.size; omega
    have B1 := Lib.hid b1
    clear HC b1
    go_wp2_with fail
    refine (is_same _ _).mono ?_
    rintro e w2 ⟨rfl, rfl⟩
    go_wp2
    go_ret
    exact ⟨rfl, by repeat (first | exact B1.out | refine Below.drew ?_ | refine Below.alloc ?_ (by have := B1.out.size; omega) _)⟩

end Go.Proofs.YtddkpimmcmnogaaDoor
