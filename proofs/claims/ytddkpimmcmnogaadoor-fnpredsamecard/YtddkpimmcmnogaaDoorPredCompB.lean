/-
  What the program's reading of a condition that is made of two others returns, and of one that has a part that is none.
-/
import Derived.Test.YtddkpimmcmnogaaDoorPredComp
namespace Go.Proofs.YtddkpimmcmnogaaDoor
open Go.ChangeShapes Go.WideShapes Go.ChangeAt Go.RowKit Go.Joins
set_option linter.unusedVariables false

theorem rowBelow {w w' : World} {base n : Nat} {v : Value} {xs : List Value} (h : w.ownsRow base 47 3 v n xs) (hb : Below w.heap.size w w') : w'.ownsRow base 47 3 v n xs :=
  World.ownsRow.kept h (row := none) ⟨hb.os, hb.tape, hb.output, hb.size, fun k hk _ => hb.block k hk⟩ (by cases v.ownBlock <;> simp)

set_option maxRecDepth 100000 in
set_option maxHeartbeats 8000000 in
theorem readComp_two (k : UInt8) (hk : isT k = true) (a b : Cnd) (r : List UInt8) (hl : a.txt.length + (b.txt.length + r.length) ≤ 1048576) (ep : Addr) (w : World) (hE : w.cell? ⟨0, 0, none⟩ = some (errV ep))
    (hA : ∀ W : World, W.cell? ⟨0, 0, none⟩ = some (errV ep) → Calls Tryd.prog 61 #[.string (bs (a.txt ++ (b.txt ++ r)))] W (Read a (b.txt ++ r) W))
    (hB : ∀ W : World, W.cell? ⟨0, 0, none⟩ = some (errV ep) → Calls Tryd.prog 61 #[.string (bs (b.txt ++ r))] W (Read b r W)) :
    Calls Tryd.prog 80 #[.string (bs (k :: (a.txt ++ (b.txt ++ r)))), .int .i64 2] w (Read (.two k a b) r w) := by
  have hg := World.block_lt_of_cell? _ _ hE
  have f2 := slice1 k (a.txt ++ (b.txt ++ r))
  have hsz : (bs (k :: (a.txt ++ (b.txt ++ r)))).size = a.txt.length + (b.txt.length + r.length) + 1 := by simp [bs_size]
  have hsr : (bs r).size = r.length := bs_size _
  have f3 : ∀ W : World, (Instr.slice 9 (.string (bs (k :: (a.txt ++ (b.txt ++ r))))) none (some (.int .i64 (((bs (k :: (a.txt ++ (b.txt ++ r)))).size : Int) - ((bs r).size : Int)))) none).run Tryd.prog W = .ok (.string (bs (Cnd.two k a b).txt)) W := fun W => by
    rw [hsz, hsr, show ((a.txt.length + (b.txt.length + r.length) + 1 : Nat) : Int) - (r.length : Int) = ((k :: (a.txt ++ b.txt)).length : Int) from by simp; omega, show k :: (a.txt ++ (b.txt ++ r)) = k :: (a.txt ++ b.txt) ++ r from by simp]
    exact sliceTo (k :: (a.txt ++ b.txt)) r W
  have hs0 : 0 < (bs (k :: (a.txt ++ (b.txt ++ r)))).size := by omega
  have hb1 : (bs (k :: (a.txt ++ (b.txt ++ r))))[0]'hs0 = k := rfl
  have hL : (bs (k :: (a.txt ++ (b.txt ++ r)))).size ≤ 2000000 := by omega
  have hu : (bs r).size ≤ (bs (k :: (a.txt ++ (b.txt ++ r)))).size := by omega
  have HA : Hid (∀ W : World, Below w.heap.size w W → Calls Tryd.prog 61 #[.string (bs (a.txt ++ (b.txt ++ r)))] W (Read a (b.txt ++ r) W)) := fun W hb => hA W (cellLater hE hb)
  have HB : Hid (∀ W : World, Below w.heap.size w W → Calls Tryd.prog 61 #[.string (bs (b.txt ++ r))] W (Read b r W)) := fun W hb => hB W (cellLater hE hb)
  obtain ⟨i0, hi, hz0, hz1, hz2⟩ := info_parts infoPred
  have HI := Lib.hid hi
  have HZ0 := Lib.hid hz0
  have HZ1 := Lib.hid hz1
  have HZ2 := Lib.hid hz2
  have hn33 : k ≠ 33 := by rcases isT_cases hk with rfl | rfl <;> decide
  have HF : Hid (∀ (p r cap : Nat) (y2 z2 : Value) (W : World), w.heap.size ≤ p → w.heap.size ≤ r → W.cell? ⟨p, 0, none⟩ = some (.slice (some ⟨r, 0, none⟩) 2 cap) → W.cell? ⟨r, 2, none⟩ = some y2 → W.cell? ⟨r, 5, none⟩ = some z2 → FnOk W w.heap.size y2 (evn a) → FnOk W w.heap.size z2 (evn b) →
      FnOk W w.heap.size (.func (.func (if k = 38 then 91 else 92)) #[] #[.pointer (some ⟨p, 0, none⟩)]) (evn (.two k a b))) :=
    fun p r cap y2 z2 W h1 h2 h3 h4 h5 h6 h7 => twoFn_ok k hk a b _ p r cap y2 z2 W h1 h2 h3 h4 h5 h6 h7
  have HC : Hid (∀ (x : Value) (ad : Option Addr) (n c : Nat) (_ : x = .slice ad n c) (W : World), Calls Tryd.prog 88 #[.int .u8 (k.toNat : Int), x] W fun e w' => e = .returned (.func (.func (if k = 38 then 91 else 92)) #[] #[.pointer (some ⟨W.heap.size, 0, none⟩)]) ∧
      w'.cell? ⟨W.heap.size, 0, none⟩ = some x ∧ Below W.heap.size W w') := fun x ad n c hx W => by
    have := compoundHolds_any k (.inr hk) x ad n c hx W
    rw [if_neg hn33] at this
    exact this
  clear hA hB hi hz0 hz1 hz2 hsz hsr hE hk hn33
  have HG : Hid (∀ (W : World) (x1 x2 : Value), (∃ r cap : Nat, x1 = .slice (some ⟨r, 0, none⟩) 2 cap ∧ w.heap.size ≤ r ∧ (∃ y0 y1 y2, W.cell? ⟨r, 0, none⟩ = some y0 ∧ W.cell? ⟨r, 1, none⟩ = some y1 ∧ W.cell? ⟨r, 2, none⟩ = some y2 ∧ CRep W w.heap.size a y0 y1 y2) ∧ ∃ z0 z1 z2, W.cell? ⟨r, 3, none⟩ = some z0 ∧ W.cell? ⟨r, 4, none⟩ = some z1 ∧ W.cell? ⟨r, 5, none⟩ = some z2 ∧ CRep W w.heap.size b z0 z1 z2) → FnOk W w.heap.size x2 (evn (.two k a b)) → CRep W w.heap.size (.two k a b) (.string (bs (Cnd.two k a b).txt)) x1 x2) :=
    fun W x1 x2 h1 h2 => ⟨rfl, h1, h2⟩
  generalize (if k = 38 then 91 else 92) = F at *
  generalize bs (Cnd.two k a b).txt = tw at *
  generalize bs (k :: (a.txt ++ (b.txt ++ r))) = s at *
  generalize bs (a.txt ++ (b.txt ++ r)) = t at *
  unfold Read at HA HB ⊢
  generalize bs (b.txt ++ r) = t2 at *
  generalize bs r = u at *
  have hk8 : k.toNat < 256 := k.toNat_lt
  go_enter Tryd.func80, Tryd.ntmps80
  go_wp2_with fail
  refine wp_loop_rounds 3 ?_
  rw [rounds_succ]
  go_wp2_with fail
  refine (HA.out _ (below_alloc1 _ _)).mono ?_
  rintro e w1 ⟨x0, x1, x2, rfl, hR, b1⟩
  have HR : Hid (CRep w1 (w.heap.size + 1) a x0 x1 x2) := by
    show CRep w1 (w.heap.size + 1) a x0 x1 x2
    simpa using hR
  obtain ⟨ad, n1, c1, k1, caps, rfl, rfl, rfl⟩ := hR.form
  have s1 := b1.size
  simp at s1
  have R1 : Hid (w1.heap[w.heap.size]? = some (.cells #[.string ⟨#[]⟩, .slice none 0 0, .nilFunc] 47)) := (b1.block _ (by simp)).trans (heap_alloc_new w _)
  have B1 : Hid (Below w.heap.size w w1) := (below_alloc1 _ _).trans (b1.mono (by simp))
  clear hR b1 HA
  generalize bs a.txt = ta at *
  go_wp2_with (at_builtin; refine wpList_append_own _ rfl _ _ 44 rfl w1.heap.size 47 i0 (.agg #[.string ⟨#[]⟩, .slice none 0 0, .nilFunc]) 3 48 Tryd.underlying44 HI.out HZ0.out HZ1.out HZ2.out rfl (by decide) _ _ _ rfl (World.ownsRow_nil _ _ _ _) ⟨w1.heap.size + 1, 0, none⟩ 1 1 [.string ta, .slice ad n1 c1, .func (.func k1) #[] caps] rfl rfl ?c1 ?c2 ?c3 ?c4 ?c5 ?_)
  case c1 =>
    intro j u hj
    match j, hj with
    | 0, hj => simp at hj; subst hj; simp [Addr.add]
    | 1, hj => simp at hj; subst hj; simp [Addr.add]
    | 2, hj => simp at hj; subst hj; simp [Addr.add]
  case c2 => intro u hu; simp at hu; rcases hu with rfl | rfl | rfl <;> rfl
  case c3 => unfold maxLen; omega
  case c4 => omega
  case c5 => simp; omega
  intro v' w5 hown5 hg5 hnil5
  clear hnil5
  have s5 := hg5.size
  simp at s5
  have B5 : Hid (Below w1.heap.size w1 w5) := (below_alloc2 _ _ _).trans ⟨hg5.os, hg5.tape, hg5.output, hg5.size, fun i hi => hg5.block i (by simp; omega) (by simp [Value.ownBlock])⟩
  obtain ⟨g, cap, rfl, hgb, hgl, -⟩ := rowOne hown5
  have HO5 := Lib.hid hown5
  clear hown5 hg5
  go_wp2_with fail
  rw [rounds_succ]
  go_wp2_with fail
  refine (HB.out _ (B1.out.trans (B5.out.mono (by omega)))).mono ?_
  rintro e w7 ⟨y0, y1, y2, rfl, hR2, b7⟩
  have HR2 := Lib.hid hR2
  obtain ⟨ad2, n2, c2, k2, caps2, rfl, rfl, rfl⟩ := hR2.form
  have s7 := b7.size
  have B7 := Lib.hid b7
  have HO7 : Hid (w7.ownsRow w1.heap.size 47 3 (.slice (some ⟨g, 0, none⟩) 1 cap) 1 [.string ta, .slice ad n1 c1, .func (.func k1) #[] caps]) := rowBelow HO5.out b7
  clear hR2 b7 HB HO5
  generalize bs b.txt = tb at *
  go_wp2_with (at_builtin; refine wpList_append_own _ rfl _ _ 44 rfl w1.heap.size 47 i0 (.agg #[.string ⟨#[]⟩, .slice none 0 0, .nilFunc]) 3 48 Tryd.underlying44 HI.out HZ0.out HZ1.out HZ2.out rfl (by decide) _ _ _ rfl ((HO7.out.alloc _).alloc _) ⟨w7.heap.size + 1, 0, none⟩ 1 1 [.string tb, .slice ad2 n2 c2, .func (.func k2) #[] caps2] rfl rfl ?c1 ?c2 ?c3 ?c4 ?c5 ?_)
  case c1 =>
    intro j u hj
    match j, hj with
    | 0, hj => simp at hj; subst hj; simp [Addr.add]
    | 1, hj => simp at hj; subst hj; simp [Addr.add]
    | 2, hj => simp at hj; subst hj; simp [Addr.add]
  case c2 => intro u hu; simp at hu; rcases hu with rfl | rfl | rfl <;> rfl
  case c3 => unfold maxLen; omega
  case c4 => omega
  case c5 => simp; omega
  intro v'' w9 hown9 hg9 hnil9
  clear hnil9
  have s9 := hg9.size
  simp at s9
  have O9 : Hid (∀ i, i < w7.heap.size → i ≠ g → w9.heap[i]? = w7.heap[i]?) := fun i hi hne =>
    (hg9.block i (by simp; omega) (by intro e; cases e; exact hne rfl)).trans ((Below.heap_alloc _ _ _ (by simp; omega)).trans (Below.heap_alloc _ _ _ hi))
  have B9 : Hid (Below w.heap.size w w9) := ⟨hg9.os.trans (B7.out.os.trans (B5.out.os.trans B1.out.os)), hg9.tape.trans (B7.out.tape.trans (B5.out.tape.trans B1.out.tape)), hg9.output.trans (B7.out.output.trans (B5.out.output.trans B1.out.output)), by omega,
    fun i hi => (O9.out i (by omega) (by omega)).trans ((B7.out.block i (by omega)).trans ((B5.out.block i (by omega)).trans (B1.out.block i hi)))⟩
  have A9 : Hid (Ag (w.heap.size + 1) w1 w9) := ⟨by omega, fun i h0 h1 => (O9.out i (by omega) (by omega)).trans ((B7.out.block i (by omega)).trans (B5.out.block i h1))⟩
  have A9' : Hid (Ag w5.heap.size w7 w9) := ⟨by omega, fun i h0 h1 => O9.out i h1 (by omega)⟩
  have R9 : Hid (w9.heap[w.heap.size]? = some (.cells #[.string ⟨#[]⟩, .slice none 0 0, .nilFunc] 47)) := (O9.out _ (by omega) (by omega)).trans ((B7.out.block _ (by omega)).trans ((B5.out.block _ (by omega)).trans R1.out))
  obtain ⟨g2, cap2, rfl, hgb2, hgl2, ⟨e0, e1, e2⟩, d0, d1, d2⟩ := rowTwo hown9
  have E0 := Lib.hid e0
  have E1 := Lib.hid e1
  have E2 := Lib.hid e2
  have D0 := Lib.hid d0
  have D1 := Lib.hid d1
  have D2 := Lib.hid d2
  clear hown9 hg9 e0 e1 e2 d0 d1 d2 O9 HO7 B7 B5 B1 R1
  go_wp2_with fail
  rw [rounds_succ]
  go_wp2_with fail
  refine (HC.out _ _ _ _ rfl _).mono ?_
  rintro e w6 ⟨rfl, hc6, b6⟩
  have s6 := b6.size
  have R6 : Hid (w6.heap[w.heap.size]? = some (.cells #[.string ⟨#[]⟩, .slice none 0 0, .nilFunc] 47)) := (b6.block _ (by omega)).trans R9.out
  have hlt := World.block_lt_of_cell? _ _ hc6
  simp at hlt
  have HC6 := Lib.hid hc6
  have A6 : Hid (Ag (w.heap.size + 1) w1 w6) := A9.out.trans (Ag.of b6 (Nat.le_refl _))
  have A6' : Hid (Ag w5.heap.size w7 w6) := A9'.out.trans (Ag.of b6 (Nat.le_refl _))
  have HB6 : Hid (Below w.heap.size w w6) := B9.out.trans (b6.mono (by omega))
  have K0 : Hid (w6.cell? ⟨g2, 0, none⟩ = some (.string ta)) := cellLater E0.out b6
  have K1 : Hid (w6.cell? ⟨g2, 1, none⟩ = some (.slice ad n1 c1)) := cellLater E1.out b6
  have K2 : Hid (w6.cell? ⟨g2, 2, none⟩ = some (.func (.func k1) #[] caps)) := cellLater E2.out b6
  have J0 : Hid (w6.cell? ⟨g2, 3, none⟩ = some (.string tb)) := cellLater D0.out b6
  have J1 : Hid (w6.cell? ⟨g2, 4, none⟩ = some (.slice ad2 n2 c2)) := cellLater D1.out b6
  have J2 : Hid (w6.cell? ⟨g2, 5, none⟩ = some (.func (.func k2) #[] caps2)) := cellLater D2.out b6
  obtain ⟨ra, rb, rc, rf⟩ := trioCellsP R6.out
  have hng : g2 ≠ w.heap.size := by omega
  have hnb : w9.heap.size ≠ w.heap.size := by omega
  clear hc6 b6 E0 E1 E2 D0 D1 D2 R6 R9 A9 A9' B9 HC
  go_wp2
  have AF : Ag (w.heap.size + 1) w6 (((w6.setCell ⟨w.heap.size, 0, none⟩ (.string tw)).setCell ⟨w.heap.size, 1, none⟩ (.slice (some ⟨g2, 0, none⟩) 2 cap2)).setCell ⟨w.heap.size, 2, none⟩ (.func (.func F) #[] #[.pointer (some ⟨w9.heap.size, 0, none⟩)])) :=
    (((Ag.refl _ _).set (by show w.heap.size < _; omega) _).set (by show w.heap.size < _; omega) _).set (by show w.heap.size < _; omega) _
  refine bodyPost_ret (v := .tuple #[.agg #[.string tw, .slice (some ⟨g2, 0, none⟩) 2 cap2, .func (.func F) #[] #[.pointer (some ⟨w9.heap.size, 0, none⟩)]], .string u, .nilIface]) (by simp [results, Tryd.results80, go_sem, ra, rb, rc]) rfl ?_
  have hRa := CRep.mono (base' := w.heap.size) (by omega) (CRep.later (A6.out.trans AF) HR.out)
  have hRb := CRep.mono (base' := w.heap.size) (by omega) (CRep.later (A6'.out.trans (AF.mono (by omega))) HR2.out)
  have k0 := cellAg K0.out (by omega) AF
  have k1' := cellAg K1.out (by omega) AF
  have k2' := cellAg K2.out (by omega) AF
  have j0 := cellAg J0.out (by omega) AF
  have j1 := cellAg J1.out (by omega) AF
  have j2 := cellAg J2.out (by omega) AF
  have k6 := cellAg HC6.out (by omega) AF
  exact ⟨_, _, _, rfl, HG.out _ _ _ ⟨g2, cap2, rfl, by omega, ⟨_, _, _, k0, k1', k2', hRa⟩, _, _, _, j0, j1, j2, hRb⟩ (HF.out _ g2 cap2 _ _ _ (by omega) (by omega) k6 k2' j2 hRa.fn hRb.fn),
    ((HB6.out.setCell (Nat.le_refl _) _).setCell (Nat.le_refl _) _).setCell (Nat.le_refl _) _⟩

end Go.Proofs.YtddkpimmcmnogaaDoor
