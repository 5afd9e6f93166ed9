/-
  What the program's reading of conditions returns: at every text.
-/
import Derived.Test.YtddkpimmcmnogaaDoorPredFirstB
namespace Go.Proofs.YtddkpimmcmnogaaDoor
open Go.ChangeShapes Go.WideShapes Go.ChangeAt Go.RowKit Go.Joins
set_option linter.unusedVariables false

set_option maxRecDepth 100000 in
set_option maxHeartbeats 8000000 in
theorem readComp_fail2 (k : UInt8) (a : Cnd) (r : List UInt8) (hl : a.txt.length + r.length ≤ 1048576) (ep : Addr) (w : World) (hE : w.cell? ⟨0, 0, none⟩ = some (errV ep))
    (hA : ∀ W : World, W.cell? ⟨0, 0, none⟩ = some (errV ep) → Calls Tryd.prog 61 #[.string (bs (a.txt ++ r))] W (Read a r W))
    (hB : ∀ W : World, W.cell? ⟨0, 0, none⟩ = some (errV ep) → Calls Tryd.prog 61 #[.string (bs r)] W (Fails ep W)) :
    Calls Tryd.prog 80 #[.string (bs (k :: (a.txt ++ r))), .int .i64 2] w (Fails ep w) := by
  have hg := World.block_lt_of_cell? _ _ hE
  have f2 := slice1 k (a.txt ++ r)
  have hs0 : 0 < (bs (k :: (a.txt ++ r))).size := by simp [bs_size]
  have hL : (bs (k :: (a.txt ++ r))).size ≤ 2000000 := by rw [bs_size]; simp; omega
  have HA : Hid (∀ W : World, Below w.heap.size w W → Calls Tryd.prog 61 #[.string (bs (a.txt ++ r))] W (Read a r W)) := fun W hb => hA W (cellLater hE hb)
  have HB : Hid (∀ W : World, Below w.heap.size w W → Calls Tryd.prog 61 #[.string (bs r)] W (Fails ep W)) := fun W hb => hB W (cellLater hE hb)
  obtain ⟨i0, hi, hz0, hz1, hz2⟩ := info_parts infoPred
  have HI := Lib.hid hi
  have HZ0 := Lib.hid hz0
  have HZ1 := Lib.hid hz1
  have HZ2 := Lib.hid hz2
  clear hA hB hi hz0 hz1 hz2 hE
  generalize bs (k :: (a.txt ++ r)) = s at *
  generalize bs (a.txt ++ r) = t at *
  unfold Read at HA
  unfold Fails errV at *
  generalize bs r = t2 at *
  go_enter Tryd.func80, Tryd.ntmps80
  go_wp2_with fail
  refine wp_loop_rounds 2 ?_
  rw [rounds_succ]
  go_wp2_with fail
  refine (HA.out _ (below_alloc1 _ _)).mono ?_
  rintro e w1 ⟨x0, x1, x2, rfl, hR, b1⟩
  have HR : Hid (CRep w1 (w.heap.size + 1) a x0 x1 x2) := by
    show CRep w1 (w.heap.size + 1) a x0 x1 x2
    simpa using hR
  obtain ⟨ad, n1, c1, k1, caps, rfl, rfl, rfl⟩ := hR.form
  have s1 := b1.size
  simp at s1
  have R1 : Hid (w1.heap[w.heap.size]? = some (.cells #[.string ⟨#[]⟩, .slice none 0 0, .nilFunc] 47)) := (b1.block _ (by simp)).trans (heap_alloc_new w _)
  have B1 : Hid (Below w.heap.size w w1) := (below_alloc1 _ _).trans (b1.mono (by simp))
  clear hR b1 HA
  generalize bs a.txt = ta at *
  go_wp2_with (at_builtin; refine wpList_append_own _ rfl _ _ 44 rfl w1.heap.size 47 i0 (.agg #[.string ⟨#[]⟩, .slice none 0 0, .nilFunc]) 3 48 Tryd.underlying44 HI.out HZ0.out HZ1.out HZ2.out rfl (by decide) _ _ _ rfl (World.ownsRow_nil _ _ _ _) ⟨w1.heap.size + 1, 0, none⟩ 1 1 [.string ta, .slice ad n1 c1, .func (.func k1) #[] caps] rfl rfl ?c1 ?c2 ?c3 ?c4 ?c5 ?_)
  case c1 =>
    intro j u hj
    match j, hj with
    | 0, hj => simp at hj; subst hj; simp [Addr.add]
    | 1, hj => simp at hj; subst hj; simp [Addr.add]
    | 2, hj => simp at hj; subst hj; simp [Addr.add]
  case c2 => intro u hu; simp at hu; rcases hu with rfl | rfl | rfl <;> rfl
  case c3 => unfold maxLen; omega
  case c4 => omega
  case c5 => simp; omega
  intro v' w5 hown5 hg5 hnil5
  clear hnil5
  have s5 := hg5.size
  simp at s5
  have B5 : Hid (Below w1.heap.size w1 w5) := (below_alloc2 _ _ _).trans ⟨hg5.os, hg5.tape, hg5.output, hg5.size, fun i hi => hg5.block i (by simp; omega) (by simp [Value.ownBlock])⟩
  obtain ⟨g, cap, rfl, hgb, hgl, -⟩ := rowOne hown5
  have HO5 := Lib.hid hown5
  clear hown5 hg5
  go_wp2_with fail
  rw [rounds_succ]
  go_wp2_with fail
  refine (HB.out _ (B1.out.trans (B5.out.mono (by omega)))).mono ?_
  rintro e w7 ⟨rfl, b7⟩
  have s7 := b7.size
  have R7 : Hid (w7.heap[w.heap.size]? = some (.cells #[.string ⟨#[]⟩, .slice none 0 0, .nilFunc] 47)) := (b7.block _ (by omega)).trans ((B5.out.block _ (by omega)).trans R1.out)
  have B7 : Hid (Below w.heap.size w w7) := B1.out.trans ((B5.out.mono (by omega)).trans (b7.mono (by omega)))
  obtain ⟨ra, rb, rc, rf⟩ := trioCellsP R7.out
  have z0 : w.heap.size < w7.heap.size := by omega
  have n0 : w.heap.size ≠ w7.heap.size := by omega
  clear b7 HB HO5 R7 R1 B1 B5
  go_wp2
  refine bodyPost_ret (v := .tuple #[.agg #[.string ⟨#[]⟩, .slice none 0 0, .nilFunc], .string ⟨#[]⟩, .iface 126 (.pointer (some ep))]) (by simp [results, Tryd.results80, go_sem, ra, rb, rc, z0]) rfl ?_
  exact ⟨rfl, by repeat (first | exact B7.out | refine Below.drew ?_ | refine Below.setCell ?_ (by first | exact Nat.le_refl _ | (simp; omega)) _ | refine Below.alloc ?_ (by first | omega | (simp; omega)) _)⟩

theorem byteNe {k : UInt8} {n : Nat} (hn : n < 256) (h : k ≠ UInt8.ofNat n) : ((k.toNat : Int) == (n : Int)) = false := by
  have : k.toNat ≠ n := fun e => h (by apply UInt8.toNat_inj.1; rw [e]; simp; omega)
  simp
  omega

set_option maxHeartbeats 1000000 in
theorem first_other (k : UInt8) (l : List UInt8) (hl : l.length ≤ 1048576) (h0 : k ≠ 48) (h1 : k ≠ 49) (hF : isF k = false) (h3 : k ≠ 33) (hT : isT k = false) (ep : Addr) (w : World) (hE : w.cell? ⟨0, 0, none⟩ = some (errV ep)) :
    Calls Tryd.prog 61 #[.string (bs (k :: l))] w (Fails ep w) := by
  have hg := World.block_lt_of_cell? _ _ hE
  have hs0 : 0 < (bs (k :: l)).size := by simp [bs_size]
  have hb1 : (bs (k :: l))[0]'hs0 = k := rfl
  have hq : ((bs (k :: l)).toList == []) = false := by rw [bs_toList]; rfl
  have hL : (bs (k :: l)).size ≤ 2000000 := by rw [bs_size]; simp; omega
  have n0 : ((k.toNat : Int) == 48) = false := byteNe (n := 48) (by omega) h0
  have n1 : ((k.toNat : Int) == 49) = false := byteNe (n := 49) (by omega) h1
  have n2 : ((k.toNat : Int) == 115) = false := byteNe (n := 115) (by omega) (by rintro rfl; cases hF)
  have n3 : ((k.toNat : Int) == 100) = false := byteNe (n := 100) (by omega) (by rintro rfl; cases hF)
  have n4 : ((k.toNat : Int) == 116) = false := byteNe (n := 116) (by omega) (by rintro rfl; cases hF)
  have n5 : ((k.toNat : Int) == 33) = false := byteNe (n := 33) (by omega) h3
  have n6 : ((k.toNat : Int) == 38) = false := byteNe (n := 38) (by omega) (by rintro rfl; cases hT)
  have n7 : ((k.toNat : Int) == 124) = false := byteNe (n := 124) (by omega) (by rintro rfl; cases hT)
  clear h0 h1 hF h3 hT hl
  unfold Fails errV at *
  generalize bs (k :: l) = s at *
  go_enter Tryd.func61, Tryd.ntmps61
  go_wp2_with fail
  go_region
  go_wp2
  refine bodyPost_ret (v := .tuple #[.agg #[.string ⟨#[]⟩, .slice none 0 0, .nilFunc], .string ⟨#[]⟩, .iface 126 (.pointer (some ep))]) (by simp [results, Tryd.results61, go_sem]) rfl ?_
  exact ⟨rfl, (below_alloc1 _ _).drew⟩

set_option maxHeartbeats 1000000 in
theorem first_nil (ep : Addr) (w : World) (hE : w.cell? ⟨0, 0, none⟩ = some (errV ep)) :
    Calls Tryd.prog 61 #[.string (bs [])] w (Fails ep w) := by
  have hg := World.block_lt_of_cell? _ _ hE
  have hq : ((bs []).toList == []) = true := by rw [bs_toList]; rfl
  unfold Fails errV at *
  generalize bs [] = s at *
  go_enter Tryd.func61, Tryd.ntmps61
  go_wp2_with fail
  go_region
  go_wp2
  refine bodyPost_ret (v := .tuple #[.agg #[.string ⟨#[]⟩, .slice none 0 0, .nilFunc], .string ⟨#[]⟩, .iface 126 (.pointer (some ep))]) (by simp [results, Tryd.results61, go_sem]) rfl ?_
  exact ⟨rfl, (below_alloc1 _ _).drew⟩

/-- Every condition is read. -/
theorem first_yes (ep : Addr) : ∀ (c : Cnd) (hk : c.ok = true) (r : List UInt8) (hl : c.txt.length + r.length ≤ 1048576) (w : World) (hE : w.cell? ⟨0, 0, none⟩ = some (errV ep)),
    Calls Tryd.prog 61 #[.string (bs (c.txt ++ r))] w (Read c r w)
  | .one b, hk, r, hl, w, hE => by
    simp [Cnd.txt] at hl
    cases b
    · exact first_one 48 false (.inl ⟨rfl, rfl⟩) r (by omega) w
    · exact first_one 49 true (.inr ⟨rfl, rfl⟩) r (by omega) w
  | .fld k d, hk, r, hl, w, hE => by
    simp [Cnd.ok] at hk
    simp [Cnd.txt] at hl
    exact first_fld_yes k (d :: r) (by simp; omega) hk.1 _ _ w fun W hb => readFieldPred_yes k d hk.1 hk.2 r (by omega) W
  | .neg a, hk, r, hl, w, hE => by
    simp [Cnd.txt] at hl
    refine first_neg_yes 33 (a.txt ++ r) (by simp; omega) rfl _ _ w fun W hb => readComp_neg a r (by omega) ep W (cellLater hE hb) fun W' hE' => first_yes ep a hk r (by omega) W' hE'
  | .two k a b, hk, r, hl, w, hE => by
    simp [Cnd.ok] at hk
    simp [Cnd.txt] at hl
    rw [show (Cnd.two k a b).txt ++ r = k :: (a.txt ++ (b.txt ++ r)) from by simp [Cnd.txt]]
    refine first_two_yes k (a.txt ++ (b.txt ++ r)) (by simp; omega) hk.1 _ _ w fun W hb => readComp_two k hk.1 a b r (by omega) ep W (cellLater hE hb) (fun W' hE' => first_yes ep a hk.2.1 (b.txt ++ r) (by simp; omega) W' hE') fun W' hE' => first_yes ep b hk.2.2 r (by omega) W' hE'

/-- What begins with none is told. -/
theorem first_no (ep : Addr) : ∀ (n : Nat) (l : List UInt8) (hn : l.length ≤ n) (h : rd l = none) (hl : l.length ≤ 1048576) (w : World) (hE : w.cell? ⟨0, 0, none⟩ = some (errV ep)),
    Calls Tryd.prog 61 #[.string (bs l)] w (Fails ep w)
  | n, [], hn, h, hl, w, hE => first_nil ep w hE
  | 0, k :: l, hn, h, hl, w, hE => by simp at hn
  | n + 1, k :: l, hn, h, hl, w, hE => by
    simp at hn hl
    by_cases h0 : k = 48
    · exact (rd_one (.inl h0) h).elim
    by_cases h1 : k = 49
    · exact (rd_one (.inr h1) h).elim
    cases hF : isF k
    · by_cases h3 : k = 33
      · subst h3
        exact first_neg_no 33 l (by omega) rfl ep w fun W hb => readComp_fail1 33 l (by omega) 1 (by omega) ep W (cellLater hE hb) fun W' hE' => first_no ep n l hn (rd_neg h) (by omega) W' hE'
      · cases hT : isT k
        · exact first_other k l (by omega) h0 h1 hF h3 hT ep w hE
        · rcases rd_two hT h with h2 | ⟨a, r, rfl, hka, h2⟩
          · exact first_two_no k l (by omega) hT ep w fun W hb => readComp_fail1 k l (by omega) 2 (by omega) ep W (cellLater hE hb) fun W' hE' => first_no ep n l hn h2 (by omega) W' hE'
          · have hal : a.txt.length + r.length ≤ 1048576 := by simpa using (by omega : (a.txt ++ r).length ≤ 1048576)
            have har : r.length ≤ n := by have := a.txt_pos; simp at hn; omega
            exact first_two_no k (a.txt ++ r) (by simp; omega) hT ep w fun W hb => readComp_fail2 k a r hal ep W (cellLater hE hb) (fun W' hE' => first_yes ep a hka r hal W' hE') fun W' hE' => first_no ep n r har h2 (by omega) W' hE'
    · rcases rd_fld hF h with rfl | ⟨d, r, rfl, hd⟩
      · exact first_fld_no k [] (by simp) hF ep w fun W hb => readFieldPred_short k _ ep W (cellLater hE hb)
      · exact first_fld_no k (d :: r) (by omega) hF ep w fun W hb => readFieldPred_bad k d hd r (by simp at hl; omega) _ ep W (cellLater hE hb)

end Go.Proofs.YtddkpimmcmnogaaDoor
