/-
  The program's TablePut.
-/
import Derived.Test.YtahobeigbjhbbaaGreatDoorTabRules
import Derived.Test.YtahobeigbjhbbaaGreatDoorTabPutI
import Derived.Test.YtahobeigbjhbbaaGreatDoorTabPutF
namespace Go.Proofs.YtahobeigbjhbbaaGreatDoor
open Go.ChangeShapes Go.WideShapes Go.ChangeAt Go.RowKit Go.Joins
open Go.Shelf
set_option linter.unusedVariables false

/-- The list that TablePut gives, and its word. -/
def putT (r : R4) (l : List R4) : List R4 := bif tOk l && okR r then (bif decide (l.length < 48) then putF r l else l) else []
def putO (r : R4) (l : List R4) : Bool := tOk l && okR r && decide (l.length < 48) && !decide ((putF r l).length = l.length)

set_option maxRecDepth 100000 in
set_option maxHeartbeats 4000000 in
theorem iTablePut_any (w : World) (v : Value) (l : List R4) (h : Rls w w.heap.size v l) (hn : l.length ≤ 1048576) (r : R4) (hE : EtOk w) :
    Calls Tryz.prog 16 #[v, .agg #[.int .i64 r.p, .string r.s, .int .i64 r.o, .int .i64 r.t]] w fun e w' => ∃ u, e = .returned (.tuple #[u, .bool (putO r l)]) ∧ RulRow w' w.heap.size u (putT r l) ∧ Below w.heap.size w w' := by
  have HB0 := Lib.hid (below_alloc1 w (.cells #[.int .i64 r.p, .string r.s, .int .i64 r.o, .int .i64 r.t] 25))
  have HE := Lib.hid hE
  have HL : Hid (∀ W, Below w.heap.size w W → Rls W W.heap.size v l) := fun W hb => (h.below hb (Nat.le_refl _)).mono hb.size
  clear h hE
  obtain ⟨a, cap, rfl⟩ : ∃ a cap, v = .slice a l.length cap := by
    obtain ⟨a, cap, rfl, -⟩ := HL.out w (Below.refl _ _)
    exact ⟨a, cap, rfl⟩
  cases ht : tOk l
  · have HT : Hid (putT r l = [] ∧ putO r l = false) := by show _ ∧ _; simp [putT, putO, ht]
    rw [HT.out.1, HT.out.2]
    go_enter Tryz.func16, Tryz.ntmps16
    go_wp2_with fail
    refine (readTable_any _ _ l (HL.out _ HB0.out) hn (HE.out.below HB0.out)).mono ?_
    rintro e w1 ⟨g, rfl, hg, hlr, b1⟩
    rw [ht]
    unfold lstV
    have B1 := Lib.hid (belStep HB0.out b1)
    clear b1 hlr
    go_wp2
    exact bodyPost_ret (v := .tuple #[.slice none 0 0, .bool false]) (by simp [results, Tryz.results16, go_sem]) rfl ⟨_, rfl, ⟨rfl, .inl ⟨rfl, rfl⟩⟩, B1.out.alloc B1.out.size _⟩
  have h48 : l.length ≤ 48 := by
    have := ht
    simp [tOk] at this
    omega
  have HTB : Hid (∀ w1, Below (w.alloc (.cells #[.int .i64 r.p, .string r.s, .int .i64 r.o, .int .i64 r.t] 25)).heap.size (w.alloc (.cells #[.int .i64 r.p, .string r.s, .int .i64 r.o, .int .i64 r.t] 25)) w1 → Four w1 w.heap.size 0 r) := fun w1 hb => fourOf ((hb.block _ (by simp)).trans (newBlockM w _))
  cases ho : okR r
  · have HT : Hid (putT r l = [] ∧ putO r l = false) := by show _ ∧ _; simp [putT, putO, ho]
    rw [HT.out.1, HT.out.2]
    go_enter Tryz.func16, Tryz.ntmps16
    go_wp2_with fail
    refine (readTable_any _ _ l (HL.out _ HB0.out) hn (HE.out.below HB0.out)).mono ?_
    rintro e w1 ⟨g, rfl, hg, hlr, b1⟩
    rw [ht]
    unfold lstV
    obtain ⟨x0, x1, x2, x3⟩ := HTB.out _ b1
    simp only [Nat.zero_add] at x1 x2 x3
    have B1 := Lib.hid (belStep HB0.out b1)
    have s1 : w.heap.size < w1.heap.size := by have := b1.size; simp at this; omega
    clear b1 hlr
    go_wp2_with fail
    refine (iOk_at r _ ((HE.out.below B1.out).below (below_alloc1 _ _))).mono ?_
    rintro e w2 ⟨rfl, b2⟩
    rw [ho]
    have B2 := Lib.hid (b2.mono (show w.heap.size ≤ _ by simp; omega))
    clear b2
    go_wp2
    exact bodyPost_ret (v := .tuple #[.slice none 0 0, .bool false]) (by simp [results, Tryz.results16, go_sem]) rfl ⟨_, rfl, ⟨rfl, .inl ⟨rfl, rfl⟩⟩, (B1.out.alloc B1.out.size _).trans B2.out⟩
  have HT : Hid (putT r l = bif decide (l.length < 48) then putF r l else l) := by show _ = _; simp [putT, ht, ho]
  have HO : Hid (putO r l = (decide (l.length < 48) && !decide ((putF r l).length = l.length))) := by show _ = _; simp [putO, ht, ho]
  rw [HT.out, HO.out]
  by_cases h4 : l.length < 48
  · rw [decide_eq_true h4, cond_true, Bool.true_and]
    go_enter Tryz.func16, Tryz.ntmps16
    go_wp2_with fail
    refine (readTable_any _ _ l (HL.out _ HB0.out) hn (HE.out.below HB0.out)).mono ?_
    rintro e w1 ⟨g, rfl, hg, hlr, b1⟩
    rw [ht]
    have HLR := Lib.hid (hlr ht)
    unfold lstV
    obtain ⟨x0, x1, x2, x3⟩ := HTB.out _ b1
    simp only [Nat.zero_add] at x1 x2 x3
    have B1 := Lib.hid (belStep HB0.out b1)
    have s1 : w.heap.size < w1.heap.size := by have := b1.size; simp at this; omega
    clear b1 hlr
    go_wp2_with fail
    refine (iOk_at r _ ((HE.out.below B1.out).below (below_alloc1 _ _))).mono ?_
    rintro e w2 ⟨rfl, b2⟩
    rw [ho]
    have hl4 : (l.length : Int) < 48 := by omega
    obtain ⟨y0, y1, y2, y3⟩ := (show Four w1 w.heap.size 0 r by exact ⟨x0, by rw [Nat.zero_add]; exact x1, by rw [Nat.zero_add]; exact x2, by rw [Nat.zero_add]; exact x3⟩).below ((below_alloc1 w1 (lstO g)).trans (b2.mono (show w1.heap.size ≤ (w1.alloc (lstO g)).heap.size by simp))) s1
    simp only [Nat.zero_add] at y1 y2 y3
    have k2 : w2.heap[w1.heap.size]? = some (lstO g) := (b2.block _ (show w1.heap.size < (w1.alloc (lstO g)).heap.size by simp)).trans (newBlockM w1 _)
    obtain ⟨t0, t1, -⟩ := cells2 (show w2.heap[w1.heap.size]? = some (.cells #[.func (.func 102) #[] #[], .pointer (some ⟨g, 0, none⟩)] 75) from k2)
    have B12 : Below w1.heap.size w1 w2 := (below_alloc1 w1 (lstO g)).trans (b2.mono (show w1.heap.size ≤ (w1.alloc (lstO g)).heap.size by simp))
    have HLR2 := Lib.hid (HLR.out.below B12)
    have B2 := Lib.hid (B1.out.trans (B12.mono (by omega)))
    have HK2 := Lib.hid k2
    have s2 := B12.size
    clear b2 k2 B12
    go_wp2_with fail
    obtain ⟨f, hf⟩ := lr_root HLR2.out
    refine (put_any _ g l f r (by omega) ho (fun i hi => (chain_at l (by simpa [tOk, h48] using ht) i hi).1) hf (HE.out.below B2.out)).mono ?_
    rintro e w3 ⟨k, hst, rfl, hlr3, b3, hnk⟩
    have k3 := hnk _ _ HK2.out (fun x q hh => by simp [lstO, nodeO] at hh)
    obtain ⟨z0, z1, -⟩ := cells2 (show w3.heap[w1.heap.size]? = some (.cells #[.func (.func 102) #[] #[], .pointer (some ⟨g, 0, none⟩)] 75) from k3)
    have HLR3 : Hid (LR w3 g (putF r l)) := by show LR _ _ _; rw [putF_stand hst]; exact hlr3
    have HD : Hid ((putF r l).length ≤ 1000 ∧ (!decide ((putF r l).length = l.length)) = !decide (k < l.length ∧ cmR (ruAt l k) r = 0)) := by
      show _ ∧ _
      rw [putF_stand hst]
      cases hd : decide (k < l.length ∧ cmR (ruAt l k) r = 0)
      · have := insR_len l k r hst.1
        simp only [cond_false]
        refine ⟨by omega, ?_⟩
        rw [decide_eq_false (show ¬ (insR l k r).length = l.length by omega)]
      · simp only [cond_true]
        refine ⟨by omega, ?_⟩
        simp
    have s3 := b3.size
    have B3 := Lib.hid (B2.out.trans (b3.mono (show w.heap.size ≤ g by simp at hg; omega)))
    clear hlr3 b3 hnk k3 hf hst
    generalize decide (k < l.length ∧ cmR (ruAt l k) r = 0) = d at *
    go_wp2_with fail
    refine (tableRules_any _ g _ HD.out.1 HLR3.out).mono ?_
    rintro e w4 ⟨u, rfl, hrow, b4⟩
    have B4 := Lib.hid (B3.out.trans (b4.mono B3.out.size))
    have HROW := Lib.hid (hrow.mono B3.out.size)
    clear b4 hrow
    go_wp2
    exact bodyPost_ret (v := .tuple #[u, .bool !d]) (by simp [results, Tryz.results16, go_sem]) rfl ⟨_, by rw [HD.out.2], HROW.out, B4.out⟩
  · rw [decide_eq_false h4, cond_false, Bool.false_and]
    go_enter Tryz.func16, Tryz.ntmps16
    go_wp2_with fail
    refine (readTable_any _ _ l (HL.out _ HB0.out) hn (HE.out.below HB0.out)).mono ?_
    rintro e w1 ⟨g, rfl, hg, hlr, b1⟩
    rw [ht]
    have HLR := Lib.hid (hlr ht)
    unfold lstV
    obtain ⟨x0, x1, x2, x3⟩ := HTB.out _ b1
    simp only [Nat.zero_add] at x1 x2 x3
    have B1 := Lib.hid (belStep HB0.out b1)
    have s1 : w.heap.size < w1.heap.size := by have := b1.size; simp at this; omega
    clear b1 hlr
    go_wp2_with fail
    refine (iOk_at r _ ((HE.out.below B1.out).below (below_alloc1 _ _))).mono ?_
    rintro e w2 ⟨rfl, b2⟩
    rw [ho]
    have hl4 : ¬ (l.length : Int) < 48 := by omega
    have k2 : w2.heap[w1.heap.size]? = some (lstO g) := (b2.block _ (show w1.heap.size < (w1.alloc (lstO g)).heap.size by simp)).trans (newBlockM w1 _)
    obtain ⟨t0, t1, -⟩ := cells2 (show w2.heap[w1.heap.size]? = some (.cells #[.func (.func 102) #[] #[], .pointer (some ⟨g, 0, none⟩)] 75) from k2)
    have B12 : Below w1.heap.size w1 w2 := (below_alloc1 w1 (lstO g)).trans (b2.mono (show w1.heap.size ≤ (w1.alloc (lstO g)).heap.size by simp))
    have HLR2 := Lib.hid (HLR.out.below B12)
    have B3 := Lib.hid (B1.out.trans (B12.mono (by omega)))
    clear b2 k2 B12
    go_wp2_with fail
    refine (tableRules_any _ g _ (by omega) HLR2.out).mono ?_
    rintro e w4 ⟨u, rfl, hrow, b4⟩
    have B4 := Lib.hid (B3.out.trans (b4.mono B3.out.size))
    have HROW := Lib.hid (hrow.mono B3.out.size)
    clear b4 hrow
    go_wp2
    exact bodyPost_ret (v := .tuple #[u, .bool false]) (by simp [results, Tryz.results16, go_sem]) rfl ⟨_, rfl, HROW.out, B4.out⟩

end Go.Proofs.YtahobeigbjhbbaaGreatDoor
