/-
  The program's TablePut.
  The program's TableDrop.
  The model's TablePut.
  The model's TableDrop; the program's, by the same list.
  Tables, put and dropped: plain facts of the statements on them.
  The statements' own words on rules: two lists are the same; a rule is in a list.
-/
import Derived.Test.YtehgpehhpijkjaaGreatDoorTabRules
import Derived.Test.YtehgpehhpijkjaaGreatDoorTabN
import Derived.Test.YtehgpehhpijkjaaGreatDoorTabO
import Derived.Test.YtehgpehhpijkjaaGreatDoorTabSpec

namespace Go.Proofs.YtehgpehhpijkjaaGreatDoor
open Go.ChangeShapes Go.WideShapes Go.ChangeAt Go.RowKit Go.Joins
open Go.Shelf
set_option linter.unusedVariables false

/-- The list that TablePut gives, and its word. -/
def putT (r : R4) (l : List R4) : List R4 := bif tOk l && okR r then (bif decide (l.length < 48) then putF r l else l) else []
def putO (r : R4) (l : List R4) : Bool := tOk l && okR r && decide (l.length < 48) && !decide ((putF r l).length = l.length)

set_option maxRecDepth 100000 in
set_option maxHeartbeats 4000000 in
theorem iTablePut_any (w : World) (v : Value) (l : List R4) (h : Rls w w.heap.size v l) (hn : l.length ≤ 1048576) (r : R4) (hE : EtOk w) :
    Calls Tryz.prog 21 #[v, .agg #[.int .i64 r.p, .string r.s, .int .i64 r.o, .int .i64 r.t]] w fun e w' => ∃ u, e = .returned (.tuple #[u, .bool (putO r l)]) ∧ RulRow w' w.heap.size u (putT r l) ∧ Below w.heap.size w w' := by
  have HB0 := Lib.hid (below_alloc1 w (.cells #[.int .i64 r.p, .string r.s, .int .i64 r.o, .int .i64 r.t] 31))
  have HE := Lib.hid hE
  have HL : Hid (∀ W, Below w.heap.size w W → Rls W W.heap.size v l) := fun W hb => (h.below hb (Nat.le_refl _)).mono hb.size
  clear h hE
  obtain ⟨a, cap, rfl⟩ : ∃ a cap, v = .slice a l.length cap := by
    obtain ⟨a, cap, rfl, -⟩ := HL.out w (Below.refl _ _)
    exact ⟨a, cap, rfl⟩
  cases ht : tOk l
  · have HT : Hid (putT r l = [] ∧ putO r l = false) := by show _ ∧ _; simp [putT, putO, ht]
    rw [HT.out.1, HT.out.2]
    go_enter Tryz.func21, Tryz.ntmps21
    go_wp2_with fail
    refine (readTable_any _ _ l (HL.out _ HB0.out) hn (HE.out.below HB0.out)).mono ?_
    rintro e w1 ⟨g, rfl, hg, hlr, b1⟩
    rw [ht]
    unfold lstV
    have B1 := Lib.hid (belStep HB0.out b1)
    clear b1 hlr
    go_wp2
    exact bodyPost_ret (v := .tuple #[.slice none 0 0, .bool false]) (by simp [results, Tryz.results21, go_sem]) rfl ⟨_, rfl, ⟨rfl, .inl ⟨rfl, rfl⟩⟩, B1.out.alloc B1.out.size _⟩
  have h48 : l.length ≤ 48 := by
    have := ht
    simp [tOk] at this
    omega
  have HTB : Hid (∀ w1, Below (w.alloc (.cells #[.int .i64 r.p, .string r.s, .int .i64 r.o, .int .i64 r.t] 31)).heap.size (w.alloc (.cells #[.int .i64 r.p, .string r.s, .int .i64 r.o, .int .i64 r.t] 31)) w1 → Four w1 w.heap.size 0 r) := fun w1 hb => fourOf ((hb.block _ (by simp)).trans (newBlockM w _))
  cases ho : okR r
  · have HT : Hid (putT r l = [] ∧ putO r l = false) := by show _ ∧ _; simp [putT, putO, ho]
    rw [HT.out.1, HT.out.2]
    go_enter Tryz.func21, Tryz.ntmps21
    go_wp2_with fail
    refine (readTable_any _ _ l (HL.out _ HB0.out) hn (HE.out.below HB0.out)).mono ?_
    rintro e w1 ⟨g, rfl, hg, hlr, b1⟩
    rw [ht]
    unfold lstV
    obtain ⟨x0, x1, x2, x3⟩ := HTB.out _ b1
    simp only [Nat.zero_add] at x1 x2 x3
    have B1 := Lib.hid (belStep HB0.out b1)
    have s1 : w.heap.size < w1.heap.size := by have := b1.size; simp at this; omega
    clear b1 hlr
    go_wp2_with fail
    refine (iOk_at r _ ((HE.out.below B1.out).below (below_alloc1 _ _))).mono ?_
    rintro e w2 ⟨rfl, b2⟩
    rw [ho]
    have B2 := Lib.hid (b2.mono (show w.heap.size ≤ _ by simp; omega))
    clear b2
    go_wp2
    exact bodyPost_ret (v := .tuple #[.slice none 0 0, .bool false]) (by simp [results, Tryz.results21, go_sem]) rfl ⟨_, rfl, ⟨rfl, .inl ⟨rfl, rfl⟩⟩, (B1.out.alloc B1.out.size _).trans B2.out⟩
  have HT : Hid (putT r l = bif decide (l.length < 48) then putF r l else l) := by show _ = _; simp [putT, ht, ho]
  have HO : Hid (putO r l = (decide (l.length < 48) && !decide ((putF r l).length = l.length))) := by show _ = _; simp [putO, ht, ho]
  rw [HT.out, HO.out]
  by_cases h4 : l.length < 48
  · rw [decide_eq_true h4, cond_true, Bool.true_and]
    go_enter Tryz.func21, Tryz.ntmps21
    go_wp2_with fail
    refine (readTable_any _ _ l (HL.out _ HB0.out) hn (HE.out.below HB0.out)).mono ?_
    rintro e w1 ⟨g, rfl, hg, hlr, b1⟩
    rw [ht]
    have HLR := Lib.hid (hlr ht)
    unfold lstV
    obtain ⟨x0, x1, x2, x3⟩ := HTB.out _ b1
    simp only [Nat.zero_add] at x1 x2 x3
    have B1 := Lib.hid (belStep HB0.out b1)
    have s1 : w.heap.size < w1.heap.size := by have := b1.size; simp at this; omega
    clear b1 hlr
    go_wp2_with fail
    refine (iOk_at r _ ((HE.out.below B1.out).below (below_alloc1 _ _))).mono ?_
    rintro e w2 ⟨rfl, b2⟩
    rw [ho]
    have hl4 : (l.length : Int) < 48 := by omega
    obtain ⟨y0, y1, y2, y3⟩ := (show Four w1 w.heap.size 0 r by exact ⟨x0, by rw [Nat.zero_add]; exact x1, by rw [Nat.zero_add]; exact x2, by rw [Nat.zero_add]; exact x3⟩).below ((below_alloc1 w1 (lstO g)).trans (b2.mono (show w1.heap.size ≤ (w1.alloc (lstO g)).heap.size by simp))) s1
    simp only [Nat.zero_add] at y1 y2 y3
    have k2 : w2.heap[w1.heap.size]? = some (lstO g) := (b2.block _ (show w1.heap.size < (w1.alloc (lstO g)).heap.size by simp)).trans (newBlockM w1 _)
    obtain ⟨t0, t1, -⟩ := cells2 (show w2.heap[w1.heap.size]? = some (.cells #[.func (.func 63) #[] #[], .pointer (some ⟨g, 0, none⟩)] 55) from k2)
    have B12 : Below w1.heap.size w1 w2 := (below_alloc1 w1 (lstO g)).trans (b2.mono (show w1.heap.size ≤ (w1.alloc (lstO g)).heap.size by simp))
    have HLR2 := Lib.hid (HLR.out.below B12)
    have B2 := Lib.hid (B1.out.trans (B12.mono (by omega)))
    have HK2 := Lib.hid k2
    have s2 := B12.size
    clear b2 k2 B12
    go_wp2_with fail
    obtain ⟨f, hf⟩ := lr_root HLR2.out
    refine (put_any _ g l f r (by omega) ho (fun i hi => (chain_at l (by simpa [tOk, h48] using ht) i hi).1) hf (HE.out.below B2.out)).mono ?_
    rintro e w3 ⟨k, hst, rfl, hlr3, b3, hnk⟩
    have k3 := hnk _ _ HK2.out (fun x q hh => by simp [lstO, nodeO] at hh)
    obtain ⟨z0, z1, -⟩ := cells2 (show w3.heap[w1.heap.size]? = some (.cells #[.func (.func 63) #[] #[], .pointer (some ⟨g, 0, none⟩)] 55) from k3)
    have HLR3 : Hid (LR w3 g (putF r l)) := by show LR _ _ _; rw [putF_stand hst]; exact hlr3
    have HD : Hid ((putF r l).length ≤ 1000 ∧ (!decide ((putF r l).length = l.length)) = !decide (k < l.length ∧ cmR (ruAt l k) r = 0)) := by
      show _ ∧ _
      rw [putF_stand hst]
      cases hd : decide (k < l.length ∧ cmR (ruAt l k) r = 0)
      · have := insR_len l k r hst.1
        simp only [cond_false]
        refine ⟨by omega, ?_⟩
        rw [decide_eq_false (show ¬ (insR l k r).length = l.length by omega)]
      · simp only [cond_true]
        refine ⟨by omega, ?_⟩
        simp
    have s3 := b3.size
    have B3 := Lib.hid (B2.out.trans (b3.mono (show w.heap.size ≤ g by simp at hg; omega)))
    clear hlr3 b3 hnk k3 hf hst
    generalize decide (k < l.length ∧ cmR (ruAt l k) r = 0) = d at *
    go_wp2_with fail
    refine (tableRules_any _ g _ HD.out.1 HLR3.out).mono ?_
    rintro e w4 ⟨u, rfl, hrow, b4⟩
    have B4 := Lib.hid (B3.out.trans (b4.mono B3.out.size))
    have HROW := Lib.hid (hrow.mono B3.out.size)
    clear b4 hrow
    go_wp2
    exact bodyPost_ret (v := .tuple #[u, .bool !d]) (by simp [results, Tryz.results21, go_sem]) rfl ⟨_, by rw [HD.out.2], HROW.out, B4.out⟩
  · rw [decide_eq_false h4, cond_false, Bool.false_and]
    go_enter Tryz.func21, Tryz.ntmps21
    go_wp2_with fail
    refine (readTable_any _ _ l (HL.out _ HB0.out) hn (HE.out.below HB0.out)).mono ?_
    rintro e w1 ⟨g, rfl, hg, hlr, b1⟩
    rw [ht]
    have HLR := Lib.hid (hlr ht)
    unfold lstV
    obtain ⟨x0, x1, x2, x3⟩ := HTB.out _ b1
    simp only [Nat.zero_add] at x1 x2 x3
    have B1 := Lib.hid (belStep HB0.out b1)
    have s1 : w.heap.size < w1.heap.size := by have := b1.size; simp at this; omega
    clear b1 hlr
    go_wp2_with fail
    refine (iOk_at r _ ((HE.out.below B1.out).below (below_alloc1 _ _))).mono ?_
    rintro e w2 ⟨rfl, b2⟩
    rw [ho]
    have hl4 : ¬ (l.length : Int) < 48 := by omega
    have k2 : w2.heap[w1.heap.size]? = some (lstO g) := (b2.block _ (show w1.heap.size < (w1.alloc (lstO g)).heap.size by simp)).trans (newBlockM w1 _)
    obtain ⟨t0, t1, -⟩ := cells2 (show w2.heap[w1.heap.size]? = some (.cells #[.func (.func 63) #[] #[], .pointer (some ⟨g, 0, none⟩)] 55) from k2)
    have B12 : Below w1.heap.size w1 w2 := (below_alloc1 w1 (lstO g)).trans (b2.mono (show w1.heap.size ≤ (w1.alloc (lstO g)).heap.size by simp))
    have HLR2 := Lib.hid (HLR.out.below B12)
    have B3 := Lib.hid (B1.out.trans (B12.mono (by omega)))
    clear b2 k2 B12
    go_wp2_with fail
    refine (tableRules_any _ g _ (by omega) HLR2.out).mono ?_
    rintro e w4 ⟨u, rfl, hrow, b4⟩
    have B4 := Lib.hid (B3.out.trans (b4.mono B3.out.size))
    have HROW := Lib.hid (hrow.mono B3.out.size)
    clear b4 hrow
    go_wp2
    exact bodyPost_ret (v := .tuple #[u, .bool false]) (by simp [results, Tryz.results21, go_sem]) rfl ⟨_, rfl, HROW.out, B4.out⟩

end Go.Proofs.YtehgpehhpijkjaaGreatDoor

namespace Go.Proofs.YtehgpehhpijkjaaGreatDoor
open Go.ChangeShapes Go.WideShapes Go.ChangeAt Go.RowKit Go.Joins
open Go.Shelf
set_option linter.unusedVariables false

set_option maxRecDepth 100000 in
set_option maxHeartbeats 4000000 in
theorem iTableDrop_any (w : World) (v : Value) (l : List R4) (h : Rls w w.heap.size v l) (hn : l.length ≤ 1048576) (r : R4) (hE : EtOk w) :
    Calls Tryz.prog 24 #[v, .agg #[.int .i64 r.p, .string r.s, .int .i64 r.o, .int .i64 r.t]] w fun e w' => ∃ u L d, e = .returned (.tuple #[u, .bool d]) ∧ RulRow w' w.heap.size u L ∧ Below w.heap.size w w' ∧ ((tOk l && okR r) = false → L = [] ∧ d = false) ∧ ((tOk l && okR r) = true → ∃ k, Stand l r k ∧ d = decide (k < l.length ∧ cmR (ruAt l k) r = 0) ∧ L = bif d then delR l k else l) := by
  have HB0 := Lib.hid (below_alloc1 w (.cells #[.int .i64 r.p, .string r.s, .int .i64 r.o, .int .i64 r.t] 31))
  have HE := Lib.hid hE
  have HL : Hid (∀ W, Below w.heap.size w W → Rls W W.heap.size v l) := fun W hb => (h.below hb (Nat.le_refl _)).mono hb.size
  clear h hE
  obtain ⟨a, cap, rfl⟩ : ∃ a cap, v = .slice a l.length cap := by
    obtain ⟨a, cap, rfl, -⟩ := HL.out w (Below.refl _ _)
    exact ⟨a, cap, rfl⟩
  cases ht : tOk l
  · go_enter Tryz.func24, Tryz.ntmps24
    go_wp2_with fail
    refine (readTable_any _ _ l (HL.out _ HB0.out) hn (HE.out.below HB0.out)).mono ?_
    rintro e w1 ⟨g, rfl, hg, hlr, b1⟩
    rw [ht]
    unfold lstV
    have B1 := Lib.hid (belStep HB0.out b1)
    clear b1 hlr
    go_wp2
    exact bodyPost_ret (v := .tuple #[.slice none 0 0, .bool false]) (by simp [results, Tryz.results24, go_sem]) rfl ⟨_, [], false, rfl, ⟨rfl, .inl ⟨rfl, rfl⟩⟩, B1.out.alloc B1.out.size _, fun _ => ⟨rfl, rfl⟩, fun h => by simp at h⟩
  have h48 : l.length ≤ 48 := by
    have := ht
    simp [tOk] at this
    omega
  have HTB : Hid (∀ w1, Below (w.alloc (.cells #[.int .i64 r.p, .string r.s, .int .i64 r.o, .int .i64 r.t] 31)).heap.size (w.alloc (.cells #[.int .i64 r.p, .string r.s, .int .i64 r.o, .int .i64 r.t] 31)) w1 → Four w1 w.heap.size 0 r) := fun w1 hb => fourOf ((hb.block _ (by simp)).trans (newBlockM w _))
  cases ho : okR r
  · go_enter Tryz.func24, Tryz.ntmps24
    go_wp2_with fail
    refine (readTable_any _ _ l (HL.out _ HB0.out) hn (HE.out.below HB0.out)).mono ?_
    rintro e w1 ⟨g, rfl, hg, hlr, b1⟩
    rw [ht]
    unfold lstV
    obtain ⟨x0, x1, x2, x3⟩ := HTB.out _ b1
    simp only [Nat.zero_add] at x1 x2 x3
    have B1 := Lib.hid (belStep HB0.out b1)
    have s1 : w.heap.size < w1.heap.size := by have := b1.size; simp at this; omega
    clear b1 hlr
    go_wp2_with fail
    refine (iOk_at r _ ((HE.out.below B1.out).below (below_alloc1 _ _))).mono ?_
    rintro e w2 ⟨rfl, b2⟩
    rw [ho]
    have B2 := Lib.hid (b2.mono (show w.heap.size ≤ _ by simp; omega))
    clear b2
    go_wp2
    exact bodyPost_ret (v := .tuple #[.slice none 0 0, .bool false]) (by simp [results, Tryz.results24, go_sem]) rfl ⟨_, [], false, rfl, ⟨rfl, .inl ⟨rfl, rfl⟩⟩, (B1.out.alloc B1.out.size _).trans B2.out, fun _ => ⟨rfl, rfl⟩, fun h => by simp at h⟩
  · go_enter Tryz.func24, Tryz.ntmps24
    go_wp2_with fail
    refine (readTable_any _ _ l (HL.out _ HB0.out) hn (HE.out.below HB0.out)).mono ?_
    rintro e w1 ⟨g, rfl, hg, hlr, b1⟩
    rw [ht]
    have HLR := Lib.hid (hlr ht)
    unfold lstV
    obtain ⟨x0, x1, x2, x3⟩ := HTB.out _ b1
    simp only [Nat.zero_add] at x1 x2 x3
    have B1 := Lib.hid (belStep HB0.out b1)
    have s1 : w.heap.size < w1.heap.size := by have := b1.size; simp at this; omega
    clear b1 hlr
    go_wp2_with fail
    refine (iOk_at r _ ((HE.out.below B1.out).below (below_alloc1 _ _))).mono ?_
    rintro e w2 ⟨rfl, b2⟩
    rw [ho]
    obtain ⟨y0, y1, y2, y3⟩ := (show Four w1 w.heap.size 0 r by exact ⟨x0, by rw [Nat.zero_add]; exact x1, by rw [Nat.zero_add]; exact x2, by rw [Nat.zero_add]; exact x3⟩).below ((below_alloc1 w1 (lstO g)).trans (b2.mono (show w1.heap.size ≤ (w1.alloc (lstO g)).heap.size by simp))) s1
    simp only [Nat.zero_add] at y1 y2 y3
    have k2 : w2.heap[w1.heap.size]? = some (lstO g) := (b2.block _ (show w1.heap.size < (w1.alloc (lstO g)).heap.size by simp)).trans (newBlockM w1 _)
    obtain ⟨t0, t1, -⟩ := cells2 (show w2.heap[w1.heap.size]? = some (.cells #[.func (.func 63) #[] #[], .pointer (some ⟨g, 0, none⟩)] 55) from k2)
    have B12 : Below w1.heap.size w1 w2 := (below_alloc1 w1 (lstO g)).trans (b2.mono (show w1.heap.size ≤ (w1.alloc (lstO g)).heap.size by simp))
    have HLR2 := Lib.hid (HLR.out.below B12)
    have B2 := Lib.hid (B1.out.trans (B12.mono (by omega)))
    have HK2 := Lib.hid k2
    have s2 := B12.size
    clear b2 k2 B12
    go_wp2_with fail
    obtain ⟨f, hf⟩ := lr_root HLR2.out
    refine (drop_any _ g l f r (by omega) ho (fun i hi => (chain_at l (by simpa [tOk, h48] using ht) i hi).1) hf (HE.out.below B2.out)).mono ?_
    rintro e w3 ⟨k, hst, rfl, hlr3, b3, hnk⟩
    have k3 := hnk _ _ HK2.out (fun x q hh => by simp [lstO, nodeO] at hh)
    obtain ⟨z0, z1, -⟩ := cells2 (show w3.heap[w1.heap.size]? = some (.cells #[.func (.func 63) #[] #[], .pointer (some ⟨g, 0, none⟩)] 55) from k3)
    have HD : Hid ((bif decide (k < l.length ∧ cmR (ruAt l k) r = 0) then delR l k else l).length ≤ 1000) := by
      show _ ≤ _
      cases hd : decide (k < l.length ∧ cmR (ruAt l k) r = 0)
      · simp only [cond_false]; omega
      · have := delR_len l (of_decide_eq_true hd).1
        simp only [cond_true]
        omega
    have HLR3 := Lib.hid hlr3
    have HST := Lib.hid hst
    have s3 := b3.size
    have B3 := Lib.hid (B2.out.trans (b3.mono (show w.heap.size ≤ g by simp at hg; omega)))
    clear hlr3 b3 hnk k3 hf hst
    obtain ⟨d, hd⟩ : ∃ d, decide (k < l.length ∧ cmR (ruAt l k) r = 0) = d := ⟨_, rfl⟩
    have HDD := Lib.hid hd
    rw [hd] at HD HLR3 ⊢
    clear hd
    go_wp2_with fail
    refine (tableRules_any _ g _ HD.out HLR3.out).mono ?_
    rintro e w4 ⟨u, rfl, hrow, b4⟩
    have B4 := Lib.hid (B3.out.trans (b4.mono B3.out.size))
    have HROW := Lib.hid (hrow.mono B3.out.size)
    clear b4 hrow
    go_wp2
    exact bodyPost_ret (v := .tuple #[u, .bool d]) (by simp [results, Tryz.results24, go_sem]) rfl ⟨_, _, _, rfl, HROW.out, B4.out, fun h => by simp at h, fun _ => ⟨k, HST.out, HDD.out.symm, rfl⟩⟩

end Go.Proofs.YtehgpehhpijkjaaGreatDoor

namespace Go.Proofs.YtehgpehhpijkjaaGreatDoor
open Go.ChangeShapes Go.WideShapes Go.ChangeAt Go.RowKit Go.Joins
open Go.Shelf
set_option linter.unusedVariables false

/-- All rules of a slice are appended to rules of the call's own. -/
theorem app_rules {w : World} {ops : Array Oper} {rest : List Oper} {o : Oper} {a : Act} {Q : Exit → Act → World → Prop} (hgd : o.guard = none) (s x : Operand)
    (ho : o.op = .call { callee := .builtin .append, args := #[s, x], argTypes := #[23, 23] }) (base : Nat) (v : Value) (L : List R4) (hs : a.eval s = v) (hrow : RulRow w base v L) (g off cap : Nat) (M : List R4)
    (hx : a.eval x = .slice (some ⟨g, off, none⟩) M.length cap) (hf : ∀ i, i < M.length → Four w g (off + i * 4) (ruAt M i)) (hn : L.length + M.length ≤ 1000000) (hb : base ≤ w.heap.size)
    (h : ∀ v' w', RulRow w' base v' (L ++ M) → Below base w w' → w.heap.size ≤ w'.heap.size → wpList Tryz.prog ops Q rest (a.put o.dst v') w') : wpList Tryz.prog ops Q (o :: rest) a w := by
  obtain ⟨i0, hi, hz0, hz1, hz2⟩ := info_parts infoR
  refine wpList_append_own _ hgd s x 23 ho base 31 i0 (.agg #[.int .i64 0, .string ⟨#[]⟩, .int .i64 0, .int .i64 0]) 4 40 Tryz.underlying23 hi hz0 hz1 hz2 rfl (by decide) v L.length _ hs hrow ⟨g, off, none⟩ M.length cap (M.flatMap R4.cs) hx (fl_len M) ?c1 ?c2 ?c3 ?c4 hb ?c6
  case c1 =>
    intro j u hj
    have hjl := (List.getElem?_eq_some_iff.1 hj).1
    rw [fl_len M] at hjl
    obtain ⟨f0, f1, f2, f3⟩ := hf (j / 4) (by omega)
    have hd := Nat.div_add_mod j 4
    have hm := Nat.mod_lt j (show 0 < 4 by decide)
    have hat := fl_at M (j / 4) (j % 4) (by omega) hm
    rw [show j / 4 * 4 + j % 4 = j from by omega, hj] at hat
    have hadd : (⟨g, off, none⟩ : Addr).add j = ⟨g, off + j / 4 * 4 + j % 4, none⟩ := by
      have : off + j / 4 * 4 + j % 4 = off + j := by omega
      rw [this, add_none]
    rw [hadd]
    generalize j % 4 = i at *
    match i, hm, hat with
    | 0, _, hat => simp [R4.cs] at hat; subst hat; exact f0
    | 1, _, hat => simp [R4.cs] at hat; subst hat; exact f1
    | 2, _, hat => simp [R4.cs] at hat; subst hat; exact f2
    | 3, _, hat => simp [R4.cs] at hat; subst hat; exact f3
    | i + 4, hm, _ => omega
  case c2 =>
    intro u hu
    obtain ⟨q, hq, hu⟩ := List.mem_flatMap.1 hu
    simp [R4.cs] at hu
    rcases hu with rfl | rfl | rfl | rfl <;> rfl
  case c3 => unfold maxLen; omega
  case c4 => omega
  case c6 =>
    intro v' w' hown hg hnil
    refine h v' w' ?_ ⟨hg.os, hg.tape, hg.output, hg.size, fun j hj => hg.block j (by omega) (fun e => by have := (World.ownsRow.lt hrow j e.symm).1; omega)⟩ hg.size
    unfold RulRow
    rw [List.length_append, List.flatMap_append]
    exact hown

theorem emptyRowR (W : World) (base : Nat) (h : base ≤ W.heap.size) : RulRow (W.alloc (.cells #[] 31)) base (.slice (some ⟨W.heap.size, 0, none⟩) 0 0) [] :=
  World.ownsRow_made (base := base) (e := 31) (size := 4) W #[] 0 h (by unfold maxLen; omega) rfl
theorem tOk_mem {l : List R4} (ht : tOk l = true) : ∀ q ∈ l, okR q = true := (tOk_pw.1 ht).2.1

theorem putT_len (r : R4) (l : List R4) : (putT r l).length ≤ 49 := by
  unfold putT
  cases ht : (tOk l && okR r)
  · exact Nat.zero_le _
  · rw [Bool.and_eq_true] at ht
    have h48 := (tOk_pw.1 ht.1).1
    have := putF_len r l
    rw [cond_true]
    cases decide (l.length < 48)
    · rw [cond_false]; omega
    · rw [cond_true]; omega

end Go.Proofs.YtehgpehhpijkjaaGreatDoor

namespace Go.Proofs.YtehgpehhpijkjaaGreatDoor
open Go.ChangeShapes Go.WideShapes Go.ChangeAt Go.RowKit Go.Joins
open Go.Shelf
set_option linter.unusedVariables false

theorem iTableDrop_all (w : World) (v : Value) (l : List R4) (h : Rls w w.heap.size v l) (hn : l.length ≤ 1048576) (r : R4) (hE : EtOk w) :
    Calls Tryz.prog 24 #[v, .agg #[.int .i64 r.p, .string r.s, .int .i64 r.o, .int .i64 r.t]] w fun e w' => ∃ u, e = .returned (.tuple #[u, .bool (dropO r l)]) ∧ RulRow w' w.heap.size u (dropT r l) ∧ Below w.heap.size w w' := by
  refine (iTableDrop_any w v l h hn r hE).mono ?_
  rintro e w1 ⟨u, L, d, rfl, hrow, hb, h0, h1⟩
  cases ht : (tOk l && okR r)
  · obtain ⟨rfl, rfl⟩ := h0 ht
    exact ⟨u, by rw [dropO, ht, Bool.false_and], by rw [dropT, ht]; exact hrow, hb⟩
  · obtain ⟨k, hst, hd, hL⟩ := h1 ht
    have ht' := ht
    rw [Bool.and_eq_true] at ht'
    obtain ⟨-, hok, hp⟩ := tOk_pw.1 ht'.1
    obtain ⟨e1, e2⟩ := drop_stand hst hok ht'.2 hp
    rw [← hd] at e1 e2
    rw [← hL] at e1
    exact ⟨u, by rw [dropO, ht, Bool.true_and, e2], by rw [dropT, ht, cond_true, ← e1]; exact hrow, hb⟩

theorem toListNe {s s' : ByteArray} (hs : ¬ s = s') : ¬ s.toList = s'.toList := fun h => hs (by
  rw [Lib.toList_data, Lib.toList_data] at h
  exact ByteArray.ext (Array.toList_inj.1 h))
/-- Two rules are the same, or they differ in a first field. -/
theorem diffR (y r : R4) : y = r ∨ (sameR y r = false ∧ (¬ y.p = r.p ∨ (y.p = r.p ∧ ¬ y.s.toList = r.s.toList) ∨ (y.p = r.p ∧ y.s = r.s ∧ ¬ y.o = r.o) ∨ (y.p = r.p ∧ y.s = r.s ∧ y.o = r.o ∧ ¬ y.t = r.t))) := by
  by_cases h1 : y.p = r.p
  · by_cases h2 : y.s = r.s
    · by_cases h3 : y.o = r.o
      · by_cases h4 : y.t = r.t
        · exact .inl (R4.eq ⟨h1, h2, h3, h4⟩)
        · exact .inr ⟨by simp [sameR, h4], .inr (.inr (.inr ⟨h1, h2, h3, h4⟩))⟩
      · exact .inr ⟨by simp [sameR, h3], .inr (.inr (.inl ⟨h1, h2, h3⟩))⟩
    · exact .inr ⟨by simp [sameR, h2], .inr (.inl ⟨h1, toListNe h2⟩)⟩
  · exact .inr ⟨by simp [sameR, h1], .inl h1⟩
theorem dropF_take (r : R4) (l : List R4) {k : Nat} (hk : k < l.length) : dropF r (l.take (k + 1)) = bif sameR (ruAt l k) r then dropF r (l.take k) else dropF r (l.take k) ++ [ruAt l k] := by
  unfold dropF
  rw [take_step l hk, List.filter_append]
  cases h : sameR (ruAt l k) r <;> simp [h]
theorem dropF_len (r : R4) (l : List R4) (k : Nat) : (dropF r (l.take k)).length ≤ k := by
  have h1 := List.length_filter_le (fun q => !sameR q r) (l.take k)
  have h2 : (l.take k).length ≤ k := by simp; omega
  unfold dropF
  omega

theorem dropT_len (r : R4) (l : List R4) : (dropT r l).length ≤ 48 := by
  unfold dropT
  cases ht : (tOk l && okR r)
  · exact Nat.zero_le _
  · rw [Bool.and_eq_true] at ht
    have h48 := (tOk_pw.1 ht.1).1
    have := List.length_filter_le (fun q => !sameR q r) l
    rw [cond_true]
    unfold dropF
    omega

end Go.Proofs.YtehgpehhpijkjaaGreatDoor

namespace Go.Proofs.YtehgpehhpijkjaaGreatDoor
set_option linter.unusedVariables false

theorem putO_yes {r : R4} {l : List R4} (h : putO r l = true) : tOk l = true ∧ okR r = true ∧ l.length < 48 ∧ r ∉ l ∧ putT r l = putF r l := by
  simp only [putO, Bool.and_eq_true, decide_eq_true_eq, Bool.not_eq_true', decide_eq_false_iff_not] at h
  obtain ⟨⟨⟨h1, h2⟩, h3⟩, h4⟩ := h
  obtain ⟨-, hok, hp⟩ := tOk_pw.1 h1
  exact ⟨h1, h2, h3, fun hm => h4 (by rw [putF_in hok h2 hp hm]), by simp [putT, h1, h2, h3]⟩
theorem putO_mk {r : R4} {l : List R4} (h1 : tOk l = true) (h2 : okR r = true) (h3 : l.length < 48) (h4 : r ∉ l) : putO r l = true := by
  obtain ⟨-, hok, hp⟩ := tOk_pw.1 h1
  have := (putF_out hok h2 hp h4).1
  simp [putO, h1, h2, h3, this]
theorem putT_ok {r : R4} {l : List R4} (h : putO r l = true) : tOk (putT r l) = true ∧ (putT r l).length = l.length + 1 ∧ ∀ q, q ∈ putT r l ↔ q ∈ l ∨ q = r := by
  obtain ⟨h1, h2, h3, h4, h5⟩ := putO_yes h
  obtain ⟨-, hok, hp⟩ := tOk_pw.1 h1
  obtain ⟨e1, e2, e3⟩ := putF_out hok h2 hp h4
  rw [h5]
  refine ⟨tOk_pw.2 ⟨by omega, fun q hq => ?_, e2⟩, e1, e3⟩
  rcases (e3 q).1 hq with e | rfl
  · exact hok q e
  · exact h2
theorem tOk_ext {l m : List R4} (h : tOk l = true) (h' : tOk m = true) (he : ∀ q, q ∈ l ↔ q ∈ m) : l = m := pw_ext (tOk_pw.1 h).2.2 (tOk_pw.1 h').2.2 he
theorem dropT_ok {r : R4} {l : List R4} (ht : tOk l = true) (hr : okR r = true) : tOk (dropT r l) = true ∧ ∀ q, q ∈ dropT r l ↔ q ∈ l ∧ q ≠ r := by
  obtain ⟨h1, hok, hp⟩ := tOk_pw.1 ht
  have e : dropT r l = dropF r l := by simp [dropT, ht, hr]
  rw [e]
  refine ⟨tOk_pw.2 ⟨?_, fun q hq => hok q (mem_dropF.1 hq).1, dropF_pw r hp⟩, fun q => mem_dropF⟩
  have := List.length_filter_le (fun q => !sameR q r) l
  unfold dropF
  omega
theorem dropO_has {r : R4} {l : List R4} (ht : tOk l = true) (hr : okR r = true) (hm : r ∈ l) : putO r (dropT r l) = true ∧ putT r (dropT r l) = l ∧ (dropT r l).length + 1 = l.length ∧ dropO r l = true := by
  obtain ⟨k1, k2⟩ := dropT_ok ht hr
  have hn : r ∉ dropT r l := fun e => ((k2 r).1 e).2 rfl
  have e : dropT r l = dropF r l := by simp [dropT, ht, hr]
  have hlt : (dropT r l).length < l.length := by
    rw [e]
    unfold dropF
    exact (List.length_filter_lt_length_iff_exists).2 ⟨r, hm, by rw [sameR_iff.2 rfl]; simp⟩
  have h48 := (tOk_pw.1 ht).1
  have p1 := putO_mk k1 hr (by omega) hn
  obtain ⟨q1, q2, q3⟩ := putT_ok p1
  have p2 : putT r (dropT r l) = l := tOk_ext q1 ht (fun q => by
    rw [q3, k2]
    constructor
    · rintro (h | rfl)
      · exact h.1
      · exact hm
    · intro h
      by_cases e : q = r
      · exact .inr e
      · exact .inl ⟨h, e⟩)
  rw [p2] at q2
  exact ⟨p1, p2, q2.symm, by rw [dropO, ht, hr, ← e, decide_eq_true hlt]; rfl⟩
theorem dropO_yes {r : R4} {l : List R4} (h : dropO r l = true) : tOk l = true ∧ okR r = true ∧ r ∈ l := by
  simp only [dropO, Bool.and_eq_true, decide_eq_true_eq] at h
  obtain ⟨⟨h1, h2⟩, h3⟩ := h
  refine ⟨h1, h2, ?_⟩
  by_cases hm : r ∈ l
  · exact hm
  · rw [dropF_out hm] at h3
    omega
theorem dropO_no {r : R4} {l : List R4} (ht : tOk l = true) (hr : okR r = true) (h : dropO r l = false) : dropT r l = l ∧ r ∉ l := by
  have hm : r ∉ l := fun e => by rw [(dropO_has ht hr e).2.2.2] at h; cases h
  exact ⟨by rw [dropT, ht, hr, dropF_out hm]; rfl, hm⟩
/-- What is put can be dropped again. -/
theorem put_back {r : R4} {l : List R4} (h : putO r l = true) : dropO r (putT r l) = true ∧ dropT r (putT r l) = l := by
  obtain ⟨h1, h2, h3, h4, h5⟩ := putO_yes h
  obtain ⟨k1, k2, k3⟩ := putT_ok h
  have hm : r ∈ putT r l := (k3 r).2 (.inr rfl)
  obtain ⟨-, -, -, d⟩ := dropO_has k1 h2 hm
  obtain ⟨j1, j2⟩ := dropT_ok k1 h2
  refine ⟨d, tOk_ext j1 h1 (fun q => ?_)⟩
  rw [j2, k3]
  constructor
  · rintro ⟨h | h, e⟩
    · exact h
    · exact absurd h e
  · intro h
    exact ⟨.inl h, fun e => h4 (e ▸ h)⟩
theorem putO_no {r : R4} {l : List R4} (ht : tOk l = true) (hr : okR r = true) (h : putO r l = false) : putT r l = l ∧ (r ∈ l ∨ l.length = 48) := by
  obtain ⟨h48, hok, hp⟩ := tOk_pw.1 ht
  by_cases hm : r ∈ l
  · refine ⟨?_, .inl hm⟩
    rw [putT, ht, hr, putF_in hok hr hp hm]
    cases decide (l.length < 48) <;> rfl
  · by_cases h4 : l.length < 48
    · rw [putO_mk ht hr h4 hm] at h
      cases h
    · exact ⟨by rw [putT, ht, hr, decide_eq_false h4]; rfl, .inr (by omega)⟩
/-- Two rules are put in any order. -/
theorem put_two {r q : R4} {l : List R4} (h : putO r l = true) (k : putO q (putT r l) = true) : putO q l = true ∧ putO r (putT q l) = true ∧ putT q (putT r l) = putT r (putT q l) := by
  obtain ⟨h1, h2, h3, h4, h5⟩ := putO_yes h
  obtain ⟨a1, a2, a3⟩ := putT_ok h
  obtain ⟨k1, k2, k3, k4, k5⟩ := putO_yes k
  obtain ⟨b1, b2, b3⟩ := putT_ok k
  have hq : q ∉ l ∧ q ≠ r := ⟨fun e => k4 ((a3 q).2 (.inl e)), fun e => k4 ((a3 q).2 (.inr e))⟩
  have p1 := putO_mk h1 k2 h3 hq.1
  obtain ⟨c1, c2, c3⟩ := putT_ok p1
  have hr : r ∉ putT q l := fun e => by
    rcases (c3 r).1 e with e | e
    · exact h4 e
    · exact hq.2 e.symm
  have p2 := putO_mk c1 h2 (by omega) hr
  obtain ⟨d1, d2, d3⟩ := putT_ok p2
  refine ⟨p1, p2, tOk_ext b1 d1 (fun x => ?_)⟩
  rw [b3, a3, d3, c3]
  constructor
  · rintro ((h | h) | h)
    · exact .inl (.inl h)
    · exact .inr h
    · exact .inl (.inr h)
  · rintro ((h | h) | h)
    · exact .inl (.inl h)
    · exact .inr h
    · exact .inl (.inr h)

end Go.Proofs.YtehgpehhpijkjaaGreatDoor

namespace Go.Proofs.YtehgpehhpijkjaaGreatDoor
open Go.ChangeShapes Go.WideShapes Go.ChangeAt Go.RowKit Go.Joins
set_option linter.unusedVariables false

theorem mem_take_step {l : List R4} {k : Nat} (hk : k < l.length) {r : R4} : r ∈ l.take (k + 1) ↔ r ∈ l.take k ∨ ruAt l k = r := by
  rw [take_step l hk, List.mem_append, List.mem_singleton]
  exact ⟨fun h => h.imp id Eq.symm, fun h => h.imp id Eq.symm⟩

end Go.Proofs.YtehgpehhpijkjaaGreatDoor
