/-
  The program's TablePut.
  The program's TableDrop.
  The model's TablePut.
  The model's TableDrop; the program's, by the same list.
  Tables, put and dropped: plain facts of the statements on them.
  The statements' own words on rules: two lists are the same; a rule is in a list.
-/
import Derived.Test.YtahobeigbjhbbaaGreatDoorTabRules
import Derived.Test.YtahobeigbjhbbaaGreatDoorTabN
import Derived.Test.YtahobeigbjhbbaaGreatDoorTabO
import Derived.Test.YtahobeigbjhbbaaGreatDoorTabSpec

namespace Go.Proofs.YtahobeigbjhbbaaGreatDoor
open Go.ChangeShapes Go.WideShapes Go.ChangeAt Go.RowKit Go.Joins
open Go.Shelf
set_option linter.unusedVariables false

/-- The list that TablePut gives, and its word. -/
def putT (r : R4) (l : List R4) : List R4 := bif tOk l && okR r then (bif decide (l.length < 48) then putF r l else l) else []
def putO (r : R4) (l : List R4) : Bool := tOk l && okR r && decide (l.length < 48) && !decide ((putF r l).length = l.length)

set_option maxRecDepth 100000 in
set_option maxHeartbeats 4000000 in
theorem iTablePut_any (w : World) (v : Value) (l : List R4) (h : Rls w w.heap.size v l) (hn : l.length ≤ 1048576) (r : R4) (hE : EtOk w) :
    Calls Tryz.prog 16 #[v, .agg #[.int .i64 r.p, .string r.s, .int .i64 r.o, .int .i64 r.t]] w fun e w' => ∃ u, e = .returned (.tuple #[u, .bool (putO r l)]) ∧ RulRow w' w.heap.size u (putT r l) ∧ Below w.heap.size w w' := by
  have HB0 := Lib.hid (below_alloc1 w (.cells #[.int .i64 r.p, .string r.s, .int .i64 r.o, .int .i64 r.t] 25))
  have HE := Lib.hid hE
  have HL : Hid (∀ W, Below w.heap.size w W → Rls W W.heap.size v l) := fun W hb => (h.below hb (Nat.le_refl _)).mono hb.size
  clear h hE
  obtain ⟨a, cap, rfl⟩ : ∃ a cap, v = .slice a l.length cap := by
    obtain ⟨a, cap, rfl, -⟩ := HL.out w (Below.refl _ _)
    exact ⟨a, cap, rfl⟩
  cases ht : tOk l
  · have HT : Hid (putT r l = [] ∧ putO r l = false) := by show _ ∧ _; simp [putT, putO, ht]
    rw [HT.out.1, HT.out.2]
    go_enter Tryz.func16, Tryz.ntmps16
    go_wp2_with fail
    refine (readTable_any _ _ l (HL.out _ HB0.out) hn (HE.out.below HB0.out)).mono ?_
    rintro e w1 ⟨g, rfl, hg, hlr, b1⟩
    rw [ht]
    unfold lstV
    have B1 := Lib.hid (belStep HB0.out b1)
    clear b1 hlr
    go_wp2
    exact bodyPost_ret (v := .tuple #[.slice none 0 0, .bool false]) (by simp [results, Tryz.results16, go_sem]) rfl ⟨_, rfl, ⟨rfl, .inl ⟨rfl, rfl⟩⟩, B1.out.alloc B1.out.size _⟩
  have h48 : l.length ≤ 48 := by
    have := ht
    simp [tOk] at this
    omega
  have HTB : Hid (∀ w1, Below (w.alloc (.cells #[.int .i64 r.p, .string r.s, .int .i64 r.o, .int .i64 r.t] 25)).heap.size (w.alloc (.cells #[.int .i64 r.p, .string r.s, .int .i64 r.o, .int .i64 r.t] 25)) w1 → Four w1 w.heap.size 0 r) := fun w1 hb => fourOf ((hb.block _ (by simp)).trans (newBlockM w _))
  cases ho : okR r
  · have HT : Hid (putT r l = [] ∧ putO r l = false) := by show _ ∧ _; simp [putT, putO, ho]
    rw [HT.out.1, HT.out.2]
    go_enter Tryz.func16, Tryz.ntmps16
    go_wp2_with fail
    refine (readTable_any _ _ l (HL.out _ HB0.out) hn (HE.out.below HB0.out)).mono ?_
    rintro e w1 ⟨g, rfl, hg, hlr, b1⟩
    rw [ht]
    unfold lstV
    obtain ⟨x0, x1, x2, x3⟩ := HTB.out _ b1
    simp only [Nat.zero_add] at x1 x2 x3
    have B1 := Lib.hid (belStep HB0.out b1)
    have s1 : w.heap.size < w1.heap.size := by have := b1.size; simp at this; omega
    clear b1 hlr
    go_wp2_with fail
    refine (iOk_at r _ ((HE.out.below B1.out).below (below_alloc1 _ _))).mono ?_
    rintro e w2 ⟨rfl, b2⟩
    rw [ho]
    have B2 := Lib.hid (b2.mono (show w.heap.size ≤ _ by simp; omega))
    clear b2
    go_wp2
    exact bodyPost_ret (v := .tuple #[.slice none 0 0, .bool false]) (by simp [results, Tryz.results16, go_sem]) rfl ⟨_, rfl, ⟨rfl, .inl ⟨rfl, rfl⟩⟩, (B1.out.alloc B1.out.size _).trans B2.out⟩
  have HT : Hid (putT r l = bif decide (l.length < 48) then putF r l else l) := by show _ = _; simp [putT, ht, ho]
  have HO : Hid (putO r l = (decide (l.length < 48) && !decide ((putF r l).length = l.length))) := by show _ = _; simp [putO, ht, ho]
  rw [HT.out, HO.out]
  by_cases h4 : l.length < 48
  · rw [decide_eq_true h4, cond_true, Bool.true_and]
    go_enter Tryz.func16, Tryz.ntmps16
    go_wp2_with fail
    refine (readTable_any _ _ l (HL.out _ HB0.out) hn (HE.out.below HB0.out)).mono ?_
    rintro e w1 ⟨g, rfl, hg, hlr, b1⟩
    rw [ht]
    have HLR := Lib.hid (hlr ht)
    unfold lstV
    obtain ⟨x0, x1, x2, x3⟩ := HTB.out _ b1
    simp only [Nat.zero_add] at x1 x2 x3
    have B1 := Lib.hid (belStep HB0.out b1)
    have s1 : w.heap.size < w1.heap.size := by have := b1.size; simp at this; omega
    clear b1 hlr
    go_wp2_with fail
    refine (iOk_at r _ ((HE.out.below B1.out).below (below_alloc1 _ _))).mono ?_
    rintro e w2 ⟨rfl, b2⟩
    rw [ho]
    have hl4 : (l.length : Int) < 48 := by omega
    obtain ⟨y0, y1, y2, y3⟩ := (show Four w1 w.heap.size 0 r by exact ⟨x0, by rw [Nat.zero_add]; exact x1, by rw [Nat.zero_add]; exact x2, by rw [Nat.zero_add]; exact x3⟩).below ((below_alloc1 w1 (lstO g)).trans (b2.mono (show w1.heap.size ≤ (w1.alloc (lstO g)).heap.size by simp))) s1
    simp only [Nat.zero_add] at y1 y2 y3
    have k2 : w2.heap[w1.heap.size]? = some (lstO g) := (b2.block _ (show w1.heap.size < (w1.alloc (lstO g)).heap.size by simp)).trans (newBlockM w1 _)
    obtain ⟨t0, t1, -⟩ := cells2 (show w2.heap[w1.heap.size]? = some (.cells #[.func (.func 102) #[] #[], .pointer (some ⟨g, 0, none⟩)] 75) from k2)
    have B12 : Below w1.heap.size w1 w2 := (below_alloc1 w1 (lstO g)).trans (b2.mono (show w1.heap.size ≤ (w1.alloc (lstO g)).heap.size by simp))
    have HLR2 := Lib.hid (HLR.out.below B12)
    have B2 := Lib.hid (B1.out.trans (B12.mono (by omega)))
    have HK2 := Lib.hid k2
    have s2 := B12.size
    clear b2 k2 B12
    go_wp2_with fail
    obtain ⟨f, hf⟩ := lr_root HLR2.out
    refine (put_any _ g l f r (by omega) ho (fun i hi => (chain_at l (by simpa [tOk, h48] using ht) i hi).1) hf (HE.out.below B2.out)).mono ?_
    rintro e w3 ⟨k, hst, rfl, hlr3, b3, hnk⟩
    have k3 := hnk _ _ HK2.out (fun x q hh => by simp [lstO, nodeO] at hh)
    obtain ⟨z0, z1, -⟩ := cells2 (show w3.heap[w1.heap.size]? = some (.cells #[.func (.func 102) #[] #[], .pointer (some ⟨g, 0, none⟩)] 75) from k3)
    have HLR3 : Hid (LR w3 g (putF r l)) := by show LR _ _ _; rw [putF_stand hst]; exact hlr3
    have HD : Hid ((putF r l).length ≤ 1000 ∧ (!decide ((putF r l).length = l.length)) = !decide (k < l.length ∧ cmR (ruAt l k) r = 0)) := by
      show _ ∧ _
      rw [putF_stand hst]
      cases hd : decide (k < l.length ∧ cmR (ruAt l k) r = 0)
      · have := insR_len l k r hst.1
        simp only [cond_false]
        refine ⟨by omega, ?_⟩
        rw [decide_eq_false (show ¬ (insR l k r).length = l.length by omega)]
      · simp only [cond_true]
        refine ⟨by omega, ?_⟩
        simp
    have s3 := b3.size
    have B3 := Lib.hid (B2.out.trans (b3.mono (show w.heap.size ≤ g by simp at hg; omega)))
    clear hlr3 b3 hnk k3 hf hst
    generalize decide (k < l.length ∧ cmR (ruAt l k) r = 0) = d at *
    go_wp2_with fail
    refine (tableRules_any _ g _ HD.out.1 HLR3.out).mono ?_
    rintro e w4 ⟨u, rfl, hrow, b4⟩
    have B4 := Lib.hid (B3.out.trans (b4.mono B3.out.size))
    have HROW := Lib.hid (hrow.mono B3.out.size)
    clear b4 hrow
    go_wp2
    exact bodyPost_ret (v := .tuple #[u, .bool !d]) (by simp [results, Tryz.results16, go_sem]) rfl ⟨_, by rw [HD.out.2], HROW.out, B4.out⟩
  · rw [decide_eq_false h4, cond_false, Bool.false_and]
    go_enter Tryz.func16, Tryz.ntmps16
    go_wp2_with fail
    refine (readTable_any _ _ l (HL.out _ HB0.out) hn (HE.out.below HB0.out)).mono ?_
    rintro e w1 ⟨g, rfl, hg, hlr, b1⟩
    rw [ht]
    have HLR := Lib.hid (hlr ht)
    unfold lstV
    obtain ⟨x0, x1, x2, x3⟩ := HTB.out _ b1
    simp only [Nat.zero_add] at x1 x2 x3
    have B1 := Lib.hid (belStep HB0.out b1)
    have s1 : w.heap.size < w1.heap.size := by have := b1.size; simp at this; omega
    clear b1 hlr
    go_wp2_with fail
    refine (iOk_at r _ ((HE.out.below B1.out).below (below_alloc1 _ _))).mono ?_
    rintro e w2 ⟨rfl, b2⟩
    rw [ho]
    have hl4 : ¬ (l.length : Int) < 48 := by omega
    have k2 : w2.heap[w1.heap.size]? = some (lstO g) := (b2.block _ (show w1.heap.size < (w1.alloc (lstO g)).heap.size by simp)).trans (newBlockM w1 _)
    obtain ⟨t0, t1, -⟩ := cells2 (show w2.heap[w1.heap.size]? = some (.cells #[.func (.func 102) #[] #[], .pointer (some ⟨g, 0, none⟩)] 75) from k2)
    have B12 : Below w1.heap.size w1 w2 := (below_alloc1 w1 (lstO g)).trans (b2.mono (show w1.heap.size ≤ (w1.alloc (lstO g)).heap.size by simp))
    have HLR2 := Lib.hid (HLR.out.below B12)
    have B3 := Lib.hid (B1.out.trans (B12.mono (by omega)))
    clear b2 k2 B12
    go_wp2_with fail
    refine (tableRules_any _ g _ (by omega) HLR2.out).mono ?_
    rintro e w4 ⟨u, rfl, hrow, b4⟩
    have B4 := Lib.hid (B3.out.trans (b4.mono B3.out.size))
    have HROW := Lib.hid (hrow.mono B3.out.size)
    clear b4 hrow
    go_wp2
    exact bodyPost_ret (v := .tuple #[u, .bool false]) (by simp [results, Tryz.results16, go_sem]) rfl ⟨_, rfl, HROW.out, B4.out⟩

end Go.Proofs.YtahobeigbjhbbaaGreatDoor

namespace Go.Proofs.YtahobeigbjhbbaaGreatDoor
open Go.ChangeShapes Go.WideShapes Go.ChangeAt Go.RowKit Go.Joins
open Go.Shelf
set_option linter.unusedVariables false

set_option maxRecDepth 100000 in
set_option maxHeartbeats 4000000 in
theorem iTableDrop_any (w : World) (v : Value) (l : List R4) (h : Rls w w.heap.size v l) (hn : l.length ≤ 1048576) (r : R4) (hE : EtOk w) :
    Calls Tryz.prog 21 #[v, .agg #[.int .i64 r.p, .string r.s, .int .i64 r.o, .int .i64 r.t]] w fun e w' => ∃ u L d, e = .returned (.tuple #[u, .bool d]) ∧ RulRow w' w.heap.size u L ∧ Below w.heap.size w w' ∧ ((tOk l && okR r) = false → L = [] ∧ d = false) ∧ ((tOk l && okR r) = true → ∃ k, Stand l r k ∧ d = decide (k < l.length ∧ cmR (ruAt l k) r = 0) ∧ L = bif d then delR l k else l) := by
  have HB0 := Lib.hid (below_alloc1 w (.cells #[.int .i64 r.p, .string r.s, .int .i64 r.o, .int .i64 r.t] 25))
  have HE := Lib.hid hE
  have HL : Hid (∀ W, Below w.heap.size w W → Rls W W.heap.size v l) := fun W hb => (h.below hb (Nat.le_refl _)).mono hb.size
  clear h hE
  obtain ⟨a, cap, rfl⟩ : ∃ a cap, v = .slice a l.length cap := by
    obtain ⟨a, cap, rfl, -⟩ := HL.out w (Below.refl _ _)
    exact ⟨a, cap, rfl⟩
  cases ht : tOk l
  · go_enter Tryz.func21, Tryz.ntmps21
    go_wp2_with fail
    refine (readTable_any _ _ l (HL.out _ HB0.out) hn (HE.out.below HB0.out)).mono ?_
    rintro e w1 ⟨g, rfl, hg, hlr, b1⟩
    rw [ht]
    unfold lstV
    have B1 := Lib.hid (belStep HB0.out b1)
    clear b1 hlr
    go_wp2
    exact bodyPost_ret (v := .tuple #[.slice none 0 0, .bool false]) (by simp [results, Tryz.results21, go_sem]) rfl ⟨_, [], false, rfl, ⟨rfl, .inl ⟨rfl, rfl⟩⟩, B1.out.alloc B1.out.size _, fun _ => ⟨rfl, rfl⟩, fun h => by simp at h⟩
  have h48 : l.length ≤ 48 := by
    have := ht
    simp [tOk] at this
    omega
  have HTB : Hid (∀ w1, Below (w.alloc (.cells #[.int .i64 r.p, .string r.s, .int .i64 r.o, .int .i64 r.t] 25)).heap.size (w.alloc (.cells #[.int .i64 r.p, .string r.s, .int .i64 r.o, .int .i64 r.t] 25)) w1 → Four w1 w.heap.size 0 r) := fun w1 hb => fourOf ((hb.block _ (by simp)).trans (newBlockM w _))
  cases ho : okR r
  · go_enter Tryz.func21, Tryz.ntmps21
    go_wp2_with fail
    refine (readTable_any _ _ l (HL.out _ HB0.out) hn (HE.out.below HB0.out)).mono ?_
    rintro e w1 ⟨g, rfl, hg, hlr, b1⟩
    rw [ht]
    unfold lstV
    obtain ⟨x0, x1, x2, x3⟩ := HTB.out _ b1
    simp only [Nat.zero_add] at x1 x2 x3
    have B1 := Lib.hid (belStep HB0.out b1)
    have s1 : w.heap.size < w1.heap.size := by have := b1.size; simp at this; omega
    clear b1 hlr
    go_wp2_with fail
    refine (iOk_at r _ ((HE.out.below B1.out).below (below_alloc1 _ _))).mono ?_
    rintro e w2 ⟨rfl, b2⟩
    rw [ho]
    have B2 := Lib.hid (b2.mono (show w.heap.size ≤ _ by simp; omega))
    clear b2
    go_wp2
    exact bodyPost_ret (v := .tuple #[.slice none 0 0, .bool false]) (by simp [results, Tryz.results21, go_sem]) rfl ⟨_, [], false, rfl, ⟨rfl, .inl ⟨rfl, rfl⟩⟩, (B1.out.alloc B1.out.size _).trans B2.out, fun _ => ⟨rfl, rfl⟩, fun h => by simp at h⟩
  · go_enter Tryz.func21, Tryz.ntmps21
    go_wp2_with fail
    refine (readTable_any _ _ l (HL.out _ HB0.out) hn (HE.out.below HB0.out)).mono ?_
    rintro e w1 ⟨g, rfl, hg, hlr, b1⟩
    rw [ht]
    have HLR := Lib.hid (hlr ht)
    unfold lstV
    obtain ⟨x0, x1, x2, x3⟩ := HTB.out _ b1
    simp only [Nat.zero_add] at x1 x2 x3
    have B1 := Lib.hid (belStep HB0.out b1)
    have s1 : w.heap.size < w1.heap.size := by have := b1.size; simp at this; omega
    clear b1 hlr
    go_wp2_with fail
    refine (iOk_at r _ ((HE.out.below B1.out).below (below_alloc1 _ _))).mono ?_
    rintro e w2 ⟨rfl, b2⟩
    rw [ho]
    obtain ⟨y0, y1, y2, y3⟩ := (show Four w1 w.heap.size 0 r by exact ⟨x0, by rw [Nat.zero_add]; exact x1, by rw [Nat.zero_add]; exact x2, by rw [Nat.zero_add]; exact x3⟩).below ((below_alloc1 w1 (lstO g)).trans (b2.mono (show w1.heap.size ≤ (w1.alloc (lstO g)).heap.size by simp))) s1
    simp only [Nat.zero_add] at y1 y2 y3
    have k2 : w2.heap[w1.heap.size]? = some (lstO g) := (b2.block _ (show w1.heap.size < (w1.alloc (lstO g)).heap.size by simp)).trans (newBlockM w1 _)
    obtain ⟨t0, t1, -⟩ := cells2 (show w2.heap[w1.heap.size]? = some (.cells #[.func (.func 102) #[] #[], .pointer (some ⟨g, 0, none⟩)] 75) from k2)
    have B12 : Below w1.heap.size w1 w2 := (below_alloc1 w1 (lstO g)).trans (b2.mono (show w1.heap.size ≤ (w1.alloc (lstO g)).heap.size by simp))
    have HLR2 := Lib.hid (HLR.out.below B12)
    have B2 := Lib.hid (B1.out.trans (B12.mono (by omega)))
    have HK2 := Lib.hid k2
    have s2 := B12.size
    clear b2 k2 B12
    go_wp2_with fail
    obtain ⟨f, hf⟩ := lr_root HLR2.out
    refine (drop_any _ g l f r (by omega) ho (fun i hi => (chain_at l (by simpa [tOk, h48] using ht) i hi).1) hf (HE.out.below B2.out)).mono ?_
    rintro e w3 ⟨k, hst, rfl, hlr3, b3, hnk⟩
    have k3 := hnk _ _ HK2.out (fun x q hh => by simp [lstO, nodeO] at hh)
    obtain ⟨z0, z1, -⟩ := cells2 (show w3.heap[w1.heap.size]? = some (.cells #[.func (.func 102) #[] #[], .pointer (some ⟨g, 0, none⟩)] 75) from k3)
    have HD : Hid ((bif decide (k < l.length ∧ cmR (ruAt l k) r = 0) then delR l k else l).length ≤ 1000) := by
      show _ ≤ _
      cases hd : decide (k < l.length ∧ cmR (ruAt l k) r = 0)
      · simp only [cond_false]; omega
      · have := delR_len l (of_decide_eq_true hd).1
        simp only [cond_true]
        omega
    have HLR3 := Lib.hid hlr3
    have HST := Lib.hid hst
    have s3 := b3.size
    have B3 := Lib.hid (B2.out.trans (b3.mono (show w.heap.size ≤ g by simp at hg; omega)))
    clear hlr3 b3 hnk k3 hf hst
    obtain ⟨d, hd⟩ : ∃ d, decide (k < l.length ∧ cmR (ruAt l k) r = 0) = d := ⟨_, rfl⟩
    have HDD := Lib.hid hd
    rw [hd] at HD HLR3 ⊢
    clear hd
    go_wp2_with fail
    refine (tableRules_any _ g _ HD.out HLR3.out).mono ?_
    rintro e w4 ⟨u, rfl, hrow, b4⟩
    have B4 := Lib.hid (B3.out.trans (b4.mono B3.out.size))
    have HROW := Lib.hid (hrow.mono B3.out.size)
    clear b4 hrow
    go_wp2
    exact bodyPost_ret (v := .tuple #[u, .bool d]) (by simp [results, Tryz.results21, go_sem]) rfl ⟨_, _, _, rfl, HROW.out, B4.out, fun h => by simp at h, fun _ => ⟨k, HST.out, HDD.out.symm, rfl⟩⟩

end Go.Proofs.YtahobeigbjhbbaaGreatDoor

namespace Go.Proofs.YtahobeigbjhbbaaGreatDoor
open Go.ChangeShapes Go.WideShapes Go.ChangeAt Go.RowKit Go.Joins
open Go.Shelf
set_option linter.unusedVariables false

/-- All rules of a slice are appended to rules of the call's own. -/
theorem app_rules {w : World} {ops : Array Oper} {rest : List Oper} {o : Oper} {a : Act} {Q : Exit → Act → World → Prop} (hgd : o.guard = none) (s x : Operand)
    (ho : o.op = .call { callee := .builtin .append, args := #[s, x], argTypes := #[23, 23] }) (base : Nat) (v : Value) (L : List R4) (hs : a.eval s = v) (hrow : RulRow w base v L) (g off cap : Nat) (M : List R4)
    (hx : a.eval x = .slice (some ⟨g, off, none⟩) M.length cap) (hf : ∀ i, i < M.length → Four w g (off + i * 4) (ruAt M i)) (hn : L.length + M.length ≤ 1000000) (hb : base ≤ w.heap.size)
    (h : ∀ v' w', RulRow w' base v' (L ++ M) → Below base w w' → w.heap.size ≤ w'.heap.size → wpList Tryz.prog ops Q rest (a.put o.dst v') w') : wpList Tryz.prog ops Q (o :: rest) a w := by
  obtain ⟨i0, hi, hz0, hz1, hz2⟩ := info_parts infoR
  refine wpList_append_own _ hgd s x 23 ho base 25 i0 (.agg #[.int .i64 0, .string ⟨#[]⟩, .int .i64 0, .int .i64 0]) 4 40 Tryz.underlying23 hi hz0 hz1 hz2 rfl (by decide) v L.length _ hs hrow ⟨g, off, none⟩ M.length cap (M.flatMap R4.cs) hx (fl_len M) ?c1 ?c2 ?c3 ?c4 hb ?c6
  case c1 =>
    intro j u hj
    have hjl := (List.getElem?_eq_some_iff.1 hj).1
    rw [fl_len M] at hjl
    obtain ⟨f0, f1, f2, f3⟩ := hf (j / 4) (by omega)
    have hd := Nat.div_add_mod j 4
    have hm := Nat.mod_lt j (show 0 < 4 by decide)
    have hat := fl_at M (j / 4) (j % 4) (by omega) hm
    rw [show j / 4 * 4 + j % 4 = j from by omega, hj] at hat
    have hadd : (⟨g, off, none⟩ : Addr).add j = ⟨g, off + j / 4 * 4 + j % 4, none⟩ := by
      have : off + j / 4 * 4 + j % 4 = off + j := by omega
      rw [this, add_none]
    rw [hadd]
    generalize j % 4 = i at *
    match i, hm, hat with
    | 0, _, hat => simp [R4.cs] at hat; subst hat; exact f0
    | 1, _, hat => simp [R4.cs] at hat; subst hat; exact f1
    | 2, _, hat => simp [R4.cs] at hat; subst hat; exact f2
    | 3, _, hat => simp [R4.cs] at hat; subst hat; exact f3
    | i + 4, hm, _ => omega
  case c2 =>
    intro u hu
    obtain ⟨q, hq, hu⟩ := List.mem_flatMap.1 hu
    simp [R4.cs] at hu
    rcases hu with rfl | rfl | rfl | rfl <;> rfl
  case c3 => unfold maxLen; omega
  case c4 => omega
  case c6 =>
    intro v' w' hown hg hnil
    refine h v' w' ?_ ⟨hg.os, hg.tape, hg.output, hg.size, fun j hj => hg.block j (by omega) (fun e => by have := (World.ownsRow.lt hrow j e.symm).1; omega)⟩ hg.size
    unfold RulRow
    rw [List.length_append, List.flatMap_append]
    exact hown

theorem emptyRowR (W : World) (base : Nat) (h : base ≤ W.heap.size) : RulRow (W.alloc (.cells #[] 25)) base (.slice (some ⟨W.heap.size, 0, none⟩) 0 0) [] :=
  World.ownsRow_made (base := base) (e := 25) (size := 4) W #[] 0 h (by unfold maxLen; omega) rfl
theorem tOk_mem {l : List R4} (ht : tOk l = true) : ∀ q ∈ l, okR q = true := (tOk_pw.1 ht).2.1

set_option maxRecDepth 100000 in
set_option maxHeartbeats 4000000 in
theorem sTablePut_any (w : World) (v : Value) (l : List R4) (h : Rls w w.heap.size v l) (hn : l.length ≤ 1048576) (r : R4) :
    Calls Tryz.prog 15 #[v, .agg #[.int .i64 r.p, .string r.s, .int .i64 r.o, .int .i64 r.t]] w fun e w' => ∃ u, e = .returned (.tuple #[u, .bool (putO r l)]) ∧ RulRow w' w.heap.size u (putT r l) ∧ Below w.heap.size w w' := by
  have HB0 := Lib.hid (below_alloc1 w (.cells #[.int .i64 r.p, .string r.s, .int .i64 r.o, .int .i64 r.t] 25))
  have HL : Hid (∀ W, Below w.heap.size w W → Rls W W.heap.size v l) := fun W hb => (h.below hb (Nat.le_refl _)).mono hb.size
  have HV : Hid (∀ W, Below w.heap.size w W → Rls W w.heap.size v l) := fun W hb => h.below hb (Nat.le_refl _)
  clear h
  have HTB : Hid (∀ w1, Below (w.alloc (.cells #[.int .i64 r.p, .string r.s, .int .i64 r.o, .int .i64 r.t] 25)).heap.size (w.alloc (.cells #[.int .i64 r.p, .string r.s, .int .i64 r.o, .int .i64 r.t] 25)) w1 → Four w1 w.heap.size 0 r) := fun w1 hb => fourOf ((hb.block _ (by simp)).trans (newBlockM w _))
  cases ht : tOk l
  · have HT : Hid (putT r l = [] ∧ putO r l = false) := by show _ ∧ _; simp [putT, putO, ht]
    rw [HT.out.1, HT.out.2]
    go_enter Tryz.func15, Tryz.ntmps15
    go_wp2_with fail
    refine (sTableOk_any _ _ l (HL.out _ HB0.out) hn).mono ?_
    rintro e w1 ⟨rfl, b1⟩
    rw [ht]
    have B1 := Lib.hid (belStep HB0.out b1)
    have HM := Lib.hid (emptyRowR w1 w.heap.size B1.out.size)
    clear b1
    go_wp2
    exact bodyPost_ret (v := .tuple #[.slice (some ⟨w1.heap.size, 0, none⟩) 0 0, .bool false]) (by simp [results, Tryz.results15, go_sem]) rfl ⟨_, rfl, HM.out, B1.out.alloc B1.out.size _⟩
  cases ho : okR r
  · have HT : Hid (putT r l = [] ∧ putO r l = false) := by show _ ∧ _; simp [putT, putO, ho]
    rw [HT.out.1, HT.out.2]
    go_enter Tryz.func15, Tryz.ntmps15
    go_wp2_with fail
    refine (sTableOk_any _ _ l (HL.out _ HB0.out) hn).mono ?_
    rintro e w1 ⟨rfl, b1⟩
    rw [ht]
    obtain ⟨x0, x1, x2, x3⟩ := HTB.out _ b1
    simp only [Nat.zero_add] at x1 x2 x3
    have B1 := Lib.hid (belStep HB0.out b1)
    have s1 : w.heap.size < w1.heap.size := by have := b1.size; simp at this; omega
    clear b1
    go_wp2_with fail
    refine (sRuleOk_any r.p r.s r.hs r.o r.t _).mono ?_
    rintro e w2 ⟨rfl, b2⟩
    rw [show rOk r.p r.s r.o r.t = false from ho]
    have B2 := Lib.hid (belStep B1.out b2)
    have HM := Lib.hid (emptyRowR w2 w.heap.size B2.out.size)
    clear b2
    go_wp2
    exact bodyPost_ret (v := .tuple #[.slice (some ⟨w2.heap.size, 0, none⟩) 0 0, .bool false]) (by simp [results, Tryz.results15, go_sem]) rfl ⟨_, rfl, HM.out, B2.out.alloc B2.out.size _⟩
  have h48 : l.length ≤ 48 := (tOk_pw.1 ht).1
  have HOK := Lib.hid (tOk_mem ht)
  have HT : Hid (putT r l = bif decide (l.length < 48) then putF r l else l) := by show _ = _; simp [putT, ht, ho]
  have HO : Hid (putO r l = (decide (l.length < 48) && !decide ((putF r l).length = l.length))) := by show _ = _; simp [putO, ht, ho]
  have HPC := Lib.hid (putF_cases r l)
  rw [HT.out, HO.out]
  obtain ⟨a, cap, rfl, hc, hm, hh⟩ := HV.out w (Below.refl _ _)
  have HSRC : Hid (l ≠ [] → ∃ b off, a = some ⟨b, off, none⟩ ∧ b < w.heap.size ∧ ∀ W, Below w.heap.size w W → ∀ i, i < l.length → Four W b (off + i * 4) (ruAt l i)) := fun hne => by
    rcases hh with h | ⟨b, off, h1, h2, h3⟩
    · exact absurd h hne
    · exact ⟨b, off, h1, h2, fun W hW i hi => (h3 i hi).below hW h2⟩
  clear hh HV
  unfold maxLen at hm
  go_enter Tryz.func15, Tryz.ntmps15
  go_wp2_with fail
  refine (sTableOk_any _ _ l (HL.out _ HB0.out) hn).mono ?_
  rintro e w1 ⟨rfl, b1⟩
  rw [ht]
  obtain ⟨x0, x1, x2, x3⟩ := HTB.out _ b1
  simp only [Nat.zero_add] at x1 x2 x3
  have B1 := Lib.hid (belStep HB0.out b1)
  have C1 := Lib.hid b1
  have s1 : w.heap.size < w1.heap.size := by have := b1.size; simp at this; omega
  clear b1
  go_wp2_with fail
  refine (sRuleOk_any r.p r.s r.hs r.o r.t _).mono ?_
  rintro e w2 ⟨rfl, b2⟩
  rw [show rOk r.p r.s r.o r.t = true from ho]
  obtain ⟨y0, y1, y2, y3⟩ := HTB.out _ (belStep C1.out b2)
  simp only [Nat.zero_add] at y1 y2 y3
  have B2 := Lib.hid (belStep B1.out b2)
  have s2 : w.heap.size < w2.heap.size := by have := b2.size; omega
  clear b2 x0 x1 x2 x3
  go_wp2_with fail
  refine (l12Put_any _ _ l r (HL.out _ B2.out) (by omega) ho HOK.out).mono ?_
  rintro e w3 ⟨u, rfl, hrow, b3⟩
  have B3 := Lib.hid (belStep B2.out b3)
  have HROW := Lib.hid (hrow.mono B2.out.size)
  have s3 := b3.size
  clear b3 hrow y0 y1 y2 y3
  rcases HPC.out with ⟨hpl, hne⟩ | hpl
  · have HX : Hid ((decide (l.length < 48) && !decide ((putF r l).length = l.length)) = false) := by show _ = _; rw [hpl]; simp
    have HY : Hid ((bif decide (l.length < 48) then putF r l else l) = l) := by show _ = _; rw [hpl]; cases decide (l.length < 48) <;> rfl
    rw [hpl] at HROW
    obtain ⟨b, off, rfl, hb, hf⟩ := HSRC.out hne
    have HF := Lib.hid (hf _ ((B3.out.alloc B3.out.size (.cells #[] 25))))
    have HM := Lib.hid (emptyRowR w3 w.heap.size B3.out.size)
    obtain ⟨g, cap', rfl⟩ : ∃ g cap', u = .slice (some ⟨g, 0, none⟩) l.length cap' := by
      rcases HROW.out.form with ⟨-, h⟩ | ⟨g, cap', h, -⟩
      · exact absurd h hne
      · exact ⟨g, cap', h⟩
    clear hf hpl
    go_wp2_with (at_builtin; refine app_rules rfl _ _ rfl w.heap.size _ [] rfl HM.out b off cap l rfl HF.out (by simp; omega) (by simp; omega) ?_; rintro v' w4 hrow4 hb4 hs4; have HR4 := Lib.hid hrow4; have HB4 := Lib.hid hb4; clear hrow4 hb4 hs4)
    go_wp2
    exact bodyPost_ret (v := .tuple #[v', .bool false]) (by simp [results, Tryz.results15, go_sem]) rfl ⟨_, by rw [HX.out], by rw [HY.out]; simpa using HR4.out, (B3.out.alloc B3.out.size _).trans HB4.out⟩
  · obtain ⟨g, cap', rfl⟩ : ∃ g cap', u = .slice (some ⟨g, 0, none⟩) (putF r l).length cap' := by
      rcases HROW.out.form with ⟨-, h⟩ | ⟨g, cap', h, -⟩
      · rw [h] at hpl; simp at hpl
      · exact ⟨g, cap', h⟩
    obtain ⟨m, hmm⟩ : ∃ m, (putF r l).length = m := ⟨_, rfl⟩
    have q1 : ((m : Int) == (l.length : Int)) = false := by simp; omega
    by_cases h4 : l.length < 48
    · have q3 : decide ((48 : Int) < (m : Int)) = false := by simp; omega
      have HX : Hid ((decide (l.length < 48) && !decide ((putF r l).length = l.length)) = true) := by show _ = _; rw [hpl]; simp [h4]
      have HY : Hid ((bif decide (l.length < 48) then putF r l else l) = putF r l) := by show _ = _; rw [decide_eq_true h4]; rfl
      rw [hmm] at HROW
      rw [hmm]
      clear hmm hpl
      go_wp2
      exact bodyPost_ret (v := .tuple #[.slice (some ⟨g, 0, none⟩) m cap', .bool true]) (by simp [results, Tryz.results15, go_sem]) rfl ⟨_, by rw [HX.out], by rw [HY.out]; exact HROW.out, B3.out⟩
    · have q3 : (48 : Int) < (m : Int) := by omega
      have hne : l ≠ [] := fun e => by rw [e] at h4; simp at h4
      obtain ⟨b, off, rfl, hb, hf⟩ := HSRC.out hne
      have HF := Lib.hid (hf _ ((B3.out.alloc B3.out.size (.cells #[] 25))))
      have HX : Hid ((decide (l.length < 48) && !decide ((putF r l).length = l.length)) = false) := by show _ = _; rw [decide_eq_false h4]; rfl
      have HY : Hid ((bif decide (l.length < 48) then putF r l else l) = l) := by show _ = _; rw [decide_eq_false h4]; rfl
      rw [hmm]
      have HM := Lib.hid (emptyRowR w3 w.heap.size B3.out.size)
      clear hf hpl hmm
      go_wp2_with (at_builtin; refine app_rules rfl _ _ rfl w.heap.size _ [] rfl HM.out b off cap l rfl HF.out (by simp; omega) (by simp; omega) ?_; rintro v' w4 hrow4 hb4 hs4; have HR4 := Lib.hid hrow4; have HB4 := Lib.hid hb4; clear hrow4 hb4 hs4)
      go_wp2
      exact bodyPost_ret (v := .tuple #[v', .bool false]) (by simp [results, Tryz.results15, go_sem]) rfl ⟨_, by rw [HX.out], by rw [HY.out]; simpa using HR4.out, (B3.out.alloc B3.out.size _).trans HB4.out⟩

theorem putT_len (r : R4) (l : List R4) : (putT r l).length ≤ 49 := by
  unfold putT
  cases ht : (tOk l && okR r)
  · exact Nat.zero_le _
  · rw [Bool.and_eq_true] at ht
    have h48 := (tOk_pw.1 ht.1).1
    have := putF_len r l
    rw [cond_true]
    cases decide (l.length < 48)
    · rw [cond_false]; omega
    · rw [cond_true]; omega

end Go.Proofs.YtahobeigbjhbbaaGreatDoor

namespace Go.Proofs.YtahobeigbjhbbaaGreatDoor
open Go.ChangeShapes Go.WideShapes Go.ChangeAt Go.RowKit Go.Joins
open Go.Shelf
set_option linter.unusedVariables false

theorem iTableDrop_all (w : World) (v : Value) (l : List R4) (h : Rls w w.heap.size v l) (hn : l.length ≤ 1048576) (r : R4) (hE : EtOk w) :
    Calls Tryz.prog 21 #[v, .agg #[.int .i64 r.p, .string r.s, .int .i64 r.o, .int .i64 r.t]] w fun e w' => ∃ u, e = .returned (.tuple #[u, .bool (dropO r l)]) ∧ RulRow w' w.heap.size u (dropT r l) ∧ Below w.heap.size w w' := by
  refine (iTableDrop_any w v l h hn r hE).mono ?_
  rintro e w1 ⟨u, L, d, rfl, hrow, hb, h0, h1⟩
  cases ht : (tOk l && okR r)
  · obtain ⟨rfl, rfl⟩ := h0 ht
    exact ⟨u, by rw [dropO, ht, Bool.false_and], by rw [dropT, ht]; exact hrow, hb⟩
  · obtain ⟨k, hst, hd, hL⟩ := h1 ht
    have ht' := ht
    rw [Bool.and_eq_true] at ht'
    obtain ⟨-, hok, hp⟩ := tOk_pw.1 ht'.1
    obtain ⟨e1, e2⟩ := drop_stand hst hok ht'.2 hp
    rw [← hd] at e1 e2
    rw [← hL] at e1
    exact ⟨u, by rw [dropO, ht, Bool.true_and, e2], by rw [dropT, ht, cond_true, ← e1]; exact hrow, hb⟩

theorem toListNe {s s' : ByteArray} (hs : ¬ s = s') : ¬ s.toList = s'.toList := fun h => hs (by
  rw [Lib.toList_data, Lib.toList_data] at h
  exact ByteArray.ext (Array.toList_inj.1 h))
/-- Two rules are the same, or they differ in a first field. -/
theorem diffR (y r : R4) : y = r ∨ (sameR y r = false ∧ (¬ y.p = r.p ∨ (y.p = r.p ∧ ¬ y.s.toList = r.s.toList) ∨ (y.p = r.p ∧ y.s = r.s ∧ ¬ y.o = r.o) ∨ (y.p = r.p ∧ y.s = r.s ∧ y.o = r.o ∧ ¬ y.t = r.t))) := by
  by_cases h1 : y.p = r.p
  · by_cases h2 : y.s = r.s
    · by_cases h3 : y.o = r.o
      · by_cases h4 : y.t = r.t
        · exact .inl (R4.eq ⟨h1, h2, h3, h4⟩)
        · exact .inr ⟨by simp [sameR, h4], .inr (.inr (.inr ⟨h1, h2, h3, h4⟩))⟩
      · exact .inr ⟨by simp [sameR, h3], .inr (.inr (.inl ⟨h1, h2, h3⟩))⟩
    · exact .inr ⟨by simp [sameR, h2], .inr (.inl ⟨h1, toListNe h2⟩)⟩
  · exact .inr ⟨by simp [sameR, h1], .inl h1⟩
theorem dropF_take (r : R4) (l : List R4) {k : Nat} (hk : k < l.length) : dropF r (l.take (k + 1)) = bif sameR (ruAt l k) r then dropF r (l.take k) else dropF r (l.take k) ++ [ruAt l k] := by
  unfold dropF
  rw [take_step l hk, List.filter_append]
  cases h : sameR (ruAt l k) r <;> simp [h]
theorem dropF_len (r : R4) (l : List R4) (k : Nat) : (dropF r (l.take k)).length ≤ k := by
  have h1 := List.length_filter_le (fun q => !sameR q r) (l.take k)
  have h2 : (l.take k).length ≤ k := by simp; omega
  unfold dropF
  omega

set_option maxRecDepth 100000 in
set_option maxHeartbeats 4000000 in
theorem l12Drop_any (w : World) (v : Value) (l : List R4) (r : R4) (h : Rls w w.heap.size v l) (hn : l.length ≤ 1000) :
    Calls Tryz.prog 69 #[v, .agg #[.int .i64 r.p, .string r.s, .int .i64 r.o, .int .i64 r.t]] w fun e w' => ∃ u, e = .returned u ∧ RulRow w' w.heap.size u (dropF r l) ∧ Below w.heap.size w w' := by
  obtain ⟨a, cap, rfl, hc, hm, hh⟩ := h
  have hnz : l.length = 0 ∨ ∃ b off, a = some ⟨b, off, none⟩ ∧ b < w.heap.size ∧ Hid (∀ i, i < l.length → Four w b (off + i * 4) (ruAt l i)) := by
    rcases hh with h | ⟨b, off, h1, h2, h3⟩
    · exact .inl (by rw [h]; rfl)
    · exact .inr ⟨b, off, h1, h2, h3⟩
  clear hh
  unfold maxLen at hm
  have HFS : Hid (∀ k, k < l.length → dropF r (l.take (k + 1)) = bif sameR (ruAt l k) r then dropF r (l.take k) else dropF r (l.take k) ++ [ruAt l k]) := fun k hk => dropF_take r l hk
  have HFL : Hid (∀ k, (dropF r (l.take k)).length ≤ k) := fun k => dropF_len r l k
  have HPF : Hid (dropF r (l.take l.length) = dropF r l) := by show _ = _; rw [List.take_length]
  have B00 := Lib.hid (below_alloc2 w (.cells #[.int .i64 r.p, .string r.s, .int .i64 r.o, .int .i64 r.t] 25) (.cells #[] 25))
  have HR0 : Hid (RulRow ((w.alloc (.cells #[.int .i64 r.p, .string r.s, .int .i64 r.o, .int .i64 r.t] 25)).alloc (.cells #[] 25)) (w.heap.size + 1) (.slice (some ⟨w.heap.size + 1, 0, none⟩) 0 0) []) := by
    have := emptyRowR (w.alloc (.cells #[.int .i64 r.p, .string r.s, .int .i64 r.o, .int .i64 r.t] 25)) (w.heap.size + 1) (by simp)
    rw [World.size_alloc] at this
    exact this
  have HK0 : Hid (((w.alloc (.cells #[.int .i64 r.p, .string r.s, .int .i64 r.o, .int .i64 r.t] 25)).alloc (.cells #[] 25)).heap[w.heap.size]? = some (.cells #[.int .i64 r.p, .string r.s, .int .i64 r.o, .int .i64 r.t] 25)) := (Below.heap_alloc _ _ _ (by simp)).trans (newBlockM w _)
  generalize hN : l.length = n at *
  go_enter Tryz.func69, Tryz.ntmps69
  go_wp2
  go_loopw [5, 6] (fun x i wr => ∃ k : Nat, k ≤ n ∧ i = .int .i64 k ∧ RulRow wr (w.heap.size + 1) x (dropF r (l.take k)) ∧ wr.heap[w.heap.size]? = some (.cells #[.int .i64 r.p, .string r.s, .int .i64 r.o, .int .i64 r.t] 25) ∧ w.heap.size + 1 ≤ wr.heap.size ∧ Below w.heap.size w wr) (fun _ i _ => n - (intOf i).toNat)
  case atStart => exact ⟨0, Nat.zero_le _, rfl, HR0.out, HK0.out, by simp, B00.out⟩
  case round =>
    obtain ⟨k, hk, rfl, hrow, hblk, hsz, hbel⟩ := hrel
    have HR := Lib.hid hrow
    have HBL := Lib.hid hbel
    have HK := Lib.hid hblk
    clear hrow
    by_cases hlt : k < n
    · have hkz : (k : Int) < (n : Int) := by omega
      rcases hnz with h0 | ⟨b, off, rfl, hb, HC⟩
      · omega
      have hbr : b < wr.heap.size := Nat.lt_of_lt_of_le hb hbel.size
      have hwr : w.heap.size < wr.heap.size := by omega
      obtain ⟨q0, q1, q2, q3⟩ := (HC.out k hlt).below hbel hb
      obtain ⟨e0, e1, e2, e3⟩ := fourOf hblk
      simp only [Nat.zero_add] at e1 e2 e3
      have HST := Lib.hid (HFS.out k hlt)
      have HLN := Lib.hid (HFL.out k)
      clear hblk hbel HC
      generalize dropF r (l.take k) = L at *
      generalize ruAt l k = y at *
      rcases diffR y r with rfl | ⟨hsm, hd⟩
      · rw [sameR_iff.2 rfl, cond_true] at HST
        go_wp2_with fail
        go_quiet (fail)
        have bq : Below wr.heap.size wr (wr.drewN nq) := belDrewN (Below.refl _ _) _
        go_wp2
        go_roundw
        case rel => exact ⟨k + 1, by omega, by go_num, by rw [HST.out]; exact HR.out.below bq, (bq.block _ hwr).trans HK.out, Nat.le_trans hsz bq.size, belStep HBL.out bq⟩
        case measure => simp [intOf]; omega
      · rw [hsm, cond_false] at HST
        have HY4 : Hid (Four wr b (off + k * 4) y) := ⟨q0, q1, q2, q3⟩
        rcases hd with h1 | ⟨h1, h2⟩ | ⟨h1, h2, h3⟩ | ⟨h1, h2, h3, h4⟩
        all_goals
          go_wp2_with fail
          go_quiet (fail)
          have bq : Below wr.heap.size wr (wr.drewN nq) := belDrewN (Below.refl _ _) _
          have sq := bq.size
          have HR1 := Lib.hid (HR.out.below bq)
          have HK1 := Lib.hid ((bq.block _ hwr).trans HK.out)
          have HB1 := Lib.hid (belStep HBL.out bq)
          obtain ⟨y0, y1, y2, y3⟩ := HY4.out.below bq hbr
          clear bq
          try clear h4
          try clear h3
          try clear h2
          try clear h1
          generalize wr.drewN nq = W1 at *
          go_wp2_with (at_builtin; refine app_rule rfl _ _ rfl (w.heap.size + 1) _ _ rfl (HR1.out.below (below_alloc1 _ _)) _ y rfl (newFour _ _) (by have := HLN.out; omega) (by simp; omega) ?_; rintro v' w3 hrow3 hb3 hs3 ⟨g', cap', rfl⟩; have HR3 := Lib.hid hrow3; have HB3 := Lib.hid (((below_alloc1 _ _).mono (by omega)).trans hb3); have s3 := hs3; simp at s3; clear hrow3 hb3 hs3)
          go_wp2
          go_roundw
          case rel => exact ⟨k + 1, by omega, by go_num, by rw [HST.out]; exact HR3.out, (HB3.out.block _ (by omega)).trans HK1.out, by omega, HB1.out.trans (HB3.out.mono (by omega))⟩
          case measure => simp [intOf]; omega
    · obtain rfl : k = n := by omega
      go_wp2
      go_ret
      exact ⟨_, rfl, by rw [← HPF.out]; exact HR.out.mono (Nat.le_succ _), HBL.out⟩

set_option maxRecDepth 100000 in
set_option maxHeartbeats 4000000 in
theorem sTableDrop_any (w : World) (v : Value) (l : List R4) (h : Rls w w.heap.size v l) (hn : l.length ≤ 1048576) (r : R4) :
    Calls Tryz.prog 24 #[v, .agg #[.int .i64 r.p, .string r.s, .int .i64 r.o, .int .i64 r.t]] w fun e w' => ∃ u, e = .returned (.tuple #[u, .bool (dropO r l)]) ∧ RulRow w' w.heap.size u (dropT r l) ∧ Below w.heap.size w w' := by
  have HB0 := Lib.hid (below_alloc1 w (.cells #[.int .i64 r.p, .string r.s, .int .i64 r.o, .int .i64 r.t] 25))
  have HL : Hid (∀ W, Below w.heap.size w W → Rls W W.heap.size v l) := fun W hb => (h.below hb (Nat.le_refl _)).mono hb.size
  have HTB : Hid (∀ w1, Below (w.alloc (.cells #[.int .i64 r.p, .string r.s, .int .i64 r.o, .int .i64 r.t] 25)).heap.size (w.alloc (.cells #[.int .i64 r.p, .string r.s, .int .i64 r.o, .int .i64 r.t] 25)) w1 → Four w1 w.heap.size 0 r) := fun w1 hb => fourOf ((hb.block _ (by simp)).trans (newBlockM w _))
  obtain ⟨a, cap, rfl, hc, hm, -⟩ := h
  unfold maxLen at hm
  cases ht : tOk l
  · have HT : Hid (dropT r l = [] ∧ dropO r l = false) := by show _ ∧ _; simp [dropT, dropO, ht]
    rw [HT.out.1, HT.out.2]
    go_enter Tryz.func24, Tryz.ntmps24
    go_wp2_with fail
    refine (sTableOk_any _ _ l (HL.out _ HB0.out) hn).mono ?_
    rintro e w1 ⟨rfl, b1⟩
    rw [ht]
    have B1 := Lib.hid (belStep HB0.out b1)
    have HM := Lib.hid (emptyRowR w1 w.heap.size B1.out.size)
    clear b1
    go_wp2
    exact bodyPost_ret (v := .tuple #[.slice (some ⟨w1.heap.size, 0, none⟩) 0 0, .bool false]) (by simp [results, Tryz.results24, go_sem]) rfl ⟨_, rfl, HM.out, B1.out.alloc B1.out.size _⟩
  cases ho : okR r
  · have HT : Hid (dropT r l = [] ∧ dropO r l = false) := by show _ ∧ _; simp [dropT, dropO, ho]
    rw [HT.out.1, HT.out.2]
    go_enter Tryz.func24, Tryz.ntmps24
    go_wp2_with fail
    refine (sTableOk_any _ _ l (HL.out _ HB0.out) hn).mono ?_
    rintro e w1 ⟨rfl, b1⟩
    rw [ht]
    obtain ⟨x0, x1, x2, x3⟩ := HTB.out _ b1
    simp only [Nat.zero_add] at x1 x2 x3
    have B1 := Lib.hid (belStep HB0.out b1)
    have s1 : w.heap.size < w1.heap.size := by have := b1.size; simp at this; omega
    clear b1
    go_wp2_with fail
    refine (sRuleOk_any r.p r.s r.hs r.o r.t _).mono ?_
    rintro e w2 ⟨rfl, b2⟩
    rw [show rOk r.p r.s r.o r.t = false from ho]
    have B2 := Lib.hid (belStep B1.out b2)
    have HM := Lib.hid (emptyRowR w2 w.heap.size B2.out.size)
    clear b2
    go_wp2
    exact bodyPost_ret (v := .tuple #[.slice (some ⟨w2.heap.size, 0, none⟩) 0 0, .bool false]) (by simp [results, Tryz.results24, go_sem]) rfl ⟨_, rfl, HM.out, B2.out.alloc B2.out.size _⟩
  have h48 : l.length ≤ 48 := (tOk_pw.1 ht).1
  have HT : Hid (dropT r l = dropF r l) := by show _ = _; simp [dropT, ht, ho]
  have HO : Hid (dropO r l = decide ((dropF r l).length < l.length)) := by show _ = _; simp [dropO, ht, ho]
  rw [HT.out, HO.out]
  go_enter Tryz.func24, Tryz.ntmps24
  go_wp2_with fail
  refine (sTableOk_any _ _ l (HL.out _ HB0.out) hn).mono ?_
  rintro e w1 ⟨rfl, b1⟩
  rw [ht]
  obtain ⟨x0, x1, x2, x3⟩ := HTB.out _ b1
  simp only [Nat.zero_add] at x1 x2 x3
  have B1 := Lib.hid (belStep HB0.out b1)
  have C1 := Lib.hid b1
  have s1 : w.heap.size < w1.heap.size := by have := b1.size; simp at this; omega
  clear b1
  go_wp2_with fail
  refine (sRuleOk_any r.p r.s r.hs r.o r.t _).mono ?_
  rintro e w2 ⟨rfl, b2⟩
  rw [show rOk r.p r.s r.o r.t = true from ho]
  obtain ⟨y0, y1, y2, y3⟩ := HTB.out _ (belStep C1.out b2)
  simp only [Nat.zero_add] at y1 y2 y3
  have B2 := Lib.hid (belStep B1.out b2)
  have s2 : w.heap.size < w2.heap.size := by have := b2.size; omega
  clear b2 x0 x1 x2 x3
  go_wp2_with fail
  refine (l12Drop_any _ _ l r (HL.out _ B2.out) (by omega)).mono ?_
  rintro e w3 ⟨u, rfl, hrow, b3⟩
  have B3 := Lib.hid (belStep B2.out b3)
  have HROW := Lib.hid (hrow.mono B2.out.size)
  have s3 := b3.size
  clear b3 hrow y0 y1 y2 y3
  obtain ⟨m, hmm⟩ : ∃ m, (dropF r l).length = m := ⟨_, rfl⟩
  obtain ⟨a', cap', rfl⟩ : ∃ a' cap', u = .slice a' m cap' := by
    rcases HROW.out.form with ⟨e, h⟩ | ⟨g, cap', e, -⟩
    · rw [h] at hmm
      obtain rfl : m = 0 := hmm.symm
      exact ⟨_, _, e⟩
    · rw [hmm] at e
      exact ⟨_, _, e⟩
  have HX : Hid (decide ((dropF r l).length < l.length) = decide ((m : Int) < (l.length : Int))) := by
    show _ = _
    rw [hmm]
    by_cases h : m < l.length
    · rw [decide_eq_true h, decide_eq_true (by omega)]
    · rw [decide_eq_false h, decide_eq_false (by omega)]
  clear hmm
  go_wp2
  (first | go_quiet (fail) | skip)
  exact bodyPost_ret (v := .tuple #[.slice a' m cap', .bool (decide ((m : Int) < (l.length : Int)))]) (by simp [results, Tryz.results24, go_sem]) rfl ⟨_, by rw [HX.out], HROW.out, B3.out⟩

theorem dropT_len (r : R4) (l : List R4) : (dropT r l).length ≤ 48 := by
  unfold dropT
  cases ht : (tOk l && okR r)
  · exact Nat.zero_le _
  · rw [Bool.and_eq_true] at ht
    have h48 := (tOk_pw.1 ht.1).1
    have := List.length_filter_le (fun q => !sameR q r) l
    rw [cond_true]
    unfold dropF
    omega

end Go.Proofs.YtahobeigbjhbbaaGreatDoor

namespace Go.Proofs.YtahobeigbjhbbaaGreatDoor
set_option linter.unusedVariables false

theorem putO_yes {r : R4} {l : List R4} (h : putO r l = true) : tOk l = true ∧ okR r = true ∧ l.length < 48 ∧ r ∉ l ∧ putT r l = putF r l := by
  simp only [putO, Bool.and_eq_true, decide_eq_true_eq, Bool.not_eq_true', decide_eq_false_iff_not] at h
  obtain ⟨⟨⟨h1, h2⟩, h3⟩, h4⟩ := h
  obtain ⟨-, hok, hp⟩ := tOk_pw.1 h1
  exact ⟨h1, h2, h3, fun hm => h4 (by rw [putF_in hok h2 hp hm]), by simp [putT, h1, h2, h3]⟩
theorem putO_mk {r : R4} {l : List R4} (h1 : tOk l = true) (h2 : okR r = true) (h3 : l.length < 48) (h4 : r ∉ l) : putO r l = true := by
  obtain ⟨-, hok, hp⟩ := tOk_pw.1 h1
  have := (putF_out hok h2 hp h4).1
  simp [putO, h1, h2, h3, this]
theorem putT_ok {r : R4} {l : List R4} (h : putO r l = true) : tOk (putT r l) = true ∧ (putT r l).length = l.length + 1 ∧ ∀ q, q ∈ putT r l ↔ q ∈ l ∨ q = r := by
  obtain ⟨h1, h2, h3, h4, h5⟩ := putO_yes h
  obtain ⟨-, hok, hp⟩ := tOk_pw.1 h1
  obtain ⟨e1, e2, e3⟩ := putF_out hok h2 hp h4
  rw [h5]
  refine ⟨tOk_pw.2 ⟨by omega, fun q hq => ?_, e2⟩, e1, e3⟩
  rcases (e3 q).1 hq with e | rfl
  · exact hok q e
  · exact h2
theorem tOk_ext {l m : List R4} (h : tOk l = true) (h' : tOk m = true) (he : ∀ q, q ∈ l ↔ q ∈ m) : l = m := pw_ext (tOk_pw.1 h).2.2 (tOk_pw.1 h').2.2 he
theorem dropT_ok {r : R4} {l : List R4} (ht : tOk l = true) (hr : okR r = true) : tOk (dropT r l) = true ∧ ∀ q, q ∈ dropT r l ↔ q ∈ l ∧ q ≠ r := by
  obtain ⟨h1, hok, hp⟩ := tOk_pw.1 ht
  have e : dropT r l = dropF r l := by simp [dropT, ht, hr]
  rw [e]
  refine ⟨tOk_pw.2 ⟨?_, fun q hq => hok q (mem_dropF.1 hq).1, dropF_pw r hp⟩, fun q => mem_dropF⟩
  have := List.length_filter_le (fun q => !sameR q r) l
  unfold dropF
  omega
theorem dropO_has {r : R4} {l : List R4} (ht : tOk l = true) (hr : okR r = true) (hm : r ∈ l) : putO r (dropT r l) = true ∧ putT r (dropT r l) = l ∧ (dropT r l).length + 1 = l.length ∧ dropO r l = true := by
  obtain ⟨k1, k2⟩ := dropT_ok ht hr
  have hn : r ∉ dropT r l := fun e => ((k2 r).1 e).2 rfl
  have e : dropT r l = dropF r l := by simp [dropT, ht, hr]
  have hlt : (dropT r l).length < l.length := by
    rw [e]
    unfold dropF
    exact (List.length_filter_lt_length_iff_exists).2 ⟨r, hm, by rw [sameR_iff.2 rfl]; simp⟩
  have h48 := (tOk_pw.1 ht).1
  have p1 := putO_mk k1 hr (by omega) hn
  obtain ⟨q1, q2, q3⟩ := putT_ok p1
  have p2 : putT r (dropT r l) = l := tOk_ext q1 ht (fun q => by
    rw [q3, k2]
    constructor
    · rintro (h | rfl)
      · exact h.1
      · exact hm
    · intro h
      by_cases e : q = r
      · exact .inr e
      · exact .inl ⟨h, e⟩)
  rw [p2] at q2
  exact ⟨p1, p2, q2.symm, by rw [dropO, ht, hr, ← e, decide_eq_true hlt]; rfl⟩
theorem dropO_yes {r : R4} {l : List R4} (h : dropO r l = true) : tOk l = true ∧ okR r = true ∧ r ∈ l := by
  simp only [dropO, Bool.and_eq_true, decide_eq_true_eq] at h
  obtain ⟨⟨h1, h2⟩, h3⟩ := h
  refine ⟨h1, h2, ?_⟩
  by_cases hm : r ∈ l
  · exact hm
  · rw [dropF_out hm] at h3
    omega
theorem dropO_no {r : R4} {l : List R4} (ht : tOk l = true) (hr : okR r = true) (h : dropO r l = false) : dropT r l = l ∧ r ∉ l := by
  have hm : r ∉ l := fun e => by rw [(dropO_has ht hr e).2.2.2] at h; cases h
  exact ⟨by rw [dropT, ht, hr, dropF_out hm]; rfl, hm⟩
/-- What is put can be dropped again. -/
theorem put_back {r : R4} {l : List R4} (h : putO r l = true) : dropO r (putT r l) = true ∧ dropT r (putT r l) = l := by
  obtain ⟨h1, h2, h3, h4, h5⟩ := putO_yes h
  obtain ⟨k1, k2, k3⟩ := putT_ok h
  have hm : r ∈ putT r l := (k3 r).2 (.inr rfl)
  obtain ⟨-, -, -, d⟩ := dropO_has k1 h2 hm
  obtain ⟨j1, j2⟩ := dropT_ok k1 h2
  refine ⟨d, tOk_ext j1 h1 (fun q => ?_)⟩
  rw [j2, k3]
  constructor
  · rintro ⟨h | h, e⟩
    · exact h
    · exact absurd h e
  · intro h
    exact ⟨.inl h, fun e => h4 (e ▸ h)⟩
theorem putO_no {r : R4} {l : List R4} (ht : tOk l = true) (hr : okR r = true) (h : putO r l = false) : putT r l = l ∧ (r ∈ l ∨ l.length = 48) := by
  obtain ⟨h48, hok, hp⟩ := tOk_pw.1 ht
  by_cases hm : r ∈ l
  · refine ⟨?_, .inl hm⟩
    rw [putT, ht, hr, putF_in hok hr hp hm]
    cases decide (l.length < 48) <;> rfl
  · by_cases h4 : l.length < 48
    · rw [putO_mk ht hr h4 hm] at h
      cases h
    · exact ⟨by rw [putT, ht, hr, decide_eq_false h4]; rfl, .inr (by omega)⟩
/-- Two rules are put in any order. -/
theorem put_two {r q : R4} {l : List R4} (h : putO r l = true) (k : putO q (putT r l) = true) : putO q l = true ∧ putO r (putT q l) = true ∧ putT q (putT r l) = putT r (putT q l) := by
  obtain ⟨h1, h2, h3, h4, h5⟩ := putO_yes h
  obtain ⟨a1, a2, a3⟩ := putT_ok h
  obtain ⟨k1, k2, k3, k4, k5⟩ := putO_yes k
  obtain ⟨b1, b2, b3⟩ := putT_ok k
  have hq : q ∉ l ∧ q ≠ r := ⟨fun e => k4 ((a3 q).2 (.inl e)), fun e => k4 ((a3 q).2 (.inr e))⟩
  have p1 := putO_mk h1 k2 h3 hq.1
  obtain ⟨c1, c2, c3⟩ := putT_ok p1
  have hr : r ∉ putT q l := fun e => by
    rcases (c3 r).1 e with e | e
    · exact h4 e
    · exact hq.2 e.symm
  have p2 := putO_mk c1 h2 (by omega) hr
  obtain ⟨d1, d2, d3⟩ := putT_ok p2
  refine ⟨p1, p2, tOk_ext b1 d1 (fun x => ?_)⟩
  rw [b3, a3, d3, c3]
  constructor
  · rintro ((h | h) | h)
    · exact .inl (.inl h)
    · exact .inr h
    · exact .inl (.inr h)
  · rintro ((h | h) | h)
    · exact .inl (.inl h)
    · exact .inr h
    · exact .inl (.inr h)

end Go.Proofs.YtahobeigbjhbbaaGreatDoor

namespace Go.Proofs.YtahobeigbjhbbaaGreatDoor
open Go.ChangeShapes Go.WideShapes Go.ChangeAt Go.RowKit Go.Joins
set_option linter.unusedVariables false

set_option maxRecDepth 100000 in
set_option maxHeartbeats 2000000 in
theorem lxRules_same (w : World) (v v' : Value) (l : List R4) (h : Rls w w.heap.size v l) (h' : Rls w w.heap.size v' l) (hn : l.length ≤ 1048576) :
    Calls Tryz.prog 17 #[v, v'] w fun e w' => e = .returned (.bool true) ∧ Below w.heap.size w w' := by
  obtain ⟨a, cap, rfl, hc, hm, hh⟩ := h
  obtain ⟨a', cap', rfl, hc', hm', hh'⟩ := h'
  have HH := Lib.hid hh
  have HH' := Lib.hid hh'
  clear hh hh'
  unfold maxLen at hm hm'
  generalize hN : l.length = n at *
  go_enter Tryz.func17, Tryz.ntmps17
  go_wp2
  go_loopw [5] (fun i wr => ∃ k : Nat, k ≤ n ∧ i = .int .i64 k ∧ Below w.heap.size w wr) (fun i _ => n - (intOf i).toNat)
  case atStart => exact ⟨0, Nat.zero_le _, rfl, Below.refl _ _⟩
  case round =>
    obtain ⟨k, hk, rfl, hbel⟩ := hrel
    by_cases hlt : k < n
    · have hz : (k : Int) < (n : Int) := by omega
      rcases HH.out with h1 | ⟨b, off, rfl, hb, hcell⟩
      · rw [h1] at hN; simp at hN; omega
      rcases HH'.out with h1 | ⟨b', off', rfl, hb', hcell'⟩
      · rw [h1] at hN; simp at hN; omega
      obtain ⟨c0, c1, c2, c3⟩ := (hcell k hlt).below hbel hb
      obtain ⟨d0, d1, d2, d3⟩ := (hcell' k hlt).below hbel hb'
      clear hcell hcell'
      have HBL := Lib.hid hbel
      clear hbel
      generalize ruAt l k = x at *
      go_wp2_with fail
      go_quiet (fail)
      have bq : Below wr.heap.size wr (wr.drewN nq) := belDrewN (Below.refl _ _) _
      go_wp2
      go_roundw
      case rel => exact ⟨k + 1, by omega, by go_num, belStep HBL.out bq⟩
      case measure => simp [intOf]; omega
    · obtain rfl : k = n := by omega
      go_wp2
      go_ret
      exact ⟨rfl, hbel⟩

theorem mem_take_step {l : List R4} {k : Nat} (hk : k < l.length) {r : R4} : r ∈ l.take (k + 1) ↔ r ∈ l.take k ∨ ruAt l k = r := by
  rw [take_step l hk, List.mem_append, List.mem_singleton]
  exact ⟨fun h => h.imp id Eq.symm, fun h => h.imp id Eq.symm⟩

set_option maxRecDepth 100000 in
set_option maxHeartbeats 2000000 in
theorem lxHas_any (w : World) (v : Value) (l : List R4) (r : R4) (h : Rls w w.heap.size v l) (hn : l.length ≤ 1048576) (m : Bool) (hmm : m = true ↔ r ∈ l) :
    Calls Tryz.prog 20 #[v, .agg #[.int .i64 r.p, .string r.s, .int .i64 r.o, .int .i64 r.t]] w fun e w' => e = .returned (.bool m) ∧ Below w.heap.size w w' := by
  obtain ⟨a, cap, rfl, hc, hm, hh⟩ := h
  have hnz : l.length = 0 ∨ ∃ b off, a = some ⟨b, off, none⟩ ∧ b < w.heap.size ∧ Hid (∀ i, i < l.length → Four w b (off + i * 4) (ruAt l i)) := by
    rcases hh with h | ⟨b, off, h1, h2, h3⟩
    · exact .inl (by rw [h]; rfl)
    · exact .inr ⟨b, off, h1, h2, h3⟩
  clear hh
  unfold maxLen at hm
  have HY : Hid (r ∈ l → m = true) := fun e => hmm.2 e
  have HN : Hid (r ∉ l → m = false) := fun e => by
    show m = false
    cases m
    · rfl
    · exact absurd (hmm.1 rfl) e
  have HT : Hid (∀ k, k < l.length → ruAt l k = r → r ∈ l) := fun k hk e => by rw [← e]; exact ruAt_mem hk
  have HST : Hid (∀ k, k < l.length → r ∉ l.take k → ¬ ruAt l k = r → r ∉ l.take (k + 1)) := fun k hk h1 h2 e => by
    rcases (mem_take_step hk).1 e with e | e
    · exact h1 e
    · exact h2 e
  have HA : Hid (r ∉ l.take l.length → r ∉ l) := by
    show _ → _
    rw [List.take_length]
    exact id
  have HK0 := Lib.hid (newBlockM w (.cells #[.int .i64 r.p, .string r.s, .int .i64 r.o, .int .i64 r.t] 25))
  have HB0 := Lib.hid (below_alloc1 w (.cells #[.int .i64 r.p, .string r.s, .int .i64 r.o, .int .i64 r.t] 25))
  have hs0 : w.heap.size < (w.alloc (.cells #[.int .i64 r.p, .string r.s, .int .i64 r.o, .int .i64 r.t] 25)).heap.size := by simp
  clear hmm
  generalize hN : l.length = n at *
  go_enter Tryz.func20, Tryz.ntmps20
  go_wp2
  go_loopw [5] (fun i wr => ∃ k : Nat, k ≤ n ∧ i = .int .i64 k ∧ r ∉ l.take k ∧ wr.heap[w.heap.size]? = some (.cells #[.int .i64 r.p, .string r.s, .int .i64 r.o, .int .i64 r.t] 25) ∧ w.heap.size < wr.heap.size ∧ Below w.heap.size w wr) (fun i _ => n - (intOf i).toNat)
  case atStart => exact ⟨0, Nat.zero_le _, rfl, by simp, HK0.out, hs0, HB0.out⟩
  case round =>
    obtain ⟨k, hk, rfl, hno, hblk, hsz, hbel⟩ := hrel
    have HNO := Lib.hid hno
    have HBL := Lib.hid hbel
    have HK := Lib.hid hblk
    clear hno
    by_cases hlt : k < n
    · have hkz : (k : Int) < (n : Int) := by omega
      rcases hnz with h0 | ⟨b, off, rfl, hb, HC⟩
      · omega
      obtain ⟨q0, q1, q2, q3⟩ := (HC.out k hlt).below hbel hb
      obtain ⟨e0, e1, e2, e3⟩ := fourOf hblk
      simp only [Nat.zero_add] at e1 e2 e3
      have HTK := Lib.hid (HT.out k hlt)
      have HSK := Lib.hid (HST.out k hlt HNO.out)
      clear hblk hbel HC HK0 HB0
      generalize ruAt l k = y at *
      rcases diffR y r with rfl | ⟨hsm, hd⟩
      · obtain rfl := HY.out (HTK.out rfl)
        go_wp2_with fail
        go_quiet (fail)
        have bq : Below wr.heap.size wr (wr.drewN nq) := belDrewN (Below.refl _ _) _
        go_wp2
        go_ret
        exact ⟨rfl, belStep HBL.out bq⟩
      · have hne : ¬ y = r := fun e => by rw [sameR_iff.2 e] at hsm; cases hsm
        have HNN := Lib.hid (HSK.out hne)
        clear hne
        rcases hd with h1 | ⟨h1, h2⟩ | ⟨h1, h2, h3⟩ | ⟨h1, h2, h3, h4⟩
        all_goals
          go_wp2_with fail
          go_quiet (fail)
          have bq : Below wr.heap.size wr (wr.drewN nq) := belDrewN (Below.refl _ _) _
          have sq := bq.size
          have HK1 := Lib.hid ((bq.block _ hsz).trans HK.out)
          have HB1 := Lib.hid (belStep HBL.out bq)
          go_wp2
          go_roundw
          case rel => exact ⟨k + 1, by omega, by go_num, HNN.out, HK1.out, by omega, HB1.out⟩
          case measure => simp [intOf]; omega
    · obtain rfl : k = n := by omega
      obtain rfl := HN.out (HA.out HNO.out)
      go_wp2
      go_ret
      exact ⟨rfl, HBL.out⟩

end Go.Proofs.YtahobeigbjhbbaaGreatDoor
