/-
  The model's TableDrop; the program's, by the same list.
-/
import Derived.Test.YtahobeigbjhbbaaGreatDoorTabPutM
import Derived.Test.YtahobeigbjhbbaaGreatDoorTabDropT
namespace Go.Proofs.YtahobeigbjhbbaaGreatDoor
open Go.ChangeShapes Go.WideShapes Go.ChangeAt Go.RowKit Go.Joins
open Go.Shelf
set_option linter.unusedVariables false

theorem iTableDrop_all (w : World) (v : Value) (l : List R4) (h : Rls w w.heap.size v l) (hn : l.length ≤ 1048576) (r : R4) (hE : EtOk w) :
    Calls Tryz.prog 21 #[v, .agg #[.int .i64 r.p, .string r.s, .int .i64 r.o, .int .i64 r.t]] w fun e w' => ∃ u, e = .returned (.tuple #[u, .bool (dropO r l)]) ∧ RulRow w' w.heap.size u (dropT r l) ∧ Below w.heap.size w w' := by
  refine (iTableDrop_any w v l h hn r hE).mono ?_
  rintro e w1 ⟨u, L, d, rfl, hrow, hb, h0, h1⟩
  cases ht : (tOk l && okR r)
  · obtain ⟨rfl, rfl⟩ := h0 ht
    exact ⟨u, by rw [dropO, ht, Bool.false_and], by rw [dropT, ht]; exact hrow, hb⟩
  · obtain ⟨k, hst, hd, hL⟩ := h1 ht
    have ht' := ht
    rw [Bool.and_eq_true] at ht'
    obtain ⟨-, hok, hp⟩ := tOk_pw.1 ht'.1
    obtain ⟨e1, e2⟩ := drop_stand hst hok ht'.2 hp
    rw [← hd] at e1 e2
    rw [← hL] at e1
    exact ⟨u, by rw [dropO, ht, Bool.true_and, e2], by rw [dropT, ht, cond_true, ← e1]; exact hrow, hb⟩

theorem toListNe {s s' : ByteArray} (hs : ¬ s = s') : ¬ s.toList = s'.toList := fun h => hs (by
  rw [Lib.toList_data, Lib.toList_data] at h
  exact ByteArray.ext (Array.toList_inj.1 h))
/-- Two rules are the same, or they differ in a first field. -/
theorem diffR (y r : R4) : y = r ∨ (sameR y r = false ∧ (¬ y.p = r.p ∨ (y.p = r.p ∧ ¬ y.s.toList = r.s.toList) ∨ (y.p = r.p ∧ y.s = r.s ∧ ¬ y.o = r.o) ∨ (y.p = r.p ∧ y.s = r.s ∧ y.o = r.o ∧ ¬ y.t = r.t))) := by
  by_cases h1 : y.p = r.p
  · by_cases h2 : y.s = r.s
    · by_cases h3 : y.o = r.o
      · by_cases h4 : y.t = r.t
        · exact .inl (R4.eq ⟨h1, h2, h3, h4⟩)
        · exact .inr ⟨by simp [sameR, h4], .inr (.inr (.inr ⟨h1, h2, h3, h4⟩))⟩
      · exact .inr ⟨by simp [sameR, h3], .inr (.inr (.inl ⟨h1, h2, h3⟩))⟩
    · exact .inr ⟨by simp [sameR, h2], .inr (.inl ⟨h1, toListNe h2⟩)⟩
  · exact .inr ⟨by simp [sameR, h1], .inl h1⟩
theorem dropF_take (r : R4) (l : List R4) {k : Nat} (hk : k < l.length) : dropF r (l.take (k + 1)) = bif sameR (ruAt l k) r then dropF r (l.take k) else dropF r (l.take k) ++ [ruAt l k] := by
  unfold dropF
  rw [take_step l hk, List.filter_append]
  cases h : sameR (ruAt l k) r <;> simp [h]
theorem dropF_len (r : R4) (l : List R4) (k : Nat) : (dropF r (l.take k)).length ≤ k := by
  have h1 := List.length_filter_le (fun q => !sameR q r) (l.take k)
  have h2 : (l.take k).length ≤ k := by simp; omega
  unfold dropF
  omega

set_option maxRecDepth 100000 in
set_option maxHeartbeats 4000000 in
theorem l12Drop_any (w : World) (v : Value) (l : List R4) (r : R4) (h : Rls w w.heap.size v l) (hn : l.length ≤ 1000) :
    Calls Tryz.prog 69 #[v, .agg #[.int .i64 r.p, .string r.s, .int .i64 r.o, .int .i64 r.t]] w fun e w' => ∃ u, e = .returned u ∧ RulRow w' w.heap.size u (dropF r l) ∧ Below w.heap.size w w' := by
  obtain ⟨a, cap, rfl, hc, hm, hh⟩ := h
  have hnz : l.length = 0 ∨ ∃ b off, a = some ⟨b, off, none⟩ ∧ b < w.heap.size ∧ Hid (∀ i, i < l.length → Four w b (off + i * 4) (ruAt l i)) := by
    rcases hh with h | ⟨b, off, h1, h2, h3⟩
    · exact .inl (by rw [h]; rfl)
    · exact .inr ⟨b, off, h1, h2, h3⟩
  clear hh
  unfold maxLen at hm
  have HFS : Hid (∀ k, k < l.length → dropF r (l.take (k + 1)) = bif sameR (ruAt l k) r then dropF r (l.take k) else dropF r (l.take k) ++ [ruAt l k]) := fun k hk => dropF_take r l hk
  have HFL : Hid (∀ k, (dropF r (l.take k)).length ≤ k) := fun k => dropF_len r l k
  have HPF : Hid (dropF r (l.take l.length) = dropF r l) := by show _ = _; rw [List.take_length]
  have B00 := Lib.hid (below_alloc2 w (.cells #[.int .i64 r.p, .string r.s, .int .i64 r.o, .int .i64 r.t] 25) (.cells #[] 25))
  have HR0 : Hid (RulRow ((w.alloc (.cells #[.int .i64 r.p, .string r.s, .int .i64 r.o, .int .i64 r.t] 25)).alloc (.cells #[] 25)) (w.heap.size + 1) (.slice (some ⟨w.heap.size + 1, 0, none⟩) 0 0) []) := by
    have := emptyRowR (w.alloc (.cells #[.int .i64 r.p, .string r.s, .int .i64 r.o, .int .i64 r.t] 25)) (w.heap.size + 1) (by simp)
    rw [World.size_alloc] at this
    exact this
  have HK0 : Hid (((w.alloc (.cells #[.int .i64 r.p, .string r.s, .int .i64 r.o, .int .i64 r.t] 25)).alloc (.cells #[] 25)).heap[w.heap.size]? = some (.cells #[.int .i64 r.p, .string r.s, .int .i64 r.o, .int .i64 r.t] 25)) := (Below.heap_alloc _ _ _ (by simp)).trans (newBlockM w _)
  generalize hN : l.length = n at *
  go_enter Tryz.func69, Tryz.ntmps69
  go_wp2
  go_loopw [5, 6] (fun x i wr => ∃ k : Nat, k ≤ n ∧ i = .int .i64 k ∧ RulRow wr (w.heap.size + 1) x (dropF r (l.take k)) ∧ wr.heap[w.heap.size]? = some (.cells #[.int .i64 r.p, .string r.s, .int .i64 r.o, .int .i64 r.t] 25) ∧ w.heap.size + 1 ≤ wr.heap.size ∧ Below w.heap.size w wr) (fun _ i _ => n - (intOf i).toNat)
  case atStart => exact ⟨0, Nat.zero_le _, rfl, HR0.out, HK0.out, by simp, B00.out⟩
  case round =>
    obtain ⟨k, hk, rfl, hrow, hblk, hsz, hbel⟩ := hrel
    have HR := Lib.hid hrow
    have HBL := Lib.hid hbel
    have HK := Lib.hid hblk
    clear hrow
    by_cases hlt : k < n
    · have hkz : (k : Int) < (n : Int) := by omega
      rcases hnz with h0 | ⟨b, off, rfl, hb, HC⟩
      · omega
      have hbr : b < wr.heap.size := Nat.lt_of_lt_of_le hb hbel.size
      have hwr : w.heap.size < wr.heap.size := by omega
      obtain ⟨q0, q1, q2, q3⟩ := (HC.out k hlt).below hbel hb
      obtain ⟨e0, e1, e2, e3⟩ := fourOf hblk
      simp only [Nat.zero_add] at e1 e2 e3
      have HST := Lib.hid (HFS.out k hlt)
      have HLN := Lib.hid (HFL.out k)
      clear hblk hbel HC
      generalize dropF r (l.take k) = L at *
      generalize ruAt l k = y at *
      rcases diffR y r with rfl | ⟨hsm, hd⟩
      · rw [sameR_iff.2 rfl, cond_true] at HST
        go_wp2_with fail
        go_quiet (fail)
        have bq : Below wr.heap.size wr (wr.drewN nq) := belDrewN (Below.refl _ _) _
        go_wp2
        go_roundw
        case rel => exact ⟨k + 1, by omega, by go_num, by rw [HST.out]; exact HR.out.below bq, (bq.block _ hwr).trans HK.out, Nat.le_trans hsz bq.size, belStep HBL.out bq⟩
        case measure => simp [intOf]; omega
      · rw [hsm, cond_false] at HST
        have HY4 : Hid (Four wr b (off + k * 4) y) := ⟨q0, q1, q2, q3⟩
        rcases hd with h1 | ⟨h1, h2⟩ | ⟨h1, h2, h3⟩ | ⟨h1, h2, h3, h4⟩
        all_goals
          go_wp2_with fail
          go_quiet (fail)
          have bq : Below wr.heap.size wr (wr.drewN nq) := belDrewN (Below.refl _ _) _
          have sq := bq.size
          have HR1 := Lib.hid (HR.out.below bq)
          have HK1 := Lib.hid ((bq.block _ hwr).trans HK.out)
          have HB1 := Lib.hid (belStep HBL.out bq)
          obtain ⟨y0, y1, y2, y3⟩ := HY4.out.below bq hbr
          clear bq
          try clear h4
          try clear h3
          try clear h2
          try clear h1
          generalize wr.drewN nq = W1 at *
          go_wp2_with (at_builtin; refine app_rule rfl _ _ rfl (w.heap.size + 1) _ _ rfl (HR1.out.below (below_alloc1 _ _)) _ y rfl (newFour _ _) (by have := HLN.out; omega) (by simp; omega) ?_; rintro v' w3 hrow3 hb3 hs3 ⟨g', cap', rfl⟩; have HR3 := Lib.hid hrow3; have HB3 := Lib.hid (((below_alloc1 _ _).mono (by omega)).trans hb3); have s3 := hs3; simp at s3; clear hrow3 hb3 hs3)
          go_wp2
          go_roundw
          case rel => exact ⟨k + 1, by omega, by go_num, by rw [HST.out]; exact HR3.out, (HB3.out.block _ (by omega)).trans HK1.out, by omega, HB1.out.trans (HB3.out.mono (by omega))⟩
          case measure => simp [intOf]; omega
    · obtain rfl : k = n := by omega
      go_wp2
      go_ret
      exact ⟨_, rfl, by rw [← HPF.out]; exact HR.out.mono (Nat.le_succ _), HBL.out⟩

set_option maxRecDepth 100000 in
set_option maxHeartbeats 4000000 in
theorem sTableDrop_any (w : World) (v : Value) (l : List R4) (h : Rls w w.heap.size v l) (hn : l.length ≤ 1048576) (r : R4) :
    Calls Tryz.prog 24 #[v, .agg #[.int .i64 r.p, .string r.s, .int .i64 r.o, .int .i64 r.t]] w fun e w' => ∃ u, e = .returned (.tuple #[u, .bool (dropO r l)]) ∧ RulRow w' w.heap.size u (dropT r l) ∧ Below w.heap.size w w' := by
  have HB0 := Lib.hid (below_alloc1 w (.cells #[.int .i64 r.p, .string r.s, .int .i64 r.o, .int .i64 r.t] 25))
  have HL : Hid (∀ W, Below w.heap.size w W → Rls W W.heap.size v l) := fun W hb => (h.below hb (Nat.le_refl _)).mono hb.size
  have HTB : Hid (∀ w1, Below (w.alloc (.cells #[.int .i64 r.p, .string r.s, .int .i64 r.o, .int .i64 r.t] 25)).heap.size (w.alloc (.cells #[.int .i64 r.p, .string r.s, .int .i64 r.o, .int .i64 r.t] 25)) w1 → Four w1 w.heap.size 0 r) := fun w1 hb => fourOf ((hb.block _ (by simp)).trans (newBlockM w _))
  obtain ⟨a, cap, rfl, hc, hm, -⟩ := h
  unfold maxLen at hm
  cases ht : tOk l
  · have HT : Hid (dropT r l = [] ∧ dropO r l = false) := by show _ ∧ _; simp [dropT, dropO, ht]
    rw [HT.out.1, HT.out.2]
    go_enter Tryz.func24, Tryz.ntmps24
    go_wp2_with fail
    refine (sTableOk_any _ _ l (HL.out _ HB0.out) hn).mono ?_
    rintro e w1 ⟨rfl, b1⟩
    rw [ht]
    have B1 := Lib.hid (belStep HB0.out b1)
    have HM := Lib.hid (emptyRowR w1 w.heap.size B1.out.size)
    clear b1
    go_wp2
    exact bodyPost_ret (v := .tuple #[.slice (some ⟨w1.heap.size, 0, none⟩) 0 0, .bool false]) (by simp [results, Tryz.results24, go_sem]) rfl ⟨_, rfl, HM.out, B1.out.alloc B1.out.size _⟩
  cases ho : okR r
  · have HT : Hid (dropT r l = [] ∧ dropO r l = false) := by show _ ∧ _; simp [dropT, dropO, ho]
    rw [HT.out.1, HT.out.2]
    go_enter Tryz.func24, Tryz.ntmps24
    go_wp2_with fail
    refine (sTableOk_any _ _ l (HL.out _ HB0.out) hn).mono ?_
    rintro e w1 ⟨rfl, b1⟩
    rw [ht]
    obtain ⟨x0, x1, x2, x3⟩ := HTB.out _ b1
    simp only [Nat.zero_add] at x1 x2 x3
    have B1 := Lib.hid (belStep HB0.out b1)
    have s1 : w.heap.size < w1.heap.size := by have := b1.size; simp at this; omega
    clear b1
    go_wp2_with fail
    refine (sRuleOk_any r.p r.s r.hs r.o r.t _).mono ?_
    rintro e w2 ⟨rfl, b2⟩
    rw [show rOk r.p r.s r.o r.t = false from ho]
    have B2 := Lib.hid (belStep B1.out b2)
    have HM := Lib.hid (emptyRowR w2 w.heap.size B2.out.size)
    clear b2
    go_wp2
    exact bodyPost_ret (v := .tuple #[.slice (some ⟨w2.heap.size, 0, none⟩) 0 0, .bool false]) (by simp [results, Tryz.results24, go_sem]) rfl ⟨_, rfl, HM.out, B2.out.alloc B2.out.size _⟩
  have h48 : l.length ≤ 48 := (tOk_pw.1 ht).1
  have HT : Hid (dropT r l = dropF r l) := by show _ = _; simp [dropT, ht, ho]
  have HO : Hid (dropO r l = decide ((dropF r l).length < l.length)) := by show _ = _; simp [dropO, ht, ho]
  rw [HT.out, HO.out]
  go_enter Tryz.func24, Tryz.ntmps24
  go_wp2_with fail
  refine (sTableOk_any _ _ l (HL.out _ HB0.out) hn).mono ?_
  rintro e w1 ⟨rfl, b1⟩
  rw [ht]
  obtain ⟨x0, x1, x2, x3⟩ := HTB.out _ b1
  simp only [Nat.zero_add] at x1 x2 x3
  have B1 := Lib.hid (belStep HB0.out b1)
  have C1 := Lib.hid b1
  have s1 : w.heap.size < w1.heap.size := by have := b1.size; simp at this; omega
  clear b1
  go_wp2_with fail
  refine (sRuleOk_any r.p r.s r.hs r.o r.t _).mono ?_
  rintro e w2 ⟨rfl, b2⟩
  rw [show rOk r.p r.s r.o r.t = true from ho]
  obtain ⟨y0, y1, y2, y3⟩ := HTB.out _ (belStep C1.out b2)
  simp only [Nat.zero_add] at y1 y2 y3
  have B2 := Lib.hid (belStep B1.out b2)
  have s2 : w.heap.size < w2.heap.size := by have := b2.size; omega
  clear b2 x0 x1 x2 x3
  go_wp2_with fail
  refine (l12Drop_any _ _ l r (HL.out _ B2.out) (by omega)).mono ?_
  rintro e w3 ⟨u, rfl, hrow, b3⟩
  have B3 := Lib.hid (belStep B2.out b3)
  have HROW := Lib.hid (hrow.mono B2.out.size)
  have s3 := b3.size
  clear b3 hrow y0 y1 y2 y3
  obtain ⟨m, hmm⟩ : ∃ m, (dropF r l).length = m := ⟨_, rfl⟩
  obtain ⟨a', cap', rfl⟩ : ∃ a' cap', u = .slice a' m cap' := by
    rcases HROW.out.form with ⟨e, h⟩ | ⟨g, cap', e, -⟩
    · rw [h] at hmm
      obtain rfl : m = 0 := hmm.symm
      exact ⟨_, _, e⟩
    · rw [hmm] at e
      exact ⟨_, _, e⟩
  have HX : Hid (decide ((dropF r l).length < l.length) = decide ((m : Int) < (l.length : Int))) := by
    show _ = _
    rw [hmm]
    by_cases h : m < l.length
    · rw [decide_eq_true h, decide_eq_true (by omega)]
    · rw [decide_eq_false h, decide_eq_false (by omega)]
  clear hmm
  go_wp2
  (first | go_quiet (fail) | skip)
  exact bodyPost_ret (v := .tuple #[.slice a' m cap', .bool (decide ((m : Int) < (l.length : Int)))]) (by simp [results, Tryz.results24, go_sem]) rfl ⟨_, by rw [HX.out], HROW.out, B3.out⟩

theorem dropT_len (r : R4) (l : List R4) : (dropT r l).length ≤ 48 := by
  unfold dropT
  cases ht : (tOk l && okR r)
  · exact Nat.zero_le _
  · rw [Bool.and_eq_true] at ht
    have h48 := (tOk_pw.1 ht.1).1
    have := List.length_filter_le (fun q => !sameR q r) l
    rw [cond_true]
    unfold dropF
    omega

end Go.Proofs.YtahobeigbjhbbaaGreatDoor
