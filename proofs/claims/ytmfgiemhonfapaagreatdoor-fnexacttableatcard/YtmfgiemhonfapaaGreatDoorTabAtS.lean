/-
  The model's TableAt: the first rule that is of a head.
-/
import Derived.Test.YtmfgiemhonfapaaGreatDoorTabHandle
import Derived.Test.YtmfgiemhonfapaaGreatDoorTabSpec
namespace Go.Proofs.YtmfgiemhonfapaaGreatDoor
open Go.ChangeShapes Go.WideShapes Go.ChangeAt Go.RowKit Go.Joins
set_option linter.unusedVariables false

/-- The place of the first rule that is of a head. -/
def atI (a b c : Int) (l : List R4) : Int := match l.findIdx? (mR a b c) with | none => -1 | some i => i
theorem atI_none {a b c : Int} {l : List R4} (h : ∀ j, j < l.length → mR a b c (ruAt l j) = false) : atI a b c l = -1 := by
  have e : l.findIdx? (mR a b c) = none := by
    rw [List.findIdx?_eq_none_iff]
    intro r hr
    obtain ⟨j, hj, rfl⟩ := List.getElem_of_mem hr
    have := h j hj
    rw [ruAt_lt hj] at this
    simpa using this
  unfold atI
  rw [e]
theorem find_some {a b c : Int} {l : List R4} {k : Nat} (hk : k < l.length) (h : ∀ j, j < k → mR a b c (ruAt l j) = false) (hx : mR a b c (ruAt l k) = true) : l.findIdx? (mR a b c) = some k := by
  rw [List.findIdx?_eq_some_iff_getElem]
  refine ⟨hk, by rw [← ruAt_lt hk]; exact hx, fun j hj => ?_⟩
  have := h j hj
  rw [ruAt_lt (show j < l.length by omega)] at this
  rw [this]
  decide
theorem atI_some {a b c : Int} {l : List R4} {k : Nat} (hk : k < l.length) (h : ∀ j, j < k → mR a b c (ruAt l j) = false) (hx : mR a b c (ruAt l k) = true) : atI a b c l = k := by
  unfold atI
  rw [find_some hk h hx]
theorem mR_has {a b c : Int} (ho : okB a b c = true) {r : R4} (hr : okR r = true) : mR a b c r = hasM (cf r.s) (vf r.s) (hB a b c) := by
  have hs := (rOk_true hr).2.1
  unfold mR doB hasS
  rw [show rOk r.p r.s r.o r.t = true from hr, ho, hs]
  rfl

set_option maxRecDepth 100000 in
set_option maxHeartbeats 2000000 in
theorem l12At_any (w : World) (v : Value) (l : List R4) (h : Rls w w.heap.size v l) (hn : l.length ≤ 1048576) (hok : ∀ i, i < l.length → okR (ruAt l i) = true) (a b c : Int) (ho : okB a b c = true) :
    Calls Tryz.prog 31 #[v, .int .i64 (ofB (hB a b c))] w fun e w' => e = .returned (.int .i64 (atI a b c l)) ∧ Below w.heap.size w w' := by
  obtain ⟨d, cap, rfl, hc, hm, hh⟩ := h
  have hnz : l.length = 0 ∨ ∃ b off, d = some ⟨b, off, none⟩ ∧ b < w.heap.size ∧ Hid (∀ i, i < l.length → Four w b (off + i * 4) (ruAt l i)) := by
    rcases hh with h | ⟨b, off, h1, h2, h3⟩
    · exact .inl (by rw [h]; rfl)
    · exact .inr ⟨b, off, h1, h2, h3⟩
  clear hh
  have HNO : Hid ((∀ j, j < l.length → mR a b c (ruAt l j) = false) → atI a b c l = -1) := atI_none
  have HYES : Hid (∀ k, k < l.length → (∀ j, j < k → mR a b c (ruAt l j) = false) → mR a b c (ruAt l k) = true → atI a b c l = k) := fun k => atI_some
  have HH : Hid (∀ i, i < l.length → ∀ w, Calls Tryz.prog 59 #[.string (ruAt l i).s, .int .i64 (ofB (hB a b c))] w fun e w' => e = .returned (.bool (mR a b c (ruAt l i))) ∧ Below w.heap.size w w') := fun i hi w => by
    rw [mR_has ho (hok i hi)]
    exact l2Has_any _ (rOk_true (hok i hi)).2.1 _ w
  clear hok ho
  unfold maxLen at hm
  generalize hN : l.length = n at *
  generalize ofB (hB a b c) = num at *
  go_enter Tryz.func31, Tryz.ntmps31
  go_wp2
  go_loopw [5] (fun i wr => ∃ k : Nat, k ≤ n ∧ i = .int .i64 k ∧ (∀ j, j < k → mR a b c (ruAt l j) = false) ∧ Below w.heap.size w wr) (fun i _ => n - (intOf i).toNat)
  case atStart => exact ⟨0, Nat.zero_le _, rfl, fun j hj => absurd hj (Nat.not_lt_zero _), Below.refl _ _⟩
  case round =>
    obtain ⟨k, hk, rfl, hok, hbel⟩ := hrel
    have HOK := Lib.hid hok
    have HBL := Lib.hid hbel
    clear hok
    by_cases hlt : k < n
    · have hkz : (k : Int) < (n : Int) := by omega
      rcases hnz with h0 | ⟨b', off, rfl, hb, HC⟩
      · omega
      obtain ⟨c0, c1, c2, c3⟩ := (HC.out k hlt).below hbel hb
      have HX := Lib.hid (HH.out k hlt)
      have HT := Lib.hid (HYES.out k hlt HOK.out)
      have HNX : Hid (mR a b c (ruAt l k) = false → ∀ j, j < k + 1 → mR a b c (ruAt l j) = false) := fun hf j hj => by
        by_cases e : j = k
        · subst e; exact hf
        · exact HOK.out j (by omega)
      clear hbel
      generalize mR a b c (ruAt l k) = m at *
      generalize ruAt l k = x at *
      go_wp2_with fail
      refine (HX.out _).mono ?_
      rintro e w1 ⟨rfl, b1⟩
      cases m
      · go_wp2
        go_roundw
        case rel => exact ⟨k + 1, by omega, by go_num, HNX.out (by trivial), belStep HBL.out b1⟩
        case measure => simp [intOf]; omega
      · go_wp2
        go_ret
        exact ⟨by rw [HT.out (by trivial)]; rfl, belStep HBL.out b1⟩
    · obtain rfl : k = n := by omega
      go_wp2
      go_ret
      exact ⟨by rw [HNO.out HOK.out]; rfl, HBL.out⟩

theorem trio3 {w : World} {b : Nat} {x y z : Value} {t : TypeId} (h : w.heap[b]? = some (.cells #[x, y, z] t)) : w.cell? ⟨b, 0, none⟩ = some x ∧ w.cell? ⟨b, 1, none⟩ = some y ∧ w.cell? ⟨b, 2, none⟩ = some z := ⟨(cells3 h).1, (cells3 h).2.1, (cells3 h).2.2.1⟩
theorem tOk_at {l : List R4} (h : tOk l = true) : ∀ i, i < l.length → okR (ruAt l i) = true := by
  simp only [tOk, Bool.and_eq_true] at h
  exact fun i hi => (chain_at l h.2 i hi).1
theorem tOk_len {l : List R4} (h : tOk l = true) : l.length ≤ 48 := by
  simp only [tOk, Bool.and_eq_true, decide_eq_true_eq] at h
  exact h.1
/-- What TableAt returns. -/
def atT (a b c : Int) (l : List R4) : Int := bif tOk l && okB a b c then atI a b c l else -1
/-- The head and the port that come of a head. -/
def doI (a b c : Int) (l : List R4) : (Int × Int × Int) × Int := match l.findIdx? (mR a b c) with
  | none => ((a, b, c), 0)
  | some i => ((a, b, tagTo (ruAt l i).t c), (ruAt l i).o)
theorem hdV_eq (a b c : Int) (l : List R4) : hdV a b c l = .tuple #[.int .i64 (atI a b c l), .agg #[.int .i64 (doI a b c l).1.1, .int .i64 (doI a b c l).1.2.1, .int .i64 (doI a b c l).1.2.2], .int .i64 (doI a b c l).2] := by
  unfold hdV atI doI
  cases l.findIdx? (mR a b c) <;> rfl
/-- What TableDo returns. -/
def doT (a b c : Int) (l : List R4) : (Int × Int × Int) × Int := bif tOk l && okB a b c then doI a b c l else ((0, 0, 0), 0)

set_option maxRecDepth 100000 in
set_option maxHeartbeats 2000000 in
theorem sTableAt_any (w : World) (v : Value) (l : List R4) (h : Rls w w.heap.size v l) (hn : l.length ≤ 1048576) (a b c : Int) :
    Calls Tryz.prog 10 #[v, .agg #[.int .i64 a, .int .i64 b, .int .i64 c]] w fun e w' => e = .returned (.int .i64 (atT a b c l)) ∧ Below w.heap.size w w' := by
  have HB0 := Lib.hid (below_alloc1 w (.cells #[.int .i64 a, .int .i64 b, .int .i64 c] 25))
  have HL : Hid (∀ W, Below w.heap.size w W → Rls W W.heap.size v l) := fun W hb => (h.below hb (Nat.le_refl _)).mono hb.size
  have HTR : Hid (∀ w1, Below (w.alloc (.cells #[.int .i64 a, .int .i64 b, .int .i64 c] 25)).heap.size (w.alloc (.cells #[.int .i64 a, .int .i64 b, .int .i64 c] 25)) w1 → w1.cell? ⟨w.heap.size, 0, none⟩ = some (.int .i64 a) ∧ w1.cell? ⟨w.heap.size, 1, none⟩ = some (.int .i64 b) ∧ w1.cell? ⟨w.heap.size, 2, none⟩ = some (.int .i64 c)) := fun w1 hb => trio3 ((hb.block _ (by simp)).trans (newBlockM w _))
  clear h
  have HF : Hid (tOk l = false → atT a b c l = -1) := fun h => by show atT _ _ _ _ = _; simp [atT, h]
  have HO : Hid (okB a b c = false → atT a b c l = -1) := fun h => by show atT _ _ _ _ = _; simp [atT, h]
  have HT : Hid (tOk l = true → okB a b c = true → atT a b c l = atI a b c l) := fun h h' => by show atT _ _ _ _ = _; simp [atT, h, h']
  cases ht : tOk l
  · rw [HF.out ht]
    go_enter Tryz.func10, Tryz.ntmps10
    go_wp2_with fail
    refine (sTableOk_any _ v l (HL.out _ HB0.out) hn).mono ?_
    rintro e w1 ⟨rfl, b1⟩
    rw [ht]
    have B1 := Lib.hid (belStep HB0.out b1)
    clear b1
    go_wp2
    go_ret
    exact ⟨rfl, B1.out⟩
  have hok := tOk_at ht
  have HOK := Lib.hid hok
  clear hok
  cases ho : okB a b c
  · rw [HO.out ho]
    go_enter Tryz.func10, Tryz.ntmps10
    go_wp2_with fail
    refine (sTableOk_any _ v l (HL.out _ HB0.out) hn).mono ?_
    rintro e w1 ⟨rfl, b1⟩
    rw [ht]
    have B1 := Lib.hid (belStep HB0.out b1)
    obtain ⟨k0, k1, k2⟩ := HTR.out _ b1
    clear b1
    go_wp2_with fail
    refine (sHeadOk_any _ _ _ _).mono ?_
    rintro e w2 ⟨rfl, b2⟩
    rw [ho]
    have B2 := Lib.hid (belStep B1.out b2)
    clear b2
    go_wp2
    go_ret
    exact ⟨rfl, B2.out⟩
  rw [HT.out ht ho]
  obtain ⟨⟨ha0, ha3⟩, ⟨hb0, hb3⟩, ⟨hc0, hc3⟩⟩ := okB_true ho
  go_enter Tryz.func10, Tryz.ntmps10
  go_wp2_with fail
  refine (sTableOk_any _ v l (HL.out _ HB0.out) hn).mono ?_
  rintro e w1 ⟨rfl, b1⟩
  rw [ht]
  have B1 := Lib.hid (belStep HB0.out b1)
  obtain ⟨k0, k1, k2⟩ := HTR.out _ b1
  have HB1 := Lib.hid b1
  clear b1
  go_wp2_with fail
  refine (sHeadOk_any _ _ _ _).mono ?_
  rintro e w2 ⟨rfl, b2⟩
  rw [ho]
  have B2 := Lib.hid (belStep B1.out b2)
  clear k0 k1 k2
  obtain ⟨k0, k1, k2⟩ := HTR.out _ (belStep HB1.out b2)
  clear b2
  go_wp2_with fail
  refine (l1Num_yes _ _ _ ha0 ha3 hb0 hb3 hc0 hc3 _).mono ?_
  rintro e w3 ⟨rfl, b3⟩
  rw [num_ofB ho]
  have B3 := Lib.hid (belStep B2.out b3)
  clear b3
  go_wp2_with fail
  refine (l12At_any _ v l (HL.out _ B3.out) hn HOK.out a b c ho).mono ?_
  rintro e w4 ⟨rfl, b4⟩
  have B4 := Lib.hid (belStep B3.out b4)
  clear b4
  go_wp2
  go_ret
  exact ⟨rfl, B4.out⟩

set_option maxRecDepth 100000 in
set_option maxHeartbeats 2000000 in
theorem iTableAt_any (w : World) (v : Value) (l : List R4) (h : Rls w w.heap.size v l) (hn : l.length ≤ 1048576) (a b c : Int) (hE : EtOk w) :
    Calls Tryz.prog 9 #[v, .agg #[.int .i64 a, .int .i64 b, .int .i64 c]] w fun e w' => e = .returned (.int .i64 (atT a b c l)) ∧ Below w.heap.size w w' := by
  have HB0 := Lib.hid (below_alloc1 w (.cells #[.int .i64 a, .int .i64 b, .int .i64 c] 25))
  have HE := Lib.hid hE
  have HL : Hid (∀ W, Below w.heap.size w W → Rls W W.heap.size v l) := fun W hb => (h.below hb (Nat.le_refl _)).mono hb.size
  have HTR : Hid (∀ w1, Below (w.alloc (.cells #[.int .i64 a, .int .i64 b, .int .i64 c] 25)).heap.size (w.alloc (.cells #[.int .i64 a, .int .i64 b, .int .i64 c] 25)) w1 → w1.cell? ⟨w.heap.size, 0, none⟩ = some (.int .i64 a) ∧ w1.cell? ⟨w.heap.size, 1, none⟩ = some (.int .i64 b) ∧ w1.cell? ⟨w.heap.size, 2, none⟩ = some (.int .i64 c)) := fun w1 hb => trio3 ((hb.block _ (by simp)).trans (newBlockM w _))
  clear h hE
  have HF : Hid (tOk l = false → atT a b c l = -1) := fun h => by show atT _ _ _ _ = _; simp [atT, h]
  have HO : Hid (okB a b c = false → atT a b c l = -1) := fun h => by show atT _ _ _ _ = _; simp [atT, h]
  have HT : Hid (tOk l = true → okB a b c = true → atT a b c l = atI a b c l) := fun h h' => by show atT _ _ _ _ = _; simp [atT, h, h']
  have HV := Lib.hid (hdV_eq a b c l)
  cases ht : tOk l
  · rw [HF.out ht]
    go_enter Tryz.func9, Tryz.ntmps9
    go_wp2_with fail
    refine (readTable_any _ v l (HL.out _ HB0.out) hn (HE.out.below HB0.out)).mono ?_
    rintro e w1 ⟨g, rfl, hg, hlr, b1⟩
    rw [ht]
    unfold lstV
    have B1 := Lib.hid (belStep HB0.out b1)
    clear b1 hlr
    go_wp2
    go_ret
    exact ⟨rfl, B1.out.alloc B1.out.size _⟩
  have HTB : Hid (∀ w1, Below (w.alloc (.cells #[.int .i64 a, .int .i64 b, .int .i64 c] 25)).heap.size (w.alloc (.cells #[.int .i64 a, .int .i64 b, .int .i64 c] 25)) w1 → ∀ g w2, Below (w1.alloc (lstO g)).heap.size (w1.alloc (lstO g)) w2 → (w2.cell? ⟨w.heap.size, 0, none⟩ = some (.int .i64 a) ∧ w2.cell? ⟨w.heap.size, 1, none⟩ = some (.int .i64 b) ∧ w2.cell? ⟨w.heap.size, 2, none⟩ = some (.int .i64 c)) ∧ w2.cell? ⟨w1.heap.size, 0, none⟩ = some (.func (.func 53) #[] #[]) ∧ w2.cell? ⟨w1.heap.size, 1, none⟩ = some (.pointer (some ⟨g, 0, none⟩)) ∧ Below w1.heap.size w1 w2 ∧ w.heap.size < w1.heap.size ∧ w1.heap.size < w2.heap.size) := fun w1 b1 g w2 b2 => by
    have h1 : Below w1.heap.size w1 w2 := (below_alloc1 w1 (lstO g)).trans (b2.mono (by simp))
    obtain ⟨c0, c1, -⟩ := cells2 ((b2.block w1.heap.size (by simp)).trans (newBlockM w1 (lstO g)))
    have s1 := b1.size
    have s2 := b2.size
    simp at s1 s2
    exact ⟨HTR.out _ (belStep b1 h1), c0, c1, h1, by omega, by omega⟩
  cases ho : okB a b c
  · rw [HO.out ho]
    go_enter Tryz.func9, Tryz.ntmps9
    go_wp2_with fail
    refine (readTable_any _ v l (HL.out _ HB0.out) hn (HE.out.below HB0.out)).mono ?_
    rintro e w1 ⟨g, rfl, hg, hlr, b1⟩
    rw [ht]
    have B1 := Lib.hid (belStep HB0.out b1)
    have HT2 := Lib.hid (HTB.out _ b1 g)
    obtain ⟨⟨k0, k1, k2⟩, t0, t1, -, g1, g2⟩ := HT2.out _ (Below.refl _ _)
    clear b1 hlr
    unfold lstV
    unfold lstO at *
    go_wp2_with fail
    refine (iHeadOk_any _ _ _ _).mono ?_
    rintro e w2 ⟨rfl, b2⟩
    rw [ho]
    obtain ⟨-, -, -, b12, -, -⟩ := HT2.out _ b2
    clear b2
    go_wp2
    go_ret
    exact ⟨rfl, belStep B1.out b12⟩
  rw [HT.out ht ho]
  go_enter Tryz.func9, Tryz.ntmps9
  go_wp2_with fail
  refine (readTable_any _ v l (HL.out _ HB0.out) hn (HE.out.below HB0.out)).mono ?_
  rintro e w1 ⟨g, rfl, hg, hlr, b1⟩
  have HLR := Lib.hid (hlr ht)
  rw [ht]
  have B1 := Lib.hid (belStep HB0.out b1)
  have HT2 := Lib.hid (HTB.out _ b1 g)
  obtain ⟨⟨k0, k1, k2⟩, t0, t1, -, g1, g2⟩ := HT2.out _ (Below.refl _ _)
  clear b1 hlr
  unfold lstV
  unfold lstO at *
  go_wp2_with fail
  refine (iHeadOk_any _ _ _ _).mono ?_
  rintro e w2 ⟨rfl, b2⟩
  rw [ho]
  clear k0 k1 k2 t0 t1
  obtain ⟨⟨k0, k1, k2⟩, t0, t1, b12, -, -⟩ := HT2.out _ b2
  have B2 := Lib.hid (belStep B1.out b12)
  have HLR2 := Lib.hid (HLR.out.below b12)
  clear b2 b12
  go_wp2_with fail
  refine (handle_any _ g l hn HLR2.out a b c (HE.out.below B2.out)).mono ?_
  rintro e w3 ⟨rfl, b3⟩
  rw [HV.out]
  have B3 := Lib.hid (belStep B2.out b3)
  clear b3
  generalize doI a b c l = dd
  go_wp2
  go_ret
  exact ⟨rfl, B3.out.alloc B3.out.size _⟩

end Go.Proofs.YtmfgiemhonfapaaGreatDoor
