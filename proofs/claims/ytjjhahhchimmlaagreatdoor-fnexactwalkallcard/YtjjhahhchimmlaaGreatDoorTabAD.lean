/-
  The model's TableAt: the first rule that is of a head.
  TableDo, the model's and the program's: what comes of a head.
-/
import Derived.Test.YtjjhahhchimmlaaGreatDoorTabHandle
import Derived.Test.YtjjhahhchimmlaaGreatDoorTabSpec

namespace Go.Proofs.YtjjhahhchimmlaaGreatDoor
open Go.ChangeShapes Go.WideShapes Go.ChangeAt Go.RowKit Go.Joins
set_option linter.unusedVariables false

/-- The place of the first rule that is of a head. -/
def atI (a b c : Int) (l : List R4) : Int := match l.findIdx? (mR a b c) with | none => -1 | some i => i
theorem atI_none {a b c : Int} {l : List R4} (h : ∀ j, j < l.length → mR a b c (ruAt l j) = false) : atI a b c l = -1 := by
  have e : l.findIdx? (mR a b c) = none := by
    rw [List.findIdx?_eq_none_iff]
    intro r hr
    obtain ⟨j, hj, rfl⟩ := List.getElem_of_mem hr
    have := h j hj
    rw [ruAt_lt hj] at this
    simpa using this
  unfold atI
  rw [e]
theorem find_some {a b c : Int} {l : List R4} {k : Nat} (hk : k < l.length) (h : ∀ j, j < k → mR a b c (ruAt l j) = false) (hx : mR a b c (ruAt l k) = true) : l.findIdx? (mR a b c) = some k := by
  rw [List.findIdx?_eq_some_iff_getElem]
  refine ⟨hk, by rw [← ruAt_lt hk]; exact hx, fun j hj => ?_⟩
  have := h j hj
  rw [ruAt_lt (show j < l.length by omega)] at this
  rw [this]
  decide
theorem atI_some {a b c : Int} {l : List R4} {k : Nat} (hk : k < l.length) (h : ∀ j, j < k → mR a b c (ruAt l j) = false) (hx : mR a b c (ruAt l k) = true) : atI a b c l = k := by
  unfold atI
  rw [find_some hk h hx]
theorem mR_has {a b c : Int} (ho : okB a b c = true) {r : R4} (hr : okR r = true) : mR a b c r = hasM (cf r.s) (vf r.s) (hB a b c) := by
  have hs := (rOk_true hr).2.1
  unfold mR doB hasS
  rw [show rOk r.p r.s r.o r.t = true from hr, ho, hs]
  rfl

set_option maxRecDepth 100000 in
set_option maxHeartbeats 2000000 in
theorem l12At_any (w : World) (v : Value) (l : List R4) (h : Rls w w.heap.size v l) (hn : l.length ≤ 1048576) (hok : ∀ i, i < l.length → okR (ruAt l i) = true) (a b c : Int) (ho : okB a b c = true) :
    Calls Tryz.prog 64 #[v, .int .i64 (ofB (hB a b c))] w fun e w' => e = .returned (.int .i64 (atI a b c l)) ∧ Below w.heap.size w w' := by
  obtain ⟨d, cap, rfl, hc, hm, hh⟩ := h
  have hnz : l.length = 0 ∨ ∃ b off, d = some ⟨b, off, none⟩ ∧ b < w.heap.size ∧ Hid (∀ i, i < l.length → Four w b (off + i * 4) (ruAt l i)) := by
    rcases hh with h | ⟨b, off, h1, h2, h3⟩
    · exact .inl (by rw [h]; rfl)
    · exact .inr ⟨b, off, h1, h2, h3⟩
  clear hh
  have HNO : Hid ((∀ j, j < l.length → mR a b c (ruAt l j) = false) → atI a b c l = -1) := atI_none
  have HYES : Hid (∀ k, k < l.length → (∀ j, j < k → mR a b c (ruAt l j) = false) → mR a b c (ruAt l k) = true → atI a b c l = k) := fun k => atI_some
  have HH : Hid (∀ i, i < l.length → ∀ w, Calls Tryz.prog 74 #[.string (ruAt l i).s, .int .i64 (ofB (hB a b c))] w fun e w' => e = .returned (.bool (mR a b c (ruAt l i))) ∧ Below w.heap.size w w') := fun i hi w => by
    rw [mR_has ho (hok i hi)]
    exact l2Has_any _ (rOk_true (hok i hi)).2.1 _ w
  clear hok ho
  unfold maxLen at hm
  generalize hN : l.length = n at *
  generalize ofB (hB a b c) = num at *
  go_enter Tryz.func64, Tryz.ntmps64
  go_wp2
  go_loopw [5] (fun i wr => ∃ k : Nat, k ≤ n ∧ i = .int .i64 k ∧ (∀ j, j < k → mR a b c (ruAt l j) = false) ∧ Below w.heap.size w wr) (fun i _ => n - (intOf i).toNat)
  case atStart => exact ⟨0, Nat.zero_le _, rfl, fun j hj => absurd hj (Nat.not_lt_zero _), Below.refl _ _⟩
  case round =>
    obtain ⟨k, hk, rfl, hok, hbel⟩ := hrel
    have HOK := Lib.hid hok
    have HBL := Lib.hid hbel
    clear hok
    by_cases hlt : k < n
    · have hkz : (k : Int) < (n : Int) := by omega
      rcases hnz with h0 | ⟨b', off, rfl, hb, HC⟩
      · omega
      obtain ⟨c0, c1, c2, c3⟩ := (HC.out k hlt).below hbel hb
      have HX := Lib.hid (HH.out k hlt)
      have HT := Lib.hid (HYES.out k hlt HOK.out)
      have HNX : Hid (mR a b c (ruAt l k) = false → ∀ j, j < k + 1 → mR a b c (ruAt l j) = false) := fun hf j hj => by
        by_cases e : j = k
        · subst e; exact hf
        · exact HOK.out j (by omega)
      clear hbel
      generalize mR a b c (ruAt l k) = m at *
      generalize ruAt l k = x at *
      go_wp2_with fail
      refine (HX.out _).mono ?_
      rintro e w1 ⟨rfl, b1⟩
      cases m
      · go_wp2
        go_roundw
        case rel => exact ⟨k + 1, by omega, by go_num, HNX.out (by trivial), belStep HBL.out b1⟩
        case measure => simp [intOf]; omega
      · go_wp2
        go_ret
        exact ⟨by rw [HT.out (by trivial)]; rfl, belStep HBL.out b1⟩
    · obtain rfl : k = n := by omega
      go_wp2
      go_ret
      exact ⟨by rw [HNO.out HOK.out]; rfl, HBL.out⟩

theorem trio3 {w : World} {b : Nat} {x y z : Value} {t : TypeId} (h : w.heap[b]? = some (.cells #[x, y, z] t)) : w.cell? ⟨b, 0, none⟩ = some x ∧ w.cell? ⟨b, 1, none⟩ = some y ∧ w.cell? ⟨b, 2, none⟩ = some z := ⟨(cells3 h).1, (cells3 h).2.1, (cells3 h).2.2.1⟩
theorem tOk_at {l : List R4} (h : tOk l = true) : ∀ i, i < l.length → okR (ruAt l i) = true := by
  simp only [tOk, Bool.and_eq_true] at h
  exact fun i hi => (chain_at l h.2 i hi).1
theorem tOk_len {l : List R4} (h : tOk l = true) : l.length ≤ 48 := by
  simp only [tOk, Bool.and_eq_true, decide_eq_true_eq] at h
  exact h.1
/-- What TableAt returns. -/
def atT (a b c : Int) (l : List R4) : Int := bif tOk l && okB a b c then atI a b c l else -1
/-- The head and the port that come of a head. -/
def doI (a b c : Int) (l : List R4) : (Int × Int × Int) × Int := match l.findIdx? (mR a b c) with
  | none => ((a, b, c), 0)
  | some i => ((a, b, tagTo (ruAt l i).t c), (ruAt l i).o)
theorem hdV_eq (a b c : Int) (l : List R4) : hdV a b c l = .tuple #[.int .i64 (atI a b c l), .agg #[.int .i64 (doI a b c l).1.1, .int .i64 (doI a b c l).1.2.1, .int .i64 (doI a b c l).1.2.2], .int .i64 (doI a b c l).2] := by
  unfold hdV atI doI
  cases l.findIdx? (mR a b c) <;> rfl
/-- What TableDo returns. -/
def doT (a b c : Int) (l : List R4) : (Int × Int × Int) × Int := bif tOk l && okB a b c then doI a b c l else ((0, 0, 0), 0)

end Go.Proofs.YtjjhahhchimmlaaGreatDoor

namespace Go.Proofs.YtjjhahhchimmlaaGreatDoor
open Go.ChangeShapes Go.WideShapes Go.ChangeAt Go.RowKit Go.Joins
set_option linter.unusedVariables false

theorem atI_find {a b c : Int} {l : List R4} : (l.findIdx? (mR a b c) = none ∧ atI a b c l = -1 ∧ doI a b c l = ((a, b, c), 0)) ∨ ∃ i, i < l.length ∧ l.findIdx? (mR a b c) = some i ∧ atI a b c l = (i : Int) ∧ doI a b c l = ((a, b, tagTo (ruAt l i).t c), (ruAt l i).o) := by
  unfold atI doI
  cases h : l.findIdx? (mR a b c) with
  | none => exact .inl ⟨rfl, rfl, rfl⟩
  | some i => exact .inr ⟨i, (List.findIdx?_eq_some_iff_getElem.1 h).1, rfl, rfl, rfl⟩

set_option maxRecDepth 100000 in
set_option maxHeartbeats 2000000 in
theorem l12Do_any (w : World) (v : Value) (l : List R4) (h : Rls w w.heap.size v l) (hn : l.length ≤ 1048576) (hok : ∀ i, i < l.length → okR (ruAt l i) = true) (a b c : Int) (ho : okB a b c = true) :
    Calls Tryz.prog 49 #[v, .agg #[.int .i64 a, .int .i64 b, .int .i64 c]] w fun e w' => e = .returned (.tuple #[.agg #[.int .i64 (doI a b c l).1.1, .int .i64 (doI a b c l).1.2.1, .int .i64 (doI a b c l).1.2.2], .int .i64 (doI a b c l).2]) ∧ Below w.heap.size w w' := by
  have HL : Hid (∀ W, Below w.heap.size w W → Rls W W.heap.size v l) := fun W hb => (h.below hb (Nat.le_refl _)).mono hb.size
  have HB0 := Lib.hid (below_alloc2 w (.cells #[.int .i64 a, .int .i64 b, .int .i64 c] 30) (.cells #[.int .i64 0, .int .i64 0, .int .i64 0] 30))
  have HTR : Hid (∀ w1, Below ((w.alloc (.cells #[.int .i64 a, .int .i64 b, .int .i64 c] 30)).alloc (.cells #[.int .i64 0, .int .i64 0, .int .i64 0] 30)).heap.size ((w.alloc (.cells #[.int .i64 a, .int .i64 b, .int .i64 c] 30)).alloc (.cells #[.int .i64 0, .int .i64 0, .int .i64 0] 30)) w1 → (w1.cell? ⟨w.heap.size, 0, none⟩ = some (.int .i64 a) ∧ w1.cell? ⟨w.heap.size, 1, none⟩ = some (.int .i64 b) ∧ w1.cell? ⟨w.heap.size, 2, none⟩ = some (.int .i64 c)) ∧ (w1.cell? ⟨w.heap.size + 1, 0, none⟩ = some (.int .i64 0) ∧ w1.cell? ⟨w.heap.size + 1, 1, none⟩ = some (.int .i64 0) ∧ w1.cell? ⟨w.heap.size + 1, 2, none⟩ = some (.int .i64 0) ∧ ∀ j, w1.frozen? ⟨w.heap.size + 1, j, none⟩ = false) ∧ w.heap.size < w1.heap.size ∧ w.heap.size + 1 < w1.heap.size ∧ Below w.heap.size w w1) := fun w1 hb => by
    obtain ⟨h1, h2, h3, h4⟩ := twoBlocks hb
    exact ⟨trio3 h1, cells3 h2, by omega, by omega, h3⟩
  have HOK := Lib.hid hok
  clear hok h
  obtain ⟨⟨ha0, ha3⟩, ⟨hb0, hb3⟩, ⟨hc0, hc3⟩⟩ := okB_true ho
  have HFI := Lib.hid (atI_find (a := a) (b := b) (c := c) (l := l))
  go_enter Tryz.func49, Tryz.ntmps49
  go_wp2_with fail
  refine (l1Num_yes _ _ _ ha0 ha3 hb0 hb3 hc0 hc3 _).mono ?_
  rintro e w1 ⟨rfl, b1⟩
  rw [num_ofB ho]
  go_wp2_with fail
  refine (l12At_any _ v l (HL.out _ (HTR.out _ b1).2.2.2.2) hn HOK.out a b c ho).mono ?_
  rintro e w2 ⟨rfl, b2⟩
  have b12 := belStep b1 b2
  obtain ⟨⟨k0, k1, k2⟩, ⟨r0, r1, r2, rf⟩, g1, g2, bw⟩ := HTR.out _ b12
  have B2 := Lib.hid bw
  have HRL := Lib.hid (HL.out _ bw)
  clear b1 b2 b12 bw
  rcases HFI.out with ⟨-, h1, h2⟩ | ⟨i, hi, -, h1, h2⟩
  · rw [h1]
    have HD := Lib.hid h2
    clear h1 h2
    go_wp2
    exact bodyPost_ret (v := .tuple #[.agg #[.int .i64 a, .int .i64 b, .int .i64 c], .int .i64 0]) (by simp [results, Tryz.results49, go_sem, r0, r1, r2]) rfl ⟨by rw [HD.out], ((B2.out.setCell (by exact Nat.le_succ _) _).setCell (by exact Nat.le_succ _) _).setCell (by exact Nat.le_succ _) _⟩
  · rw [h1]
    have HD := Lib.hid h2
    clear h1 h2
    obtain ⟨d, cap, rfl, hc, hm, hh⟩ := HRL.out
    rcases hh with h0 | ⟨b', off, rfl, hb', hcell⟩
    · rw [h0] at hi; cases hi
    obtain ⟨c0, c1, c2, c3⟩ := hcell i hi
    clear hcell
    unfold maxLen at hm
    have hz : (i : Int) < (l.length : Int) := by omega
    generalize ruAt l i = x at *
    go_wp2
    go_region_with (go_at_call 66; ((with_reducible refine (l11Do_any _ _ _ _ _ _ _ _).mono ?_); rintro e w3 ⟨rfl, b3⟩; have s0 : w3.cell? ⟨w.heap.size + 1, 0, none⟩ = some (.int .i64 0) := (belCell b3 _ _ g2).trans r0; have s1 : w3.cell? ⟨w.heap.size + 1, 1, none⟩ = some (.int .i64 0) := (belCell b3 _ _ g2).trans r1; have s2 : w3.cell? ⟨w.heap.size + 1, 2, none⟩ = some (.int .i64 0) := (belCell b3 _ _ g2).trans r2; have sf : ∀ j, w3.frozen? ⟨w.heap.size + 1, j, none⟩ = false := (fun j => (World.frozen?_of_block (b3.block _ g2)).trans (rf j)); have B3 := Lib.hid (belStep B2.out.drew b3); clear b3))
    all_goals go_wp2
    all_goals exact bodyPost_ret (v := .tuple #[.agg #[.int .i64 a, .int .i64 b, .int .i64 (tagTo x.t c)], .int .i64 x.o]) (by simp [results, Tryz.results49, go_sem, s0, s1, s2]) rfl ⟨by rw [HD.out], ((B3.out.setCell (by exact Nat.le_succ _) _).setCell (by exact Nat.le_succ _) _).setCell (by exact Nat.le_succ _) _⟩

end Go.Proofs.YtjjhahhchimmlaaGreatDoor
