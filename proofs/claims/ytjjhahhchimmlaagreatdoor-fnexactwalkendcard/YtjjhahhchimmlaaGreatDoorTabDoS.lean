/-
  TableDo, the model's and the program's: what comes of a head.
-/
import Derived.Test.YtjjhahhchimmlaaGreatDoorTabAtS
namespace Go.Proofs.YtjjhahhchimmlaaGreatDoor
open Go.ChangeShapes Go.WideShapes Go.ChangeAt Go.RowKit Go.Joins
set_option linter.unusedVariables false

theorem atI_find {a b c : Int} {l : List R4} : (l.findIdx? (mR a b c) = none ∧ atI a b c l = -1 ∧ doI a b c l = ((a, b, c), 0)) ∨ ∃ i, i < l.length ∧ l.findIdx? (mR a b c) = some i ∧ atI a b c l = (i : Int) ∧ doI a b c l = ((a, b, tagTo (ruAt l i).t c), (ruAt l i).o) := by
  unfold atI doI
  cases h : l.findIdx? (mR a b c) with
  | none => exact .inl ⟨rfl, rfl, rfl⟩
  | some i => exact .inr ⟨i, (List.findIdx?_eq_some_iff_getElem.1 h).1, rfl, rfl, rfl⟩

set_option maxRecDepth 100000 in
set_option maxHeartbeats 2000000 in
theorem l12Do_any (w : World) (v : Value) (l : List R4) (h : Rls w w.heap.size v l) (hn : l.length ≤ 1048576) (hok : ∀ i, i < l.length → okR (ruAt l i) = true) (a b c : Int) (ho : okB a b c = true) :
    Calls Tryz.prog 49 #[v, .agg #[.int .i64 a, .int .i64 b, .int .i64 c]] w fun e w' => e = .returned (.tuple #[.agg #[.int .i64 (doI a b c l).1.1, .int .i64 (doI a b c l).1.2.1, .int .i64 (doI a b c l).1.2.2], .int .i64 (doI a b c l).2]) ∧ Below w.heap.size w w' := by
  have HL : Hid (∀ W, Below w.heap.size w W → Rls W W.heap.size v l) := fun W hb => (h.below hb (Nat.le_refl _)).mono hb.size
  have HB0 := Lib.hid (below_alloc2 w (.cells #[.int .i64 a, .int .i64 b, .int .i64 c] 30) (.cells #[.int .i64 0, .int .i64 0, .int .i64 0] 30))
  have HTR : Hid (∀ w1, Below ((w.alloc (.cells #[.int .i64 a, .int .i64 b, .int .i64 c] 30)).alloc (.cells #[.int .i64 0, .int .i64 0, .int .i64 0] 30)).heap.size ((w.alloc (.cells #[.int .i64 a, .int .i64 b, .int .i64 c] 30)).alloc (.cells #[.int .i64 0, .int .i64 0, .int .i64 0] 30)) w1 → (w1.cell? ⟨w.heap.size, 0, none⟩ = some (.int .i64 a) ∧ w1.cell? ⟨w.heap.size, 1, none⟩ = some (.int .i64 b) ∧ w1.cell? ⟨w.heap.size, 2, none⟩ = some (.int .i64 c)) ∧ (w1.cell? ⟨w.heap.size + 1, 0, none⟩ = some (.int .i64 0) ∧ w1.cell? ⟨w.heap.size + 1, 1, none⟩ = some (.int .i64 0) ∧ w1.cell? ⟨w.heap.size + 1, 2, none⟩ = some (.int .i64 0) ∧ ∀ j, w1.frozen? ⟨w.heap.size + 1, j, none⟩ = false) ∧ w.heap.size < w1.heap.size ∧ w.heap.size + 1 < w1.heap.size ∧ Below w.heap.size w w1) := fun w1 hb => by
    obtain ⟨h1, h2, h3, h4⟩ := twoBlocks hb
    exact ⟨trio3 h1, cells3 h2, by omega, by omega, h3⟩
  have HOK := Lib.hid hok
  clear hok h
  obtain ⟨⟨ha0, ha3⟩, ⟨hb0, hb3⟩, ⟨hc0, hc3⟩⟩ := okB_true ho
  have HFI := Lib.hid (atI_find (a := a) (b := b) (c := c) (l := l))
  go_enter Tryz.func49, Tryz.ntmps49
  go_wp2_with fail
  refine (l1Num_yes _ _ _ ha0 ha3 hb0 hb3 hc0 hc3 _).mono ?_
  rintro e w1 ⟨rfl, b1⟩
  rw [num_ofB ho]
  go_wp2_with fail
  refine (l12At_any _ v l (HL.out _ (HTR.out _ b1).2.2.2.2) hn HOK.out a b c ho).mono ?_
  rintro e w2 ⟨rfl, b2⟩
  have b12 := belStep b1 b2
  obtain ⟨⟨k0, k1, k2⟩, ⟨r0, r1, r2, rf⟩, g1, g2, bw⟩ := HTR.out _ b12
  have B2 := Lib.hid bw
  have HRL := Lib.hid (HL.out _ bw)
  clear b1 b2 b12 bw
  rcases HFI.out with ⟨-, h1, h2⟩ | ⟨i, hi, -, h1, h2⟩
  · rw [h1]
    have HD := Lib.hid h2
    clear h1 h2
    go_wp2
    exact bodyPost_ret (v := .tuple #[.agg #[.int .i64 a, .int .i64 b, .int .i64 c], .int .i64 0]) (by simp [results, Tryz.results49, go_sem, r0, r1, r2]) rfl ⟨by rw [HD.out], ((B2.out.setCell (by exact Nat.le_succ _) _).setCell (by exact Nat.le_succ _) _).setCell (by exact Nat.le_succ _) _⟩
  · rw [h1]
    have HD := Lib.hid h2
    clear h1 h2
    obtain ⟨d, cap, rfl, hc, hm, hh⟩ := HRL.out
    rcases hh with h0 | ⟨b', off, rfl, hb', hcell⟩
    · rw [h0] at hi; cases hi
    obtain ⟨c0, c1, c2, c3⟩ := hcell i hi
    clear hcell
    unfold maxLen at hm
    have hz : (i : Int) < (l.length : Int) := by omega
    generalize ruAt l i = x at *
    go_wp2
    go_region_with (go_at_call 66; ((with_reducible refine (l11Do_any _ _ _ _ _ _ _ _).mono ?_); rintro e w3 ⟨rfl, b3⟩; have s0 : w3.cell? ⟨w.heap.size + 1, 0, none⟩ = some (.int .i64 0) := (belCell b3 _ _ g2).trans r0; have s1 : w3.cell? ⟨w.heap.size + 1, 1, none⟩ = some (.int .i64 0) := (belCell b3 _ _ g2).trans r1; have s2 : w3.cell? ⟨w.heap.size + 1, 2, none⟩ = some (.int .i64 0) := (belCell b3 _ _ g2).trans r2; have sf : ∀ j, w3.frozen? ⟨w.heap.size + 1, j, none⟩ = false := (fun j => (World.frozen?_of_block (b3.block _ g2)).trans (rf j)); have B3 := Lib.hid (belStep B2.out.drew b3); clear b3))
    all_goals go_wp2
    all_goals exact bodyPost_ret (v := .tuple #[.agg #[.int .i64 a, .int .i64 b, .int .i64 (tagTo x.t c)], .int .i64 x.o]) (by simp [results, Tryz.results49, go_sem, s0, s1, s2]) rfl ⟨by rw [HD.out], ((B3.out.setCell (by exact Nat.le_succ _) _).setCell (by exact Nat.le_succ _) _).setCell (by exact Nat.le_succ _) _⟩

end Go.Proofs.YtjjhahhchimmlaaGreatDoor
