/-
  Marks that are written into a slice of rules, and read again.
-/
import Derived.Test.YtjjhahhchimmlaaGreatDoorTabS
import Derived.Test.YtjjhahhchimmlaaGreatDoorStrMark
namespace Go.Proofs.YtjjhahhchimmlaaGreatDoor
open Go.ChangeShapes Go.WideShapes Go.ChangeAt Go.RowKit Go.Joins
set_option linter.unusedVariables false

theorem digF_size : ∀ (j f m : Nat) (acc : ByteArray), m < 10 ^ j → (digF f m acc).size ≤ acc.size + j
  | j, 0, m, acc, _ => by simp [digF]
  | 0, f + 1, m, acc, h => by
    obtain rfl : m = 0 := by simp at h; exact h
    rw [digF_zero]
    exact Nat.le_refl _
  | j + 1, f + 1, m, acc, h => by
    by_cases h0 : m = 0
    · subst h0; rw [digF_zero]; omega
    · have := digF_size j f (m / 10) (⟨#[48 + UInt8.ofNat (m % 10)]⟩ ++ acc) (by rw [Nat.pow_succ] at h; omega)
      rw [ByteArray.size_append, show (⟨#[48 + UInt8.ofNat (m % 10)]⟩ : ByteArray).size = 1 from rfl] at this
      simp only [digF]
      rw [if_neg h0]
      omega
theorem markB_size {n : Nat} (h : n ≤ 8000000) : (markB n).size ≤ 1048576 := by
  have := digF_size 7 n n ⟨#[]⟩ (by omega)
  unfold markB
  rw [ByteArray.size_append, show (⟨#[109]⟩ : ByteArray).size = 1 from rfl]
  have e : (⟨#[]⟩ : ByteArray).size = 0 := rfl
  omega

/-- The rule that is written with the marks from a number on. -/
def mkR (k : Nat) : R4 := if h : (markB (k + 1)).size ≤ 1048576 then ⟨(k : Int), markB (k + 1), (k : Int) + 1 + 1, (k : Int) + 1 + 1 + 1, h⟩ else zR
theorem mkR_eq {k : Nat} (h : (markB (k + 1)).size ≤ 1048576) : mkR k = ⟨(k : Int), markB (k + 1), (k : Int) + 1 + 1, (k : Int) + 1 + 1 + 1, h⟩ := by
  rw [mkR, dif_pos h]
def marksR (k n : Nat) : List R4 := (List.range n).map (fun i => mkR (k + 4 * i))
theorem marksR_len (k n : Nat) : (marksR k n).length = n := by simp [marksR]
theorem marksR_at (k : Nat) {n j : Nat} (h : j < n) : ruAt (marksR k n) j = mkR (k + 4 * j) := by
  rw [ruAt_lt (by rw [marksR_len]; exact h)]
  simp [marksR]
def mixedR (k : Nat) (l : List R4) (j : Nat) : List R4 := marksR k j ++ l.drop j
theorem mixedR_len (k : Nat) (l : List R4) {j : Nat} (h : j ≤ l.length) : (mixedR k l j).length = l.length := by simp [mixedR, marksR_len]; omega
theorem mixedR_zero (k : Nat) (l : List R4) : mixedR k l 0 = l := rfl
theorem mixedR_all (k : Nat) (l : List R4) : mixedR k l l.length = marksR k l.length := by simp [mixedR]
theorem mixedR_step (k : Nat) (l : List R4) {j : Nat} (h : j < l.length) : mixedR k l (j + 1) = (mixedR k l j).set j (mkR (k + 4 * j)) := by
  unfold mixedR
  rw [List.set_append_right _ _ (by rw [marksR_len]; exact Nat.le_refl _), marksR_len, Nat.sub_self]
  have : l.drop j = (l[j]'h) :: l.drop (j + 1) := List.drop_eq_getElem_cons h
  rw [this, List.set_cons_zero, marksR, marksR, List.range_succ, List.map_append, List.append_assoc]
  rfl

/-- The first field of a rule is written, and a call that leaves what was there is made. -/
theorem RulRow.first {w w1 : World} {base g cap i n : Nat} {l : List R4} (x : Int) (h : RulRow w base (.slice (some ⟨g, 0, none⟩) n cap) l) (hn : l.length = n) (hi : i < n)
    (hb : Below (w.setCell ⟨g, i * 4, none⟩ (.int .i64 x)).heap.size (w.setCell ⟨g, i * 4, none⟩ (.int .i64 x)) w1) :
    w1.ownsRow base 99 4 (.slice (some ⟨g, 0, none⟩) n cap) n ((l.flatMap R4.cs).set (i * 4) (.int .i64 x)) ∧ w1.cell? ⟨g, i * 4 + 1, none⟩ = some (.string (ruAt l i).s) ∧ w1.cell? ⟨g, i * 4 + 2, none⟩ = some (.int .i64 (ruAt l i).o) ∧ w1.cell? ⟨g, i * 4 + 3, none⟩ = some (.int .i64 (ruAt l i).t) ∧ (∀ j, w1.frozen? ⟨g, j, none⟩ = false) ∧ g < w1.heap.size := by
  subst hn
  have h1 := World.ownsRow.kept (World.ownsRow.stored h (i * 4) (.int .i64 x)).1 (row := none) ⟨hb.os, hb.tape, hb.output, hb.size, fun k hk _ => hb.block k hk⟩ (.inr fun e => by cases e)
  have e1 := fl_at l i 1 hi (by decide)
  have e2 := fl_at l i 2 hi (by decide)
  have e3 := fl_at l i 3 hi (by decide)
  refine ⟨h1, ?_, ?_, ?_, fun j => World.ownsRow.frozenAt h1 j, (World.ownsRow.lt h1 g rfl).2⟩
  · rw [World.ownsRow.cellAt h1 _ (by omega), List.getElem?_set_ne (by omega)]
    exact e1
  · rw [World.ownsRow.cellAt h1 _ (by omega), List.getElem?_set_ne (by omega)]
    exact e2
  · rw [World.ownsRow.cellAt h1 _ (by omega), List.getElem?_set_ne (by omega)]
    exact e3
/-- The three others. -/
theorem RulRow.rest {w : World} {base g cap i n : Nat} {r : R4} {l m : List R4} (h : w.ownsRow base 99 4 (.slice (some ⟨g, 0, none⟩) n cap) n ((l.flatMap R4.cs).set (i * 4) (.int .i64 r.p))) (hn : l.length = n) (hi : i < n) (hm : m = l.set i r) :
    RulRow (((w.setCell ⟨g, i * 4 + 1, none⟩ (.string r.s)).setCell ⟨g, i * 4 + 2, none⟩ (.int .i64 r.o)).setCell ⟨g, i * 4 + 3, none⟩ (.int .i64 r.t)) base (.slice (some ⟨g, 0, none⟩) n cap) m := by
  subst hm hn
  have h2 := (World.ownsRow.stored h (i * 4 + 1) (.string r.s)).1
  have h3 := (World.ownsRow.stored h2 (i * 4 + 2) (.int .i64 r.o)).1
  have h4 := (World.ownsRow.stored h3 (i * 4 + 3) (.int .i64 r.t)).1
  unfold RulRow
  rw [fl_set l i r hi, List.length_set]
  exact h4
/-- A row stays where another block turns. -/
theorem RulRow.apart {w w' : World} {base : Nat} {v : Value} {l : List R4} {row : Option Nat} (h : RulRow w base v l) (hg : w.grownBy w' row) (hne : ∀ k, v.ownBlock = some k → row ≠ some k) : RulRow w' base v l :=
  World.ownsRow.kept h hg (by
    cases hv : v.ownBlock with
    | none => exact .inl rfl
    | some k => exact .inr (fun e => hne k hv e.symm))
theorem RulRow.under {w w' : World} {base n : Nat} {v : Value} {l : List R4} (h : RulRow w base v l) (hb : Below n w w') (hne : ∀ k, v.ownBlock = some k → k < n) : RulRow w' base v l := by
  cases hv : v.ownBlock with
  | none =>
    obtain ⟨hl, h1 | ⟨g, cap, cur, rfl, _⟩⟩ := h
    · exact ⟨hl, .inl h1⟩
    · cases hv
  | some k =>
    obtain ⟨hl, h1 | ⟨g, cap, cur, rfl, h2, h3, h4⟩⟩ := h
    · exact ⟨hl, .inl h1⟩
    · have := hne g rfl
      exact ⟨hl, .inr ⟨g, cap, cur, rfl, h2, by rw [hb.block g this]; exact h3, h4⟩⟩
theorem growStores {a w w1 : World} {g i j k m : Nat} {x y z u : Value} (h : a.grownBy w (some g)) (b : Below (w.setCell ⟨g, i, none⟩ x).heap.size (w.setCell ⟨g, i, none⟩ x) w1) :
    a.grownBy (((w1.setCell ⟨g, j, none⟩ y).setCell ⟨g, k, none⟩ z).setCell ⟨g, m, none⟩ u) (some g) := by
  have s : ∀ (W : World) (i : Nat) (x : Value), W.grownBy (W.setCell ⟨g, i, none⟩ x) (some g) := fun W i x => ⟨rfl, rfl, rfl, by simp, fun k _ hk => Below.heap_setCell _ _ _ k (fun e => hk (by rw [e]))⟩
  have t : ∀ {a b c : World}, a.grownBy b (some g) → b.grownBy c (some g) → a.grownBy c (some g) := fun h k => ⟨k.os.trans h.os, k.tape.trans h.tape, k.output.trans h.output, Nat.le_trans h.size k.size, fun i hi hne => (k.block i (Nat.lt_of_lt_of_le hi h.size) hne).trans (h.block i hi hne)⟩
  exact t (t (t (t (t h (s w i x)) ⟨b.os, b.tape, b.output, b.size, fun k hk _ => b.block k hk⟩) (s _ _ _)) (s _ _ _)) (s _ _ _)

set_option maxRecDepth 100000 in
set_option maxHeartbeats 4000000 in
theorem markRuleS_own (w : World) (base k : Nat) (v : Value) (l : List R4) (h : RulRow w base v l) (hk1 : 1 ≤ k) (hk : k + 4 * l.length ≤ 8000000) (hs : base ≤ w.heap.size) :
    Calls Tryz.prog 41 #[v, .int .i64 k] w fun e w' => e = .returned (.int .i64 ((k + 4 * l.length : Nat) : Int)) ∧ RulRow w' base v (marksR k l.length) ∧ Below base w w' ∧ w.grownBy w' v.ownBlock := by
  rcases h.form with ⟨rfl, rfl⟩ | ⟨g, cap, rfl, hb, hg, hc, hm⟩
  · go_enter Tryz.func41, Tryz.ntmps41
    go_wp2
    go_loop [1, 5] (fun x i => x = .int .i64 k ∧ i = .int .i64 0) (fun _ i => (intOf i).toNat)
    case atStart => exact ⟨rfl, rfl⟩
    case round =>
      obtain ⟨rfl, rfl⟩ := hrel
      go_wp2
      go_ret
      exact ⟨rfl, ⟨rfl, .inl ⟨rfl, rfl⟩⟩, Below.refl _ _, growRefl _ _⟩
  · have HR := Lib.hid h
    clear h
    unfold maxLen at hm
    have HL := Lib.hid (fun j (hj : j ≤ l.length) => mixedR_len k l hj)
    have HM := Lib.hid (fun j (hj : j < l.length) => mixedR_step k l hj)
    have HA := Lib.hid (mixedR_all k l)
    have HZ := Lib.hid (mixedR_zero k l)
    generalize l.length = n at *
    go_enter Tryz.func41, Tryz.ntmps41
    go_wp2
    go_loopw [1, 5] (fun x i wr => ∃ j : Nat, j ≤ n ∧ i = .int .i64 j ∧ x = .int .i64 ((k + 4 * j : Nat) : Int) ∧ RulRow wr base (.slice (some ⟨g, 0, none⟩) n cap) (mixedR k l j) ∧ w.grownBy wr (some g)) (fun _ i _ => n - (intOf i).toNat)
    case atStart => exact ⟨0, Nat.zero_le _, rfl, rfl, HR.out, growRefl _ _⟩
    case round =>
      obtain ⟨j, hj, rfl, rfl, hrow, hgr⟩ := hrel
      have HGR := Lib.hid hgr
      clear hgr
      by_cases hlt : j < n
      · have hz : (j : Int) < (n : Int) := by omega
        obtain ⟨K, hK⟩ : ∃ K, k + 4 * j = K := ⟨_, rfl⟩
        have HMJ := Lib.hid (HM.out j hlt)
        rw [hK] at HMJ
        rw [hK]
        have hKb : K + 4 ≤ 8000000 := by omega
        have hK4 : Hid (((k + 4 * (j + 1) : Nat) : Int) = (K : Int) + 1 + 1 + 1 + 1) := by show _ = _; omega
        clear hK
        have HEQ : Hid (∀ h : (markB (K + 1)).size ≤ 1048576, mkR K = ⟨(K : Int), markB (K + 1), (K : Int) + 1 + 1, (K : Int) + 1 + 1 + 1, h⟩) := fun h => mkR_eq h
        have HT := Lib.hid (markText_at (K + 1) (by omega) (by omega))
        rw [show ((K + 1 : Nat) : Int) = (K : Int) + 1 from rfl] at HT
        have HRW := Lib.hid hrow
        obtain ⟨hc1, hf1, hg1⟩ := hrow.cells (HL.out j hj)
        obtain ⟨c0, c1, c2, c3⟩ := hc1 j hlt
        have HSZ := Lib.hid (markB_size (show K + 1 ≤ 8000000 by omega))
        clear hc1 hrow
        generalize markB (K + 1) = mt at *
        go_wp2_with fail
        refine (HT.out _).mono ?_
        rintro e w1 ⟨rfl, b1⟩
        obtain ⟨hrow1, d1, d2, d3, hf2, hg2⟩ := HRW.out.first _ (HL.out j hj) hlt b1
        have HR1 := Lib.hid hrow1
        have HGX : Hid (w.grownBy (((w1.setCell ⟨g, j * 4 + 1, none⟩ (.string mt)).setCell ⟨g, j * 4 + 2, none⟩ (.int .i64 ((K : Int) + 1 + 1))).setCell ⟨g, j * 4 + 3, none⟩ (.int .i64 ((K : Int) + 1 + 1 + 1))) (some g)) := growStores HGR.out b1
        clear hrow1 b1 c0 c1 c2 c3 hf1 hg1
        go_wp2
        go_roundw
        case rel => exact ⟨j + 1, by omega, by go_num, by rw [hK4.out], RulRow.rest (r := ⟨(K : Int), mt, (K : Int) + 1 + 1, (K : Int) + 1 + 1 + 1, HSZ.out⟩) HR1.out (HL.out j hj) hlt (by rw [HMJ.out, HEQ.out HSZ.out]), HGX.out⟩
        case measure => simp [intOf]; omega
      · obtain rfl : j = n := by omega
        have hgs := HGR.out
        go_wp2
        go_ret
        exact ⟨rfl, by rw [← HA.out]; exact hrow, ⟨hgs.os, hgs.tape, hgs.output, hgs.size, fun i hi => hgs.block i (by omega) (fun e => by cases e; omega)⟩, hgs⟩

end Go.Proofs.YtjjhahhchimmlaaGreatDoor
