/-
  Marks that are written into a slice of strings: no other block turns.
-/
import Derived.Test.YtoaollalalbefaaStrB
namespace Go.Proofs.Ytoaollalalbefaa
open Go.ChangeShapes Go.WideShapes Go.ChangeAt Go.RowKit Go.Joins
set_option linter.unusedVariables false

theorem growRefl (a : World) (row : Option Nat) : a.grownBy a row := ⟨rfl, rfl, rfl, Nat.le_refl _, fun _ _ _ => rfl⟩
theorem growSet {a w w1 : World} {g : Nat} (h : a.grownBy w (some g)) (b : Below w.heap.size w w1) (j : Nat) (u : Value) : a.grownBy (w1.setCell ⟨g, j, none⟩ u) (some g) :=
  ⟨b.os.trans h.os, b.tape.trans h.tape, b.output.trans h.output, by simp only [World.setCell, Array.size_modify]; exact Nat.le_trans h.size b.size, fun i hi hne =>
    (Below.heap_setCell _ _ _ _ (fun e => hne (by rw [e]))).trans ((b.block i (Nat.lt_of_lt_of_le hi h.size)).trans (h.block i hi hne))⟩
/-- A row stays where another block turns. -/
theorem StrRow.apart {w w' : World} {base : Nat} {v : Value} {l : List ByteArray} {row : Option Nat} (h : StrRow w base v l) (hg : w.grownBy w' row) (hne : ∀ k, v.ownBlock = some k → row ≠ some k) : StrRow w' base v l :=
  World.ownsRow.kept h hg (by
    cases hv : v.ownBlock with
    | none => exact .inl rfl
    | some k => exact .inr (fun e => hne k hv e.symm))

set_option maxHeartbeats 2000000 in
theorem markStringS_own (w : World) (base k : Nat) (v : Value) (l : List ByteArray) (h : StrRow w base v l) (hk1 : 1 ≤ k) (hk : k + l.length ≤ 8000000) (hs : base ≤ w.heap.size) :
    Calls Try.prog 15 #[v, .int .i64 k] w fun e w' => e = .returned (.int .i64 ((k + l.length : Nat) : Int)) ∧ StrRow w' base v (marks k l.length) ∧ Below base w w' ∧ w.grownBy w' v.ownBlock := by
  rcases h.form with ⟨rfl, rfl⟩ | ⟨g, cap, rfl, hb, hg, hc, hm, hcell, hfr⟩
  · go_enter Try.func15, Try.ntmps15
    go_wp2
    go_loop [1, 5] (fun x i => x = .int .i64 k ∧ i = .int .i64 0) (fun _ i => (intOf i).toNat)
    case atStart => exact ⟨rfl, rfl⟩
    case round =>
      obtain ⟨rfl, rfl⟩ := hrel
      go_wp2
      go_ret
      exact ⟨rfl, World.ownsRow_nil _ _ _ _, Below.refl _ _, growRefl _ _⟩
  · have HR := Lib.hid h
    clear hcell h hfr
    unfold maxLen at hm
    have HL := Lib.hid (fun j (hj : j ≤ l.length) => mixed_len k l hj)
    have HM := Lib.hid (fun j (hj : j < l.length) => mixed_step k l hj)
    have HA := Lib.hid (mixed_all k l)
    have HZ := Lib.hid (mixed_zero k l)
    generalize l.length = n at *
    go_enter Try.func15, Try.ntmps15
    go_wp2
    go_loopw [1, 5] (fun x i wr => ∃ j : Nat, j ≤ n ∧ i = .int .i64 j ∧ x = .int .i64 ((k + j : Nat) : Int) ∧ StrRow wr base (.slice (some ⟨g, 0, none⟩) n cap) (mixed k l j) ∧ base ≤ wr.heap.size ∧ Below base w wr ∧ w.grownBy wr (some g)) (fun _ i _ => n - (intOf i).toNat)
    case atStart => exact ⟨0, Nat.zero_le _, rfl, rfl, HR.out, hs, Below.refl _ _, growRefl _ _⟩
    case round =>
      obtain ⟨j, hj, rfl, rfl, hrow, hsz, hbel, hgr⟩ := hrel
      have HGR := Lib.hid hgr
      clear hgr
      by_cases hlt : j < n
      · have hz : (j : Int) < (n : Int) := by omega
        have HRW := Lib.hid hrow
        clear hrow
        go_wp2_with fail
        refine (markText_at _ (by omega) (by omega) _).mono ?_
        rintro e w1 ⟨rfl, b1⟩
        have s1 := b1.size
        have HR1 := Lib.hid (HRW.out.below b1)
        obtain ⟨hc1, hf1, hg1⟩ := HR1.out.cells (HL.out j hj)
        have c1 := hc1 j hlt
        clear hc1
        go_wp2
        go_roundw
        case rel => exact ⟨j + 1, by omega, by go_num, by go_num, HR1.out.put (HL.out j hj) (HM.out j hlt), by simp [World.setCell]; omega, (hbel.trans (b1.mono hsz)).setCell (by exact hb) _, growSet HGR.out b1 _ _⟩
        case measure => simp [intOf]; omega
      · obtain rfl : j = n := by omega
        go_wp2
        go_ret
        exact ⟨rfl, by rw [← HA.out]; exact hrow, hbel, HGR.out⟩


end Go.Proofs.Ytoaollalalbefaa
