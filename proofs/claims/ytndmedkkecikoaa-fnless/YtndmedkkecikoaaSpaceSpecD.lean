/-
  Chapter 3, what the model's SpaceTidy, SpaceOr, SpaceAnd, SpaceLess, SpaceMany return.
-/
import Derived.Test.YtndmedkkecikoaaSpaceSp
import Derived.Test.YtndmedkkecikoaaSpaceIB
namespace Go.Proofs.Ytndmedkkecikoaa
open Go.ChangeShapes Go.WideShapes Go.ChangeAt Go.RowKit Go.Joins
set_option linter.unusedVariables false

theorem emptyRow (w : World) {base : Nat} (hb : base ≤ w.heap.size) : StrRow (w.alloc (.cells #[] 9)) base (.slice (some ⟨w.heap.size, 0, none⟩) 0 0) [] :=
  (World.ownsRow_made w #[] 0 (Nat.le_refl _) (Nat.zero_le _) rfl).mono hb

set_option maxRecDepth 100000 in
set_option maxHeartbeats 2000000 in
theorem sSpaceTidy_any (w : World) (v : Value) (l : List ByteArray) (hl : Strs w w.heap.size v l) (hs : Fit6 l) :
    Calls Try.prog 24 #[v] w fun ex w' => ∃ u, ex = .returned u ∧ StrRow w' w.heap.size u (tidyR l) ∧ Below w.heap.size w w' := by
  have HW : Hid (∀ W, Below w.heap.size w W → Strs W W.heap.size v l) := fun W hb => (hl.below hb (Nat.le_refl _)).mono hb.size
  have HS := Lib.hid hs
  clear hl hs
  go_enter Try.func24, Try.ntmps24
  go_wp2_with fail
  refine (sSpaceOk_any _ _ l (HW.out _ (Below.refl _ _)) HS.out).mono ?_
  rintro ex w1 ⟨rfl, b1⟩
  have B1 := Lib.hid b1
  have s1 := b1.size
  clear b1
  cases hk : okSp l
  · have HT : Hid (tidyR l = []) := by show _ = _; simp [tidyR, hk]
    go_wp2
    go_ret
    exact ⟨_, rfl, by rw [HT.out]; exact emptyRow _ s1, B1.out.alloc s1 _⟩
  have HT : Hid (tidyR l = (tidyB 6 (spL l)).map sText) := by show _ = _; simp [tidyR, hk, tidyT]
  go_wp2_with fail
  refine (l3Mask_any _ _ l (HW.out _ B1.out) hk).mono ?_
  rintro ex w2 ⟨rfl, r2, b2⟩
  have R2 := Lib.hid r2
  have B2 := Lib.hid (belStep B1.out b2)
  have s2 := B2.out.size
  clear r2 b2
  go_wp2_with fail
  refine (l3Tidy_any 6 (by omega) _ _ (spL l) (spL_len l) R2.out.bools).mono ?_
  rintro ex w3 ⟨u, rfl, r3, b3⟩
  have R3 := Lib.hid r3
  have B3 := Lib.hid (belStep B2.out b3)
  clear r3 b3
  go_wp2
  go_ret
  exact ⟨_, rfl, by rw [HT.out]; exact R3.out.mono (by omega), B3.out⟩

/-! ### How many -/

def cntB2 (m : List Bool) (k : Nat) : Nat := (m.take k).count true
theorem cntB2_step {m : List Bool} {k : Nat} (hk : k < m.length) : cntB2 m (k + 1) = cntB2 m k + (m.getD k false).toNat := by
  unfold cntB2
  have e : m.take (k + 1) = m.take k ++ [m.getD k false] := by
    rw [List.take_add_one, List.getElem?_eq_getElem hk, List.getD_eq_getElem?_getD, List.getElem?_eq_getElem hk]
    rfl
  rw [e, List.count_append]
  cases m.getD k false <;> simp
theorem cntB2_le (m : List Bool) (k : Nat) : cntB2 m k ≤ k := by
  unfold cntB2
  exact Nat.le_trans List.count_le_length (by simp; omega)
/-- 2 for each x. -/
def xsN (l : List UInt8) : Nat := 2 ^ (l.count 120)
theorem tidyB_count : ∀ (h : Nat) (m : List Bool), m.length = 2 ^ h → ((tidyB h m).map xsN).sum = m.count true
  | 0, m, hl => by
    match m, hl with
    | [true], _ => rfl
    | [false], _ => rfl
  | h + 1, m, hl => by
    have hp : 2 ^ (h + 1) = 2 ^ h + 2 ^ h := by rw [Nat.pow_succ]; omega
    have i0 := tidyB_count h (m.take (2 ^ h)) (by simp; omega)
    have i1 := tidyB_count h (m.drop (2 ^ h)) (by simp; omega)
    have hs : m.count true = (m.take (2 ^ h)).count true + (m.drop (2 ^ h)).count true := by rw [← List.count_append, List.take_append_drop]
    have x1 : ∀ L : List (List UInt8), ((L.map (fun l => 120 :: l)).map xsN).sum = 2 * (L.map xsN).sum := fun L => by
      induction L with
      | nil => rfl
      | cons a L ih =>
        simp only [List.map_cons, List.sum_cons, ih]
        simp [xsN, Nat.pow_succ]
        omega
    have x0 : ∀ (c : UInt8) (hc : (c == 120) = false) (L : List (List UInt8)), ((L.map (fun l => c :: l)).map xsN).sum = (L.map xsN).sum := fun c hc L => by
      induction L with
      | nil => rfl
      | cons a L ih =>
        simp only [List.map_cons, List.sum_cons, ih]
        simp only [xsN, List.count_cons, hc]
        simp
    rw [tidyB]
    cases he : (m.take (2 ^ h) == m.drop (2 ^ h))
    · rw [cond_false, List.map_append, List.sum_append, x0 48 rfl, x0 49 rfl, i0, i1, hs]
    · rw [cond_true, x1, i0, hs]
      rw [beq_iff_eq] at he
      rw [← he]
      omega
theorem cnt_pow : ∀ a b c d e f : Bool, (2 : Int) ^ (6 - cnt6 (!a) (!b) (!c) (!d) (!e) (!f)) = ((2 ^ (a.toNat + (b.toNat + (c.toNat + (d.toNat + (e.toNat + f.toNat))))) : Nat) : Int) := by decide
theorem manyB_xs {l : List UInt8} (h : l.length = 6) : manyB (cL l) = (xsN l : Int) := by
  obtain ⟨a, b, c, d, e, f, rfl⟩ := list6 h
  have k : ∀ x : UInt8, ∀ L : List UInt8, (x :: L).count 120 = (x == 120).toNat + L.count 120 := fun x L => by
    rw [List.count_cons]
    cases x == 120 <;> simp <;> omega
  unfold manyB xsN
  rw [k, k, k, k, k, k]
  exact cnt_pow _ _ _ _ _ _
theorem sumL6_count {m : List Bool} (hl : m.length = 64) : sumL6 (tidyB 6 m) = (m.count true : Int) := by
  rw [← tidyB_count 6 m hl]
  have : ∀ L : List (List UInt8), (∀ x ∈ L, x.length = 6) → sumL6 L = (((L.map xsN).sum : Nat) : Int) := fun L => by
    induction L with
    | nil => intro _; rfl
    | cons a L ih =>
      intro hL
      have e1 : sumL6 (a :: L) = manyB (cL a) + sumL6 L := by simp [sumL6]
      rw [e1, ih (fun x hx => hL x (List.mem_cons_of_mem _ hx)), manyB_xs (hL a (List.mem_cons_self ..))]
      simp
  exact this _ (fun x hx => tidyB_len 6 m x hx)

set_option maxRecDepth 100000 in
set_option maxHeartbeats 2000000 in
theorem sSpaceMany_any (w : World) (v : Value) (l : List ByteArray) (hl : Strs w w.heap.size v l) (hs : Fit6 l) :
    Calls Try.prog 41 #[v] w fun ex w' => ex = .returned (.int .i64 (manyR l)) ∧ Below w.heap.size w w' := by
  have HW : Hid (∀ W, Below w.heap.size w W → Strs W W.heap.size v l) := fun W hb => (hl.below hb (Nat.le_refl _)).mono hb.size
  have HS := Lib.hid hs
  clear hl hs
  go_enter Try.func41, Try.ntmps41
  go_wp2_with fail
  refine (sSpaceOk_any _ _ l (HW.out _ (Below.refl _ _)) HS.out).mono ?_
  rintro ex w1 ⟨rfl, b1⟩
  have B1 := Lib.hid b1
  clear b1
  cases hk : okSp l
  · have HT : Hid (manyR l = -1) := by show _ = _; simp [manyR, hk]
    go_wp2
    go_ret
    exact ⟨congrArg (fun x => Ending.returned (Value.int IntKind.i64 x)) HT.out.symm, B1.out⟩
  have HT : Hid (manyR l = (cntB2 (spL l) 64 : Int)) := by
    show _ = _
    simp only [manyR, hk, cond_true]
    rw [sumL6_count (spL_len l), cntB2, List.take_of_length_le (by rw [spL_len]; omega)]
  have HC : Hid (∀ k, k < 64 → cntB2 (spL l) (k + 1) = cntB2 (spL l) k + ((spL l).getD k false).toNat) := fun k hk => cntB2_step (by rw [spL_len]; exact hk)
  have HLE := Lib.hid (fun k => cntB2_le (spL l) k)
  go_wp2_with fail
  refine (l3Mask_any _ _ l (HW.out _ B1.out) hk).mono ?_
  rintro ex w2 ⟨rfl, r2, b2⟩
  have hcell := Lib.hid r2.cells.1
  have hgl := r2.cells.2.2
  have B2 := Lib.hid (belStep B1.out b2)
  clear r2 b2
  generalize hm : spL l = m at *
  go_wp2
  go_loopw [3, 5] (fun x i wr => ∃ k : Nat, k ≤ 64 ∧ i = .int .i64 k ∧ x = .int .i64 (cntB2 m k : Int) ∧ Below w2.heap.size w2 wr) (fun _ i _ => 64 - (intOf i).toNat)
  case atStart => exact ⟨0, Nat.zero_le _, rfl, rfl, Below.refl _ _⟩
  case round =>
    obtain ⟨k, hk64, rfl, rfl, hbel⟩ := hrel
    by_cases hlt : k < 64
    · have hkz : (k : Int) < 64 := by omega
      have c1 : wr.cell? ⟨w1.heap.size, k, none⟩ = some (.bool (m.getD k false)) := (belCell hbel _ _ hgl).trans (hcell.out k hlt)
      have HC1 := Lib.hid (HC.out k hlt)
      have hle := HLE.out k
      generalize m.getD k false = x at *
      cases x
      · go_wp2
        go_roundw
        case rel => exact ⟨k + 1, by omega, by go_num, by have := HC1.out; simp at this; rw [this], hbel⟩
        case measure => simp [intOf]; omega
      · go_wp2
        go_roundw
        case rel => exact ⟨k + 1, by omega, by go_num, by have := HC1.out; simp at this; rw [this]; go_num, hbel⟩
        case measure => simp [intOf]; omega
    · obtain rfl : k = 64 := by omega
      go_wp2
      go_ret
      exact ⟨congrArg (fun x => Ending.returned (Value.int IntKind.i64 x)) HT.out.symm, belStep B2.out hbel⟩

end Go.Proofs.Ytndmedkkecikoaa
