/-
  What the conditions that the statements draw are: short texts; the reader's place goes on, and nothing else that was there changes.
-/
import Derived.Test.YtcipidcnkllanaaDoorDrawHead
import Derived.Test.YtcipidcnkllanaaDoorHeadB
import Derived.Deep.RegionHeld3
import Derived.Laws.DeepStrings4
namespace Go.Proofs.YtcipidcnkllanaaDoor
open Go.ChangeShapes Go.WideShapes Go.ChangeAt Go.RowKit Go.Joins
set_option linter.unusedVariables false

/-- One of a list of strings is picked. -/
def OfP (P : ByteArray → Prop) (g B : Nat) (w : World) (e : Ending) (w' : World) : Prop :=
  ∃ s, P s ∧ e = .returned (.string s) ∧ RdOk w' g (B + 1) ∧ w.grownBy w' (some g)

set_option maxHeartbeats 400000 in
theorem of_someP (w : World) (g B j k : Nat) (P : ByteArray → Prop) (hr : RdOk w g B) (hB : B ≤ 1000000000) (hk : 1 ≤ k) (hk2 : k ≤ 1000) (hne : j ≠ g) (hj : j < w.heap.size)
    (hc : ∀ i, i < k → ∃ s, P s ∧ w.cell? ⟨j, i, none⟩ = some (.string s)) :
    Calls Tryd.prog 37 #[.pointer (some ⟨g, 0, none⟩), .slice (some ⟨j, 0, none⟩) k k] w (OfP P g B w) := by
  have HR := Lib.hid hr
  have HC := Lib.hid hc
  clear hr hc
  go_enter Tryd.func37, Tryd.ntmps37
  go_wp2_with fail
  refine (pick_any _ _ _ _ HR.out hB (by omega)).mono ?_
  rintro e w1 ⟨v, v0, v1, rfl, hr1, g1⟩
  have HR1 := Lib.hid hr1
  clear hr1
  obtain ⟨s, hs, hcs⟩ := HC.out v.toNat (by omega)
  have hcell : w1.cell? ⟨j, v.toNat, none⟩ = some (.string s) := (gCell g1 _ hj hne).trans hcs
  have HS := Lib.hid hs
  clear hs
  go_wp2
  go_ret
  exact ⟨s, HS.out, rfl, HR1.out, g1⟩

theorem rdDrewP {w : World} {g B : Nat} (h : RdOk w g B) : RdOk w.drew g B := h.keep fun _ _ => rfl

theorem listCells {w : World} {j : Nat} {t : TypeId} {xs : List ByteArray} (P : ByteArray → Prop) (h : w.heap[j]? = some (.cells (xs.map Value.string).toArray t)) (hp : ∀ s ∈ xs, P s) : ∀ i, i < xs.length → ∃ s, P s ∧ w.cell? ⟨j, i, none⟩ = some (.string s) := by
  intro i hi
  refine ⟨xs[i], hp _ (List.getElem_mem hi), ?_⟩
  rw [cell_of_block h]
  simp [hi]

/-- A text of at most N bytes is drawn by the reader at block g, with at most M picks. -/
def TextP (N M g B : Nat) (w : World) (e : Ending) (w' : World) : Prop :=
  ∃ s : ByteArray, s.size ≤ N ∧ e = .returned (.string s) ∧ RdOk w' g (B + M) ∧ w.grownBy w' (some g)

/-- How many picks, and how many bytes, at most. -/
def mP : Nat → Nat
  | 0 => 4
  | d + 1 => 2 * mP d + 4
def nP : Nat → Nat
  | 0 => 2
  | d + 1 => 2 * nP d + 1

set_option maxRecDepth 100000 in
set_option maxHeartbeats 4000000 in
theorem l91Pred_leaf (w : World) (g B : Nat) (hr : RdOk w g B) (hB : B ≤ 100000000) :
    Calls Tryd.prog 36 #[.pointer (some ⟨g, 0, none⟩), .int .i64 0] w (TextP 2 4 g B w) := by
  have hlt := hr.lt
  have HR := Lib.hid hr
  clear hr
  go_enter Tryd.func36, Tryd.ntmps36
  go_wp2_with fail
  refine (pick_any _ _ _ _ HR.out (by omega) (by omega)).mono ?_
  rintro e w1 ⟨v, v0, v1, rfl, hr1, g1⟩
  have HR1 := Lib.hid hr1
  have s1 := g1.size
  clear hr1
  go_wp2_with fail
  refine (pick_any _ _ _ _ HR1.out (by omega) (by omega)).mono ?_
  rintro e w2 ⟨u, u0, u1, rfl, hr2, g2⟩
  have HR2 := Lib.hid hr2
  have G2 : Hid (w.grownBy w2 (some g)) := gTrans g1 g2
  have s2 := g2.size
  clear hr2 g1 g2
  obtain rfl | rfl | rfl | rfl | rfl | rfl : u = 0 ∨ u = 1 ∨ u = 2 ∨ u = 3 ∨ u = 4 ∨ u = 5 := by omega
  · have HRs := Lib.hid (HR2.out.alloc (.cells #[.string ⟨#[48]⟩, .string ⟨#[49]⟩] 9))
    have HC := Lib.hid (listCells (xs := [⟨#[48]⟩, ⟨#[49]⟩]) (fun s => s.size = 1) (newBlock w2 (.cells #[.string ⟨#[48]⟩, .string ⟨#[49]⟩] 9)) (by simp; exact ⟨rfl, rfl⟩))
    go_wp2_with fail
    refine (of_someP _ g (B + 1 + 1) w2.heap.size 2 (fun s => s.size = 1) HRs.out (by omega) (by omega) (by omega) (by omega) (by simp) HC.out).mono ?_
    rintro e w3 ⟨t, ht, rfl, hr3, g3⟩
    have HR3 := Lib.hid (hr3.le (B' := B + 4) (by omega))
    clear hr3
    go_wp2
    go_ret
    exact ⟨t, by omega, rfl, HR3.out, gTrans (gAlloc G2.out _) g3⟩
  · go_wp2_with fail
    refine (pick_any _ g (B + 1 + 1) _ HR2.out (by omega) (by omega)).mono ?_
    rintro e w3 ⟨x, x0, x1, rfl, hr3, g3⟩
    have HR3 := Lib.hid (hr3.le (B' := B + 4) (by omega))
    have G3 : Hid (w.grownBy w3 (some g)) := gTrans G2.out g3
    have s3 := g3.size
    clear hr3 g3
    go_wp2_with fail
    refine (l6Dec_digit x x0 (by omega) _).mono ?_
    rintro e w4 ⟨rfl, b4⟩
    have dz := digB_size x
    have HR4 : Hid (RdOk w4 g (B + 4)) := HR3.out.below b4 (by omega)
    generalize digB x = dg at *
    go_wp2
    go_ret
    exact ⟨_, by rw [ByteArray.size_append, dz]; show 1 + 1 ≤ _; omega, rfl, HR4.out, gBelow G3.out b4 (by omega)⟩
  · go_wp2_with fail
    refine (pick_any _ g (B + 1 + 1) _ HR2.out (by omega) (by omega)).mono ?_
    rintro e w3 ⟨x, x0, x1, rfl, hr3, g3⟩
    have HR3 := Lib.hid (hr3.le (B' := B + 4) (by omega))
    have G3 : Hid (w.grownBy w3 (some g)) := gTrans G2.out g3
    have s3 := g3.size
    clear hr3 g3
    go_wp2_with fail
    refine (l6Dec_digit x x0 (by omega) _).mono ?_
    rintro e w4 ⟨rfl, b4⟩
    have dz := digB_size x
    have HR4 : Hid (RdOk w4 g (B + 4)) := HR3.out.below b4 (by omega)
    generalize digB x = dg at *
    go_wp2
    go_ret
    exact ⟨_, by rw [ByteArray.size_append, dz]; show 1 + 1 ≤ _; omega, rfl, HR4.out, gBelow G3.out b4 (by omega)⟩
  · go_wp2_with fail
    refine (pick_any _ g (B + 1 + 1) _ HR2.out (by omega) (by omega)).mono ?_
    rintro e w3 ⟨x, x0, x1, rfl, hr3, g3⟩
    have HR3 := Lib.hid (hr3.le (B' := B + 4) (by omega))
    have G3 : Hid (w.grownBy w3 (some g)) := gTrans G2.out g3
    have s3 := g3.size
    clear hr3 g3
    go_wp2_with fail
    refine (l6Dec_digit x x0 (by omega) _).mono ?_
    rintro e w4 ⟨rfl, b4⟩
    have dz := digB_size x
    have HR4 : Hid (RdOk w4 g (B + 4)) := HR3.out.below b4 (by omega)
    generalize digB x = dg at *
    go_wp2
    go_ret
    exact ⟨_, by rw [ByteArray.size_append, dz]; show 1 + 1 ≤ _; omega, rfl, HR4.out, gBelow G3.out b4 (by omega)⟩
  · go_wp2_with fail
    refine (pick_any _ g (B + 1 + 1) _ HR2.out (by omega) (by omega)).mono ?_
    rintro e w3 ⟨x, x0, x1, rfl, hr3, g3⟩
    have HR3 := Lib.hid (hr3.le (B' := B + 4) (by omega))
    have G3 : Hid (w.grownBy w3 (some g)) := gTrans G2.out g3
    have s3 := g3.size
    clear hr3 g3
    go_wp2_with fail
    refine (l6Dec_digit x x0 (by omega) _).mono ?_
    rintro e w4 ⟨rfl, b4⟩
    have dz := digB_size x
    have HR4 : Hid (RdOk w4 g (B + 4)) := HR3.out.below b4 (by omega)
    generalize digB x = dg at *
    go_wp2
    go_ret
    exact ⟨_, by rw [ByteArray.size_append, dz]; show 1 + 1 ≤ _; omega, rfl, HR4.out, gBelow G3.out b4 (by omega)⟩
  · go_wp2_with fail
    refine (pick_any _ g (B + 1 + 1) _ HR2.out (by omega) (by omega)).mono ?_
    rintro e w3 ⟨x, x0, x1, rfl, hr3, g3⟩
    have HR3 := Lib.hid (hr3.le (B' := B + 4) (by omega))
    have G3 : Hid (w.grownBy w3 (some g)) := gTrans G2.out g3
    have s3 := g3.size
    clear hr3 g3
    go_wp2_with fail
    refine (l6Dec_digit x x0 (by omega) _).mono ?_
    rintro e w4 ⟨rfl, b4⟩
    have dz := digB_size x
    have HR4 : Hid (RdOk w4 g (B + 4)) := HR3.out.below b4 (by omega)
    generalize digB x = dg at *
    go_wp2
    go_ret
    exact ⟨_, by rw [ByteArray.size_append, dz]; show 1 + 1 ≤ _; omega, rfl, HR4.out, gBelow G3.out b4 (by omega)⟩

set_option maxRecDepth 100000 in
set_option maxHeartbeats 8000000 in
theorem l91Pred_node (w : World) (g B N M d : Nat) (hN : 2 ≤ N) (hN2 : N ≤ 1000) (hM : 4 ≤ M) (hM2 : M ≤ 1000) (hd : d ≤ 1000) (hr : RdOk w g B) (hB : B ≤ 100000000)
    (ih : ∀ (W : World) (B' : Nat), RdOk W g B' → B' ≤ B + M + 1 → Calls Tryd.prog 36 #[.pointer (some ⟨g, 0, none⟩), .int .i64 (d : Int)] W (TextP N M g B' W)) :
    Calls Tryd.prog 36 #[.pointer (some ⟨g, 0, none⟩), .int .i64 ((d : Int) + 1)] w (TextP (2 * N + 1) (2 * M + 4) g B w) := by
  have hlt := hr.lt
  have HR := Lib.hid hr
  have IH := Lib.hid ih
  unfold TextP at IH
  clear hr ih
  have hdd : decide ((d : Int) + 1 ≤ 0) = false := by first | (simp; done) | (simp; omega)
  have hde : (d : Int) + 1 - 1 = (d : Int) := by omega
  go_enter Tryd.func36, Tryd.ntmps36
  go_wp2_with fail
  refine (pick_any _ _ _ _ HR.out (by omega) (by omega)).mono ?_
  rintro e w1 ⟨v, v0, v1, rfl, hr1, g1⟩
  have HR1 := Lib.hid hr1
  have G1 := Lib.hid g1
  have s1 := g1.size
  clear hr1 g1
  obtain rfl | rfl | rfl | rfl | rfl | rfl | rfl | rfl | rfl : v = 0 ∨ v = 1 ∨ v = 2 ∨ v = 3 ∨ v = 4 ∨ v = 5 ∨ v = 6 ∨ v = 7 ∨ v = 8 := by omega
  · go_wp2_with fail
    refine (IH.out _ (B + 1) HR1.out (by omega)).mono ?_
    rintro e w2 ⟨t, ht, rfl, hr2, g2⟩
    have HR2 := Lib.hid (hr2.le (B' := B + (2 * M + 4)) (by omega))
    have G2 := Lib.hid (gTrans G1.out g2)
    clear hr2 g2 IH
    go_wp2
    go_ret
    exact ⟨_, by rw [ByteArray.size_append]; show 1 + _ ≤ _; omega, rfl, HR2.out, G2.out⟩
  · go_wp2_with fail
    refine (IH.out _ (B + 1) HR1.out (by omega)).mono ?_
    rintro e w2 ⟨t, ht, rfl, hr2, g2⟩
    have HR2 := Lib.hid hr2
    have G2 := Lib.hid (gTrans G1.out g2)
    clear hr2 g2
    go_wp2_with fail
    refine (IH.out _ (B + 1 + M) HR2.out (by omega)).mono ?_
    rintro e w3 ⟨t', ht', rfl, hr3, g3⟩
    have HR3 := Lib.hid (hr3.le (B' := B + (2 * M + 4)) (by omega))
    have G3 := Lib.hid (gTrans G2.out g3)
    clear hr3 g3 IH
    go_wp2
    go_ret
    exact ⟨_, by rw [ByteArray.size_append, ByteArray.size_append]; show 1 + _ + _ ≤ _; omega, rfl, HR3.out, G3.out⟩
  · go_wp2_with fail
    refine (IH.out _ (B + 1) HR1.out (by omega)).mono ?_
    rintro e w2 ⟨t, ht, rfl, hr2, g2⟩
    have HR2 := Lib.hid hr2
    have G2 := Lib.hid (gTrans G1.out g2)
    clear hr2 g2
    go_wp2_with fail
    refine (IH.out _ (B + 1 + M) HR2.out (by omega)).mono ?_
    rintro e w3 ⟨t', ht', rfl, hr3, g3⟩
    have HR3 := Lib.hid (hr3.le (B' := B + (2 * M + 4)) (by omega))
    have G3 := Lib.hid (gTrans G2.out g3)
    clear hr3 g3 IH
    go_wp2
    go_ret
    exact ⟨_, by rw [ByteArray.size_append, ByteArray.size_append]; show 1 + _ + _ ≤ _; omega, rfl, HR3.out, G3.out⟩
  · have HRs := Lib.hid (HR1.out.alloc (.cells #[.string ⟨#[48]⟩, .string ⟨#[49]⟩] 9))
    have HC := Lib.hid (listCells (xs := [⟨#[48]⟩, ⟨#[49]⟩]) (fun s => s.size = 1) (newBlock w1 (.cells #[.string ⟨#[48]⟩, .string ⟨#[49]⟩] 9)) (by simp; exact ⟨rfl, rfl⟩))
    go_wp2_with fail
    refine (of_someP _ g (B + 1) w1.heap.size 2 (fun s => s.size = 1) HRs.out (by omega) (by omega) (by omega) (by omega) (by simp) HC.out).mono ?_
    rintro e w3 ⟨t, ht, rfl, hr3, g3⟩
    have HR3 := Lib.hid (hr3.le (B' := B + (2 * M + 4)) (by omega))
    clear hr3
    go_wp2
    go_ret
    exact ⟨t, by omega, rfl, HR3.out, gTrans (gAlloc G1.out _) g3⟩
  · go_wp2_with fail
    refine (pick_any _ g (B + 1) _ HR1.out (by omega) (by omega)).mono ?_
    rintro e w3 ⟨x, x0, x1, rfl, hr3, g3⟩
    have HR3 := Lib.hid (hr3.le (B' := B + (2 * M + 4)) (by omega))
    have G3 : Hid (w.grownBy w3 (some g)) := gTrans G1.out g3
    have s3 := g3.size
    clear hr3 g3
    go_wp2_with fail
    refine (l6Dec_digit x x0 (by omega) _).mono ?_
    rintro e w4 ⟨rfl, b4⟩
    have dz := digB_size x
    have HR4 : Hid (RdOk w4 g (B + (2 * M + 4))) := HR3.out.below b4 (by omega)
    generalize digB x = dg at *
    go_wp2
    go_ret
    exact ⟨_, by rw [ByteArray.size_append, dz]; show 1 + 1 ≤ _; omega, rfl, HR4.out, gBelow G3.out b4 (by omega)⟩
  · go_wp2_with fail
    refine (pick_any _ g (B + 1) _ HR1.out (by omega) (by omega)).mono ?_
    rintro e w3 ⟨x, x0, x1, rfl, hr3, g3⟩
    have HR3 := Lib.hid (hr3.le (B' := B + (2 * M + 4)) (by omega))
    have G3 : Hid (w.grownBy w3 (some g)) := gTrans G1.out g3
    have s3 := g3.size
    clear hr3 g3
    go_wp2_with fail
    refine (l6Dec_digit x x0 (by omega) _).mono ?_
    rintro e w4 ⟨rfl, b4⟩
    have dz := digB_size x
    have HR4 : Hid (RdOk w4 g (B + (2 * M + 4))) := HR3.out.below b4 (by omega)
    generalize digB x = dg at *
    go_wp2
    go_ret
    exact ⟨_, by rw [ByteArray.size_append, dz]; show 1 + 1 ≤ _; omega, rfl, HR4.out, gBelow G3.out b4 (by omega)⟩
  · go_wp2_with fail
    refine (pick_any _ g (B + 1) _ HR1.out (by omega) (by omega)).mono ?_
    rintro e w3 ⟨x, x0, x1, rfl, hr3, g3⟩
    have HR3 := Lib.hid (hr3.le (B' := B + (2 * M + 4)) (by omega))
    have G3 : Hid (w.grownBy w3 (some g)) := gTrans G1.out g3
    have s3 := g3.size
    clear hr3 g3
    go_wp2_with fail
    refine (l6Dec_digit x x0 (by omega) _).mono ?_
    rintro e w4 ⟨rfl, b4⟩
    have dz := digB_size x
    have HR4 : Hid (RdOk w4 g (B + (2 * M + 4))) := HR3.out.below b4 (by omega)
    generalize digB x = dg at *
    go_wp2
    go_ret
    exact ⟨_, by rw [ByteArray.size_append, dz]; show 1 + 1 ≤ _; omega, rfl, HR4.out, gBelow G3.out b4 (by omega)⟩
  · go_wp2_with fail
    refine (pick_any _ g (B + 1) _ HR1.out (by omega) (by omega)).mono ?_
    rintro e w3 ⟨x, x0, x1, rfl, hr3, g3⟩
    have HR3 := Lib.hid (hr3.le (B' := B + (2 * M + 4)) (by omega))
    have G3 : Hid (w.grownBy w3 (some g)) := gTrans G1.out g3
    have s3 := g3.size
    clear hr3 g3
    go_wp2_with fail
    refine (l6Dec_digit x x0 (by omega) _).mono ?_
    rintro e w4 ⟨rfl, b4⟩
    have dz := digB_size x
    have HR4 : Hid (RdOk w4 g (B + (2 * M + 4))) := HR3.out.below b4 (by omega)
    generalize digB x = dg at *
    go_wp2
    go_ret
    exact ⟨_, by rw [ByteArray.size_append, dz]; show 1 + 1 ≤ _; omega, rfl, HR4.out, gBelow G3.out b4 (by omega)⟩
  · go_wp2_with fail
    refine (pick_any _ g (B + 1) _ HR1.out (by omega) (by omega)).mono ?_
    rintro e w3 ⟨x, x0, x1, rfl, hr3, g3⟩
    have HR3 := Lib.hid (hr3.le (B' := B + (2 * M + 4)) (by omega))
    have G3 : Hid (w.grownBy w3 (some g)) := gTrans G1.out g3
    have s3 := g3.size
    clear hr3 g3
    go_wp2_with fail
    refine (l6Dec_digit x x0 (by omega) _).mono ?_
    rintro e w4 ⟨rfl, b4⟩
    have dz := digB_size x
    have HR4 : Hid (RdOk w4 g (B + (2 * M + 4))) := HR3.out.below b4 (by omega)
    generalize digB x = dg at *
    go_wp2
    go_ret
    exact ⟨_, by rw [ByteArray.size_append, dz]; show 1 + 1 ≤ _; omega, rfl, HR4.out, gBelow G3.out b4 (by omega)⟩

theorem l91Pred_any : ∀ (d : Nat) (hd : d ≤ 3) (w : World) (g B : Nat) (hr : RdOk w g B) (hB : B ≤ 10000000),
    Calls Tryd.prog 36 #[.pointer (some ⟨g, 0, none⟩), .int .i64 (d : Int)] w (TextP (nP d) (mP d) g B w)
  | 0, _, w, g, B, hr, hB => l91Pred_leaf w g B hr (by omega)
  | 1, hd, w, g, B, hr, hB => l91Pred_node w g B 2 4 0 (by omega) (by omega) (by omega) (by omega) (by omega) hr (by omega) fun W B' hr' hB' => l91Pred_leaf W g B' hr' (by omega)
  | 2, hd, w, g, B, hr, hB => l91Pred_node w g B 5 12 1 (by omega) (by omega) (by omega) (by omega) (by omega) hr (by omega) fun W B' hr' hB' =>
      l91Pred_node W g B' 2 4 0 (by omega) (by omega) (by omega) (by omega) (by omega) hr' (by omega) fun W B' hr' hB' => l91Pred_leaf W g B' hr' (by omega)
  | 3, hd, w, g, B, hr, hB => l91Pred_node w g B 11 28 2 (by omega) (by omega) (by omega) (by omega) (by omega) hr (by omega) fun W B' hr' hB' =>
      l91Pred_node W g B' 5 12 1 (by omega) (by omega) (by omega) (by omega) (by omega) hr' (by omega) fun W B' hr' hB' =>
      l91Pred_node W g B' 2 4 0 (by omega) (by omega) (by omega) (by omega) (by omega) hr' (by omega) fun W B' hr' hB' => l91Pred_leaf W g B' hr' (by omega)

end Go.Proofs.YtcipidcnkllanaaDoor
