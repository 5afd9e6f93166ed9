/-
  What the program reads of a whole text: the condition that it is, or none.
-/
import Derived.Test.YtddkpimmcmnogaaDoorPredRead
namespace Go.Proofs.YtddkpimmcmnogaaDoor
open Go.ChangeShapes Go.WideShapes Go.ChangeAt Go.RowKit Go.Joins
set_option linter.unusedVariables false

/-- What a reading of a whole text leaves. -/
def Whole (c : Cnd) (w : World) (e : Ending) (w' : World) : Prop := ∃ (ad : Option Addr) (n1 c1 k1 : Nat) (caps : Array Value),
  e = .returned (.tuple #[.agg #[.string (bs c.txt), .slice ad n1 c1, .func (.func k1) #[] caps], .nilIface]) ∧ CRep w' w.heap.size c (.string (bs c.txt)) (.slice ad n1 c1) (.func (.func k1) #[] caps) ∧ Below w.heap.size w w'
def NoWhole (ep : Addr) (w : World) (e : Ending) (w' : World) : Prop :=
  e = .returned (.tuple #[.agg #[.string ⟨#[]⟩, .slice none 0 0, .nilFunc], errV ep]) ∧ Below w.heap.size w w'

set_option maxHeartbeats 1000000 in
theorem readPred_yes (c : Cnd) (hk : c.ok = true) (h16 : c.txt.length ≤ 16) (ep : Addr) (w : World) (hE : w.cell? ⟨0, 0, none⟩ = some (errV ep)) :
    Calls Tryd.prog 39 #[.string (bs c.txt)] w (Whole c w) := by
  have HC := Lib.hid (readIn (c := c) (r := []) (G := 61) (args := #[.string (bs (c.txt ++ []))]) (w := w) fun W hb => first_yes ep c hk [] (by simp; omega) W (cellLater hE hb))
  rw [List.append_nil] at HC
  have hL : (bs c.txt).size ≤ 16 := by rw [bs_size]; exact h16
  have hq : ((bs []).toList == []) = true := by rw [bs_toList]; rfl
  have HT : Hid (∀ (W : World) (b : Nat) (tw : ByteArray) (x1 x2 : Value), CRep W b c (.string tw) x1 x2 → tw = bs c.txt) := fun W b tw x1 x2 h => by
    have := h.text
    cases this
    rfl
  unfold ReadIn at HC
  unfold Whole
  generalize bs c.txt = s at *
  generalize bs [] = u at *
  clear hE h16 hk
  go_enter Tryd.func39, Tryd.ntmps39
  go_wp2_with fail
  refine HC.out.mono ?_
  rintro e w1 ⟨tw, ad, n1, c1, k1, caps, rfl, HR, B1, ra, rb, rc, rf, z0⟩
  obtain rfl := HT.out _ _ _ _ _ HR.out
  have n0 : w.heap.size ≠ w1.heap.size := by omega
  go_wp2
  refine bodyPost_ret (v := .tuple #[.agg #[.string tw, .slice ad n1 c1, .func (.func k1) #[] caps], .nilIface]) (by simp [results, Tryd.results39, go_sem, ra, rb, rc, z0]) rfl ?_
  refine ⟨ad, n1, c1, k1, caps, rfl, CRep.mono (base := w.heap.size + 1) (by omega) (CRep.later (w := w1) ?_ HR.out), ?_⟩
  · repeat (first | exact Ag.refl _ _ | refine Ag.set ?_ (by show w.heap.size < _; omega) _ | refine Ag.drew ?_ | refine Ag.alloc ?_ _)
  · repeat (first | exact B1.out | refine Below.drew ?_ | refine Below.setCell ?_ (by first | exact Nat.le_refl _ | (simp; omega)) _ | refine Below.alloc ?_ (by first | omega | (simp; omega)) _)

set_option maxHeartbeats 1000000 in
theorem readPred_long (s : ByteArray) (h16 : 16 < s.size) (hL : s.size ≤ 1048576) (ep : Addr) (w : World) (hE : w.cell? ⟨0, 0, none⟩ = some (errV ep)) :
    Calls Tryd.prog 39 #[.string s] w (NoWhole ep w) := by
  have hg := World.block_lt_of_cell? _ _ hE
  unfold NoWhole errV at *
  go_enter Tryd.func39, Tryd.ntmps39
  go_wp2_with fail
  go_region
  go_wp2
  refine bodyPost_ret (v := .tuple #[.agg #[.string ⟨#[]⟩, .slice none 0 0, .nilFunc], .iface 126 (.pointer (some ep))]) (by simp [results, Tryd.results39, go_sem]) rfl ?_
  exact ⟨rfl, (below_alloc1 _ _).drew⟩

set_option maxHeartbeats 1000000 in
theorem readPred_none (l : List UInt8) (h : rd l = none) (h16 : l.length ≤ 16) (ep : Addr) (w : World) (hE : w.cell? ⟨0, 0, none⟩ = some (errV ep)) :
    Calls Tryd.prog 39 #[.string (bs l)] w (NoWhole ep w) := by
  have HC := Lib.hid (failIn (ep := ep) (G := 61) (args := #[.string (bs l)]) (w := w) fun W hb => first_no ep _ l (Nat.le_refl _) h (by omega) W (cellLater hE hb))
  have hL : (bs l).size ≤ 16 := by rw [bs_size]; exact h16
  unfold FailIn at HC
  unfold NoWhole errV at *
  generalize bs l = s at *
  clear hE h16 h
  go_enter Tryd.func39, Tryd.ntmps39
  go_wp2_with fail
  refine HC.out.mono ?_
  rintro e w1 ⟨rfl, B1, ra, rb, rc, rf, z0⟩
  have n0 : w.heap.size ≠ w1.heap.size := by omega
  go_wp2
  refine bodyPost_ret (v := .tuple #[.agg #[.string ⟨#[]⟩, .slice none 0 0, .nilFunc], .iface 126 (.pointer (some ep))]) (by simp [results, Tryd.results39, go_sem, ra, rb, rc, z0]) rfl ?_
  refine ⟨rfl, ?_⟩
  repeat (first | exact B1.out | refine Below.drew ?_ | refine Below.setCell ?_ (by first | exact Nat.le_refl _ | (simp; omega)) _ | refine Below.alloc ?_ (by first | omega | (simp; omega)) _)

set_option maxHeartbeats 1000000 in
theorem readPred_rest (c : Cnd) (hk : c.ok = true) (r : List UInt8) (hr : r ≠ []) (h16 : c.txt.length + r.length ≤ 16) (ep : Addr) (w : World) (hE : w.cell? ⟨0, 0, none⟩ = some (errV ep)) :
    Calls Tryd.prog 39 #[.string (bs (c.txt ++ r))] w (NoWhole ep w) := by
  have hg := World.block_lt_of_cell? _ _ hE
  have HC := Lib.hid (readIn (c := c) (r := r) (G := 61) (args := #[.string (bs (c.txt ++ r))]) (w := w) fun W hb => first_yes ep c hk r (by omega) W (cellLater hE hb))
  have HE : Hid (∀ W : World, Below w.heap.size w W → W.cell? ⟨0, 0, none⟩ = some (errV ep)) := fun W hb => cellLater hE hb
  have hL : (bs (c.txt ++ r)).size ≤ 16 := by rw [bs_size]; simpa using h16
  have hq : ((bs r).toList == []) = false := by
    rw [bs_toList]
    cases r with
    | nil => exact absurd rfl hr
    | cons a b => rfl
  unfold ReadIn at HC
  unfold NoWhole errV at *
  generalize bs (c.txt ++ r) = s at *
  generalize bs r = u at *
  clear hE h16 hk hr
  go_enter Tryd.func39, Tryd.ntmps39
  go_wp2_with fail
  refine HC.out.mono ?_
  rintro e w1 ⟨tw, ad, n1, c1, k1, caps, rfl, HR, B1, ra, rb, rc, rf, z0⟩
  have n0 : w.heap.size ≠ w1.heap.size := by omega
  have hE1 := HE.out _ B1.out
  have hg1 : 0 < w1.heap.size := by omega
  clear HR HC
  go_wp2_with fail
  go_region
  go_wp2
  refine bodyPost_ret (v := .tuple #[.agg #[.string ⟨#[]⟩, .slice none 0 0, .nilFunc], .iface 126 (.pointer (some ep))]) (by simp [results, Tryd.results39, go_sem, ra, rb, rc, z0]) rfl ?_
  refine ⟨rfl, ?_⟩
  repeat (first | exact B1.out | refine Below.drew ?_ | refine Below.setCell ?_ (by first | exact Nat.le_refl _ | (simp; omega)) _ | refine Below.alloc ?_ (by first | omega | (simp; omega)) _)

theorem readPred_no (l : List UInt8) (h : whole l = none) (hl : l.length ≤ 1048576) (ep : Addr) (w : World) (hE : w.cell? ⟨0, 0, none⟩ = some (errV ep)) :
    Calls Tryd.prog 39 #[.string (bs l)] w (NoWhole ep w) := by
  rcases whole_none h with h1 | ⟨h1, h2⟩ | ⟨h1, c, r, rfl, hk, hr⟩
  · exact readPred_long _ (by rw [bs_size]; exact h1) (by rw [bs_size]; exact hl) ep w hE
  · exact readPred_none l h2 h1 ep w hE
  · exact readPred_rest c hk r hr (by simpa using h1) ep w hE

end Go.Proofs.YtddkpimmcmnogaaDoor
