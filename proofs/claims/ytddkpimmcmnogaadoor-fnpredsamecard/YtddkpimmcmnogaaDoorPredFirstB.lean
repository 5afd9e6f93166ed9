/-
  What the program's reading of the condition with which a text begins returns: every case.
-/
import Derived.Test.YtddkpimmcmnogaaDoorPredFirst
namespace Go.Proofs.YtddkpimmcmnogaaDoor
open Go.ChangeShapes Go.WideShapes Go.ChangeAt Go.RowKit Go.Joins
set_option linter.unusedVariables false

/-- What a call leaves that reads a condition, told where the caller's result has a block of its own. -/
def ReadIn (c : Cnd) (u : ByteArray) (w : World) (e : Ending) (w1 : World) : Prop := ∃ (tw : ByteArray) (ad : Option Addr) (n1 c1 k1 : Nat) (caps : Array Value),
  e = .returned (.tuple #[.agg #[.string tw, .slice ad n1 c1, .func (.func k1) #[] caps], .string u, .nilIface]) ∧ Hid (CRep w1 (w.heap.size + 1) c (.string tw) (.slice ad n1 c1) (.func (.func k1) #[] caps)) ∧ Hid (Below w.heap.size w w1) ∧
  w1.cell? ⟨w.heap.size, 0, none⟩ = some (.string ⟨#[]⟩) ∧ w1.cell? ⟨w.heap.size, 1, none⟩ = some (.slice none 0 0) ∧ w1.cell? ⟨w.heap.size, 2, none⟩ = some .nilFunc ∧ (∀ j, w1.frozen? ⟨w.heap.size, j, none⟩ = false) ∧ w.heap.size < w1.heap.size
def FailIn (ep : Addr) (w : World) (e : Ending) (w1 : World) : Prop :=
  e = .returned (.tuple #[.agg #[.string ⟨#[]⟩, .slice none 0 0, .nilFunc], .string ⟨#[]⟩, .iface 126 (.pointer (some ep))]) ∧ Hid (Below w.heap.size w w1) ∧
  w1.cell? ⟨w.heap.size, 0, none⟩ = some (.string ⟨#[]⟩) ∧ w1.cell? ⟨w.heap.size, 1, none⟩ = some (.slice none 0 0) ∧ w1.cell? ⟨w.heap.size, 2, none⟩ = some .nilFunc ∧ (∀ j, w1.frozen? ⟨w.heap.size, j, none⟩ = false) ∧ w.heap.size < w1.heap.size

theorem readIn {G : Nat} {args : Array Value} {c : Cnd} {r : List UInt8} {w : World} (h : ∀ W : World, Below w.heap.size w W → Calls Tryd.prog G args W (Read c r W)) :
    Calls Tryd.prog G args (w.alloc (.cells #[.string ⟨#[]⟩, .slice none 0 0, .nilFunc] 47)) (ReadIn c (bs r) w) := by
  refine (h _ (below_alloc1 _ _)).mono ?_
  rintro e w1 ⟨x0, x1, x2, rfl, hR, b1⟩
  obtain ⟨ad, n1, c1, k1, caps, rfl, rfl, rfl⟩ := hR.form
  have s1 := b1.size
  obtain ⟨ra, rb, rc, rf⟩ := trioCellsP ((b1.block w.heap.size (by simp)).trans (heap_alloc_new w _))
  have hs : (w.alloc (.cells #[.string ⟨#[]⟩, .slice none 0 0, .nilFunc] 47)).heap.size = w.heap.size + 1 := by simp
  rw [hs] at hR b1 s1
  exact ⟨_, ad, n1, c1, k1, caps, rfl, hR, (below_alloc1 _ _).trans (b1.mono (by omega)), ra, rb, rc, rf, by omega⟩
theorem failIn {G : Nat} {args : Array Value} {ep : Addr} {w : World} (h : ∀ W : World, Below w.heap.size w W → Calls Tryd.prog G args W (Fails ep W)) :
    Calls Tryd.prog G args (w.alloc (.cells #[.string ⟨#[]⟩, .slice none 0 0, .nilFunc] 47)) (FailIn ep w) := by
  refine (h _ (below_alloc1 _ _)).mono ?_
  rintro e w1 ⟨rfl, b1⟩
  have s1 := b1.size
  obtain ⟨ra, rb, rc, rf⟩ := trioCellsP ((b1.block w.heap.size (by simp)).trans (heap_alloc_new w _))
  have hs : (w.alloc (.cells #[.string ⟨#[]⟩, .slice none 0 0, .nilFunc] 47)).heap.size = w.heap.size + 1 := by simp
  rw [hs] at b1 s1
  exact ⟨rfl, (below_alloc1 _ _).trans (b1.mono (by omega)), ra, rb, rc, rf, by omega⟩

set_option maxHeartbeats 4000000 in
theorem first_fld_yes (k : UInt8) (l : List UInt8) (hl : l.length ≤ 1048576) (hk : isF k = true) (c : Cnd) (r : List UInt8) (w : World) (h : ∀ W : World, Below w.heap.size w W → Calls Tryd.prog 76 #[.string (bs (k :: l)), .func (.func (fieldF k)) #[] #[]] W (Read c r W)) :
    Calls Tryd.prog 61 #[.string (bs (k :: l))] w (Read c r w) := by
  have hs0 : 0 < (bs (k :: l)).size := by simp [bs_size]
  have hb1 : (bs (k :: l))[0]'hs0 = k := rfl
  have hq : ((bs (k :: l)).toList == []) = false := by rw [bs_toList]; rfl
  have hL : (bs (k :: l)).size ≤ 2000000 := by rw [bs_size]; simp; omega
  have HC := Lib.hid (readIn h)
  unfold Read ReadIn at *
  generalize bs r = u at *
  clear h hl
  generalize bs (k :: l) = s at *
  rcases isF_cases hk with rfl | rfl | rfl
  all_goals
    simp only [show fieldF 115 = 77 from rfl, show fieldF 100 = 78 from rfl, show fieldF 116 = 79 from rfl] at HC
    clear hk
    go_enter Tryd.func61, Tryd.ntmps61
    go_wp2_with fail
    refine HC.out.mono ?_
    rintro e w1 ⟨tw, ad, n1, c1, k1, caps, rfl, HR, B1, ra, rb, rc, rf, z0⟩
    go_wp2
    refine bodyPost_ret (v := .tuple #[.agg #[.string tw, .slice ad n1 c1, .func (.func k1) #[] caps], .string u, .nilIface]) (by simp [results, Tryd.results61, go_sem, ra, rb, rc]) rfl ?_
    refine ⟨_, _, _, rfl, CRep.mono (base := w.heap.size + 1) (by omega) (CRep.later (w := w1) ?_ HR.out), ?_⟩
    · repeat (first | exact Ag.refl _ _ | refine Ag.set ?_ (by show w.heap.size < _; omega) _ | refine Ag.drew ?_)
    · repeat (first | exact B1.out | refine Below.drew ?_ | refine Below.setCell ?_ (by first | exact Nat.le_refl _ | (simp; omega)) _ | refine Below.alloc ?_ (by first | omega | (simp; omega)) _)

set_option maxHeartbeats 4000000 in
theorem first_fld_no (k : UInt8) (l : List UInt8) (hl : l.length ≤ 1048576) (hk : isF k = true) (ep : Addr) (w : World) (h : ∀ W : World, Below w.heap.size w W → Calls Tryd.prog 76 #[.string (bs (k :: l)), .func (.func (fieldF k)) #[] #[]] W (Fails ep W)) :
    Calls Tryd.prog 61 #[.string (bs (k :: l))] w (Fails ep w) := by
  have hs0 : 0 < (bs (k :: l)).size := by simp [bs_size]
  have hb1 : (bs (k :: l))[0]'hs0 = k := rfl
  have hq : ((bs (k :: l)).toList == []) = false := by rw [bs_toList]; rfl
  have hL : (bs (k :: l)).size ≤ 2000000 := by rw [bs_size]; simp; omega
  have HC := Lib.hid (failIn h)
  unfold Fails FailIn errV at *
  clear h hl
  generalize bs (k :: l) = s at *
  rcases isF_cases hk with rfl | rfl | rfl
  all_goals
    simp only [show fieldF 115 = 77 from rfl, show fieldF 100 = 78 from rfl, show fieldF 116 = 79 from rfl] at HC
    clear hk
    go_enter Tryd.func61, Tryd.ntmps61
    go_wp2_with fail
    refine HC.out.mono ?_
    rintro e w1 ⟨rfl, B1, ra, rb, rc, rf, z0⟩
    go_wp2
    refine bodyPost_ret (v := .tuple #[.agg #[.string ⟨#[]⟩, .slice none 0 0, .nilFunc], .string ⟨#[]⟩, .iface 126 (.pointer (some ep))]) (by simp [results, Tryd.results61, go_sem, ra, rb, rc]) rfl ?_
    refine ⟨rfl, ?_⟩
    repeat (first | exact B1.out | refine Below.drew ?_ | refine Below.setCell ?_ (by first | exact Nat.le_refl _ | (simp; omega)) _ | refine Below.alloc ?_ (by first | omega | (simp; omega)) _)

set_option maxHeartbeats 4000000 in
theorem first_neg_yes (k : UInt8) (l : List UInt8) (hl : l.length ≤ 1048576) (hk : k = 33) (c : Cnd) (r : List UInt8) (w : World) (h : ∀ W : World, Below w.heap.size w W → Calls Tryd.prog 80 #[.string (bs (k :: l)), .int .i64 1] W (Read c r W)) :
    Calls Tryd.prog 61 #[.string (bs (k :: l))] w (Read c r w) := by
  have hs0 : 0 < (bs (k :: l)).size := by simp [bs_size]
  have hb1 : (bs (k :: l))[0]'hs0 = k := rfl
  have hq : ((bs (k :: l)).toList == []) = false := by rw [bs_toList]; rfl
  have hL : (bs (k :: l)).size ≤ 2000000 := by rw [bs_size]; simp; omega
  have HC := Lib.hid (readIn h)
  unfold Read ReadIn at *
  generalize bs r = u at *
  clear h hl
  generalize bs (k :: l) = s at *
  subst hk
  all_goals
    go_enter Tryd.func61, Tryd.ntmps61
    go_wp2_with fail
    refine HC.out.mono ?_
    rintro e w1 ⟨tw, ad, n1, c1, k1, caps, rfl, HR, B1, ra, rb, rc, rf, z0⟩
    go_wp2
    refine bodyPost_ret (v := .tuple #[.agg #[.string tw, .slice ad n1 c1, .func (.func k1) #[] caps], .string u, .nilIface]) (by simp [results, Tryd.results61, go_sem, ra, rb, rc]) rfl ?_
    refine ⟨_, _, _, rfl, CRep.mono (base := w.heap.size + 1) (by omega) (CRep.later (w := w1) ?_ HR.out), ?_⟩
    · repeat (first | exact Ag.refl _ _ | refine Ag.set ?_ (by show w.heap.size < _; omega) _ | refine Ag.drew ?_)
    · repeat (first | exact B1.out | refine Below.drew ?_ | refine Below.setCell ?_ (by first | exact Nat.le_refl _ | (simp; omega)) _ | refine Below.alloc ?_ (by first | omega | (simp; omega)) _)

set_option maxHeartbeats 4000000 in
theorem first_neg_no (k : UInt8) (l : List UInt8) (hl : l.length ≤ 1048576) (hk : k = 33) (ep : Addr) (w : World) (h : ∀ W : World, Below w.heap.size w W → Calls Tryd.prog 80 #[.string (bs (k :: l)), .int .i64 1] W (Fails ep W)) :
    Calls Tryd.prog 61 #[.string (bs (k :: l))] w (Fails ep w) := by
  have hs0 : 0 < (bs (k :: l)).size := by simp [bs_size]
  have hb1 : (bs (k :: l))[0]'hs0 = k := rfl
  have hq : ((bs (k :: l)).toList == []) = false := by rw [bs_toList]; rfl
  have hL : (bs (k :: l)).size ≤ 2000000 := by rw [bs_size]; simp; omega
  have HC := Lib.hid (failIn h)
  unfold Fails FailIn errV at *
  clear h hl
  generalize bs (k :: l) = s at *
  subst hk
  all_goals
    go_enter Tryd.func61, Tryd.ntmps61
    go_wp2_with fail
    refine HC.out.mono ?_
    rintro e w1 ⟨rfl, B1, ra, rb, rc, rf, z0⟩
    go_wp2
    refine bodyPost_ret (v := .tuple #[.agg #[.string ⟨#[]⟩, .slice none 0 0, .nilFunc], .string ⟨#[]⟩, .iface 126 (.pointer (some ep))]) (by simp [results, Tryd.results61, go_sem, ra, rb, rc]) rfl ?_
    refine ⟨rfl, ?_⟩
    repeat (first | exact B1.out | refine Below.drew ?_ | refine Below.setCell ?_ (by first | exact Nat.le_refl _ | (simp; omega)) _ | refine Below.alloc ?_ (by first | omega | (simp; omega)) _)

set_option maxHeartbeats 4000000 in
theorem first_two_yes (k : UInt8) (l : List UInt8) (hl : l.length ≤ 1048576) (hk : isT k = true) (c : Cnd) (r : List UInt8) (w : World) (h : ∀ W : World, Below w.heap.size w W → Calls Tryd.prog 80 #[.string (bs (k :: l)), .int .i64 2] W (Read c r W)) :
    Calls Tryd.prog 61 #[.string (bs (k :: l))] w (Read c r w) := by
  have hs0 : 0 < (bs (k :: l)).size := by simp [bs_size]
  have hb1 : (bs (k :: l))[0]'hs0 = k := rfl
  have hq : ((bs (k :: l)).toList == []) = false := by rw [bs_toList]; rfl
  have hL : (bs (k :: l)).size ≤ 2000000 := by rw [bs_size]; simp; omega
  have HC := Lib.hid (readIn h)
  unfold Read ReadIn at *
  generalize bs r = u at *
  clear h hl
  generalize bs (k :: l) = s at *
  rcases isT_cases hk with rfl | rfl
  all_goals
    clear hk
    go_enter Tryd.func61, Tryd.ntmps61
    go_wp2_with fail
    refine HC.out.mono ?_
    rintro e w1 ⟨tw, ad, n1, c1, k1, caps, rfl, HR, B1, ra, rb, rc, rf, z0⟩
    go_wp2
    refine bodyPost_ret (v := .tuple #[.agg #[.string tw, .slice ad n1 c1, .func (.func k1) #[] caps], .string u, .nilIface]) (by simp [results, Tryd.results61, go_sem, ra, rb, rc]) rfl ?_
    refine ⟨_, _, _, rfl, CRep.mono (base := w.heap.size + 1) (by omega) (CRep.later (w := w1) ?_ HR.out), ?_⟩
    · repeat (first | exact Ag.refl _ _ | refine Ag.set ?_ (by show w.heap.size < _; omega) _ | refine Ag.drew ?_)
    · repeat (first | exact B1.out | refine Below.drew ?_ | refine Below.setCell ?_ (by first | exact Nat.le_refl _ | (simp; omega)) _ | refine Below.alloc ?_ (by first | omega | (simp; omega)) _)

set_option maxHeartbeats 4000000 in
theorem first_two_no (k : UInt8) (l : List UInt8) (hl : l.length ≤ 1048576) (hk : isT k = true) (ep : Addr) (w : World) (h : ∀ W : World, Below w.heap.size w W → Calls Tryd.prog 80 #[.string (bs (k :: l)), .int .i64 2] W (Fails ep W)) :
    Calls Tryd.prog 61 #[.string (bs (k :: l))] w (Fails ep w) := by
  have hs0 : 0 < (bs (k :: l)).size := by simp [bs_size]
  have hb1 : (bs (k :: l))[0]'hs0 = k := rfl
  have hq : ((bs (k :: l)).toList == []) = false := by rw [bs_toList]; rfl
  have hL : (bs (k :: l)).size ≤ 2000000 := by rw [bs_size]; simp; omega
  have HC := Lib.hid (failIn h)
  unfold Fails FailIn errV at *
  clear h hl
  generalize bs (k :: l) = s at *
  rcases isT_cases hk with rfl | rfl
  all_goals
    clear hk
    go_enter Tryd.func61, Tryd.ntmps61
    go_wp2_with fail
    refine HC.out.mono ?_
    rintro e w1 ⟨rfl, B1, ra, rb, rc, rf, z0⟩
    go_wp2
    refine bodyPost_ret (v := .tuple #[.agg #[.string ⟨#[]⟩, .slice none 0 0, .nilFunc], .string ⟨#[]⟩, .iface 126 (.pointer (some ep))]) (by simp [results, Tryd.results61, go_sem, ra, rb, rc]) rfl ?_
    refine ⟨rfl, ?_⟩
    repeat (first | exact B1.out | refine Below.drew ?_ | refine Below.setCell ?_ (by first | exact Nat.le_refl _ | (simp; omega)) _ | refine Below.alloc ?_ (by first | omega | (simp; omega)) _)

end Go.Proofs.YtddkpimmcmnogaaDoor
