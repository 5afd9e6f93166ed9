/-
  The program's sorted list in memory: its nodes; a rule is put ahead of all others.
  The program's reading of a table: from the last rule to the first one.
  The program's reading of a table: what readTable returns, and the list that it makes.
  The program's walk over a list: its rules come in order, each with its place.
-/
import Derived.Test.YtjjhahhchimmlaaGreatDoorTabMath
import Derived.Test.YtjjhahhchimmlaaGreatDoorRuleCmpI
import Derived.Laws.EntriesVeiled
import Derived.Test.YtjjhahhchimmlaaGreatDoorExtReg
import Derived.RangeFuncBox
import Derived.RangeFuncLeaves
import Derived.Shelf.Abstract
import Derived.WalkKit
import Derived.OwnWalkIn
import Derived.TacticsInMore
import Derived.LoopNIn
import Derived.LoopIn
import Derived.RangeFuncKeeps
import Derived.RangeFuncNested
import Derived.Shelf.RegionOpen

namespace Go.Proofs.YtjjhahhchimmlaaGreatDoor
open Go.ChangeShapes Go.WideShapes Go.ChangeAt Go.RowKit Go.Joins
set_option linter.unusedVariables false

/-- A node of a list. -/
def nodeO (r : R4) (q : Option Addr) : Obj := .cells #[.int .i64 r.p, .string r.s, .int .i64 r.o, .int .i64 r.t, .pointer q] 134
/-- A pointer leads to nodes with these rules; their blocks are numbered from g on. -/
def LL (w : World) (g : Nat) : Option Addr → List R4 → Prop
  | p, [] => p = none
  | p, r :: rs => ∃ b q, p = some ⟨b, 0, none⟩ ∧ g ≤ b ∧ w.heap[b]? = some (nodeO r q) ∧ LL w g q rs
theorem LL.keep {w w' : World} {g : Nat} (h : ∀ b r q, g ≤ b → w.heap[b]? = some (nodeO r q) → w'.heap[b]? = some (nodeO r q)) : ∀ {l : List R4} {p : Option Addr}, LL w g p l → LL w' g p l
  | [], _, hl => hl
  | r :: rs, _, ⟨b, q, hp, hg, hb, hr⟩ => ⟨b, q, hp, hg, h b r q hg hb, LL.keep h hr⟩
theorem LL.below {w w' : World} {g : Nat} {l : List R4} {p : Option Addr} (hl : LL w g p l) (hb : Below w.heap.size w w') : LL w' g p l :=
  hl.keep fun b r q _ hlt => (hb.block b (Array.getElem?_eq_some_iff.1 hlt).1).trans hlt
theorem LL.setCell {w : World} {g : Nat} {l : List R4} {p : Option Addr} (hl : LL w g p l) {a : Addr} (ha : a.block < g) (u : Value) : LL (w.setCell a u) g p l :=
  hl.keep fun b r q hg hlt => (heap_setCell_other w a b u (fun e => by subst e; omega)).trans hlt
theorem LL.mono {w : World} {g g' : Nat} (hg : g' ≤ g) : ∀ {l : List R4} {p : Option Addr}, LL w g p l → LL w g' p l
  | [], _, hl => hl
  | r :: rs, _, ⟨b, q, hp, hb, hc, hr⟩ => ⟨b, q, hp, Nat.le_trans hg hb, hc, LL.mono hg hr⟩

/-- A list's root, at block g: its nodes lie behind it. -/
def LR (w : World) (g : Nat) (l : List R4) : Prop := ∃ q, w.heap[g]? = some (nodeO zR q) ∧ LL w (g + 1) q l
theorem LR.below {w w' : World} {g : Nat} {l : List R4} (h : LR w g l) (hb : Below w.heap.size w w') : LR w' g l := by
  obtain ⟨q, h1, h2⟩ := h
  exact ⟨q, (hb.block g (Array.getElem?_eq_some_iff.1 h1).1).trans h1, h2.below hb⟩

/-- The program's list value. -/
def lstV (g : Nat) : Value := .agg #[.func (.func 77) #[] #[], .pointer (some ⟨g, 0, none⟩)]

theorem nodeCells {w : World} {b : Nat} {r : R4} {q : Option Addr} (h : w.heap[b]? = some (nodeO r q)) : Four w b 0 r ∧ w.cell? ⟨b, 4, none⟩ = some (.pointer q) ∧ ∀ j, w.frozen? ⟨b, j, none⟩ = false := by
  refine ⟨⟨?_, ?_, ?_, ?_⟩, ?_, fun j => ?_⟩ <;> simp [World.cell?, World.frozen?, h, nodeO]

set_option maxHeartbeats 1000000 in
theorem newList_any (w : World) :
    Calls Tryz.prog 76 #[.func (.func 77) #[] #[]] w fun e w' => e = .returned (lstV (w.heap.size + 1)) ∧ LR w' (w.heap.size + 1) [] ∧ Below w.heap.size w w' := by
  go_enter Tryz.func76, Tryz.ntmps76
  go_wp2
  refine bodyPost_ret (v := lstV (w.heap.size + 1)) (by simp [results, Tryz.results76, go_sem, lstV]) rfl ⟨rfl, ⟨none, ?_, rfl⟩, below_alloc2 _ _ _⟩
  have := newBlockM (w.alloc (.cells #[.func (.func 77) #[] #[], .pointer (some ⟨w.heap.size + 1, 0, none⟩)] 72)) (nodeO zR none)
  rw [World.size_alloc] at this
  exact this

theorem iCmp_at (a b : R4) (ha : okR a = true) (hb : okR b = true) (w : World) (hE : EtOk w) :
    Calls Tryz.prog 77 #[.agg #[.int .i64 a.p, .string a.s, .int .i64 a.o, .int .i64 a.t], .agg #[.int .i64 b.p, .string b.s, .int .i64 b.o, .int .i64 b.t]] w fun e w' => e = .returned (.int .i64 (cmR a b)) ∧ Below w.heap.size w w' := by
  have h := iRuleCmp_any a.p a.s a.hs a.o a.t b.p b.s b.hs b.o b.t w hE
  rw [cmpR, show rOk a.p a.s a.o a.t = true from ha, show rOk b.p b.s b.o b.t = true from hb] at h
  exact h
theorem iOk_at (r : R4) (w : World) (hE : EtOk w) :
    Calls Tryz.prog 79 #[.agg #[.int .i64 r.p, .string r.s, .int .i64 r.o, .int .i64 r.t]] w fun e w' => e = .returned (.bool (okR r)) ∧ Below w.heap.size w w' := iRuleOk_any r.p r.s r.hs r.o r.t w hE

theorem node_set {w : World} {b : Nat} {x : R4} {q : Option Addr} (h : w.heap[b]? = some (nodeO x q)) (u : Option Addr) : (w.setCell ⟨b, 4, none⟩ (.pointer u)).heap[b]? = some (nodeO x u) := by
  have := heap_setCell_same w b 4 _ _ (.pointer u) h
  simpa [nodeO] using this
/-- A node is laid behind another one. -/
theorem pushed {w w1 : World} {g : Nat} {x r : R4} {q : Option Addr} (hB : Below w.heap.size w w1) (hg : g < w.heap.size) (hq : w1.heap[g]? = some (nodeO x q)) :
    w.grownBy ((w1.setCell ⟨g, 4, none⟩ (.pointer (some ⟨w1.heap.size, 0, none⟩))).alloc (nodeO r q)).drew (some g) ∧ ((w1.setCell ⟨g, 4, none⟩ (.pointer (some ⟨w1.heap.size, 0, none⟩))).alloc (nodeO r q)).drew.heap[g]? = some (nodeO x (some ⟨w1.heap.size, 0, none⟩)) ∧
      ((w1.setCell ⟨g, 4, none⟩ (.pointer (some ⟨w1.heap.size, 0, none⟩))).alloc (nodeO r q)).drew.heap[w1.heap.size]? = some (nodeO r q) ∧ ∀ b y z, b ≠ g → w1.heap[b]? = some (nodeO y z) → ((w1.setCell ⟨g, 4, none⟩ (.pointer (some ⟨w1.heap.size, 0, none⟩))).alloc (nodeO r q)).drew.heap[b]? = some (nodeO y z) := by
  have hs := hB.size
  have hss : (w1.setCell ⟨g, 4, none⟩ (.pointer (some ⟨w1.heap.size, 0, none⟩))).heap.size = w1.heap.size := by simp [World.setCell]
  have hal : ∀ k, k < w1.heap.size → ((w1.setCell ⟨g, 4, none⟩ (.pointer (some ⟨w1.heap.size, 0, none⟩))).alloc (nodeO r q)).drew.heap[k]? = (w1.setCell ⟨g, 4, none⟩ (.pointer (some ⟨w1.heap.size, 0, none⟩))).heap[k]? := fun k hk => Below.heap_alloc _ _ _ (by rw [hss]; exact hk)
  refine ⟨⟨hB.os, hB.tape, hB.output, ?_, fun k hk hne => ?_⟩, ?_, ?_, fun b y z hb hy => ?_⟩
  · show _ ≤ ((w1.setCell ⟨g, 4, none⟩ (.pointer (some ⟨w1.heap.size, 0, none⟩))).alloc (nodeO r q)).heap.size
    rw [World.size_alloc, hss]
    omega
  · rw [hal k (by omega), heap_setCell_other w1 _ k _ (fun e => hne (by rw [e]))]
    exact hB.block k hk
  · rw [hal g (by omega)]
    exact node_set hq _
  · have := newBlockM (w1.setCell ⟨g, 4, none⟩ (.pointer (some ⟨w1.heap.size, 0, none⟩))) (nodeO r q)
    rw [hss] at this
    exact this
  · rw [hal b (Array.getElem?_eq_some_iff.1 hy).1, heap_setCell_other w1 _ b _ hb]
    exact hy
theorem pushed_root {w w1 : World} {g : Nat} {r : R4} {q : Option Addr} {l : List R4} (hB : Below w.heap.size w w1) (hg : g < w.heap.size) (hq : w1.heap[g]? = some (nodeO zR q)) (hl : LL w1 (g + 1) q l) :
    w.grownBy ((w1.setCell ⟨g, 4, none⟩ (.pointer (some ⟨w1.heap.size, 0, none⟩))).alloc (nodeO r q)).drew (some g) ∧ LR ((w1.setCell ⟨g, 4, none⟩ (.pointer (some ⟨w1.heap.size, 0, none⟩))).alloc (nodeO r q)).drew g (r :: l) := by
  obtain ⟨h1, h2, h3, h4⟩ := pushed (r := r) hB hg hq
  have hs := hB.size
  exact ⟨h1, _, h2, w1.heap.size, q, rfl, by omega, h3, hl.keep fun b y z hb hy => h4 b y z (by omega) hy⟩

/-- The world in which a method on a list with a rule begins. -/
def leadW (w : World) (g : Nat) (r : R4) : World := (w.alloc (.cells #[.func (.func 77) #[] #[], .pointer (some ⟨g, 0, none⟩)] 72)).alloc (.cells #[.int .i64 r.p, .string r.s, .int .i64 r.o, .int .i64 r.t] 99)
theorem leadW_bel (w : World) (g : Nat) (r : R4) : Below w.heap.size w (leadW w g r) := below_alloc2 _ _ _
theorem leadW_size (w : World) (g : Nat) (r : R4) : (leadW w g r).heap.size = w.heap.size + 2 := by simp [leadW]
theorem leadW_cells (w : World) (g : Nat) (r : R4) : (leadW w g r).cell? ⟨w.heap.size, 0, none⟩ = some (.func (.func 77) #[] #[]) ∧ (leadW w g r).cell? ⟨w.heap.size, 1, none⟩ = some (.pointer (some ⟨g, 0, none⟩)) ∧ Four (leadW w g r) (w.heap.size + 1) 0 r := by
  refine ⟨?_, ?_, ?_, ?_, ?_, ?_⟩ <;> simp [leadW, go_sem]

set_option maxRecDepth 100000 in
set_option maxHeartbeats 2000000 in
theorem lead_nil (w : World) (g : Nat) (r : R4) (hL : LR w g []) :
    Calls Tryz.prog 80 #[lstV g, .agg #[.int .i64 r.p, .string r.s, .int .i64 r.o, .int .i64 r.t]] w fun e w' => e = .returned (.bool true) ∧ w.grownBy w' (some g) ∧ LR w' g [r] := by
  have hgl : g < w.heap.size := (Array.getElem?_eq_some_iff.1 hL.choose_spec.1).1
  have HL : Hid (∀ W, Below w.heap.size w W → LR W g []) := fun W hb => hL.below hb
  clear hL
  have HB := Lib.hid (leadW_bel w g r)
  have hsz := leadW_size w g r
  obtain ⟨p0, p1, p2, p3, p4, p5⟩ := leadW_cells w g r
  obtain ⟨q, hq, hn⟩ := HL.out _ HB.out
  obtain rfl : q = none := hn
  obtain ⟨-, c4, hf⟩ := nodeCells hq
  have HQ := Lib.hid hq
  clear hq
  unfold lstV
  go_enter Tryz.func80, Tryz.ntmps80
  go_wp2
  rw [show (w.alloc (.cells #[.func (.func 77) #[] #[], .pointer (some ⟨g, 0, none⟩)] 72)).alloc (.cells #[.int .i64 r.p, .string r.s, .int .i64 r.o, .int .i64 r.t] 99) = leadW w g r from rfl]
  generalize leadW w g r = W0 at *
  have e4 := fun m : Ext W0 => m.cell (by omega) c4
  refine wp_region_ext (w0 := W0) (by kernel_rfl) (by kernel_rfl) (Below.refl _ _) ?_
  repeat (go_big_quiet_step (fail))
  refine wpQuiet_nil ?_
  intro w1 hx
  have b1 := ext_out hx
  clear hx
  have l1 := b1.size
  obtain ⟨r0, r1, r2, r3⟩ := (show Four W0 (w.heap.size + 1) 0 r from ⟨p2, p3, p4, p5⟩).below b1 (by omega)
  have hq1 := (b1.block g (by omega)).trans HQ.out
  obtain ⟨-, d4, hf1⟩ := nodeCells hq1
  have HQ1 := Lib.hid hq1
  have B1 := Lib.hid (belStep HB.out b1)
  have hg1 : g < w1.heap.size := by omega
  have hg2 : g ≠ w1.heap.size := by omega
  clear hq1 b1 p0 p1 p2 p3 p4 p5 e4 c4 hf HQ HB
  go_wp2
  go_region_with (fail)
  all_goals (go_wp2; go_ret; exact ⟨rfl, pushed_root B1.out hgl HQ1.out rfl⟩)

set_option maxRecDepth 100000 in
set_option maxHeartbeats 2000000 in
theorem lead_cons (w : World) (g : Nat) (r x : R4) (l : List R4) (hr : okR r = true) (hx : okR x = true) (hL : LR w g (x :: l)) (hE : EtOk w) :
    Calls Tryz.prog 80 #[lstV g, .agg #[.int .i64 r.p, .string r.s, .int .i64 r.o, .int .i64 r.t]] w fun e w' => e = .returned (.bool (decide (cmR r x < 0))) ∧ w.grownBy w' (some g) ∧ (cmR r x < 0 → LR w' g (r :: x :: l)) := by
  have hgl : g < w.heap.size := (Array.getElem?_eq_some_iff.1 hL.choose_spec.1).1
  have HL : Hid (∀ W, Below w.heap.size w W → LR W g (x :: l)) := fun W hb => hL.below hb
  clear hL
  have HB := Lib.hid (leadW_bel w g r)
  have HE0 := Lib.hid (hE.below (leadW_bel w g r))
  clear hE
  have hsz := leadW_size w g r
  obtain ⟨p0, p1, p2, p3, p4, p5⟩ := leadW_cells w g r
  obtain ⟨q, hq, b, q', rfl, hgb, hb, hll⟩ := HL.out _ HB.out
  have hbl : b < (leadW w g r).heap.size := (Array.getElem?_eq_some_iff.1 hb).1
  obtain ⟨-, c4, hf⟩ := nodeCells hq
  obtain ⟨⟨a0, a1, a2, a3⟩, -, -⟩ := nodeCells hb
  have HQ := Lib.hid hq
  have HLL : Hid (LL (leadW w g r) (g + 1) (some ⟨b, 0, none⟩) (x :: l)) := ⟨b, q', rfl, hgb, hb, hll⟩
  have HC := Lib.hid (iCmp_at r x hr hx)
  clear hq hb hll hr hx
  generalize cmR r x = c at *
  unfold lstV
  go_enter Tryz.func80, Tryz.ntmps80
  go_wp2
  rw [show (w.alloc (.cells #[.func (.func 77) #[] #[], .pointer (some ⟨g, 0, none⟩)] 72)).alloc (.cells #[.int .i64 r.p, .string r.s, .int .i64 r.o, .int .i64 r.t] 99) = leadW w g r from rfl]
  generalize leadW w g r = W0 at *
  have e4 := fun m : Ext W0 => m.cell (by omega) c4
  have f0 := fun m : Ext W0 => m.cell hbl a0
  have f1 := fun m : Ext W0 => m.cell hbl a1
  have f2 := fun m : Ext W0 => m.cell hbl a2
  have f3 := fun m : Ext W0 => m.cell hbl a3
  have g0 := fun m : Ext W0 => m.cell (by omega) p0
  have g1 := fun m : Ext W0 => m.cell (by omega) p1
  have g2 := fun m : Ext W0 => m.cell (by omega) p2
  have g3 := fun m : Ext W0 => m.cell (by omega) p3
  have g4 := fun m : Ext W0 => m.cell (by omega) p4
  have g5 := fun m : Ext W0 => m.cell (by omega) p5
  simp only [Nat.zero_add] at f0 f1 f2 f3 g2 g3 g4 g5
  clear a0 a1 a2 a3 p0 p1 c4
  by_cases hc : 0 ≤ c
  · refine wp_region_ext (w0 := W0) (by kernel_rfl) (by kernel_rfl) (Below.refl _ _) ?_
    repeat (go_big_quiet_step (first | (go_at_call 77; exact ext_of (HC.out _ (HE0.out.below (Ext.h _))))))
    refine wpQuiet_nil ?_
    intro w1 hx
    have b1 := ext_out hx
    clear hx
    go_wp2
    go_ret
    have B1 := belStep HB.out b1
    have hn : ¬ c < 0 := by omega
    exact ⟨by rw [decide_eq_false hn]; rfl, ⟨B1.os, B1.tape, B1.output, B1.size, fun k hk _ => B1.block k hk⟩, fun h => absurd h hn⟩
  · refine wp_region_ext (w0 := W0) (by kernel_rfl) (by kernel_rfl) (Below.refl _ _) ?_
    repeat (go_big_quiet_step (first | (go_at_call 77; exact ext_of (HC.out _ (HE0.out.below (Ext.h _))))))
    refine wpQuiet_nil ?_
    intro w1 hx
    have b1 := ext_out hx
    clear hx
    have l1 := b1.size
    obtain ⟨r0, r1, r2, r3⟩ := (show Four W0 (w.heap.size + 1) 0 r from ⟨p2, p3, p4, p5⟩).below b1 (by omega)
    have hq1 := (b1.block g (by omega)).trans HQ.out
    obtain ⟨-, d4, hf1⟩ := nodeCells hq1
    have HQ1 := Lib.hid hq1
    have B1 := Lib.hid (belStep HB.out b1)
    have HL1 := Lib.hid (HLL.out.below b1)
    have hg1 : g < w1.heap.size := by omega
    have hg2 : g ≠ w1.heap.size := by omega
    clear hq1 b1 p2 p3 p4 p5 e4 f0 f1 f2 f3 g0 g1 g2 g3 g4 g5 hf HQ HB HLL
    go_wp2
    go_region_with (fail)
    all_goals (go_wp2; go_ret; have hn : c < 0 := (by omega); exact ⟨by rw [decide_eq_true hn]; rfl, (pushed_root B1.out hgl HQ1.out HL1.out).1, fun _ => (pushed_root B1.out hgl HQ1.out HL1.out).2⟩)

/-- A rule is put ahead of all others, if that is its place. -/
theorem lead_any (w : World) (g : Nat) (r : R4) (l : List R4) (hr : okR r = true) (hc : chain l = true) (hL : LR w g l) (hE : EtOk w) :
    Calls Tryz.prog 80 #[lstV g, .agg #[.int .i64 r.p, .string r.s, .int .i64 r.o, .int .i64 r.t]] w fun e w' => e = .returned (.bool (leadsB r l)) ∧ w.grownBy w' (some g) ∧ (leadsB r l = true → LR w' g (r :: l)) := by
  cases l with
  | nil => exact (lead_nil w g r hL).mono fun e w' ⟨h1, h2, h3⟩ => ⟨h1, h2, fun _ => h3⟩
  | cons x l =>
    simp only [chain, Bool.and_eq_true] at hc
    exact (lead_cons w g r x l hr hc.1 hL hE).mono fun e w' ⟨h1, h2, h3⟩ => ⟨h1, h2, fun h => h3 (by simpa [leadsB] using h)⟩
theorem LR.keep {w w' : World} {g : Nat} {l : List R4} (h : ∀ b r q, g ≤ b → w.heap[b]? = some (nodeO r q) → w'.heap[b]? = some (nodeO r q)) (hl : LR w g l) : LR w' g l := by
  obtain ⟨q, h1, h2⟩ := hl
  exact ⟨q, h g _ _ (Nat.le_refl _) h1, h2.keep fun b r q hb => h b r q (by omega)⟩

end Go.Proofs.YtjjhahhchimmlaaGreatDoor

namespace Go.Proofs.YtjjhahhchimmlaaGreatDoor
open Go.ChangeShapes Go.WideShapes Go.ChangeAt Go.RowKit Go.Joins
open Go.Shelf
set_option linter.unusedVariables false
attribute [local go_sem] Oper.semAt_some

/-- What a round that goes on keeps: what lay below n, and one block. -/
def KpB (n b : Nat) (A B : World) : Prop := Below n A B ∧ B.heap[b]? = A.heap[b]?
theorem KpB.trans {n b : Nat} {A B C : World} (h : KpB n b A B) (k : KpB n b B C) : KpB n b A C := ⟨h.1.trans k.1, k.2.trans h.2⟩
theorem kpB_b {n b : Nat} {w : World} (h1 : n ≤ w.heap.size) (h2 : b < w.heap.size) (W : World) (l : Nat) (o o' : Obj) (hl : w.heap.size ≤ l) (ho : W.heap[l]? = some o) (hc : o.isCells = false) (hw : o.isWalk = false) : KpB n b W (W.putObj l o') :=
  ⟨belowK_b h1 W l o o' hl ho hc hw, World.putObj_heap_other (by omega)⟩
/-- A block of cells is nothing that the loop's own book-keeping turns. -/
theorem blk_own {β : Type} (B : Nat) (f : β → Obj) (hc : ∀ s, (f s).isCells = true) : Own (fun s W => W.heap[B]? = some (f s)) := fun s X Y row hs hg hrow => by
  refine (hg.block B (Array.getElem?_eq_some_iff.1 hs).1 ?_).trans hs
  intro e
  obtain ⟨o, ho, hn⟩ := hrow B e.symm
  rw [show X.heap[B]? = some (f s) from hs] at ho
  cases ho
  rw [hc s] at hn
  cases hn
theorem ll_own {X Y : World} {row : Option Nat} (hg : X.grownBy Y row) (hrow : ∀ r, row = some r → ∃ o : Obj, X.heap[r]? = some o ∧ o.isCells = false) {g : Nat} {l : List R4} {p : Option Addr} (h : LL X g p l) : LL Y g p l :=
  h.keep fun b r q _ hb => blk_own b (fun _ : Unit => nodeO r q) (fun _ => rfl) () X Y row hb hg hrow
theorem lr_own {β : Type} (g : Nat) (f : β → List R4) : Own (fun s W => LR W g (f s)) := fun s X Y row hs hg hrow => by
  obtain ⟨q, h1, h2⟩ := hs
  exact ⟨q, blk_own g (fun _ : Unit => nodeO zR q) (fun _ => rfl) () X Y row h1 hg hrow, ll_own hg hrow h2⟩

/-- What has come, from the last rule on: each rule's place, and the rule. -/
def comeB (l : List R4) (k : Nat) : List (Nat × R4) := (List.range k).map (fun j => (l.length - 1 - j, ruAt l (l.length - 1 - j)))
theorem comeB_succ (l : List R4) (k : Nat) : comeB l (k + 1) = comeB l k ++ [(l.length - 1 - k, ruAt l (l.length - 1 - k))] := by simp [comeB, List.range_succ]
theorem comeB_len (l : List R4) (k : Nat) : (comeB l k).length = k := by simp [comeB]
/-- The list that they make. -/
def tbl (pre : List (Nat × R4)) : List R4 := (pre.map Prod.snd).reverse
theorem tbl_snoc (pre : List (Nat × R4)) (x : Nat × R4) : tbl (pre ++ [x]) = x.2 :: tbl pre := by simp [tbl]
theorem tbl_come (l : List R4) : ∀ k, k ≤ l.length → tbl (comeB l k) = l.drop (l.length - k)
  | 0, _ => by simp [comeB, tbl]
  | k + 1, h => by
    rw [comeB_succ, tbl_snoc, tbl_come l k (by omega)]
    have hlt : l.length - (k + 1) < l.length := by omega
    rw [List.drop_eq_getElem_cons hlt, ← ruAt_lt hlt, show l.length - (k + 1) + 1 = l.length - k from by omega, show l.length - 1 - k = l.length - (k + 1) from by omega]
theorem tbl_all (l : List R4) : tbl (comeB l l.length) = l := by rw [tbl_come l _ (Nat.le_refl _)]; simp
theorem chain_part (l : List R4) {k : Nat} (hk : k ≤ l.length) (h : chain (tbl (comeB l k)) = false) : chain l = false := by
  cases hc : chain l with
  | false => rfl
  | true =>
    rw [tbl_come l k hk] at h
    have := chain_drop (l.take (l.length - k)) (l.drop (l.length - k)) (by rw [List.take_append_drop]; exact hc)
    rw [this] at h
    cases h

theorem backward_any (a : Option Addr) (len cap : Nat) (w : World) :
    Calls Tryz.prog 78 #[.slice a len cap] w fun e w' => e = .returned (.func (.func 91) #[] #[.pointer (some ⟨w.heap.size, 0, none⟩)]) ∧ w' = w.alloc (.cells #[.slice a len cap] 61) := by
  have hmf : ∀ (fn : Fn) (first cap : Array Value) (w : World), (Instr.makeFunc fn first cap).run Tryz.prog w = .ok (.func fn first cap) w := fun _ _ _ _ => rfl
  go_enter Tryz.func78, Tryz.ntmps78
  go_wp2
  go_ret
  exact ⟨rfl, rfl⟩

set_option maxRecDepth 100000 in
set_option maxHeartbeats 2000000 in
/-- The iterator's function, called: the rules come from the last one on, till a round says 'no more'. -/
theorem back1_in (F : Fence) (n : Nat) (hF : F.fn 91) (hro : F.round = none) (hn : 1 ≤ n) (lo Bs n₀ : Nat) (v : Value) (l : List R4) (hlen : l.length ≤ 1048576) (J Jx : List (Nat × R4) → World → Prop)
    (hY : ∀ pre x W, J pre W → pre.length < l.length → YieldAt F (n - 1) Tryz.prog lo #[.int .i64 (x.1 : Int), R4.v x.2] W fun e W' =>
      (e = .returned (.bool true) ∧ J (pre ++ [x]) W' ∧ KpB n₀ Bs W W') ∨ (e = .returned (.bool false) ∧ Jx (pre ++ [x]) W'))
    (W : World) (hBs : W.heap[Bs]? = some (.cells #[v] 61)) (hl : Rls W n₀ v l) (h0 : J [] W) :
    CallsIn F n Tryz.prog 91 #[.func (.yield lo) #[] #[], .pointer (some ⟨Bs, 0, none⟩)] W fun e W' => (∃ v, e = .returned v) ∧
      ((∃ ys, ys = comeB l l.length ∧ J ys W') ∨ (∃ pre, (∃ k, k ≤ l.length ∧ pre = comeB l k) ∧ Jx pre W')) := by
  obtain ⟨a, cap, rfl, hc, hm, hh⟩ := hl
  have hnz : l.length = 0 ∨ ∃ b off, a = some ⟨b, off, none⟩ ∧ b < n₀ ∧ Hid (∀ i, i < l.length → Four W b (off + i * 4) (ruAt l i)) := by
    rcases hh with h | ⟨b, off, h1, h2, h3⟩
    · exact .inl (by rw [h]; rfl)
    · exact .inr ⟨b, off, h1, h2, h3⟩
  clear hh
  unfold maxLen at hm
  have HCS := Lib.hid (comeB_succ l)
  have HCL := Lib.hid (comeB_len l)
  have HBS := Lib.hid hBs
  have hbx : W.cell? ⟨Bs, 0, none⟩ = some (.slice a l.length cap) := by simp [World.cell?, hBs]
  have h0' : Hid (J (comeB l 0) W) := h0
  clear h0 hBs
  generalize hN : l.length = m at *
  refine callsIn_of_wp Tryz.func91 rfl hF ?_ hro
  simp only [Tryz.ntmps91, List.size_toArray, List.length_cons, List.length_nil, Nat.reduceAdd, Nat.reduceSub, Array.replicate_succ, Array.replicate_zero, List.push_toArray, List.append_toArray, List.nil_append, List.cons_append]
  gi_wp2
  gi_loopw [3] (fun i wr => ∃ k : Nat, k ≤ m ∧ i = .int .i64 ((m : Int) - 1 - k) ∧ J (comeB l k) wr ∧ KpB n₀ Bs W wr) (fun i _ => (intOf i + 1).toNat)
  case atStart => exact ⟨0, Nat.zero_le _, by simp, h0'.out, Below.refl _ _, rfl⟩
  case round =>
    obtain ⟨k, hk, rfl, hJs, hnx⟩ := hrel
    have hbx' : wr.cell? ⟨Bs, 0, none⟩ = some (.slice a m cap) := by simp [World.cell?, hnx.2, HBS.out]
    by_cases hlt : k < m
    · rcases hnz with h0 | ⟨b, off, rfl, hb, HC⟩
      · omega
      obtain ⟨j, hj⟩ : ∃ j, j = m - 1 - k := ⟨_, rfl⟩
      have hjm : j < m := by omega
      have hij : (m : Int) - 1 - k = (j : Int) := by omega
      obtain ⟨c0, c1, c2, c3⟩ := (HC.out j hjm).below hnx.1 hb
      have HS := Lib.hid (HCS.out k)
      rw [← hj] at HS
      obtain ⟨fn, tmps, assign, body, hy, hR⟩ := hY _ (j, ruAt l j) wr hJs (by rw [HCL.out]; exact hlt)
      dsimp only [R4.v] at hy
      rw [hij]
      have HR := Lib.hid hR
      have HIJ := Lib.hid hij
      clear hR hY hij hj
      generalize ruAt l j = x at *
      gi_wp2
      refine HR.out.mono ?_
      rintro e W3 (⟨rfl, hJ3, hk3⟩ | ⟨rfl, hJx3⟩)
      · gi_wp2
        go_roundw
        case rel => exact ⟨k + 1, by omega, by have := HIJ.out; simp; omega, by rw [HS.out]; exact hJ3, hnx.trans hk3⟩
        case measure => simp [intOf]
      · gi_wp2
        refine bodyPost_ret (results_none rfl _ _ _) rfl ?_
        exact ⟨⟨_, rfl⟩, .inr ⟨_, ⟨k + 1, by omega, HS.out.symm⟩, hJx3⟩⟩
    · obtain rfl : k = m := by omega
      have hneg : (k : Int) - 1 - k = -1 := by omega
      rw [hneg]
      gi_wp2
      go_end0
      exact ⟨⟨_, rfl⟩, .inl ⟨_, rfl, hJs⟩⟩

theorem back_stops (F : Fence) (n : Nat) (hF : F.fn 91) (hro : F.round = none) (hn : 1 ≤ n) (Bs n₀ : Nat) (v : Value) (l : List R4) (hlen : l.length ≤ 1048576) (w : World) (hBs : w.heap[Bs]? = some (.cells #[v] 61)) (hn₀ : n₀ ≤ w.heap.size) (hl : Rls w n₀ v l) :
    SeqStopsK F n Tryz.prog 91 #[.pointer (some ⟨Bs, 0, none⟩)] (fun x : Nat × R4 => #[Value.int .i64 (x.1 : Int), R4.v x.2]) (KpB n₀ Bs) (fun ys => ys = comeB l l.length) (fun pre => ∃ k, k ≤ l.length ∧ pre = comeB l k) l.length w := fun lo J Jx W hW _ _ hY h0 =>
  back1_in F n hF hro hn lo Bs n₀ v l hlen J Jx hY W ((hW.block Bs (Array.getElem?_eq_some_iff.1 hBs).1).trans hBs) (hl.below hW hn₀) h0

theorem cells1 {w : World} {b : Nat} {x : Value} {t : TypeId} (h : w.heap[b]? = some (.cells #[x] t)) : w.cell? ⟨b, 0, none⟩ = some x ∧ ∀ j, w.frozen? ⟨b, j, none⟩ = false := by
  refine ⟨?_, fun j => ?_⟩ <;> simp [World.cell?, World.frozen?, h]
theorem cells2 {w : World} {b : Nat} {x y : Value} {t : TypeId} (h : w.heap[b]? = some (.cells #[x, y] t)) : w.cell? ⟨b, 0, none⟩ = some x ∧ w.cell? ⟨b, 1, none⟩ = some y ∧ ∀ j, w.frozen? ⟨b, j, none⟩ = false := by
  refine ⟨?_, ?_, fun j => ?_⟩ <;> simp [World.cell?, World.frozen?, h]
theorem twoBlocks {w w1 : World} {A B : Obj} (b1 : Below ((w.alloc A).alloc B).heap.size ((w.alloc A).alloc B) w1) : w1.heap[w.heap.size]? = some A ∧ w1.heap[w.heap.size + 1]? = some B ∧ Below w.heap.size w w1 ∧ w.heap.size + 1 + 1 ≤ w1.heap.size := by
  have hs := b1.size
  simp only [World.size_alloc] at hs b1
  refine ⟨(b1.block _ (by omega)).trans ?_, (b1.block _ (by omega)).trans ?_, (below_alloc2 w A B).trans (b1.mono (by omega)), hs⟩
  · exact (Below.heap_alloc _ _ _ (by simp)).trans (newBlockM w A)
  · have := newBlockM (w.alloc A) B
    rw [World.size_alloc] at this
    exact this
theorem moreBlocks (w : World) (A B : Obj) : Below w.heap.size w ((w.alloc A).alloc B) ∧ ((w.alloc A).alloc B).heap[w.heap.size]? = some A ∧ ((w.alloc A).alloc B).heap[w.heap.size + 1]? = some B ∧ ((w.alloc A).alloc B).heap.size = w.heap.size + 2 := by
  obtain ⟨h1, h2, h3, -⟩ := twoBlocks (Below.refl ((w.alloc A).alloc B).heap.size ((w.alloc A).alloc B))
  exact ⟨h3, h1, h2, by simp⟩
/-- The program's list, as the two cells of a variable. -/
def lstO (g : Nat) : Obj := .cells #[.func (.func 77) #[] #[], .pointer (some ⟨g, 0, none⟩)] 72

set_option maxRecDepth 100000 in
set_option maxHeartbeats 2000000 in
theorem readTable_big (w : World) (a : Option Addr) (n cap : Nat) (hbig : 48 < n) (hm : n ≤ 1048576) :
    Calls Tryz.prog 68 #[.slice a n cap] w fun e w' => ∃ g, e = .returned (.tuple #[lstV g, .bool false]) ∧ w.heap.size ≤ g ∧ Below w.heap.size w w' := by
  have hz : (48 : Int) < (n : Int) := by omega
  refine (callsIn_wide (n := 5)).1 ?_
  refine callsIn_of_wp_marks Tryz.func68 rfl trivial ?_ rfl
  simp only [Tryz.ntmps68, List.size_toArray, List.length_cons, List.length_nil, Nat.reduceAdd, Nat.reduceSub, Array.replicate_succ, Array.replicate_zero, List.push_toArray, List.append_toArray, List.nil_append, List.cons_append]
  gi_wp2_with (first | (refine ⟨trivial, ?_⟩; gi_at_call 76; refine (callsIn_wide.2 (newList_any _)).mono ?_; rintro ex w1 ⟨rfl, -, b1⟩; obtain ⟨k0, k1, b2, s2⟩ := twoBlocks b1; have HB := Lib.hid b2; obtain ⟨c0, c1, cf⟩ := cells2 k0; obtain ⟨d0, df⟩ := cells1 k1; clear b1 b2 k0 k1; unfold lstV; have g1 : w.heap.size < w1.heap.size := (by omega); have g2 : w.heap.size + 1 < w1.heap.size := (by omega); have g3 : w.heap.size ≠ w1.heap.size := (by omega); have g4 : w.heap.size + 1 ≠ w1.heap.size := (by omega)))
  refine ⟨.tuple #[lstV (w.heap.size + 1 + 1 + 1), .bool false], ?_, _, rfl, by omega, ?_⟩
  · simp [results, Tryz.results68, go_sem, c0, c1, d0, g1, g2, lstV]
  · exact (((HB.out.setCell (by exact Nat.le_refl _) _).setCell (by exact Nat.le_refl _) _).setCell (by exact Nat.le_succ _) _).alloc (by simp [World.setCell]; omega) _

/-- Two variables are written. -/
theorem stored3 {w : World} {B0 B1 : Nat} {x y z : Value} (v u z' : Value) {t s : TypeId} (h0 : w.heap[B0]? = some (.cells #[x, y] t)) (h1 : w.heap[B1]? = some (.cells #[z] s)) (hne : B0 ≠ B1) :
    (((w.setCell ⟨B0, 0, none⟩ v).setCell ⟨B0, 1, none⟩ u).setCell ⟨B1, 0, none⟩ z').heap[B0]? = some (.cells #[v, u] t) ∧ (((w.setCell ⟨B0, 0, none⟩ v).setCell ⟨B0, 1, none⟩ u).setCell ⟨B1, 0, none⟩ z').heap[B1]? = some (.cells #[z'] s) ∧
      (∀ k, k ≠ B0 → k ≠ B1 → (((w.setCell ⟨B0, 0, none⟩ v).setCell ⟨B0, 1, none⟩ u).setCell ⟨B1, 0, none⟩ z').heap[k]? = w.heap[k]?) ∧ (((w.setCell ⟨B0, 0, none⟩ v).setCell ⟨B0, 1, none⟩ u).setCell ⟨B1, 0, none⟩ z').heap.size = w.heap.size := by
  have a1 := heap_setCell_same w B0 0 _ _ v h0
  have a2 := heap_setCell_same (w.setCell ⟨B0, 0, none⟩ v) B0 1 _ _ u a1
  have a3 : ((w.setCell ⟨B0, 0, none⟩ v).setCell ⟨B0, 1, none⟩ u).heap[B1]? = some (.cells #[z] s) := by
    rw [heap_setCell_other _ _ B1 _ (fun e => hne e.symm), heap_setCell_other _ _ B1 _ (fun e => hne e.symm)]
    exact h1
  have a4 := heap_setCell_same ((w.setCell ⟨B0, 0, none⟩ v).setCell ⟨B0, 1, none⟩ u) B1 0 _ _ z' a3
  refine ⟨?_, by simpa using a4, fun k h h' => ?_, by simp [World.setCell]⟩
  · rw [heap_setCell_other _ _ B0 _ hne]
    simpa using a2
  · rw [heap_setCell_other _ _ k _ h', heap_setCell_other _ _ k _ h, heap_setCell_other _ _ k _ h]
theorem keepsOf {B : Nat} {W W' : World} (hs : W.heap.size ≤ W'.heap.size) (h : ∀ k, B ≤ k → k < W.heap.size → W'.heap[k]? = W.heap[k]?) : KeepsFrom B W W' :=
  ⟨hs, fun k o hB hk _ => (h k hB (Array.getElem?_eq_some_iff.1 hk).1).trans hk⟩
theorem cells4 {w : World} {b : Nat} {r : R4} {t : TypeId} (h : w.heap[b]? = some (.cells #[.int .i64 r.p, .string r.s, .int .i64 r.o, .int .i64 r.t] t)) : Four w b 0 r := by
  refine ⟨?_, ?_, ?_, ?_⟩ <;> simp [World.cell?, h]

end Go.Proofs.YtjjhahhchimmlaaGreatDoor

namespace Go.Proofs.YtjjhahhchimmlaaGreatDoor
open Go.ChangeShapes Go.WideShapes Go.ChangeAt Go.RowKit Go.Joins
open Go.Shelf
set_option linter.unusedVariables false
attribute [local go_sem] Oper.semAt_some

set_option maxRecDepth 100000 in
set_option maxHeartbeats 2000000 in
theorem readTable_some (w : World) (v : Value) (l : List R4) (h : Rls w w.heap.size v l) (hlen : l.length ≤ 48) (hE : EtOk w) :
    Calls Tryz.prog 68 #[v] w fun e w' => ∃ g, e = .returned (.tuple #[lstV g, .bool (chain l)]) ∧ w.heap.size ≤ g ∧ (chain l = true → LR w' g l) ∧ Below w.heap.size w w' := by
  have HL := Lib.hid h
  have HE := Lib.hid hE
  clear hE
  obtain ⟨a, cap, rfl, hc, hm, hh⟩ := h
  clear hh
  unfold maxLen at hm
  have hz : ¬ (48 : Int) < (l.length : Int) := by omega
  refine (callsIn_wide (n := 5)).1 ?_
  refine callsIn_of_wp_marks Tryz.func68 rfl trivial ?_ rfl
  simp only [Tryz.ntmps68, List.size_toArray, List.length_cons, List.length_nil, Nat.reduceAdd, Nat.reduceSub, Array.replicate_succ, Array.replicate_zero, List.push_toArray, List.append_toArray, List.nil_append, List.cons_append]
  gi_wp2_with (first | (refine ⟨trivial, ?_⟩; gi_at_call 76; refine (callsIn_wide.2 (newList_any _)).mono ?_; rintro ex w1 ⟨rfl, hr1, b1⟩; obtain ⟨k0, k1, b2, s2⟩ := twoBlocks b1; have HR := Lib.hid hr1; have HB := Lib.hid b2; have HK0 := Lib.hid k0; have HK1 := Lib.hid k1; clear b1 b2 k0 k1 hr1; unfold lstV) | (refine ⟨trivial, ?_⟩; gi_at_call 78; refine (callsIn_wide.2 (backward_any _ _ _ _)).mono ?_; rintro ex w2 ⟨rfl, rfl⟩))
  obtain ⟨m1, m2, m3, m4⟩ := moreBlocks w1 (lstO (w.heap.size + 1 + 1 + 1)) (.cells #[.slice a l.length cap] 61)
  rw [show (w1.alloc (.cells #[.func (.func 77) #[] #[], .pointer (some ⟨w.heap.size + 1 + 1 + 1, 0, none⟩)] 72)) = w1.alloc (lstO (w.heap.size + 1 + 1 + 1)) from rfl]
  have HR' : Hid (LR w1 (w.heap.size + 1 + 1 + 1) []) := by
    have := HR.out
    simp only [World.size_alloc] at this
    exact this
  clear HR
  generalize hW2 : (w1.alloc (lstO (w.heap.size + 1 + 1 + 1))).alloc (.cells #[.slice a l.length cap] 61) = W2 at *
  have HB2 : Hid (Below w.heap.size w W2) := HB.out.trans (m1.mono HB.out.size)
  have HR2 := Lib.hid (HR'.out.below m1)
  have k0 := (m1.block _ (by omega)).trans HK0.out
  have k1 := (m1.block _ (by omega)).trans HK1.out
  have HL2 := Lib.hid (HL.out.below HB2.out (Nat.le_refl _))
  have hgw : w.heap.size + 1 + 1 + 1 < w1.heap.size := (Array.getElem?_eq_some_iff.1 HR'.out.choose_spec.1).1
  clear hW2 HK0 HK1 HB HR' m1 HL
  refine wpIn_rangeFunc_ownH (n := 5) rfl (by omega) (gf := 91) (lb := #[.pointer (some ⟨w1.heap.size + 1, 0, none⟩)]) rfl trivial (enters_of Tryz.func91 (by kernel_rfl) rfl)
    (back_stops Fence.wide 4 trivial rfl (by omega) (w1.heap.size + 1) w.heap.size _ l (by omega) W2 m3 (by omega) HL2.out) KpB.trans (fun W l o o' => kpB_b (w := W2) (by omega) (by omega) W l o o') (Below.refl _ _) (fun _ => rfl)
    (fun pre W => W.heap[w.heap.size]? = some (.cells #[.nilFunc, .pointer none] 72) ∧ W.heap[w.heap.size + 1]? = some (.cells #[.bool false] 4) ∧ W.heap[w1.heap.size]? = some (lstO (w.heap.size + 1 + 1 + 1)) ∧ W.heap[w1.heap.size + 1]? = some (.cells #[.slice a l.length cap] 61) ∧ LR W (w.heap.size + 1 + 1 + 1) (tbl pre) ∧ chain (tbl pre) = true ∧ Below w.heap.size w W)
    (fun c pre W => c = .ret ∧ chain (tbl pre) = false ∧ W.heap[w.heap.size]? = some (lstO (w.heap.size + 1 + 1 + 1)) ∧ W.heap[w.heap.size + 1]? = some (.cells #[.bool false] 4) ∧ Below w.heap.size w W)
    (OwnFrom.and (Own.from (blk_own _ _ (fun _ => rfl)) _) (OwnFrom.and (Own.from (blk_own _ _ (fun _ => rfl)) _) (OwnFrom.and (Own.from (blk_own _ _ (fun _ => rfl)) _) (OwnFrom.and (Own.from (blk_own _ _ (fun _ => rfl)) _) (OwnFrom.and (Own.from (lr_own _ _) _) (OwnFrom.and (ownFrom_pure _ _) (ownFrom_below (Nat.le_refl _) (by omega))))))))
    (fun c => OwnFrom.and (ownFrom_pure _ _) (OwnFrom.and (ownFrom_pure _ _) (OwnFrom.and (Own.from (blk_own _ _ (fun _ => rfl)) _) (OwnFrom.and (Own.from (blk_own _ _ (fun _ => rfl)) _) (ownFrom_below (Nat.le_refl _) (by omega))))))
    ⟨k0, k1, m2, m3, HR2.out, rfl, HB2.out⟩
    (fun x a' W => ∃ Bx, W2.heap.size ≤ Bx ∧ W.heap[Bx]? = some (.cells #[.int .i64 x.2.p, .string x.2.s, .int .i64 x.2.o, .int .i64 x.2.t] 99) ∧ a' = { tmps := #[.slice a l.length cap, undef, .pointer (some ⟨w.heap.size, 0, none⟩), .pointer (some ⟨w.heap.size + 1, 0, none⟩), .pointer (some ⟨w1.heap.size, 0, none⟩), undef, .pointer (some ⟨Bx, 0, none⟩), lstV (w.heap.size + 1 + 1 + 1), .slice a l.length cap, .int .i64 l.length, .bool (decide ((48 : Int) < l.length)), undef, .slice a l.length cap, .func (.func 91) #[] #[.pointer (some ⟨w1.heap.size + 1, 0, none⟩)], .int .i64 x.1, R4.v x.2, undef, undef, undef, undef, undef, undef, undef, undef, undef, undef, undef], defers := [] })
    ?hAx ?assign ?body ?done ?stop
  case hAx =>
    intro x a' u A B row hs hg hr
    obtain ⟨Bx, h1, h2, h3⟩ := hs
    exact ⟨Bx, h1, blk_own Bx (fun _ : Unit => .cells #[.int .i64 x.2.p, .string x.2.s, .int .i64 x.2.o, .int .i64 x.2.t] 99) (fun _ => rfl) () A B row h2 hg (fun r e => (hr r e).2), h3⟩
  case assign =>
    rintro lp pre x W K ⟨i0, i1, it, is, hlr, hch, hB⟩ hK
    have hsz := (Array.getElem?_eq_some_iff.1 is).1
    have hA := below_alloc1 W (.cells #[.int .i64 x.2.p, .string x.2.s, .int .i64 x.2.o, .int .i64 x.2.t] 99)
    have HK := hK _ (W.alloc (.cells #[.int .i64 x.2.p, .string x.2.s, .int .i64 x.2.o, .int .i64 x.2.t] 99)) ((KeepsOthers.alloc _ _).from _) ⟨hA.mono hB.size, hA.block _ hsz⟩ ⟨(hA.block _ (by omega)).trans i0, (hA.block _ (by omega)).trans i1, (hA.block _ (by omega)).trans it, (hA.block _ hsz).trans is, hlr.below hA, hch, hB.trans (hA.mono hB.size)⟩ ⟨W.heap.size, by omega, newBlockM W _, rfl⟩
    clear hK
    unfold R4.v lstV at *
    gi_wp2
    exact HK
  case body =>
    rintro lp pre x a' W hl ⟨rr, hrr⟩ ⟨i0, i1, it, is, hlr, hch, hB⟩ ⟨Bx, hBx, bX, rfl⟩ hlt
    have hsz := (Array.getElem?_eq_some_iff.1 is).1
    have hbx := (Array.getElem?_eq_some_iff.1 bX).1
    obtain ⟨x0, x1, x2, x3⟩ := cells4 bX
    have HI : Hid (∀ W', Below W.heap.size W W' → W'.heap[w.heap.size]? = some (.cells #[.nilFunc, .pointer none] 72) ∧ W'.heap[w.heap.size + 1]? = some (.cells #[.bool false] 4) ∧ W'.heap[w1.heap.size]? = some (lstO (w.heap.size + 1 + 1 + 1)) ∧ W'.heap[w1.heap.size + 1]? = some (.cells #[.slice a l.length cap] 61) ∧ LR W' (w.heap.size + 1 + 1 + 1) (tbl pre) ∧ Four W' Bx 0 x.2 ∧ Below w.heap.size w W') := fun W' hb =>
      ⟨(hb.block _ (by omega)).trans i0, (hb.block _ (by omega)).trans i1, (hb.block _ (by omega)).trans it, (hb.block _ hsz).trans is, hlr.below hb, (cells4 bX).below hb hbx, hB.trans (hb.mono hB.size)⟩
    have HOK := Lib.hid (iOk_at x.2)
    have HLD : Hid (okR x.2 = true → ∀ W', LR W' (w.heap.size + 1 + 1 + 1) (tbl pre) → EtOk W' → Calls Tryz.prog 80 #[lstV (w.heap.size + 1 + 1 + 1), .agg #[.int .i64 x.2.p, .string x.2.s, .int .i64 x.2.o, .int .i64 x.2.t]] W' fun e w' => e = .returned (.bool (leadsB x.2 (tbl pre))) ∧ W'.grownBy w' (some (w.heap.size + 1 + 1 + 1)) ∧ (leadsB x.2 (tbl pre) = true → LR w' (w.heap.size + 1 + 1 + 1) (x.2 :: tbl pre))) := fun h W' h1 h2 => lead_any W' _ _ _ h hch h1 h2
    have HTS := Lib.hid (tbl_snoc pre x)
    have HCH := Lib.hid hch
    have HB := Lib.hid hB
    clear i0 i1 it is hlr hch hB bX hrr
    obtain ⟨j, r⟩ := x
    dsimp only at *
    cases hok : okR r
    · rw [hok] at HOK
      have HCF : Hid (chain (r :: tbl pre) = false) := by show chain _ = false; simp [chain, hok]
      unfold R4.v lstV
      gi_wp2_with (first | (refine ⟨trivial, ?_⟩; gi_at_call 79; refine (CallsIn.inRound lp (callsIn_wide.2 (HOK.out _ (HE.out.below HB.out)))).mono ?_; rintro ex w2 ⟨rfl, b2⟩; obtain ⟨i0, i1, it, is, hlr, -, hB⟩ := HI.out _ b2; obtain ⟨c0, c1, cf⟩ := cells2 i0; obtain ⟨d0, df⟩ := cells1 i1; obtain ⟨t0, t1, tf⟩ := cells2 (show w2.heap[w1.heap.size]? = some (.cells #[.func (.func 77) #[] #[], .pointer (some ⟨w.heap.size + 1 + 1 + 1, 0, none⟩)] 72) from it); have H0 := Lib.hid i0; have H1 := Lib.hid i1; have HB2 := Lib.hid hB; have B2 := Lib.hid b2; clear i0 i1 it is hlr hB b2))
      refine ⟨trivial, ?_⟩
      gi_wp2
      have l2 := B2.out.size
      obtain ⟨q0, q1, q2, q3⟩ := stored3 (.func (.func 77) #[] #[]) (.pointer (some ⟨w.heap.size + 1 + 1 + 1, 0, none⟩)) (.bool false) H0.out H1.out (by omega)
      refine ⟨keepsOf (by rw [q3]; exact l2) (fun k hk1 hk2 => (q2 k (by omega) (by omega)).trans (B2.out.block k hk2)), rfl, by rw [HTS.out]; exact HCF.out, q0, q1, ?_⟩
      exact ((HB2.out.setCell (by exact Nat.le_refl _) _).setCell (by exact Nat.le_refl _) _).setCell (by exact Nat.le_succ _) _
    · rw [hok] at HOK
      have HLD2 := Lib.hid (HLD.out hok)
      have HCF : Hid (leadsB r (tbl pre) = false → chain (r :: tbl pre) = false) := fun h => by show chain _ = false; simp [chain, h]
      have HCT : Hid (leadsB r (tbl pre) = true → chain (r :: tbl pre) = true) := fun h => by show chain _ = true; simp [chain, h, hok, HCH.out]
      clear HLD HCH
      unfold lstV at HLD2
      unfold R4.v lstV
      gi_wp2_with (first | (refine ⟨trivial, ?_⟩; gi_at_call 79; refine (CallsIn.inRound lp (callsIn_wide.2 (HOK.out _ (HE.out.below HB.out)))).mono ?_; rintro ex w2 ⟨rfl, b2⟩; obtain ⟨-, -, it, -, -, ⟨y0, y1, y2, y3⟩, -⟩ := HI.out _ b2; obtain ⟨t0, t1, tf⟩ := cells2 (show w2.heap[w1.heap.size]? = some (.cells #[.func (.func 77) #[] #[], .pointer (some ⟨w.heap.size + 1 + 1 + 1, 0, none⟩)] 72) from it); have B2 := Lib.hid b2; clear it b2))
      obtain ⟨j0, j1, jt, js, jl, -, jb⟩ := HI.out _ B2.out
      have l2 := B2.out.size
      have l3 := (Array.getElem?_eq_some_iff.1 js).1
      refine ⟨trivial, ?_⟩
      refine (CallsIn.inRound lp (callsIn_wide.2 (HLD2.out _ jl (HE.out.below jb)))).mono ?_
      rintro ex w3 ⟨rfl, hg3, h3⟩
      have HG := Lib.hid hg3
      have l4 := hg3.size
      have i0 := (hg3.block _ (by omega) (fun e => by have := Option.some.inj e; omega)).trans j0
      have i1 := (hg3.block _ (by omega) (fun e => by have := Option.some.inj e; omega)).trans j1
      have it := (hg3.block _ (by omega) (fun e => by have := Option.some.inj e; omega)).trans jt
      have is := (hg3.block _ (by omega) (fun e => by have := Option.some.inj e; omega)).trans js
      obtain ⟨c0, c1, cf⟩ := cells2 i0
      obtain ⟨d0, df⟩ := cells1 i1
      obtain ⟨e0, e1, ef⟩ := cells2 (show w3.heap[w1.heap.size]? = some (.cells #[.func (.func 77) #[] #[], .pointer (some ⟨w.heap.size + 1 + 1 + 1, 0, none⟩)] 72) from it)
      have H0 := Lib.hid i0
      have H1 := Lib.hid i1
      have HT := Lib.hid it
      have HS := Lib.hid is
      have H3 := Lib.hid h3
      have HB3 : Hid (Below w.heap.size w w3) := jb.grown hg3 jb.size (fun k e => by cases e; omega)
      have HW3 : Hid (Below w.heap.size W w3) := (B2.out.mono (by omega)).grown hg3 (by omega) (fun k e => by cases e; omega)
      clear hg3 h3 i0 i1 it is j0 j1 jt js jl jb t0 t1 tf y0 y1 y2 y3
      cases hld : leadsB r (tbl pre)
      · gi_wp2
        obtain ⟨q0, q1, q2, q3⟩ := stored3 (.func (.func 77) #[] #[]) (.pointer (some ⟨w.heap.size + 1 + 1 + 1, 0, none⟩)) (.bool false) H0.out H1.out (by omega)
        refine ⟨keepsOf (by rw [q3]; omega) (fun k hk1 hk2 => (q2 k (by omega) (by omega)).trans ((HG.out.block k (by omega) (fun e => by have := Option.some.inj e; omega)).trans (B2.out.block k hk2))), rfl, by rw [HTS.out]; exact HCF.out hld, q0, q1, ?_⟩
        exact ((HB3.out.setCell (by exact Nat.le_refl _) _).setCell (by exact Nat.le_refl _) _).setCell (by exact Nat.le_succ _) _
      · gi_wp2
        exact ⟨keepsOf (by omega) (fun k hk1 hk2 => (HG.out.block k (by omega) (fun e => by have := Option.some.inj e; omega)).trans (B2.out.block k hk2)), ⟨HW3.out, (HG.out.block _ (by omega) (fun e => by have := Option.some.inj e; omega)).trans (B2.out.block _ hsz)⟩, H0.out, H1.out, HT.out, HS.out, by rw [HTS.out]; exact H3.out hld, by rw [HTS.out]; exact HCT.out hld, HB3.out⟩
  case done =>
    rintro D ys W hD rfl ⟨i0, i1, it, is, hlr, hch, hB⟩ hK
    obtain ⟨c0, c1, cf⟩ := cells2 i0
    obtain ⟨d0, df⟩ := cells1 i1
    obtain ⟨e0, e1, ef⟩ := cells2 (show W.heap[w1.heap.size]? = some (.cells #[.func (.func 77) #[] #[], .pointer (some ⟨w.heap.size + 1 + 1 + 1, 0, none⟩)] 72) from it)
    have H0 := Lib.hid i0
    have H1 := Lib.hid i1
    have HK := Lib.hid hK
    have HLR := Lib.hid hlr
    have HCH := Lib.hid hch
    have HB := Lib.hid hB
    clear i0 i1 it is hK hlr hch hB
    unfold lstV at *
    gi_wp2
    obtain ⟨q0, q1, q2, q3⟩ := stored3 (.func (.func 77) #[] #[]) (.pointer (some ⟨w.heap.size + 1 + 1 + 1, 0, none⟩)) (.bool true) H0.out H1.out (by omega)
    have BW := ((HB.out.setCell (p := ⟨w.heap.size, 0, none⟩) (by exact Nat.le_refl _) (.func (.func 77) #[] #[])).setCell (p := ⟨w.heap.size, 1, none⟩) (by exact Nat.le_refl _) (.pointer (some ⟨w.heap.size + 1 + 1 + 1, 0, none⟩))).setCell (p := ⟨w.heap.size + 1, 0, none⟩) (by exact Nat.le_succ _) (.bool true)
    have hKW := (q2 D (by omega) (by omega)).trans HK.out
    have HLW : LR (((W.setCell ⟨w.heap.size, 0, none⟩ (.func (.func 77) #[] #[])).setCell ⟨w.heap.size, 1, none⟩ (.pointer (some ⟨w.heap.size + 1 + 1 + 1, 0, none⟩))).setCell ⟨w.heap.size + 1, 0, none⟩ (.bool true)) (w.heap.size + 1 + 1 + 1) l := by
      have := HLR.out
      rw [tbl_all] at this
      exact this.keep fun b r q hb hy => (q2 b (by omega) (by omega)).trans hy
    rw [tbl_all] at HCH
    generalize (((W.setCell ⟨w.heap.size, 0, none⟩ (.func (.func 77) #[] #[])).setCell ⟨w.heap.size, 1, none⟩ (.pointer (some ⟨w.heap.size + 1 + 1 + 1, 0, none⟩))).setCell ⟨w.heap.size + 1, 0, none⟩ (.bool true)) = W3 at *
    refine ⟨by simp, .inl ⟨_, _, rfl, run_takeDeferred hKW, ?_⟩⟩
    obtain ⟨f0, f1, -⟩ := cells2 ((World.putObj_heap_other (w := W3) (o := .deferred none) (show w.heap.size ≠ D by omega)).trans q0)
    obtain ⟨f2, -⟩ := cells1 ((World.putObj_heap_other (w := W3) (o := .deferred none) (show w.heap.size + 1 ≠ D by omega)).trans q1)
    refine ⟨.tuple #[lstV (w.heap.size + 1 + 1 + 1), .bool true], ?_, _, by rw [HCH.out], by omega, fun _ => ?_, ?_⟩
    · simp [results, Tryz.results68, go_sem, f0, f1, f2, lstV]
    · refine HLW.keep fun b r q hb hy => ?_
      refine (World.putObj_heap_other (fun e => ?_)).trans hy
      subst e
      rw [hKW] at hy
      cases hy
    · exact BW.trans (belowK_b (w := w) (Nat.le_refl _) W3 D _ _ (by omega) hKW rfl rfl)
  case stop =>
    rintro D c pre W hD ⟨k, hk, rfl⟩ ⟨rfl, hch, i0, i1, hB⟩ hK
    have hcl := chain_part l hk hch
    gi_wp2
    refine ⟨by simp, .inl ⟨_, _, rfl, run_takeDeferred hK, ?_⟩⟩
    obtain ⟨f0, f1, -⟩ := cells2 ((World.putObj_heap_other (w := W) (o := .deferred none) (show w.heap.size ≠ D by omega)).trans i0)
    obtain ⟨f2, -⟩ := cells1 ((World.putObj_heap_other (w := W) (o := .deferred none) (show w.heap.size + 1 ≠ D by omega)).trans i1)
    refine ⟨.tuple #[lstV (w.heap.size + 1 + 1 + 1), .bool false], ?_, _, by rw [hcl], by omega, fun h => absurd h (by rw [hcl]; decide), ?_⟩
    · simp [results, Tryz.results68, go_sem, f0, f1, f2, lstV]
    · exact hB.trans (belowK_b (w := w) (Nat.le_refl _) W D _ _ (by omega) hK rfl rfl)

theorem readTable_any (w : World) (v : Value) (l : List R4) (h : Rls w w.heap.size v l) (hlen : l.length ≤ 1048576) (hE : EtOk w) :
    Calls Tryz.prog 68 #[v] w fun e w' => ∃ g, e = .returned (.tuple #[lstV g, .bool (tOk l)]) ∧ w.heap.size ≤ g ∧ (tOk l = true → LR w' g l) ∧ Below w.heap.size w w' := by
  by_cases hb : l.length ≤ 48
  · rw [show tOk l = chain l from by simp [tOk, hb]]
    exact readTable_some w v l h hb hE
  · rw [show tOk l = false from by simp [tOk, hb]]
    obtain ⟨a, cap, rfl, -, -, -⟩ := h
    exact (readTable_big w a l.length cap (by omega) hlen).mono fun e w' ⟨g, h1, h2, h3⟩ => ⟨g, h1, h2, (fun h => by cases h), h3⟩

end Go.Proofs.YtjjhahhchimmlaaGreatDoor

namespace Go.Proofs.YtjjhahhchimmlaaGreatDoor
open Go.ChangeShapes Go.WideShapes Go.ChangeAt Go.RowKit Go.Joins
open Go.Shelf
set_option linter.unusedVariables false
attribute [local go_sem] Oper.semAt_some

/-- What has come, from the first rule on: each rule's place, and the rule. -/
def comeA (l : List R4) (k : Nat) : List (Nat × R4) := (List.range k).map (fun j => (j, ruAt l j))
theorem comeA_succ (l : List R4) (k : Nat) : comeA l (k + 1) = comeA l k ++ [(k, ruAt l k)] := by simp [comeA, List.range_succ]
theorem comeA_len (l : List R4) (k : Nat) : (comeA l k).length = k := by simp [comeA]

theorem all_any (g : Nat) (w : World) :
    Calls Tryz.prog 70 #[lstV g] w fun e w' => e = .returned (.func (.func 81) #[] #[.pointer (some ⟨w.heap.size, 0, none⟩)]) ∧ w' = w.alloc (lstO g) := by
  have hmf : ∀ (fn : Fn) (first cap : Array Value) (w : World), (Instr.makeFunc fn first cap).run Tryz.prog w = .ok (.func fn first cap) w := fun _ _ _ _ => rfl
  unfold lstV
  go_enter Tryz.func70, Tryz.ntmps70
  go_wp2
  go_ret
  exact ⟨rfl, rfl⟩

set_option maxRecDepth 100000 in
set_option maxHeartbeats 2000000 in
/-- The iterator's function, called: the rules come from the first one on, till a round says 'no more'. -/
theorem all1_in (F : Fence) (n : Nat) (hF : F.fn 81) (hro : F.round = none) (hn : 1 ≤ n) (lo Bs : Nat) (W0 : World) (g : Nat) (l : List R4) (hlen : l.length ≤ 1048576) (hR : LR W0 g l) (J Jx : List (Nat × R4) → World → Prop)
    (hY : ∀ pre x W, J pre W → pre.length < l.length → YieldAt F (n - 1) Tryz.prog lo #[.int .i64 (x.1 : Int), R4.v x.2] W fun e W' =>
      (e = .returned (.bool true) ∧ J (pre ++ [x]) W' ∧ Below W0.heap.size W W') ∨ (e = .returned (.bool false) ∧ Jx (pre ++ [x]) W'))
    (W : World) (hW : Below W0.heap.size W0 W) (hBs : W.heap[Bs]? = some (lstO g)) (h0 : J [] W) :
    CallsIn F n Tryz.prog 81 #[.func (.yield lo) #[] #[], .pointer (some ⟨Bs, 0, none⟩)] W fun e W' => (∃ v, e = .returned v) ∧
      ((∃ ys, ys = comeA l l.length ∧ J ys W') ∨ (∃ pre, (∃ k, k ≤ l.length ∧ pre = comeA l k) ∧ Jx pre W')) := by
  obtain ⟨q0, hq0, hll⟩ := hR
  obtain ⟨-, r4, -⟩ := nodeCells ((hW.block g (Array.getElem?_eq_some_iff.1 hq0).1).trans hq0)
  obtain ⟨b0, b1, -⟩ := cells2 hBs
  have HCS := Lib.hid (comeA_succ l)
  have HCL := Lib.hid (comeA_len l)
  have h0' : Hid (J (comeA l 0) W) := h0
  have HLL := Lib.hid hll
  clear h0 hBs hq0 hll
  refine callsIn_of_wp Tryz.func81 rfl hF ?_ hro
  simp only [Tryz.ntmps81, List.size_toArray, List.length_cons, List.length_nil, Nat.reduceAdd, Nat.reduceSub, Array.replicate_succ, Array.replicate_zero, List.push_toArray, List.append_toArray, List.nil_append, List.cons_append]
  gi_wp2
  gi_loopw [3, 4] (fun i p wr => ∃ (k : Nat) (q : Option Addr), k ≤ l.length ∧ i = .int .i64 k ∧ p = .pointer q ∧ LL W0 (g + 1) q (l.drop k) ∧ J (comeA l k) wr ∧ Below W0.heap.size W0 wr) (fun i _ _ => l.length - (intOf i).toNat)
  case atStart => exact ⟨0, q0, Nat.zero_le _, by simp, rfl, HLL.out, h0'.out, hW⟩
  case round =>
    obtain ⟨k, q, hk, rfl, rfl, hl, hJs, hnx⟩ := hrel
    by_cases hlt : k < l.length
    · have hd : l.drop k = ruAt l k :: l.drop (k + 1) := by rw [List.drop_eq_getElem_cons hlt, ruAt_lt hlt]
      rw [hd] at hl
      obtain ⟨b, q', rfl, hgb, hb, hr⟩ := hl
      obtain ⟨⟨c0, c1, c2, c3⟩, -, -⟩ := nodeCells ((hnx.block b (Array.getElem?_eq_some_iff.1 hb).1).trans hb)
      simp only [Nat.zero_add] at c1 c2 c3
      have HNB : Hid (∀ W', Below W0.heap.size W0 W' → W'.cell? ⟨b, 4, none⟩ = some (.pointer q')) := fun W' h' => (nodeCells ((h'.block b (Array.getElem?_eq_some_iff.1 hb).1).trans hb)).2.1
      have HR := Lib.hid hr
      have HS := Lib.hid (HCS.out k)
      obtain ⟨fn, tmps, assign, body, hy, hR⟩ := hY _ (k, ruAt l k) wr hJs (by rw [HCL.out]; exact hlt)
      dsimp only [R4.v] at hy
      have HRR := Lib.hid hR
      clear hR hY hd hb hr
      generalize ruAt l k = x at *
      gi_wp2
      refine HRR.out.mono ?_
      rintro e W3 (⟨rfl, hJ3, hk3⟩ | ⟨rfl, hJx3⟩)
      · have c4 := HNB.out _ (hnx.trans hk3)
        gi_wp2
        go_roundw
        case rel => exact ⟨k + 1, q', by omega, by go_num, rfl, HR.out, by rw [HS.out]; exact hJ3, hnx.trans hk3⟩
        case measure => simp [intOf]; omega
      · gi_wp2
        go_end0
        exact ⟨⟨_, rfl⟩, .inr ⟨_, ⟨k + 1, by omega, HS.out.symm⟩, hJx3⟩⟩
    · obtain rfl : k = l.length := by omega
      rw [List.drop_length] at hl
      obtain rfl : q = none := hl
      gi_wp2
      refine ⟨fun _ h => (by cases h), ?_⟩
      gi_wp2
      go_end0
      exact ⟨⟨_, rfl⟩, .inl ⟨_, rfl, hJs⟩⟩

theorem all_stops (F : Fence) (n : Nat) (hF : F.fn 81) (hro : F.round = none) (hn : 1 ≤ n) (Bs : Nat) (W0 : World) (g : Nat) (l : List R4) (hlen : l.length ≤ 1048576) (hR : LR W0 g l) (w : World) (hw : Below W0.heap.size W0 w) (hBs : w.heap[Bs]? = some (lstO g)) :
    SeqStopsK F n Tryz.prog 81 #[.pointer (some ⟨Bs, 0, none⟩)] (fun x : Nat × R4 => #[Value.int .i64 (x.1 : Int), R4.v x.2]) (Below W0.heap.size) (fun ys => ys = comeA l l.length) (fun pre => ∃ k, k ≤ l.length ∧ pre = comeA l k) l.length w := fun lo J Jx W hW _ _ hY h0 =>
  all1_in F n hF hro hn lo Bs W0 g l hlen hR J Jx hY W (hw.trans (hW.mono hw.size)) ((hW.block Bs (Array.getElem?_eq_some_iff.1 hBs).1).trans hBs) h0

end Go.Proofs.YtjjhahhchimmlaaGreatDoor
