/-
  The program's sorted list in memory: its nodes; a rule is put ahead of all others.
-/
import Derived.Test.YtahobeigbjhbbaaGreatDoorTabMath
import Derived.Test.YtahobeigbjhbbaaGreatDoorRuleCmpI
import Derived.Laws.EntriesVeiled
import Derived.Test.YtahobeigbjhbbaaGreatDoorExtReg
namespace Go.Proofs.YtahobeigbjhbbaaGreatDoor
open Go.ChangeShapes Go.WideShapes Go.ChangeAt Go.RowKit Go.Joins
set_option linter.unusedVariables false

/-- A node of a list. -/
def nodeO (r : R4) (q : Option Addr) : Obj := .cells #[.int .i64 r.p, .string r.s, .int .i64 r.o, .int .i64 r.t, .pointer q] 135
/-- A pointer leads to nodes with these rules; their blocks are numbered from g on. -/
def LL (w : World) (g : Nat) : Option Addr → List R4 → Prop
  | p, [] => p = none
  | p, r :: rs => ∃ b q, p = some ⟨b, 0, none⟩ ∧ g ≤ b ∧ w.heap[b]? = some (nodeO r q) ∧ LL w g q rs
theorem LL.keep {w w' : World} {g : Nat} (h : ∀ b r q, g ≤ b → w.heap[b]? = some (nodeO r q) → w'.heap[b]? = some (nodeO r q)) : ∀ {l : List R4} {p : Option Addr}, LL w g p l → LL w' g p l
  | [], _, hl => hl
  | r :: rs, _, ⟨b, q, hp, hg, hb, hr⟩ => ⟨b, q, hp, hg, h b r q hg hb, LL.keep h hr⟩
theorem LL.below {w w' : World} {g : Nat} {l : List R4} {p : Option Addr} (hl : LL w g p l) (hb : Below w.heap.size w w') : LL w' g p l :=
  hl.keep fun b r q _ hlt => (hb.block b (Array.getElem?_eq_some_iff.1 hlt).1).trans hlt
theorem LL.setCell {w : World} {g : Nat} {l : List R4} {p : Option Addr} (hl : LL w g p l) {a : Addr} (ha : a.block < g) (u : Value) : LL (w.setCell a u) g p l :=
  hl.keep fun b r q hg hlt => (heap_setCell_other w a b u (fun e => by subst e; omega)).trans hlt
theorem LL.mono {w : World} {g g' : Nat} (hg : g' ≤ g) : ∀ {l : List R4} {p : Option Addr}, LL w g p l → LL w g' p l
  | [], _, hl => hl
  | r :: rs, _, ⟨b, q, hp, hb, hc, hr⟩ => ⟨b, q, hp, Nat.le_trans hg hb, hc, LL.mono hg hr⟩

/-- A list's root, at block g: its nodes lie behind it. -/
def LR (w : World) (g : Nat) (l : List R4) : Prop := ∃ q, w.heap[g]? = some (nodeO zR q) ∧ LL w (g + 1) q l
theorem LR.below {w w' : World} {g : Nat} {l : List R4} (h : LR w g l) (hb : Below w.heap.size w w') : LR w' g l := by
  obtain ⟨q, h1, h2⟩ := h
  exact ⟨q, (hb.block g (Array.getElem?_eq_some_iff.1 h1).1).trans h1, h2.below hb⟩

/-- The program's list value. -/
def lstV (g : Nat) : Value := .agg #[.func (.func 102) #[] #[], .pointer (some ⟨g, 0, none⟩)]

theorem nodeCells {w : World} {b : Nat} {r : R4} {q : Option Addr} (h : w.heap[b]? = some (nodeO r q)) : Four w b 0 r ∧ w.cell? ⟨b, 4, none⟩ = some (.pointer q) ∧ ∀ j, w.frozen? ⟨b, j, none⟩ = false := by
  refine ⟨⟨?_, ?_, ?_, ?_⟩, ?_, fun j => ?_⟩ <;> simp [World.cell?, World.frozen?, h, nodeO]

set_option maxHeartbeats 1000000 in
theorem newList_any (w : World) :
    Calls Tryz.prog 101 #[.func (.func 102) #[] #[]] w fun e w' => e = .returned (lstV (w.heap.size + 1)) ∧ LR w' (w.heap.size + 1) [] ∧ Below w.heap.size w w' := by
  go_enter Tryz.func101, Tryz.ntmps101
  go_wp2
  refine bodyPost_ret (v := lstV (w.heap.size + 1)) (by simp [results, Tryz.results101, go_sem, lstV]) rfl ⟨rfl, ⟨none, ?_, rfl⟩, below_alloc2 _ _ _⟩
  have := newBlockM (w.alloc (.cells #[.func (.func 102) #[] #[], .pointer (some ⟨w.heap.size + 1, 0, none⟩)] 75)) (nodeO zR none)
  rw [World.size_alloc] at this
  exact this

theorem iCmp_at (a b : R4) (ha : okR a = true) (hb : okR b = true) (w : World) (hE : EtOk w) :
    Calls Tryz.prog 102 #[.agg #[.int .i64 a.p, .string a.s, .int .i64 a.o, .int .i64 a.t], .agg #[.int .i64 b.p, .string b.s, .int .i64 b.o, .int .i64 b.t]] w fun e w' => e = .returned (.int .i64 (cmR a b)) ∧ Below w.heap.size w w' := by
  have h := iRuleCmp_any a.p a.s a.hs a.o a.t b.p b.s b.hs b.o b.t w hE
  rw [cmpR, show rOk a.p a.s a.o a.t = true from ha, show rOk b.p b.s b.o b.t = true from hb] at h
  exact h
theorem iOk_at (r : R4) (w : World) (hE : EtOk w) :
    Calls Tryz.prog 62 #[.agg #[.int .i64 r.p, .string r.s, .int .i64 r.o, .int .i64 r.t]] w fun e w' => e = .returned (.bool (okR r)) ∧ Below w.heap.size w w' := iRuleOk_any r.p r.s r.hs r.o r.t w hE

theorem node_set {w : World} {b : Nat} {x : R4} {q : Option Addr} (h : w.heap[b]? = some (nodeO x q)) (u : Option Addr) : (w.setCell ⟨b, 4, none⟩ (.pointer u)).heap[b]? = some (nodeO x u) := by
  have := heap_setCell_same w b 4 _ _ (.pointer u) h
  simpa [nodeO] using this
/-- A node is laid behind another one. -/
theorem pushed {w w1 : World} {g : Nat} {x r : R4} {q : Option Addr} (hB : Below w.heap.size w w1) (hg : g < w.heap.size) (hq : w1.heap[g]? = some (nodeO x q)) :
    w.grownBy ((w1.setCell ⟨g, 4, none⟩ (.pointer (some ⟨w1.heap.size, 0, none⟩))).alloc (nodeO r q)).drew (some g) ∧ ((w1.setCell ⟨g, 4, none⟩ (.pointer (some ⟨w1.heap.size, 0, none⟩))).alloc (nodeO r q)).drew.heap[g]? = some (nodeO x (some ⟨w1.heap.size, 0, none⟩)) ∧
      ((w1.setCell ⟨g, 4, none⟩ (.pointer (some ⟨w1.heap.size, 0, none⟩))).alloc (nodeO r q)).drew.heap[w1.heap.size]? = some (nodeO r q) ∧ ∀ b y z, b ≠ g → w1.heap[b]? = some (nodeO y z) → ((w1.setCell ⟨g, 4, none⟩ (.pointer (some ⟨w1.heap.size, 0, none⟩))).alloc (nodeO r q)).drew.heap[b]? = some (nodeO y z) := by
  have hs := hB.size
  have hss : (w1.setCell ⟨g, 4, none⟩ (.pointer (some ⟨w1.heap.size, 0, none⟩))).heap.size = w1.heap.size := by simp [World.setCell]
  have hal : ∀ k, k < w1.heap.size → ((w1.setCell ⟨g, 4, none⟩ (.pointer (some ⟨w1.heap.size, 0, none⟩))).alloc (nodeO r q)).drew.heap[k]? = (w1.setCell ⟨g, 4, none⟩ (.pointer (some ⟨w1.heap.size, 0, none⟩))).heap[k]? := fun k hk => Below.heap_alloc _ _ _ (by rw [hss]; exact hk)
  refine ⟨⟨hB.os, hB.tape, hB.output, ?_, fun k hk hne => ?_⟩, ?_, ?_, fun b y z hb hy => ?_⟩
  · show _ ≤ ((w1.setCell ⟨g, 4, none⟩ (.pointer (some ⟨w1.heap.size, 0, none⟩))).alloc (nodeO r q)).heap.size
    rw [World.size_alloc, hss]
    omega
  · rw [hal k (by omega), heap_setCell_other w1 _ k _ (fun e => hne (by rw [e]))]
    exact hB.block k hk
  · rw [hal g (by omega)]
    exact node_set hq _
  · have := newBlockM (w1.setCell ⟨g, 4, none⟩ (.pointer (some ⟨w1.heap.size, 0, none⟩))) (nodeO r q)
    rw [hss] at this
    exact this
  · rw [hal b (Array.getElem?_eq_some_iff.1 hy).1, heap_setCell_other w1 _ b _ hb]
    exact hy
theorem pushed_root {w w1 : World} {g : Nat} {r : R4} {q : Option Addr} {l : List R4} (hB : Below w.heap.size w w1) (hg : g < w.heap.size) (hq : w1.heap[g]? = some (nodeO zR q)) (hl : LL w1 (g + 1) q l) :
    w.grownBy ((w1.setCell ⟨g, 4, none⟩ (.pointer (some ⟨w1.heap.size, 0, none⟩))).alloc (nodeO r q)).drew (some g) ∧ LR ((w1.setCell ⟨g, 4, none⟩ (.pointer (some ⟨w1.heap.size, 0, none⟩))).alloc (nodeO r q)).drew g (r :: l) := by
  obtain ⟨h1, h2, h3, h4⟩ := pushed (r := r) hB hg hq
  have hs := hB.size
  exact ⟨h1, _, h2, w1.heap.size, q, rfl, by omega, h3, hl.keep fun b y z hb hy => h4 b y z (by omega) hy⟩

/-- The world in which a method on a list with a rule begins. -/
def leadW (w : World) (g : Nat) (r : R4) : World := (w.alloc (.cells #[.func (.func 102) #[] #[], .pointer (some ⟨g, 0, none⟩)] 75)).alloc (.cells #[.int .i64 r.p, .string r.s, .int .i64 r.o, .int .i64 r.t] 25)
theorem leadW_bel (w : World) (g : Nat) (r : R4) : Below w.heap.size w (leadW w g r) := below_alloc2 _ _ _
theorem leadW_size (w : World) (g : Nat) (r : R4) : (leadW w g r).heap.size = w.heap.size + 2 := by simp [leadW]
theorem leadW_cells (w : World) (g : Nat) (r : R4) : (leadW w g r).cell? ⟨w.heap.size, 0, none⟩ = some (.func (.func 102) #[] #[]) ∧ (leadW w g r).cell? ⟨w.heap.size, 1, none⟩ = some (.pointer (some ⟨g, 0, none⟩)) ∧ Four (leadW w g r) (w.heap.size + 1) 0 r := by
  refine ⟨?_, ?_, ?_, ?_, ?_, ?_⟩ <;> simp [leadW, go_sem]

set_option maxRecDepth 100000 in
set_option maxHeartbeats 2000000 in
theorem lead_nil (w : World) (g : Nat) (r : R4) (hL : LR w g []) :
    Calls Tryz.prog 104 #[lstV g, .agg #[.int .i64 r.p, .string r.s, .int .i64 r.o, .int .i64 r.t]] w fun e w' => e = .returned (.bool true) ∧ w.grownBy w' (some g) ∧ LR w' g [r] := by
  have hgl : g < w.heap.size := (Array.getElem?_eq_some_iff.1 hL.choose_spec.1).1
  have HL : Hid (∀ W, Below w.heap.size w W → LR W g []) := fun W hb => hL.below hb
  clear hL
  have HB := Lib.hid (leadW_bel w g r)
  have hsz := leadW_size w g r
  obtain ⟨p0, p1, p2, p3, p4, p5⟩ := leadW_cells w g r
  obtain ⟨q, hq, hn⟩ := HL.out _ HB.out
  obtain rfl : q = none := hn
  obtain ⟨-, c4, hf⟩ := nodeCells hq
  have HQ := Lib.hid hq
  clear hq
  unfold lstV
  go_enter Tryz.func104, Tryz.ntmps104
  go_wp2
  rw [show (w.alloc (.cells #[.func (.func 102) #[] #[], .pointer (some ⟨g, 0, none⟩)] 75)).alloc (.cells #[.int .i64 r.p, .string r.s, .int .i64 r.o, .int .i64 r.t] 25) = leadW w g r from rfl]
  generalize leadW w g r = W0 at *
  have e4 := fun m : Ext W0 => m.cell (by omega) c4
  refine wp_region_ext (w0 := W0) (by kernel_rfl) (by kernel_rfl) (Below.refl _ _) ?_
  repeat (go_big_quiet_step (fail))
  refine wpQuiet_nil ?_
  intro w1 hx
  have b1 := ext_out hx
  clear hx
  have l1 := b1.size
  obtain ⟨r0, r1, r2, r3⟩ := (show Four W0 (w.heap.size + 1) 0 r from ⟨p2, p3, p4, p5⟩).below b1 (by omega)
  have hq1 := (b1.block g (by omega)).trans HQ.out
  obtain ⟨-, d4, hf1⟩ := nodeCells hq1
  have HQ1 := Lib.hid hq1
  have B1 := Lib.hid (belStep HB.out b1)
  have hg1 : g < w1.heap.size := by omega
  have hg2 : g ≠ w1.heap.size := by omega
  clear hq1 b1 p0 p1 p2 p3 p4 p5 e4 c4 hf HQ HB
  go_wp2
  go_region_with (fail)
  all_goals (go_wp2; go_ret; exact ⟨rfl, pushed_root B1.out hgl HQ1.out rfl⟩)

set_option maxRecDepth 100000 in
set_option maxHeartbeats 2000000 in
theorem lead_cons (w : World) (g : Nat) (r x : R4) (l : List R4) (hr : okR r = true) (hx : okR x = true) (hL : LR w g (x :: l)) (hE : EtOk w) :
    Calls Tryz.prog 104 #[lstV g, .agg #[.int .i64 r.p, .string r.s, .int .i64 r.o, .int .i64 r.t]] w fun e w' => e = .returned (.bool (decide (cmR r x < 0))) ∧ w.grownBy w' (some g) ∧ (cmR r x < 0 → LR w' g (r :: x :: l)) := by
  have hgl : g < w.heap.size := (Array.getElem?_eq_some_iff.1 hL.choose_spec.1).1
  have HL : Hid (∀ W, Below w.heap.size w W → LR W g (x :: l)) := fun W hb => hL.below hb
  clear hL
  have HB := Lib.hid (leadW_bel w g r)
  have HE0 := Lib.hid (hE.below (leadW_bel w g r))
  clear hE
  have hsz := leadW_size w g r
  obtain ⟨p0, p1, p2, p3, p4, p5⟩ := leadW_cells w g r
  obtain ⟨q, hq, b, q', rfl, hgb, hb, hll⟩ := HL.out _ HB.out
  have hbl : b < (leadW w g r).heap.size := (Array.getElem?_eq_some_iff.1 hb).1
  obtain ⟨-, c4, hf⟩ := nodeCells hq
  obtain ⟨⟨a0, a1, a2, a3⟩, -, -⟩ := nodeCells hb
  have HQ := Lib.hid hq
  have HLL : Hid (LL (leadW w g r) (g + 1) (some ⟨b, 0, none⟩) (x :: l)) := ⟨b, q', rfl, hgb, hb, hll⟩
  have HC := Lib.hid (iCmp_at r x hr hx)
  clear hq hb hll hr hx
  generalize cmR r x = c at *
  unfold lstV
  go_enter Tryz.func104, Tryz.ntmps104
  go_wp2
  rw [show (w.alloc (.cells #[.func (.func 102) #[] #[], .pointer (some ⟨g, 0, none⟩)] 75)).alloc (.cells #[.int .i64 r.p, .string r.s, .int .i64 r.o, .int .i64 r.t] 25) = leadW w g r from rfl]
  generalize leadW w g r = W0 at *
  have e4 := fun m : Ext W0 => m.cell (by omega) c4
  have f0 := fun m : Ext W0 => m.cell hbl a0
  have f1 := fun m : Ext W0 => m.cell hbl a1
  have f2 := fun m : Ext W0 => m.cell hbl a2
  have f3 := fun m : Ext W0 => m.cell hbl a3
  have g0 := fun m : Ext W0 => m.cell (by omega) p0
  have g1 := fun m : Ext W0 => m.cell (by omega) p1
  have g2 := fun m : Ext W0 => m.cell (by omega) p2
  have g3 := fun m : Ext W0 => m.cell (by omega) p3
  have g4 := fun m : Ext W0 => m.cell (by omega) p4
  have g5 := fun m : Ext W0 => m.cell (by omega) p5
  simp only [Nat.zero_add] at f0 f1 f2 f3 g2 g3 g4 g5
  clear a0 a1 a2 a3 p0 p1 c4
  by_cases hc : 0 ≤ c
  · refine wp_region_ext (w0 := W0) (by kernel_rfl) (by kernel_rfl) (Below.refl _ _) ?_
    repeat (go_big_quiet_step (first | (go_at_call 102; exact ext_of (HC.out _ (HE0.out.below (Ext.h _))))))
    refine wpQuiet_nil ?_
    intro w1 hx
    have b1 := ext_out hx
    clear hx
    go_wp2
    go_ret
    have B1 := belStep HB.out b1
    have hn : ¬ c < 0 := by omega
    exact ⟨by rw [decide_eq_false hn]; rfl, ⟨B1.os, B1.tape, B1.output, B1.size, fun k hk _ => B1.block k hk⟩, fun h => absurd h hn⟩
  · refine wp_region_ext (w0 := W0) (by kernel_rfl) (by kernel_rfl) (Below.refl _ _) ?_
    repeat (go_big_quiet_step (first | (go_at_call 102; exact ext_of (HC.out _ (HE0.out.below (Ext.h _))))))
    refine wpQuiet_nil ?_
    intro w1 hx
    have b1 := ext_out hx
    clear hx
    have l1 := b1.size
    obtain ⟨r0, r1, r2, r3⟩ := (show Four W0 (w.heap.size + 1) 0 r from ⟨p2, p3, p4, p5⟩).below b1 (by omega)
    have hq1 := (b1.block g (by omega)).trans HQ.out
    obtain ⟨-, d4, hf1⟩ := nodeCells hq1
    have HQ1 := Lib.hid hq1
    have B1 := Lib.hid (belStep HB.out b1)
    have HL1 := Lib.hid (HLL.out.below b1)
    have hg1 : g < w1.heap.size := by omega
    have hg2 : g ≠ w1.heap.size := by omega
    clear hq1 b1 p2 p3 p4 p5 e4 f0 f1 f2 f3 g0 g1 g2 g3 g4 g5 hf HQ HB HLL
    go_wp2
    go_region_with (fail)
    all_goals (go_wp2; go_ret; have hn : c < 0 := (by omega); exact ⟨by rw [decide_eq_true hn]; rfl, (pushed_root B1.out hgl HQ1.out HL1.out).1, fun _ => (pushed_root B1.out hgl HQ1.out HL1.out).2⟩)

/-- A rule is put ahead of all others, if that is its place. -/
theorem lead_any (w : World) (g : Nat) (r : R4) (l : List R4) (hr : okR r = true) (hc : chain l = true) (hL : LR w g l) (hE : EtOk w) :
    Calls Tryz.prog 104 #[lstV g, .agg #[.int .i64 r.p, .string r.s, .int .i64 r.o, .int .i64 r.t]] w fun e w' => e = .returned (.bool (leadsB r l)) ∧ w.grownBy w' (some g) ∧ (leadsB r l = true → LR w' g (r :: l)) := by
  cases l with
  | nil => exact (lead_nil w g r hL).mono fun e w' ⟨h1, h2, h3⟩ => ⟨h1, h2, fun _ => h3⟩
  | cons x l =>
    simp only [chain, Bool.and_eq_true] at hc
    exact (lead_cons w g r x l hr hc.1 hL hE).mono fun e w' ⟨h1, h2, h3⟩ => ⟨h1, h2, fun h => h3 (by simpa [leadsB] using h)⟩
theorem LR.keep {w w' : World} {g : Nat} {l : List R4} (h : ∀ b r q, g ≤ b → w.heap[b]? = some (nodeO r q) → w'.heap[b]? = some (nodeO r q)) (hl : LR w g l) : LR w' g l := by
  obtain ⟨q, h1, h2⟩ := hl
  exact ⟨q, h g _ _ (Nat.le_refl _) h1, h2.keep fun b r q hb => h b r q (by omega)⟩

end Go.Proofs.YtahobeigbjhbbaaGreatDoor
