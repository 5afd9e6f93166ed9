/-
  The statement on one clause more: its walk.
-/
import Derived.Test.YtcipidcnkllanaaDoorPredCard
import Derived.Test.YtcipidcnkllanaaDoorOwnB
import Derived.Test.YtcipidcnkllanaaDoorClaDo
import Derived.Test.YtcipidcnkllanaaDoorClaCut
namespace Go.Proofs.YtcipidcnkllanaaDoor
open Go.ChangeShapes Go.WideShapes Go.ChangeAt Go.RowKit Go.Joins
set_option linter.unusedVariables false

theorem hasL_fit (q : C3) {x y z : Int} (h : okB x y z = true) : hasL q.s.data.toList x y z = fitC q x y z := by
  unfold hasL fitC C3.cnd
  cases whole q.s.data.toList with
  | none => rfl
  | some c => simp [h]
theorem head_kept {w W : World} {t : TypeId} {a b c : Value} (hb : Below (w.alloc (.cells #[a, b, c] t)).heap.size (w.alloc (.cells #[a, b, c] t)) W) : W.cell? ⟨w.heap.size, 0, none⟩ = some a ∧ W.cell? ⟨w.heap.size, 1, none⟩ = some b ∧ W.cell? ⟨w.heap.size, 2, none⟩ = some c ∧ w.heap.size < W.heap.size := by
  have hn := (hb.block w.heap.size (by simp)).trans (heap_alloc_new w (.cells #[a, b, c] t))
  obtain ⟨h0, h1, h2, -⟩ := three_cells hn
  exact ⟨h0, h1, h2, (Array.getElem?_eq_some_iff.1 hn).1⟩
theorem agg_cells {W : World} {b : Nat} {x y z : Value} {t : TypeId} (h : W.heap[b]? = some (.cells #[x, y, z] t)) (x' y' z' : Value) :
    ((((W.setCell ⟨b, 0, none⟩ x').setCell ⟨b, 1, none⟩ y').setCell ⟨b, 2, none⟩ z').cell? ⟨b, 0, none⟩ = some x' ∧ (((W.setCell ⟨b, 0, none⟩ x').setCell ⟨b, 1, none⟩ y').setCell ⟨b, 2, none⟩ z').cell? ⟨b, 1, none⟩ = some y' ∧ (((W.setCell ⟨b, 0, none⟩ x').setCell ⟨b, 1, none⟩ y').setCell ⟨b, 2, none⟩ z').cell? ⟨b, 2, none⟩ = some z') ∧ b < (((W.setCell ⟨b, 0, none⟩ x').setCell ⟨b, 1, none⟩ y').setCell ⟨b, 2, none⟩ z').heap.size := by
  obtain ⟨r0, r1, r2, rf⟩ := three_cells h
  have hl := (Array.getElem?_eq_some_iff.1 h).1
  refine ⟨⟨?_, ?_, ?_⟩, ?_⟩
  · simp [go_sem, r0]
  · simp [go_sem, r1]
  · simp [go_sem, r2]
  · simpa [World.setCell] using hl
/-- The three conditions of the statement's clause. -/
def moreS (k : Nat) : ByteArray := if k = 0 then ⟨#[49]⟩ else if k = 1 then ⟨#[115, 49]⟩ else ⟨#[33, 100, 50]⟩
theorem moreS_len (k : Nat) : (moreS k).size ≤ 1048576 := by
  unfold moreS
  split
  · decide
  · split <;> decide
def moreC (k : Nat) : C3 := ⟨moreS k, 3, -1, moreS_len k⟩
theorem moreC_ok {k : Nat} (h : k < 3) : okC (moreC k) = true := by
  have : k = 0 ∨ k = 1 ∨ k = 2 := by omega
  rcases this with rfl | rfl | rfl <;> decide +kernel
theorem moreS_at {k : Nat} (h : k < 3) : (#[Value.string ⟨#[49]⟩, Value.string ⟨#[115, 49]⟩, Value.string ⟨#[33, 100, 50]⟩] : Array Value)[k]? = some (.string (moreS k)) := by
  have : k = 0 ∨ k = 1 ∨ k = 2 := by omega
  rcases this with rfl | rfl | rfl <;> rfl
theorem wl_str {ops : Array Oper} {rest : List Oper} {o : Oper} {a : Act} {w : World} {Q : Exit → Act → World → Prop} (hgd : o.guard = none) (x : Operand) (ho : o.op = .load 9 x) (p : Addr) (hx : a.eval x = .pointer (some p)) (s : ByteArray) (hc : w.cell? p = some (.string s))
    (h : wpList Tryd.prog ops Q rest (a.put o.dst (.string s)) w) : wpList Tryd.prog ops Q (o :: rest) a w := by
  refine wpList_plain hgd fun _ hK => ?_
  unfold Oper.wp execOp
  simp only [ho]
  rw [hx]
  simp [go_sem, hc]
  exact hK _ _ h
theorem more_cell (W : World) (T : TypeId) {k : Nat} (h : k < 3) : (W.alloc (.cells #[Value.string ⟨#[49]⟩, Value.string ⟨#[115, 49]⟩, Value.string ⟨#[33, 100, 50]⟩] T)).cell? ⟨W.heap.size, k, none⟩ = some (.string (moreS k)) := by
  have hn := newBlockM W (.cells #[Value.string ⟨#[49]⟩, Value.string ⟨#[115, 49]⟩, Value.string ⟨#[33, 100, 50]⟩] T)
  have : k = 0 ∨ k = 1 ∨ k = 2 := by omega
  generalize W.alloc _ = V at *
  generalize W.heap.size = b at *
  rcases this with rfl | rfl | rfl <;> simp [World.cell?, hn] <;> rfl
/-- The state of the region: a row, a clause of its own, a head of its own. -/
structure Mo (Wb W : World) (x : C3) (v : Value) (L : List C3) (g p : Option Nat) : Prop where
  bel : Below Wb.heap.size Wb W
  row : ClaRow W Wb.heap.size v L
  lit : ∀ b, g = some b → Thr W b 0 x ∧ b < W.heap.size ∧ v.ownBlock ≠ some b
  box : ∀ b, p = some b → W.heap[b]? = some (.cells #[.int .i64 0, .int .i64 0, .int .i64 0] 25) ∧ v.ownBlock ≠ some b ∧ Wb.heap.size ≤ b
theorem Mo.far {Wb W W' : World} {x : C3} {v v' : Value} {L L' : List C3} {g p : Option Nat} {row : Option Nat} (h : Mo Wb W x v L g p) (hg : W.grownBy W' row) (hb : Below Wb.heap.size W W') (hr : ClaRow W' Wb.heap.size v' L') (hne : ∀ b, row = some b → v.ownBlock = some b) (ho : v'.ownBlock = v.ownBlock ∨ ∀ q, v'.ownBlock = some q → W.heap.size ≤ q) : Mo Wb W' x v' L' g p := by
  have key : ∀ b, b < W.heap.size → v.ownBlock ≠ some b → W'.heap[b]? = W.heap[b]? ∧ v'.ownBlock ≠ some b := fun b hb hv => by
    refine ⟨hg.block b hb (fun e => hv (hne b e.symm)), fun e => ?_⟩
    rcases ho with h1 | h1
    · exact hv (h1.symm.trans e)
    · have := h1 b e
      omega
  refine ⟨h.bel.trans hb, hr, fun b hb => ?_, fun b hb => ?_⟩
  · obtain ⟨h1, h2, h3⟩ := h.lit b hb
    obtain ⟨k1, k2⟩ := key b h2 h3
    refine ⟨?_, Nat.lt_of_lt_of_le h2 hg.size, k2⟩
    unfold Thr World.cell? at h1 ⊢
    rw [show W'.heap[b]? = W.heap[b]? from k1]
    exact h1
  · obtain ⟨h1, h2, h3⟩ := h.box b hb
    obtain ⟨k1, k2⟩ := key b (Array.getElem?_eq_some_iff.1 h1).1 h2
    exact ⟨k1.trans h1, k2, h3⟩
theorem Mo.start {Wb V : World} (x : C3) (hb : Below Wb.heap.size Wb V) : Mo Wb V x (.slice none 0 0) [] none none := ⟨hb, World.ownsRow_nil _ _ _ _, (fun _ h => by cases h), (fun _ h => by cases h)⟩
theorem Mo.call {Wb W W' : World} {x : C3} {v : Value} {L : List C3} {g p : Option Nat} (h : Mo Wb W x v L g p) (hb : Below W.heap.size W W') : Mo Wb W' x v L g p :=
  h.far (row := none) ⟨hb.os, hb.tape, hb.output, hb.size, fun k hk _ => hb.block k hk⟩ (hb.mono h.bel.size) (h.row.below hb) (fun b e => by cases e) (.inl rfl)
theorem Mo.emp {Wb W : World} {x : C3} {v : Value} {g p : Option Nat} (h : Mo Wb W x v [] g p) : Mo Wb (W.alloc (.cells #[] 34)) x (.slice (some ⟨W.heap.size, 0, none⟩) 0 0) [] g p :=
  h.far (row := none) (World.grownBy_alloc W _ none) ((below_alloc1 W _).mono h.bel.size) (emptyRowC W _ h.bel.size) (fun b e => by cases e) (.inr fun q hq => by have : W.heap.size = q := Option.some.inj hq; omega)
theorem Mo.one {Wb W : World} {x : C3} {v : Value} {L : List C3} {p : Option Nat} (h : Mo Wb W x v L none p) : Mo Wb (W.alloc (.cells #[.string x.s, .int .i64 x.o, .int .i64 x.t] 34)) x v L (some W.heap.size) p := by
  have k := h.call (below_alloc1 W (.cells #[.string x.s, .int .i64 x.o, .int .i64 x.t] 34))
  refine ⟨k.bel, k.row, fun b hb => ?_, k.box⟩
  obtain rfl := Option.some.inj hb
  refine ⟨newThr W x, by simp, fun e => ?_⟩
  have := (World.ownsRow.lt h.row _ e).2
  omega
theorem Mo.hd {Wb W : World} {x : C3} {v : Value} {L : List C3} {g : Option Nat} (h : Mo Wb W x v L g none) : Mo Wb (W.alloc (.cells #[.int .i64 0, .int .i64 0, .int .i64 0] 25)) x v L g (some W.heap.size) := by
  have k := h.call (below_alloc1 W (.cells #[.int .i64 0, .int .i64 0, .int .i64 0] 25))
  refine ⟨k.bel, k.row, k.lit, fun b hb => ?_⟩
  obtain rfl := Option.some.inj hb
  refine ⟨newBlockM W _, fun e => ?_, h.bel.size⟩
  have := (World.ownsRow.lt h.row _ e).2
  omega
theorem Mo.app {Wb W W' : World} {x : C3} {v v' : Value} {L L' : List C3} {g p : Option Nat} (h : Mo Wb W x v L g p) (hr : ClaRow W' Wb.heap.size v' L') (hg : W.grownBy W' v.ownBlock) (ho : v'.ownBlock = v.ownBlock ∨ v'.ownBlock = some W.heap.size) : Mo Wb W' x v' L' g p :=
  h.far hg (h.row.belRow hg h.bel.size) hr (fun b e => e) (ho.imp id fun e q hq => by rw [e] at hq; have := Option.some.inj hq; omega)
theorem clB_more {l : List C3} (h : clB l = true) (h6 : l.length < 6) {x : C3} (hx : okC x = true) : clB (l ++ [x]) = true := by
  unfold clB at h ⊢
  rw [Bool.and_eq_true, List.all_eq_true, decide_eq_true_eq] at h ⊢
  refine ⟨fun y hy => ?_, by simp; omega⟩
  rcases List.mem_append.1 hy with h' | h'
  · exact h.1 y h'
  · rw [List.mem_singleton.1 h']; exact hx
theorem doC_app (q : C3) (x y z : Int) : ∀ l : List C3, ((∀ j, j < l.length → fitC (clAt l j) x y z = false) → doC (l ++ [q]) x y z = if fitC q x y z = true then (tagTo q.t z, q.o) else (z, 0)) ∧ ((∃ j, j < l.length ∧ fitC (clAt l j) x y z = true) → doC (l ++ [q]) x y z = doC l x y z)
  | [] => ⟨fun _ => rfl, fun ⟨j, hj, _⟩ => absurd hj (Nat.not_lt_zero _)⟩
  | c :: l => by
    obtain ⟨i1, i2⟩ := doC_app q x y z l
    have e1 : doC ((c :: l) ++ [q]) x y z = if fitC c x y z = true then (tagTo c.t z, c.o) else doC (l ++ [q]) x y z := rfl
    have e2 : doC (c :: l) x y z = if fitC c x y z = true then (tagTo c.t z, c.o) else doC l x y z := rfl
    rw [e1, e2]
    by_cases hc : fitC c x y z = true
    · rw [if_pos hc, if_pos hc]
      refine ⟨fun h => ?_, fun _ => rfl⟩
      have := h 0 (by simp)
      rw [show clAt (c :: l) 0 = c from rfl, hc] at this
      cases this
    · rw [if_neg hc, if_neg hc]
      refine ⟨fun h => i1 fun j hj => h (j + 1) (by simp; omega), fun ⟨j, hj, hf⟩ => i2 ?_⟩
      cases j with
      | zero => exact absurd hf hc
      | succ j => exact ⟨j, by simpa using hj, hf⟩

set_option maxRecDepth 100000 in
set_option maxHeartbeats 40000000 in
theorem walk_FnClausesMore (a : Option Addr) (len cap : Nat) (a' : Option Addr) (len' cap' : Nat) (w : World) (hb : BytesIn w w.heap.size a len cap) (hb' : BytesIn w w.heap.size a' len' cap') (ep : Addr) (hE : w.cell? ⟨0, 0, none⟩ = some (errV ep)) :
    Calls Tryd.prog 3 #[.slice a len cap, .slice a' len' cap'] w fun e w' => e = .returned (.bool true) ∧ Below w.heap.size w w' := by
  have HB := Lib.hid hb
  have hm : (len : Int) ≤ maxLen := by have := hb.1; have := hb.2.1; omega
  have hm' : (len' : Int) ≤ maxLen := by have := hb'.1; have := hb'.2.1; omega
  unfold maxLen at hm hm'
  have HE : Hid (∀ W, Below w.heap.size w W → W.cell? ⟨0, 0, none⟩ = some (errV ep)) := fun W hb => cellLater hE hb
  clear hb hb' hE
  by_cases hlen : (1048576 : Int) < (len : Int)
  · go_enter Tryd.func3, Tryd.ntmps3
    go_wp2
    go_ret
    exact ⟨rfl, Below.refl _ _⟩
  have hl1 : decide ((1048576 : Int) < (len : Int)) = false := by simp; omega
  have hl1n : decide ((1048576 : Nat) < len) = false := by simp; omega
  by_cases hlen' : (1048576 : Int) < (len' : Int)
  · go_enter Tryd.func3, Tryd.ntmps3
    go_wp2
    go_ret
    exact ⟨rfl, Below.refl _ _⟩
  have hl2 : decide ((1048576 : Int) < (len' : Int)) = false := by simp; omega
  have hl2n : decide ((1048576 : Nat) < len') = false := by simp; omega
  go_enter Tryd.func3, Tryd.ntmps3
  go_wp2_with fail
  refine (drawClausesDo_any _ _ _ _ HB.out).mono ?_
  rintro e w1 ⟨v, l, x, y, z, rfl, hl, hown, hrow, b1⟩
  have hn : l.length ≤ 1048576 := by omega
  have HROW := Lib.hid hrow
  have HL : Hid (∀ W, Below w1.heap.size w1 W → Cls W W.heap.size v l) := fun W hb => (hrow.cls.below hb (Nat.le_refl _)).mono hb.size
  have HE1 : Hid (∀ W, Below w1.heap.size w1 W → W.cell? ⟨0, 0, none⟩ = some (errV ep)) := fun W hb => HE.out W (belStep b1 hb)
  have HS : Hid (∀ W, Below w1.heap.size w1 W → Calls Tryd.prog 5 #[v, .agg #[.int .i64 x, .int .i64 y, .int .i64 z]] W fun e w' => e = .returned (cdV (cd4 l x y z)) ∧ Below W.heap.size W w') := fun W h => sClausesDo_any W v l (HL.out W h) hn x y z
  have HI : Hid (∀ W, Below w1.heap.size w1 W → Calls Tryd.prog 6 #[v, .agg #[.int .i64 x, .int .i64 y, .int .i64 z]] W fun e w' => e = .returned (cdV (cd4 l x y z)) ∧ Below W.heap.size W w') := fun W h => iClausesDo_any W v l (HL.out W h) hn x y z ep (HE1.out W h)
  have HO : Hid (∀ W, Below w1.heap.size w1 W → Calls Tryd.prog 7 #[v] W fun e w' => e = .returned (.bool (clB l)) ∧ Below W.heap.size W w') := fun W h => sClausesOk_any W v l (HL.out W h) hn
  have HHO := Lib.hid (fun W => sHeadOk_any x y z W)
  have HPH : Hid (∀ (q : C3) W, Below w1.heap.size w1 W → Calls Tryd.prog 9 #[.string q.s, .agg #[.int .i64 x, .int .i64 y, .int .i64 z]] W fun e w' => e = .returned (.bool (hasL q.s.data.toList x y z)) ∧ Below W.heap.size W w') := fun q W h => by
    have := iPredHas_any q.s.data.toList q.short x y z ep W (HE1.out W h)
    rwa [bs_list] at this
  have HDR : Hid (∀ k, k < l.length → doC (l.drop k) x y z = if fitC (clAt l k) x y z = true then (tagTo (clAt l k).t z, (clAt l k).o) else doC (l.drop (k + 1)) x y z) := fun k hk => doC_drop hk x y z
  have HD0 : Hid (doC (l.drop 0) x y z = doC l x y z) := by show _ = _; rw [List.drop_zero]
  have HDN : Hid (doC (l.drop l.length) x y z = (z, 0)) := by show _ = _; rw [List.drop_length]; rfl
  have BW : Hid (∀ W, Below w1.heap.size w1 W → Below w.heap.size w W) := fun W hb => belStep b1 hb
  obtain ⟨va, vc, rfl⟩ := hrow.shape
  obtain ⟨vb, vc2, hvb, hvl, hvc, hvf⟩ := hrow.solid hown
  have HVS : Hid (va = some ⟨vb, 0, none⟩) := by injection hvb
  have HVF : Hid (∀ W, Below w1.heap.size w1 W → ∀ i, i < l.length → Thr W vb (0 + i * 3) (clAt l i)) := fun W hW i hi => (hvf i hi).below hW hvl
  have HE2 : Hid (∀ W, Below w1.heap.size w1 W → W.cell? ⟨0, 0, none⟩ = some (errV ep)) := fun W hb => HE1.out W hb
  clear hvb hvl hvc hvf hown
  clear hrow b1 HB HL HE HE1
  generalize hN : l.length = n at *
  have HN := Lib.hid hN
  clear hN
  have HFC : Hid (∀ k, k < n → ∃ b, va = some ⟨b, 0, none⟩ ∧ ∀ W, Below w1.heap.size w1 W → Thr W b (k * 3) (clAt l k)) := by
    intro k hk
    rcases HROW.out.form with ⟨-, h'⟩ | ⟨b, cap', h, -⟩
    · have := HN.out
      rw [h'] at this
      simp at this
      omega
    · rw [HN.out] at h
      simp at h
      obtain ⟨rfl, rfl⟩ := h
      have hb := (World.ownsRow.lt HROW.out b rfl).2
      exact ⟨b, rfl, fun W hW => ((HROW.out.cells HN.out).1 k hk).below hW hb⟩
  clear HROW
  have HCD : Hid (clB l = true → okB x y z = true → cd4 l x y z = (x, y, (doC l x y z).1, (doC l x y z).2)) := fun h1 h2 => by unfold cd4; rw [h1, h2]; rfl
  unfold cdV at HS HI
  generalize hcd : cd4 l x y z = cd at *
  clear hcd
  obtain ⟨q0, q1, q2, q3⟩ := cd
  dsimp only at HS HI
  have HA1 := Lib.hid (below_alloc1 w1 (.cells #[.int .i64 x, .int .i64 y, .int .i64 z] 25))
  go_wp2_with fail
  refine (HS.out _ HA1.out).mono ?_
  rintro e w2 ⟨rfl, b2⟩
  obtain ⟨h0, h1, h2, h3⟩ := head_kept b2
  have HK2 : Hid (∀ W, Below w2.heap.size w2 W → W.cell? ⟨w1.heap.size, 0, none⟩ = some (.int .i64 x) ∧ W.cell? ⟨w1.heap.size, 1, none⟩ = some (.int .i64 y) ∧ W.cell? ⟨w1.heap.size, 2, none⟩ = some (.int .i64 z) ∧ w1.heap.size < W.heap.size) := fun W hW => ⟨(belCell hW _ _ h3).trans h0, (belCell hW _ _ h3).trans h1, (belCell hW _ _ h3).trans h2, Nat.lt_of_lt_of_le h3 hW.size⟩
  have B2 := Lib.hid (belStep HA1.out b2)
  have HA2 := Lib.hid (below_alloc1 w2 (.cells #[.int .i64 q0, .int .i64 q1, .int .i64 q2] 25))
  clear b2 HS
  go_wp2_with fail
  refine (HI.out _ (belStep B2.out HA2.out)).mono ?_
  rintro e w3 ⟨rfl, b3⟩
  obtain ⟨k0, k1, k2, k3⟩ := head_kept b3
  have B3 := Lib.hid (belStep B2.out (belStep HA2.out b3))
  have B23 := Lib.hid (belStep HA2.out b3)
  have HK3 : Hid (∀ W, Below w3.heap.size w3 W → W.cell? ⟨w2.heap.size, 0, none⟩ = some (.int .i64 q0) ∧ W.cell? ⟨w2.heap.size, 1, none⟩ = some (.int .i64 q1) ∧ W.cell? ⟨w2.heap.size, 2, none⟩ = some (.int .i64 q2) ∧ w2.heap.size < W.heap.size) := fun W hW => ⟨(belCell hW _ _ k3).trans k0, (belCell hW _ _ k3).trans k1, (belCell hW _ _ k3).trans k2, Nat.lt_of_lt_of_le k3 hW.size⟩
  have HA3 := Lib.hid (below_alloc1 w3 (.cells #[.int .i64 q0, .int .i64 q1, .int .i64 q2] 25))
  clear b3 HI h0 h1 h2 h3
  go_wp2_with fail
  have HK4 : Hid (∀ W, Below (w3.alloc (.cells #[.int .i64 q0, .int .i64 q1, .int .i64 q2] 25)).heap.size (w3.alloc (.cells #[.int .i64 q0, .int .i64 q1, .int .i64 q2] 25)) W →
      (W.cell? ⟨w1.heap.size, 0, none⟩ = some (.int .i64 x) ∧ W.cell? ⟨w1.heap.size, 1, none⟩ = some (.int .i64 y) ∧ W.cell? ⟨w1.heap.size, 2, none⟩ = some (.int .i64 z) ∧ w1.heap.size < W.heap.size) ∧
      (W.cell? ⟨w2.heap.size, 0, none⟩ = some (.int .i64 q0) ∧ W.cell? ⟨w2.heap.size, 1, none⟩ = some (.int .i64 q1) ∧ W.cell? ⟨w2.heap.size, 2, none⟩ = some (.int .i64 q2) ∧ w2.heap.size < W.heap.size) ∧
      (W.cell? ⟨w3.heap.size, 0, none⟩ = some (.int .i64 q0) ∧ W.cell? ⟨w3.heap.size, 1, none⟩ = some (.int .i64 q1) ∧ W.cell? ⟨w3.heap.size, 2, none⟩ = some (.int .i64 q2) ∧ w3.heap.size < W.heap.size) ∧ Below w1.heap.size w1 W) := fun W hW =>
    ⟨HK2.out W (belStep B23.out (belStep HA3.out hW)), HK3.out W (belStep HA3.out hW), head_kept hW, belStep B3.out (belStep HA3.out hW)⟩
  clear k0 k1 k2 k3 HK2 HK3 B2 HA2 B23
  generalize w3.alloc (.cells #[.int .i64 q0, .int .i64 q1, .int .i64 q2] 25) = W3 at *
  generalize w3.heap.size = p3 at *
  generalize w2.heap.size = p2 at *
  have HEND : Hid (∀ W, Below W3.heap.size W3 W → Below w.heap.size w W) := fun W hW => BW.out W (HK4.out W hW).2.2.2
  refine (HO.out _ (HK4.out _ (Below.refl _ _)).2.2.2).mono ?_
  rintro e w4 ⟨rfl, b4⟩
  have B4 := Lib.hid b4
  clear b4
  obtain ⟨⟨h0, h1, h2, h3⟩, ⟨k0, k1, k2, k3⟩, ⟨m0, m1, m2, m3⟩, -⟩ := HK4.out _ B4.out
  cases hok : clB l
  · go_wp2
    go_ret
    exact ⟨by simp, HEND.out _ B4.out⟩
  clear k0 k1 k2 k3 m0 m1 m2 m3
  go_wp2_with fail
  refine (HHO.out _).mono ?_
  rintro e w5 ⟨rfl, b5⟩
  have B5 := Lib.hid (belStep B4.out b5)
  clear b5 B4 h0 h1 h2 h3
  obtain ⟨⟨h0, h1, h2, h3⟩, ⟨k0, k1, k2, k3⟩, ⟨m0, m1, m2, m3⟩, -⟩ := HK4.out _ B5.out
  cases hok2 : okB x y z
  · go_wp2
    go_ret
    exact ⟨by simp, HEND.out _ B5.out⟩
  by_cases hn6 : n = 6
  · subst hn6
    go_wp2
    go_ret
    exact ⟨by first | rfl | (simp; done), HEND.out _ B5.out⟩
  have hn6' : ((n : Int) == 6) = false := by simp; omega
  have hcd := HCD.out hok hok2
  simp only [Prod.mk.injEq] at hcd
  obtain ⟨rfl, rfl, e2, e3⟩ := hcd
  have HQD : Hid (doC l q0 q1 z = (q2, q3)) := by show _ = _; rw [e2, e3]
  have HPF : Hid (∀ (q : C3) W, Below w1.heap.size w1 W → Calls Tryd.prog 9 #[.string q.s, .agg #[.int .i64 q0, .int .i64 q1, .int .i64 z]] W fun e w' => e = .returned (.bool (fitC q q0 q1 z)) ∧ Below W.heap.size W w') := fun q W h => by
    have := HPH.out q W h
    rwa [hasL_fit q hok2] at this
  obtain ⟨k, hkd, hk3⟩ : ∃ k : Nat, (len' : Int) % 3 = (k : Int) ∧ k < 3 := ⟨len' % 3, by omega, Nat.mod_lt _ (by omega)⟩
  have hkt : (len' : Int).tmod 3 = (k : Int) := by rw [Int.tmod_eq_emod_of_nonneg (by omega)]; exact hkd
  have hn5 : n < 6 := by have := clB_six hok; rw [HN.out] at this; omega
  have HCX : Hid (∀ W u, Cls W W.heap.size u (l ++ [moreC k]) → Below w1.heap.size w1 W → Calls Tryd.prog 6 #[u, .agg #[.int .i64 q0, .int .i64 q1, .int .i64 z]] W fun e w' => e = .returned (.tuple #[.agg #[.int .i64 q0, .int .i64 q1, .int .i64 (doC (l ++ [moreC k]) q0 q1 z).1], .int .i64 (doC (l ++ [moreC k]) q0 q1 z).2]) ∧ Below W.heap.size W w') := fun W u h hb => by
    have := iClausesDo_any W u _ h (by simp [HN.out]; omega) q0 q1 z ep (HE2.out W hb)
    unfold cdV cd4 at this
    rw [clB_more hok (by rw [HN.out]; exact hn5) (moreC_ok hk3), hok2] at this
    exact this
  have HAPP := Lib.hid (doC_app (moreC k) q0 q1 z l)
  have HMT : Hid ((moreC k).t = -1 ∧ (moreC k).o = 3) := ⟨rfl, rfl⟩
  have hsat := moreS_at hk3
  have HMS : Hid ((moreC k).s = moreS k) := rfl
  have HPM := Lib.hid (fun W h => HPF.out (moreC k) W h)
  rw [HMS.out] at HPM
  have hk3z : (k : Int) < 3 := by omega
  have hva := HVS.out
  subst hva
  clear e2 e3 HPH HCD HO HHO hok hok2 HDR HD0 HDN h0 h1 h2 h3 k0 k1 k2 k3 m0 m1 m2 m3
  generalize doC (l ++ [moreC k]) q0 q1 z = D2 at *
  obtain ⟨y2, y3⟩ := D2
  have HW5 := Lib.hid (HK4.out _ B5.out).2.2.2
  go_wp2_with (first | (refine wl_str rfl _ rfl ⟨w5.heap.size, k, none⟩ rfl (moreS k) (more_cell w5 _ hk3) ?_) | fail)
  have hA5 := below_alloc2 w5 (.cells #[Value.string ⟨#[49]⟩, Value.string ⟨#[115, 49]⟩, Value.string ⟨#[33, 100, 50]⟩] 9) (.cells #[.string (moreS k), .int .i64 3, .int .i64 (-1)] 34)
  have hT5 := newThr (w5.alloc (.cells #[Value.string ⟨#[49]⟩, Value.string ⟨#[115, 49]⟩, Value.string ⟨#[33, 100, 50]⟩] 9)) (moreC k)
  have hz5 : ((w5.alloc (.cells #[Value.string ⟨#[49]⟩, Value.string ⟨#[115, 49]⟩, Value.string ⟨#[33, 100, 50]⟩] 9)).alloc (.cells #[.string (moreS k), .int .i64 3, .int .i64 (-1)] 34)).heap.size = w5.heap.size + 2 := by simp
  rw [show (w5.alloc (.cells #[Value.string ⟨#[49]⟩, Value.string ⟨#[115, 49]⟩, Value.string ⟨#[33, 100, 50]⟩] 9)).heap.size = w5.heap.size + 1 from by simp] at hT5
  rw [HMS.out, HMT.out.1, HMT.out.2] at hT5
  generalize ((w5.alloc (.cells #[Value.string ⟨#[49]⟩, Value.string ⟨#[115, 49]⟩, Value.string ⟨#[33, 100, 50]⟩] 9)).alloc (.cells #[.string (moreS k), .int .i64 3, .int .i64 (-1)] 34)) = Wb at *
  have HB6 := Lib.hid (belStep B5.out hA5)
  have HC6 : Hid (∀ W, Below Wb.heap.size Wb W → Thr W (w5.heap.size + 1) 0 (moreC k) ∧ w5.heap.size + 1 < W.heap.size) := fun W hW => ⟨hT5.below hW (by omega), by have := hW.size; omega⟩
  have HK6 : Hid (∀ W, Below Wb.heap.size Wb W → (W.cell? ⟨w1.heap.size, 0, none⟩ = some (.int .i64 q0) ∧ W.cell? ⟨w1.heap.size, 1, none⟩ = some (.int .i64 q1) ∧ W.cell? ⟨w1.heap.size, 2, none⟩ = some (.int .i64 z) ∧ w1.heap.size < W.heap.size) ∧
      (W.cell? ⟨p3, 0, none⟩ = some (.int .i64 q0) ∧ W.cell? ⟨p3, 1, none⟩ = some (.int .i64 q1) ∧ W.cell? ⟨p3, 2, none⟩ = some (.int .i64 q2) ∧ p3 < W.heap.size) ∧ Below w1.heap.size w1 W) := fun W hW => by
    obtain ⟨k1, -, k3, k4⟩ := HK4.out W (belStep HB6.out hW)
    exact ⟨k1, k3, k4⟩
  have HCX2 : Hid (∀ W u, ClaRow W Wb.heap.size u (l ++ [moreC k]) → Below Wb.heap.size Wb W → Calls Tryd.prog 6 #[u, .agg #[.int .i64 q0, .int .i64 q1, .int .i64 z]] W fun e w' => e = .returned (.tuple #[.agg #[.int .i64 q0, .int .i64 q1, .int .i64 y2], .int .i64 y3]) ∧ Below W.heap.size W w') := fun W u hr hW => HCX.out W u hr.cls (HK6.out W hW).2.2
  have HLL : Hid (∀ W, Below Wb.heap.size Wb W → ∀ i, i < l.length → Thr W vb (0 + i * 3) (clAt l i)) := fun W hW i hi => HVF.out W (HK6.out W hW).2.2 i (by rw [← HN.out]; exact hi)
  have HN9 : Hid (l.length = n) := HN.out
  have hn9 : l.length ≤ 5 := by rw [HN.out]; omega
  clear hA5 hT5 hz5 B5 HW5 HK4 HCX HFC HVF hsat
  refine wp_region_held_drew (S := fun W => Below Wb.heap.size Wb W) (by kernel_rfl) (Below.refl _ _).drew (fun hHeld => ?_)
  generalize hVV : Wb.drew = V at *
  clear hVV
  have HM := Lib.hid (Mo.start (moreC k) hHeld)
  refine wpAnyH_take (i := 1) (v := .slice (some ⟨vb, 0, none⟩) n vc) rfl (by kernel_rfl) (by kernel_rfl) (by kernel_rfl) (fun _ _ _ h => h) (Or.inl ⟨by rfl, ?_⟩) hHeld ?_
  · intro W hW
    go_simp
  simp [Act.put]
  refine wpAnyH_take (i := 3) (v := .agg #[.string (moreS k), .int .i64 3, .int .i64 (-1)]) rfl (by kernel_rfl) (by kernel_rfl) (by kernel_rfl) (fun _ _ _ h => h) (Or.inl ⟨by rfl, ?_⟩) hHeld ?_
  · intro W hW
    obtain ⟨⟨c0, c1, c2⟩, cl⟩ := HC6.out W hW; rw [HMS.out] at c0; rw [HMT.out.2] at c1; rw [HMT.out.1] at c2
    go_simp
  simp [Act.put]
  refine wpAnyH_take (i := 6) (v := .agg #[.int .i64 q0, .int .i64 q1, .int .i64 z]) rfl (by kernel_rfl) (by kernel_rfl) (by kernel_rfl) (fun _ _ _ h => h) (Or.inl ⟨by rfl, ?_⟩) hHeld ?_
  · intro W hW
    obtain ⟨⟨c0, c1, c2, cl⟩, -, -⟩ := HK6.out W hW
    go_simp
  simp [Act.put]
  refine wpAnyH_ready (rs := [0, 4, 11]) (by kernel_rfl) (by simp) ?_
  refine AllReadyH.cons rfl (fun K hK => ?_) (AllReadyH.cons rfl (fun K hK => ?_) (AllReadyH.cons rfl (fun K hK => ?_) (AllReadyH.nil)))
  (try rw [if_pos (by rfl)])
  go_simp
  have HM2 := Lib.hid HM.out.emp
  clear hHeld
  refine hK.out _ _ HM2.out.bel (fun hHeld => ?_)
  clear hK K HM
  have HM := Lib.hid HM2.out
  clear HM2
  generalize V.alloc (.cells #[] 34) = V2 at *
  generalize V.heap.size = n0 at *
  clear V
  refine wpAnyH_ready (rs := [2, 4, 11]) (by kernel_rfl) (by simp) ?_
  refine AllReadyH.cons rfl (fun K hK => ?_) (AllReadyH.cons rfl (fun K hK => ?_) (AllReadyH.cons rfl (fun K hK => ?_) (AllReadyH.nil)))
  (try rw [if_pos (by rfl)])
  refine appC (.tmp 79) (.tmp 80) rfl Wb.heap.size _ [] rfl HM.out.row vb 0 vc l (by rw [HN9.out]; rfl) (HLL.out _ hHeld) (by simp; omega) hHeld.size ?_
  rintro v1 V3 hrow hg ho
  have HM2 := Lib.hid (HM.out.app (show ClaRow V3 Wb.heap.size v1 l from hrow) hg ho)
  clear hrow hg ho HM
  clear hHeld
  refine hK.out _ _ HM2.out.bel (fun hHeld => ?_)
  clear hK K
  have HM := Lib.hid HM2.out
  clear HM2
  simp [Act.put]
  clear V2
  refine wpAnyH_ready (rs := [4, 11]) (by kernel_rfl) (by simp) ?_
  refine AllReadyH.cons rfl (fun K hK => ?_) (AllReadyH.cons rfl (fun K hK => ?_) (AllReadyH.nil))
  (try rw [if_pos (by rfl)])
  go_simp
  have HM2 := Lib.hid HM.out.one
  rw [HMS.out, HMT.out.1, HMT.out.2] at HM2
  clear hHeld
  refine hK.out _ _ HM2.out.bel (fun hHeld => ?_)
  clear hK K HM
  have HM := Lib.hid HM2.out
  clear HM2
  generalize V3.alloc (.cells #[.string (moreS k), .int .i64 3, .int .i64 (-1)] 34) = V4 at *
  generalize V3.heap.size = ng at *
  clear V3
  refine wpAnyH_ready (rs := [5, 11]) (by kernel_rfl) (by simp) ?_
  refine AllReadyH.cons rfl (fun K hK => ?_) (AllReadyH.cons rfl (fun K hK => ?_) (AllReadyH.nil))
  (try rw [if_pos (by rfl)])
  refine appC (.tmp 81) (.tmp 83) rfl Wb.heap.size _ l rfl HM.out.row ng 0 1 [moreC k] rfl (oneC (HM.out.lit _ rfl).1) (by simp; omega) hHeld.size ?_
  rintro v2 V5 hrow hg ho
  have HM2 := Lib.hid (HM.out.app hrow hg ho)
  clear hrow hg ho HM
  clear hHeld
  refine hK.out _ _ HM2.out.bel (fun hHeld => ?_)
  clear hK K
  have HM := Lib.hid HM2.out
  clear HM2
  simp [Act.put]
  clear V4
  refine wpAnyH_ready (rs := [7, 11]) (by kernel_rfl) (by simp) ?_
  refine AllReadyH.cons rfl (fun K hK => ?_) (AllReadyH.cons rfl (fun K hK => ?_) (AllReadyH.nil))
  (try rw [if_pos (by rfl)])
  go_simp
  refine (HCX2.out _ _ HM.out.row hHeld).mono ?_
  rintro e V6 ⟨rfl, bn⟩
  go_simp
  have HM2 := Lib.hid (HM.out.call bn)
  clear bn HM
  clear hHeld
  refine hK.out _ _ HM2.out.bel (fun hHeld => ?_)
  clear hK K
  have HM := Lib.hid HM2.out
  clear HM2
  clear V5
  refine wpAnyH_take (i := 8) (v := .tuple #[.agg #[.int .i64 q0, .int .i64 q1, .int .i64 y2], .int .i64 y3]) rfl (by kernel_rfl) (by kernel_rfl) (by kernel_rfl) (fun _ _ _ h => h) (Or.inl ⟨by rfl, ?_⟩) hHeld ?_
  · intro W hW
    go_simp
  simp [Act.put]
  refine wpAnyH_take (i := 9) (v := .agg #[.int .i64 q0, .int .i64 q1, .int .i64 y2]) rfl (by kernel_rfl) (by kernel_rfl) (by kernel_rfl) (fun _ _ _ h => h) (Or.inl ⟨by rfl, ?_⟩) hHeld ?_
  · intro W hW
    go_simp
  simp [Act.put]
  refine wpAnyH_take (i := 10) (v := .int .i64 y3) rfl (by kernel_rfl) (by kernel_rfl) (by kernel_rfl) (fun _ _ _ h => h) (Or.inl ⟨by rfl, ?_⟩) hHeld ?_
  · intro W hW
    go_simp
  simp [Act.put]
  refine wpAnyH_ready (rs := [11]) (by kernel_rfl) (by simp) ?_
  refine AllReadyH.cons rfl (fun K hK => ?_) (AllReadyH.nil)
  (try rw [if_pos (by rfl)])
  go_simp
  have HM2 := Lib.hid HM.out.hd
  clear hHeld
  refine hK.out _ _ HM2.out.bel (fun hHeld => ?_)
  clear hK K HM
  have HM := Lib.hid HM2.out
  clear HM2
  generalize V6.alloc (.cells #[.int .i64 0, .int .i64 0, .int .i64 0] 25) = V7 at *
  generalize V6.heap.size = np at *
  clear V6
  refine wpAnyH_ready (rs := [12]) (by kernel_rfl) (by simp) ?_
  refine AllReadyH.cons rfl (fun K hK => ?_) (AllReadyH.nil)
  (try rw [if_pos (by rfl)])
  obtain ⟨hx1, -, hx3⟩ := HM.out.box _ rfl
  obtain ⟨r0, r1, r2, rf⟩ := three_cells hx1
  have glt : np < V7.heap.size := (Array.getElem?_eq_some_iff.1 hx1).1
  go_simp
  have hB12 := ((HM.out.bel.setCell (p := ⟨np, 0, none⟩) hx3 (.int .i64 q0)).setCell (p := ⟨np, 1, none⟩) hx3 (.int .i64 q1)).setCell (p := ⟨np, 2, none⟩) hx3 (.int .i64 y2)
  have F := Lib.hid (And.intro (agg_cells hx1 (.int .i64 q0) (.int .i64 q1) (.int .i64 y2)) hB12)
  clear hHeld
  refine hK.out _ _ hB12 (fun hHeld => ?_)
  clear hK K
  clear hB12 hx1 hx3 r0 r1 r2 rf glt HM
  refine wpAnyH_take (i := 13) (v := .int .i64 y3) rfl (by kernel_rfl) (by kernel_rfl) (by kernel_rfl) (fun _ _ _ h => h) (Or.inl ⟨by rfl, ?_⟩) hHeld ?_
  · intro W hW
    go_simp
  simp [Act.put]
  refine wpAnyH_done (by kernel_rfl) ?_ _
  clear hHeld
  generalize (((V7.setCell ⟨np, 0, none⟩ (.int .i64 q0)).setCell ⟨np, 1, none⟩ (.int .i64 q1)).setCell ⟨np, 2, none⟩ (.int .i64 y2)) = D at *
  clear V7
  revert F
  revert D
  revert v2
  revert v1
  revert np
  revert ng
  revert n0
  refine ?rest
  rotate_left
  (try rw [if_pos (by rfl)])
  go_simp
  have HM2 := Lib.hid HM.out.hd
  clear hHeld
  refine hK.out _ _ HM2.out.bel (fun hHeld => ?_)
  clear hK K HM
  have HM := Lib.hid HM2.out
  clear HM2
  generalize V5.alloc (.cells #[.int .i64 0, .int .i64 0, .int .i64 0] 25) = V6 at *
  generalize V5.heap.size = np at *
  clear V5
  refine wpAnyH_ready (rs := [7]) (by kernel_rfl) (by simp) ?_
  refine AllReadyH.cons rfl (fun K hK => ?_) (AllReadyH.nil)
  (try rw [if_pos (by rfl)])
  go_simp
  refine (HCX2.out _ _ HM.out.row hHeld).mono ?_
  rintro e V7 ⟨rfl, bn⟩
  go_simp
  have HM2 := Lib.hid (HM.out.call bn)
  clear bn HM
  clear hHeld
  refine hK.out _ _ HM2.out.bel (fun hHeld => ?_)
  clear hK K
  have HM := Lib.hid HM2.out
  clear HM2
  clear V6
  refine wpAnyH_take (i := 8) (v := .tuple #[.agg #[.int .i64 q0, .int .i64 q1, .int .i64 y2], .int .i64 y3]) rfl (by kernel_rfl) (by kernel_rfl) (by kernel_rfl) (fun _ _ _ h => h) (Or.inl ⟨by rfl, ?_⟩) hHeld ?_
  · intro W hW
    go_simp
  simp [Act.put]
  refine wpAnyH_take (i := 9) (v := .agg #[.int .i64 q0, .int .i64 q1, .int .i64 y2]) rfl (by kernel_rfl) (by kernel_rfl) (by kernel_rfl) (fun _ _ _ h => h) (Or.inl ⟨by rfl, ?_⟩) hHeld ?_
  · intro W hW
    go_simp
  simp [Act.put]
  refine wpAnyH_take (i := 10) (v := .int .i64 y3) rfl (by kernel_rfl) (by kernel_rfl) (by kernel_rfl) (fun _ _ _ h => h) (Or.inl ⟨by rfl, ?_⟩) hHeld ?_
  · intro W hW
    go_simp
  simp [Act.put]
  refine wpAnyH_ready (rs := [12]) (by kernel_rfl) (by simp) ?_
  refine AllReadyH.cons rfl (fun K hK => ?_) (AllReadyH.nil)
  (try rw [if_pos (by rfl)])
  obtain ⟨hx1, -, hx3⟩ := HM.out.box _ rfl
  obtain ⟨r0, r1, r2, rf⟩ := three_cells hx1
  have glt : np < V7.heap.size := (Array.getElem?_eq_some_iff.1 hx1).1
  go_simp
  have hB12 := ((HM.out.bel.setCell (p := ⟨np, 0, none⟩) hx3 (.int .i64 q0)).setCell (p := ⟨np, 1, none⟩) hx3 (.int .i64 q1)).setCell (p := ⟨np, 2, none⟩) hx3 (.int .i64 y2)
  have F := Lib.hid (And.intro (agg_cells hx1 (.int .i64 q0) (.int .i64 q1) (.int .i64 y2)) hB12)
  clear hHeld
  refine hK.out _ _ hB12 (fun hHeld => ?_)
  clear hK K
  clear hB12 hx1 hx3 r0 r1 r2 rf glt HM
  refine wpAnyH_take (i := 13) (v := .int .i64 y3) rfl (by kernel_rfl) (by kernel_rfl) (by kernel_rfl) (fun _ _ _ h => h) (Or.inl ⟨by rfl, ?_⟩) hHeld ?_
  · intro W hW
    go_simp
  simp [Act.put]
  refine wpAnyH_done (by kernel_rfl) ?_ _
  clear hHeld
  generalize (((V7.setCell ⟨np, 0, none⟩ (.int .i64 q0)).setCell ⟨np, 1, none⟩ (.int .i64 q1)).setCell ⟨np, 2, none⟩ (.int .i64 y2)) = D at *
  clear V7
  revert F
  revert D
  revert v2
  revert v1
  revert np
  revert ng
  revert n0
  exact ?rest
  (try rw [if_pos (by rfl)])
  go_simp
  have HM2 := Lib.hid HM.out.hd
  clear hHeld
  refine hK.out _ _ HM2.out.bel (fun hHeld => ?_)
  clear hK K HM
  have HM := Lib.hid HM2.out
  clear HM2
  generalize V4.alloc (.cells #[.int .i64 0, .int .i64 0, .int .i64 0] 25) = V5 at *
  generalize V4.heap.size = np at *
  clear V4
  refine wpAnyH_ready (rs := [5]) (by kernel_rfl) (by simp) ?_
  refine AllReadyH.cons rfl (fun K hK => ?_) (AllReadyH.nil)
  (try rw [if_pos (by rfl)])
  refine appC (.tmp 81) (.tmp 83) rfl Wb.heap.size _ l rfl HM.out.row ng 0 1 [moreC k] rfl (oneC (HM.out.lit _ rfl).1) (by simp; omega) hHeld.size ?_
  rintro v2 V6 hrow hg ho
  have HM2 := Lib.hid (HM.out.app hrow hg ho)
  clear hrow hg ho HM
  clear hHeld
  refine hK.out _ _ HM2.out.bel (fun hHeld => ?_)
  clear hK K
  have HM := Lib.hid HM2.out
  clear HM2
  simp [Act.put]
  clear V5
  refine wpAnyH_ready (rs := [7]) (by kernel_rfl) (by simp) ?_
  refine AllReadyH.cons rfl (fun K hK => ?_) (AllReadyH.nil)
  (try rw [if_pos (by rfl)])
  go_simp
  refine (HCX2.out _ _ HM.out.row hHeld).mono ?_
  rintro e V7 ⟨rfl, bn⟩
  go_simp
  have HM2 := Lib.hid (HM.out.call bn)
  clear bn HM
  clear hHeld
  refine hK.out _ _ HM2.out.bel (fun hHeld => ?_)
  clear hK K
  have HM := Lib.hid HM2.out
  clear HM2
  clear V6
  refine wpAnyH_take (i := 8) (v := .tuple #[.agg #[.int .i64 q0, .int .i64 q1, .int .i64 y2], .int .i64 y3]) rfl (by kernel_rfl) (by kernel_rfl) (by kernel_rfl) (fun _ _ _ h => h) (Or.inl ⟨by rfl, ?_⟩) hHeld ?_
  · intro W hW
    go_simp
  simp [Act.put]
  refine wpAnyH_take (i := 9) (v := .agg #[.int .i64 q0, .int .i64 q1, .int .i64 y2]) rfl (by kernel_rfl) (by kernel_rfl) (by kernel_rfl) (fun _ _ _ h => h) (Or.inl ⟨by rfl, ?_⟩) hHeld ?_
  · intro W hW
    go_simp
  simp [Act.put]
  refine wpAnyH_take (i := 10) (v := .int .i64 y3) rfl (by kernel_rfl) (by kernel_rfl) (by kernel_rfl) (fun _ _ _ h => h) (Or.inl ⟨by rfl, ?_⟩) hHeld ?_
  · intro W hW
    go_simp
  simp [Act.put]
  refine wpAnyH_ready (rs := [12]) (by kernel_rfl) (by simp) ?_
  refine AllReadyH.cons rfl (fun K hK => ?_) (AllReadyH.nil)
  (try rw [if_pos (by rfl)])
  obtain ⟨hx1, -, hx3⟩ := HM.out.box _ rfl
  obtain ⟨r0, r1, r2, rf⟩ := three_cells hx1
  have glt : np < V7.heap.size := (Array.getElem?_eq_some_iff.1 hx1).1
  go_simp
  have hB12 := ((HM.out.bel.setCell (p := ⟨np, 0, none⟩) hx3 (.int .i64 q0)).setCell (p := ⟨np, 1, none⟩) hx3 (.int .i64 q1)).setCell (p := ⟨np, 2, none⟩) hx3 (.int .i64 y2)
  have F := Lib.hid (And.intro (agg_cells hx1 (.int .i64 q0) (.int .i64 q1) (.int .i64 y2)) hB12)
  clear hHeld
  refine hK.out _ _ hB12 (fun hHeld => ?_)
  clear hK K
  clear hB12 hx1 hx3 r0 r1 r2 rf glt HM
  refine wpAnyH_take (i := 13) (v := .int .i64 y3) rfl (by kernel_rfl) (by kernel_rfl) (by kernel_rfl) (fun _ _ _ h => h) (Or.inl ⟨by rfl, ?_⟩) hHeld ?_
  · intro W hW
    go_simp
  simp [Act.put]
  refine wpAnyH_done (by kernel_rfl) ?_ _
  clear hHeld
  generalize (((V7.setCell ⟨np, 0, none⟩ (.int .i64 q0)).setCell ⟨np, 1, none⟩ (.int .i64 q1)).setCell ⟨np, 2, none⟩ (.int .i64 y2)) = D at *
  clear V7
  revert F
  revert D
  revert v2
  revert v1
  revert np
  revert ng
  revert n0
  exact ?rest
  (try rw [if_pos (by rfl)])
  go_simp
  have HM2 := Lib.hid HM.out.hd
  clear hHeld
  refine hK.out _ _ HM2.out.bel (fun hHeld => ?_)
  clear hK K HM
  have HM := Lib.hid HM2.out
  clear HM2
  generalize V3.alloc (.cells #[.int .i64 0, .int .i64 0, .int .i64 0] 25) = V4 at *
  generalize V3.heap.size = np at *
  clear V3
  refine wpAnyH_ready (rs := [4]) (by kernel_rfl) (by simp) ?_
  refine AllReadyH.cons rfl (fun K hK => ?_) (AllReadyH.nil)
  (try rw [if_pos (by rfl)])
  go_simp
  have HM2 := Lib.hid HM.out.one
  rw [HMS.out, HMT.out.1, HMT.out.2] at HM2
  clear hHeld
  refine hK.out _ _ HM2.out.bel (fun hHeld => ?_)
  clear hK K HM
  have HM := Lib.hid HM2.out
  clear HM2
  generalize V4.alloc (.cells #[.string (moreS k), .int .i64 3, .int .i64 (-1)] 34) = V5 at *
  generalize V4.heap.size = ng at *
  clear V4
  refine wpAnyH_ready (rs := [5]) (by kernel_rfl) (by simp) ?_
  refine AllReadyH.cons rfl (fun K hK => ?_) (AllReadyH.nil)
  (try rw [if_pos (by rfl)])
  refine appC (.tmp 81) (.tmp 83) rfl Wb.heap.size _ l rfl HM.out.row ng 0 1 [moreC k] rfl (oneC (HM.out.lit _ rfl).1) (by simp; omega) hHeld.size ?_
  rintro v2 V6 hrow hg ho
  have HM2 := Lib.hid (HM.out.app hrow hg ho)
  clear hrow hg ho HM
  clear hHeld
  refine hK.out _ _ HM2.out.bel (fun hHeld => ?_)
  clear hK K
  have HM := Lib.hid HM2.out
  clear HM2
  simp [Act.put]
  clear V5
  refine wpAnyH_ready (rs := [7]) (by kernel_rfl) (by simp) ?_
  refine AllReadyH.cons rfl (fun K hK => ?_) (AllReadyH.nil)
  (try rw [if_pos (by rfl)])
  go_simp
  refine (HCX2.out _ _ HM.out.row hHeld).mono ?_
  rintro e V7 ⟨rfl, bn⟩
  go_simp
  have HM2 := Lib.hid (HM.out.call bn)
  clear bn HM
  clear hHeld
  refine hK.out _ _ HM2.out.bel (fun hHeld => ?_)
  clear hK K
  have HM := Lib.hid HM2.out
  clear HM2
  clear V6
  refine wpAnyH_take (i := 8) (v := .tuple #[.agg #[.int .i64 q0, .int .i64 q1, .int .i64 y2], .int .i64 y3]) rfl (by kernel_rfl) (by kernel_rfl) (by kernel_rfl) (fun _ _ _ h => h) (Or.inl ⟨by rfl, ?_⟩) hHeld ?_
  · intro W hW
    go_simp
  simp [Act.put]
  refine wpAnyH_take (i := 9) (v := .agg #[.int .i64 q0, .int .i64 q1, .int .i64 y2]) rfl (by kernel_rfl) (by kernel_rfl) (by kernel_rfl) (fun _ _ _ h => h) (Or.inl ⟨by rfl, ?_⟩) hHeld ?_
  · intro W hW
    go_simp
  simp [Act.put]
  refine wpAnyH_take (i := 10) (v := .int .i64 y3) rfl (by kernel_rfl) (by kernel_rfl) (by kernel_rfl) (fun _ _ _ h => h) (Or.inl ⟨by rfl, ?_⟩) hHeld ?_
  · intro W hW
    go_simp
  simp [Act.put]
  refine wpAnyH_ready (rs := [12]) (by kernel_rfl) (by simp) ?_
  refine AllReadyH.cons rfl (fun K hK => ?_) (AllReadyH.nil)
  (try rw [if_pos (by rfl)])
  obtain ⟨hx1, -, hx3⟩ := HM.out.box _ rfl
  obtain ⟨r0, r1, r2, rf⟩ := three_cells hx1
  have glt : np < V7.heap.size := (Array.getElem?_eq_some_iff.1 hx1).1
  go_simp
  have hB12 := ((HM.out.bel.setCell (p := ⟨np, 0, none⟩) hx3 (.int .i64 q0)).setCell (p := ⟨np, 1, none⟩) hx3 (.int .i64 q1)).setCell (p := ⟨np, 2, none⟩) hx3 (.int .i64 y2)
  have F := Lib.hid (And.intro (agg_cells hx1 (.int .i64 q0) (.int .i64 q1) (.int .i64 y2)) hB12)
  clear hHeld
  refine hK.out _ _ hB12 (fun hHeld => ?_)
  clear hK K
  clear hB12 hx1 hx3 r0 r1 r2 rf glt HM
  refine wpAnyH_take (i := 13) (v := .int .i64 y3) rfl (by kernel_rfl) (by kernel_rfl) (by kernel_rfl) (fun _ _ _ h => h) (Or.inl ⟨by rfl, ?_⟩) hHeld ?_
  · intro W hW
    go_simp
  simp [Act.put]
  refine wpAnyH_done (by kernel_rfl) ?_ _
  clear hHeld
  generalize (((V7.setCell ⟨np, 0, none⟩ (.int .i64 q0)).setCell ⟨np, 1, none⟩ (.int .i64 q1)).setCell ⟨np, 2, none⟩ (.int .i64 y2)) = D at *
  clear V7
  revert F
  revert D
  revert v2
  revert v1
  revert np
  revert ng
  revert n0
  exact ?rest
  (try rw [if_pos (by rfl)])
  go_simp
  have HM2 := Lib.hid HM.out.one
  rw [HMS.out, HMT.out.1, HMT.out.2] at HM2
  clear hHeld
  refine hK.out _ _ HM2.out.bel (fun hHeld => ?_)
  clear hK K HM
  have HM := Lib.hid HM2.out
  clear HM2
  generalize V2.alloc (.cells #[.string (moreS k), .int .i64 3, .int .i64 (-1)] 34) = V3 at *
  generalize V2.heap.size = ng at *
  clear V2
  refine wpAnyH_ready (rs := [2, 11]) (by kernel_rfl) (by simp) ?_
  refine AllReadyH.cons rfl (fun K hK => ?_) (AllReadyH.cons rfl (fun K hK => ?_) (AllReadyH.nil))
  (try rw [if_pos (by rfl)])
  refine appC (.tmp 79) (.tmp 80) rfl Wb.heap.size _ [] rfl HM.out.row vb 0 vc l (by rw [HN9.out]; rfl) (HLL.out _ hHeld) (by simp; omega) hHeld.size ?_
  rintro v1 V4 hrow hg ho
  have HM2 := Lib.hid (HM.out.app (show ClaRow V4 Wb.heap.size v1 l from hrow) hg ho)
  clear hrow hg ho HM
  clear hHeld
  refine hK.out _ _ HM2.out.bel (fun hHeld => ?_)
  clear hK K
  have HM := Lib.hid HM2.out
  clear HM2
  simp [Act.put]
  clear V3
  refine wpAnyH_ready (rs := [5, 11]) (by kernel_rfl) (by simp) ?_
  refine AllReadyH.cons rfl (fun K hK => ?_) (AllReadyH.cons rfl (fun K hK => ?_) (AllReadyH.nil))
  (try rw [if_pos (by rfl)])
  refine appC (.tmp 81) (.tmp 83) rfl Wb.heap.size _ l rfl HM.out.row ng 0 1 [moreC k] rfl (oneC (HM.out.lit _ rfl).1) (by simp; omega) hHeld.size ?_
  rintro v2 V5 hrow hg ho
  have HM2 := Lib.hid (HM.out.app hrow hg ho)
  clear hrow hg ho HM
  clear hHeld
  refine hK.out _ _ HM2.out.bel (fun hHeld => ?_)
  clear hK K
  have HM := Lib.hid HM2.out
  clear HM2
  simp [Act.put]
  clear V4
  refine wpAnyH_ready (rs := [7, 11]) (by kernel_rfl) (by simp) ?_
  refine AllReadyH.cons rfl (fun K hK => ?_) (AllReadyH.cons rfl (fun K hK => ?_) (AllReadyH.nil))
  (try rw [if_pos (by rfl)])
  go_simp
  refine (HCX2.out _ _ HM.out.row hHeld).mono ?_
  rintro e V6 ⟨rfl, bn⟩
  go_simp
  have HM2 := Lib.hid (HM.out.call bn)
  clear bn HM
  clear hHeld
  refine hK.out _ _ HM2.out.bel (fun hHeld => ?_)
  clear hK K
  have HM := Lib.hid HM2.out
  clear HM2
  clear V5
  refine wpAnyH_take (i := 8) (v := .tuple #[.agg #[.int .i64 q0, .int .i64 q1, .int .i64 y2], .int .i64 y3]) rfl (by kernel_rfl) (by kernel_rfl) (by kernel_rfl) (fun _ _ _ h => h) (Or.inl ⟨by rfl, ?_⟩) hHeld ?_
  · intro W hW
    go_simp
  simp [Act.put]
  refine wpAnyH_take (i := 9) (v := .agg #[.int .i64 q0, .int .i64 q1, .int .i64 y2]) rfl (by kernel_rfl) (by kernel_rfl) (by kernel_rfl) (fun _ _ _ h => h) (Or.inl ⟨by rfl, ?_⟩) hHeld ?_
  · intro W hW
    go_simp
  simp [Act.put]
  refine wpAnyH_take (i := 10) (v := .int .i64 y3) rfl (by kernel_rfl) (by kernel_rfl) (by kernel_rfl) (fun _ _ _ h => h) (Or.inl ⟨by rfl, ?_⟩) hHeld ?_
  · intro W hW
    go_simp
  simp [Act.put]
  refine wpAnyH_ready (rs := [11]) (by kernel_rfl) (by simp) ?_
  refine AllReadyH.cons rfl (fun K hK => ?_) (AllReadyH.nil)
  (try rw [if_pos (by rfl)])
  go_simp
  have HM2 := Lib.hid HM.out.hd
  clear hHeld
  refine hK.out _ _ HM2.out.bel (fun hHeld => ?_)
  clear hK K HM
  have HM := Lib.hid HM2.out
  clear HM2
  generalize V6.alloc (.cells #[.int .i64 0, .int .i64 0, .int .i64 0] 25) = V7 at *
  generalize V6.heap.size = np at *
  clear V6
  refine wpAnyH_ready (rs := [12]) (by kernel_rfl) (by simp) ?_
  refine AllReadyH.cons rfl (fun K hK => ?_) (AllReadyH.nil)
  (try rw [if_pos (by rfl)])
  obtain ⟨hx1, -, hx3⟩ := HM.out.box _ rfl
  obtain ⟨r0, r1, r2, rf⟩ := three_cells hx1
  have glt : np < V7.heap.size := (Array.getElem?_eq_some_iff.1 hx1).1
  go_simp
  have hB12 := ((HM.out.bel.setCell (p := ⟨np, 0, none⟩) hx3 (.int .i64 q0)).setCell (p := ⟨np, 1, none⟩) hx3 (.int .i64 q1)).setCell (p := ⟨np, 2, none⟩) hx3 (.int .i64 y2)
  have F := Lib.hid (And.intro (agg_cells hx1 (.int .i64 q0) (.int .i64 q1) (.int .i64 y2)) hB12)
  clear hHeld
  refine hK.out _ _ hB12 (fun hHeld => ?_)
  clear hK K
  clear hB12 hx1 hx3 r0 r1 r2 rf glt HM
  refine wpAnyH_take (i := 13) (v := .int .i64 y3) rfl (by kernel_rfl) (by kernel_rfl) (by kernel_rfl) (fun _ _ _ h => h) (Or.inl ⟨by rfl, ?_⟩) hHeld ?_
  · intro W hW
    go_simp
  simp [Act.put]
  refine wpAnyH_done (by kernel_rfl) ?_ _
  clear hHeld
  generalize (((V7.setCell ⟨np, 0, none⟩ (.int .i64 q0)).setCell ⟨np, 1, none⟩ (.int .i64 q1)).setCell ⟨np, 2, none⟩ (.int .i64 y2)) = D at *
  clear V7
  revert F
  revert D
  revert v2
  revert v1
  revert np
  revert ng
  revert n0
  exact ?rest
  (try rw [if_pos (by rfl)])
  go_simp
  have HM2 := Lib.hid HM.out.hd
  clear hHeld
  refine hK.out _ _ HM2.out.bel (fun hHeld => ?_)
  clear hK K HM
  have HM := Lib.hid HM2.out
  clear HM2
  generalize V5.alloc (.cells #[.int .i64 0, .int .i64 0, .int .i64 0] 25) = V6 at *
  generalize V5.heap.size = np at *
  clear V5
  refine wpAnyH_ready (rs := [7]) (by kernel_rfl) (by simp) ?_
  refine AllReadyH.cons rfl (fun K hK => ?_) (AllReadyH.nil)
  (try rw [if_pos (by rfl)])
  go_simp
  refine (HCX2.out _ _ HM.out.row hHeld).mono ?_
  rintro e V7 ⟨rfl, bn⟩
  go_simp
  have HM2 := Lib.hid (HM.out.call bn)
  clear bn HM
  clear hHeld
  refine hK.out _ _ HM2.out.bel (fun hHeld => ?_)
  clear hK K
  have HM := Lib.hid HM2.out
  clear HM2
  clear V6
  refine wpAnyH_take (i := 8) (v := .tuple #[.agg #[.int .i64 q0, .int .i64 q1, .int .i64 y2], .int .i64 y3]) rfl (by kernel_rfl) (by kernel_rfl) (by kernel_rfl) (fun _ _ _ h => h) (Or.inl ⟨by rfl, ?_⟩) hHeld ?_
  · intro W hW
    go_simp
  simp [Act.put]
  refine wpAnyH_take (i := 9) (v := .agg #[.int .i64 q0, .int .i64 q1, .int .i64 y2]) rfl (by kernel_rfl) (by kernel_rfl) (by kernel_rfl) (fun _ _ _ h => h) (Or.inl ⟨by rfl, ?_⟩) hHeld ?_
  · intro W hW
    go_simp
  simp [Act.put]
  refine wpAnyH_take (i := 10) (v := .int .i64 y3) rfl (by kernel_rfl) (by kernel_rfl) (by kernel_rfl) (fun _ _ _ h => h) (Or.inl ⟨by rfl, ?_⟩) hHeld ?_
  · intro W hW
    go_simp
  simp [Act.put]
  refine wpAnyH_ready (rs := [12]) (by kernel_rfl) (by simp) ?_
  refine AllReadyH.cons rfl (fun K hK => ?_) (AllReadyH.nil)
  (try rw [if_pos (by rfl)])
  obtain ⟨hx1, -, hx3⟩ := HM.out.box _ rfl
  obtain ⟨r0, r1, r2, rf⟩ := three_cells hx1
  have glt : np < V7.heap.size := (Array.getElem?_eq_some_iff.1 hx1).1
  go_simp
  have hB12 := ((HM.out.bel.setCell (p := ⟨np, 0, none⟩) hx3 (.int .i64 q0)).setCell (p := ⟨np, 1, none⟩) hx3 (.int .i64 q1)).setCell (p := ⟨np, 2, none⟩) hx3 (.int .i64 y2)
  have F := Lib.hid (And.intro (agg_cells hx1 (.int .i64 q0) (.int .i64 q1) (.int .i64 y2)) hB12)
  clear hHeld
  refine hK.out _ _ hB12 (fun hHeld => ?_)
  clear hK K
  clear hB12 hx1 hx3 r0 r1 r2 rf glt HM
  refine wpAnyH_take (i := 13) (v := .int .i64 y3) rfl (by kernel_rfl) (by kernel_rfl) (by kernel_rfl) (fun _ _ _ h => h) (Or.inl ⟨by rfl, ?_⟩) hHeld ?_
  · intro W hW
    go_simp
  simp [Act.put]
  refine wpAnyH_done (by kernel_rfl) ?_ _
  clear hHeld
  generalize (((V7.setCell ⟨np, 0, none⟩ (.int .i64 q0)).setCell ⟨np, 1, none⟩ (.int .i64 q1)).setCell ⟨np, 2, none⟩ (.int .i64 y2)) = D at *
  clear V7
  revert F
  revert D
  revert v2
  revert v1
  revert np
  revert ng
  revert n0
  exact ?rest
  (try rw [if_pos (by rfl)])
  go_simp
  have HM2 := Lib.hid HM.out.hd
  clear hHeld
  refine hK.out _ _ HM2.out.bel (fun hHeld => ?_)
  clear hK K HM
  have HM := Lib.hid HM2.out
  clear HM2
  generalize V4.alloc (.cells #[.int .i64 0, .int .i64 0, .int .i64 0] 25) = V5 at *
  generalize V4.heap.size = np at *
  clear V4
  refine wpAnyH_ready (rs := [5]) (by kernel_rfl) (by simp) ?_
  refine AllReadyH.cons rfl (fun K hK => ?_) (AllReadyH.nil)
  (try rw [if_pos (by rfl)])
  refine appC (.tmp 81) (.tmp 83) rfl Wb.heap.size _ l rfl HM.out.row ng 0 1 [moreC k] rfl (oneC (HM.out.lit _ rfl).1) (by simp; omega) hHeld.size ?_
  rintro v2 V6 hrow hg ho
  have HM2 := Lib.hid (HM.out.app hrow hg ho)
  clear hrow hg ho HM
  clear hHeld
  refine hK.out _ _ HM2.out.bel (fun hHeld => ?_)
  clear hK K
  have HM := Lib.hid HM2.out
  clear HM2
  simp [Act.put]
  clear V5
  refine wpAnyH_ready (rs := [7]) (by kernel_rfl) (by simp) ?_
  refine AllReadyH.cons rfl (fun K hK => ?_) (AllReadyH.nil)
  (try rw [if_pos (by rfl)])
  go_simp
  refine (HCX2.out _ _ HM.out.row hHeld).mono ?_
  rintro e V7 ⟨rfl, bn⟩
  go_simp
  have HM2 := Lib.hid (HM.out.call bn)
  clear bn HM
  clear hHeld
  refine hK.out _ _ HM2.out.bel (fun hHeld => ?_)
  clear hK K
  have HM := Lib.hid HM2.out
  clear HM2
  clear V6
  refine wpAnyH_take (i := 8) (v := .tuple #[.agg #[.int .i64 q0, .int .i64 q1, .int .i64 y2], .int .i64 y3]) rfl (by kernel_rfl) (by kernel_rfl) (by kernel_rfl) (fun _ _ _ h => h) (Or.inl ⟨by rfl, ?_⟩) hHeld ?_
  · intro W hW
    go_simp
  simp [Act.put]
  refine wpAnyH_take (i := 9) (v := .agg #[.int .i64 q0, .int .i64 q1, .int .i64 y2]) rfl (by kernel_rfl) (by kernel_rfl) (by kernel_rfl) (fun _ _ _ h => h) (Or.inl ⟨by rfl, ?_⟩) hHeld ?_
  · intro W hW
    go_simp
  simp [Act.put]
  refine wpAnyH_take (i := 10) (v := .int .i64 y3) rfl (by kernel_rfl) (by kernel_rfl) (by kernel_rfl) (fun _ _ _ h => h) (Or.inl ⟨by rfl, ?_⟩) hHeld ?_
  · intro W hW
    go_simp
  simp [Act.put]
  refine wpAnyH_ready (rs := [12]) (by kernel_rfl) (by simp) ?_
  refine AllReadyH.cons rfl (fun K hK => ?_) (AllReadyH.nil)
  (try rw [if_pos (by rfl)])
  obtain ⟨hx1, -, hx3⟩ := HM.out.box _ rfl
  obtain ⟨r0, r1, r2, rf⟩ := three_cells hx1
  have glt : np < V7.heap.size := (Array.getElem?_eq_some_iff.1 hx1).1
  go_simp
  have hB12 := ((HM.out.bel.setCell (p := ⟨np, 0, none⟩) hx3 (.int .i64 q0)).setCell (p := ⟨np, 1, none⟩) hx3 (.int .i64 q1)).setCell (p := ⟨np, 2, none⟩) hx3 (.int .i64 y2)
  have F := Lib.hid (And.intro (agg_cells hx1 (.int .i64 q0) (.int .i64 q1) (.int .i64 y2)) hB12)
  clear hHeld
  refine hK.out _ _ hB12 (fun hHeld => ?_)
  clear hK K
  clear hB12 hx1 hx3 r0 r1 r2 rf glt HM
  refine wpAnyH_take (i := 13) (v := .int .i64 y3) rfl (by kernel_rfl) (by kernel_rfl) (by kernel_rfl) (fun _ _ _ h => h) (Or.inl ⟨by rfl, ?_⟩) hHeld ?_
  · intro W hW
    go_simp
  simp [Act.put]
  refine wpAnyH_done (by kernel_rfl) ?_ _
  clear hHeld
  generalize (((V7.setCell ⟨np, 0, none⟩ (.int .i64 q0)).setCell ⟨np, 1, none⟩ (.int .i64 q1)).setCell ⟨np, 2, none⟩ (.int .i64 y2)) = D at *
  clear V7
  revert F
  revert D
  revert v2
  revert v1
  revert np
  revert ng
  revert n0
  exact ?rest
  (try rw [if_pos (by rfl)])
  go_simp
  have HM2 := Lib.hid HM.out.hd
  clear hHeld
  refine hK.out _ _ HM2.out.bel (fun hHeld => ?_)
  clear hK K HM
  have HM := Lib.hid HM2.out
  clear HM2
  generalize V3.alloc (.cells #[.int .i64 0, .int .i64 0, .int .i64 0] 25) = V4 at *
  generalize V3.heap.size = np at *
  clear V3
  refine wpAnyH_ready (rs := [2]) (by kernel_rfl) (by simp) ?_
  refine AllReadyH.cons rfl (fun K hK => ?_) (AllReadyH.nil)
  (try rw [if_pos (by rfl)])
  refine appC (.tmp 79) (.tmp 80) rfl Wb.heap.size _ [] rfl HM.out.row vb 0 vc l (by rw [HN9.out]; rfl) (HLL.out _ hHeld) (by simp; omega) hHeld.size ?_
  rintro v1 V5 hrow hg ho
  have HM2 := Lib.hid (HM.out.app (show ClaRow V5 Wb.heap.size v1 l from hrow) hg ho)
  clear hrow hg ho HM
  clear hHeld
  refine hK.out _ _ HM2.out.bel (fun hHeld => ?_)
  clear hK K
  have HM := Lib.hid HM2.out
  clear HM2
  simp [Act.put]
  clear V4
  refine wpAnyH_ready (rs := [5]) (by kernel_rfl) (by simp) ?_
  refine AllReadyH.cons rfl (fun K hK => ?_) (AllReadyH.nil)
  (try rw [if_pos (by rfl)])
  refine appC (.tmp 81) (.tmp 83) rfl Wb.heap.size _ l rfl HM.out.row ng 0 1 [moreC k] rfl (oneC (HM.out.lit _ rfl).1) (by simp; omega) hHeld.size ?_
  rintro v2 V6 hrow hg ho
  have HM2 := Lib.hid (HM.out.app hrow hg ho)
  clear hrow hg ho HM
  clear hHeld
  refine hK.out _ _ HM2.out.bel (fun hHeld => ?_)
  clear hK K
  have HM := Lib.hid HM2.out
  clear HM2
  simp [Act.put]
  clear V5
  refine wpAnyH_ready (rs := [7]) (by kernel_rfl) (by simp) ?_
  refine AllReadyH.cons rfl (fun K hK => ?_) (AllReadyH.nil)
  (try rw [if_pos (by rfl)])
  go_simp
  refine (HCX2.out _ _ HM.out.row hHeld).mono ?_
  rintro e V7 ⟨rfl, bn⟩
  go_simp
  have HM2 := Lib.hid (HM.out.call bn)
  clear bn HM
  clear hHeld
  refine hK.out _ _ HM2.out.bel (fun hHeld => ?_)
  clear hK K
  have HM := Lib.hid HM2.out
  clear HM2
  clear V6
  refine wpAnyH_take (i := 8) (v := .tuple #[.agg #[.int .i64 q0, .int .i64 q1, .int .i64 y2], .int .i64 y3]) rfl (by kernel_rfl) (by kernel_rfl) (by kernel_rfl) (fun _ _ _ h => h) (Or.inl ⟨by rfl, ?_⟩) hHeld ?_
  · intro W hW
    go_simp
  simp [Act.put]
  refine wpAnyH_take (i := 9) (v := .agg #[.int .i64 q0, .int .i64 q1, .int .i64 y2]) rfl (by kernel_rfl) (by kernel_rfl) (by kernel_rfl) (fun _ _ _ h => h) (Or.inl ⟨by rfl, ?_⟩) hHeld ?_
  · intro W hW
    go_simp
  simp [Act.put]
  refine wpAnyH_take (i := 10) (v := .int .i64 y3) rfl (by kernel_rfl) (by kernel_rfl) (by kernel_rfl) (fun _ _ _ h => h) (Or.inl ⟨by rfl, ?_⟩) hHeld ?_
  · intro W hW
    go_simp
  simp [Act.put]
  refine wpAnyH_ready (rs := [12]) (by kernel_rfl) (by simp) ?_
  refine AllReadyH.cons rfl (fun K hK => ?_) (AllReadyH.nil)
  (try rw [if_pos (by rfl)])
  obtain ⟨hx1, -, hx3⟩ := HM.out.box _ rfl
  obtain ⟨r0, r1, r2, rf⟩ := three_cells hx1
  have glt : np < V7.heap.size := (Array.getElem?_eq_some_iff.1 hx1).1
  go_simp
  have hB12 := ((HM.out.bel.setCell (p := ⟨np, 0, none⟩) hx3 (.int .i64 q0)).setCell (p := ⟨np, 1, none⟩) hx3 (.int .i64 q1)).setCell (p := ⟨np, 2, none⟩) hx3 (.int .i64 y2)
  have F := Lib.hid (And.intro (agg_cells hx1 (.int .i64 q0) (.int .i64 q1) (.int .i64 y2)) hB12)
  clear hHeld
  refine hK.out _ _ hB12 (fun hHeld => ?_)
  clear hK K
  clear hB12 hx1 hx3 r0 r1 r2 rf glt HM
  refine wpAnyH_take (i := 13) (v := .int .i64 y3) rfl (by kernel_rfl) (by kernel_rfl) (by kernel_rfl) (fun _ _ _ h => h) (Or.inl ⟨by rfl, ?_⟩) hHeld ?_
  · intro W hW
    go_simp
  simp [Act.put]
  refine wpAnyH_done (by kernel_rfl) ?_ _
  clear hHeld
  generalize (((V7.setCell ⟨np, 0, none⟩ (.int .i64 q0)).setCell ⟨np, 1, none⟩ (.int .i64 q1)).setCell ⟨np, 2, none⟩ (.int .i64 y2)) = D at *
  clear V7
  revert F
  revert D
  revert v2
  revert v1
  revert np
  revert ng
  revert n0
  exact ?rest
  (try rw [if_pos (by rfl)])
  go_simp
  have HM2 := Lib.hid HM.out.hd
  clear hHeld
  refine hK.out _ _ HM2.out.bel (fun hHeld => ?_)
  clear hK K HM
  have HM := Lib.hid HM2.out
  clear HM2
  generalize V2.alloc (.cells #[.int .i64 0, .int .i64 0, .int .i64 0] 25) = V3 at *
  generalize V2.heap.size = np at *
  clear V2
  refine wpAnyH_ready (rs := [2, 4]) (by kernel_rfl) (by simp) ?_
  refine AllReadyH.cons rfl (fun K hK => ?_) (AllReadyH.cons rfl (fun K hK => ?_) (AllReadyH.nil))
  (try rw [if_pos (by rfl)])
  refine appC (.tmp 79) (.tmp 80) rfl Wb.heap.size _ [] rfl HM.out.row vb 0 vc l (by rw [HN9.out]; rfl) (HLL.out _ hHeld) (by simp; omega) hHeld.size ?_
  rintro v1 V4 hrow hg ho
  have HM2 := Lib.hid (HM.out.app (show ClaRow V4 Wb.heap.size v1 l from hrow) hg ho)
  clear hrow hg ho HM
  clear hHeld
  refine hK.out _ _ HM2.out.bel (fun hHeld => ?_)
  clear hK K
  have HM := Lib.hid HM2.out
  clear HM2
  simp [Act.put]
  clear V3
  refine wpAnyH_ready (rs := [4]) (by kernel_rfl) (by simp) ?_
  refine AllReadyH.cons rfl (fun K hK => ?_) (AllReadyH.nil)
  (try rw [if_pos (by rfl)])
  go_simp
  have HM2 := Lib.hid HM.out.one
  rw [HMS.out, HMT.out.1, HMT.out.2] at HM2
  clear hHeld
  refine hK.out _ _ HM2.out.bel (fun hHeld => ?_)
  clear hK K HM
  have HM := Lib.hid HM2.out
  clear HM2
  generalize V4.alloc (.cells #[.string (moreS k), .int .i64 3, .int .i64 (-1)] 34) = V5 at *
  generalize V4.heap.size = ng at *
  clear V4
  refine wpAnyH_ready (rs := [5]) (by kernel_rfl) (by simp) ?_
  refine AllReadyH.cons rfl (fun K hK => ?_) (AllReadyH.nil)
  (try rw [if_pos (by rfl)])
  refine appC (.tmp 81) (.tmp 83) rfl Wb.heap.size _ l rfl HM.out.row ng 0 1 [moreC k] rfl (oneC (HM.out.lit _ rfl).1) (by simp; omega) hHeld.size ?_
  rintro v2 V6 hrow hg ho
  have HM2 := Lib.hid (HM.out.app hrow hg ho)
  clear hrow hg ho HM
  clear hHeld
  refine hK.out _ _ HM2.out.bel (fun hHeld => ?_)
  clear hK K
  have HM := Lib.hid HM2.out
  clear HM2
  simp [Act.put]
  clear V5
  refine wpAnyH_ready (rs := [7]) (by kernel_rfl) (by simp) ?_
  refine AllReadyH.cons rfl (fun K hK => ?_) (AllReadyH.nil)
  (try rw [if_pos (by rfl)])
  go_simp
  refine (HCX2.out _ _ HM.out.row hHeld).mono ?_
  rintro e V7 ⟨rfl, bn⟩
  go_simp
  have HM2 := Lib.hid (HM.out.call bn)
  clear bn HM
  clear hHeld
  refine hK.out _ _ HM2.out.bel (fun hHeld => ?_)
  clear hK K
  have HM := Lib.hid HM2.out
  clear HM2
  clear V6
  refine wpAnyH_take (i := 8) (v := .tuple #[.agg #[.int .i64 q0, .int .i64 q1, .int .i64 y2], .int .i64 y3]) rfl (by kernel_rfl) (by kernel_rfl) (by kernel_rfl) (fun _ _ _ h => h) (Or.inl ⟨by rfl, ?_⟩) hHeld ?_
  · intro W hW
    go_simp
  simp [Act.put]
  refine wpAnyH_take (i := 9) (v := .agg #[.int .i64 q0, .int .i64 q1, .int .i64 y2]) rfl (by kernel_rfl) (by kernel_rfl) (by kernel_rfl) (fun _ _ _ h => h) (Or.inl ⟨by rfl, ?_⟩) hHeld ?_
  · intro W hW
    go_simp
  simp [Act.put]
  refine wpAnyH_take (i := 10) (v := .int .i64 y3) rfl (by kernel_rfl) (by kernel_rfl) (by kernel_rfl) (fun _ _ _ h => h) (Or.inl ⟨by rfl, ?_⟩) hHeld ?_
  · intro W hW
    go_simp
  simp [Act.put]
  refine wpAnyH_ready (rs := [12]) (by kernel_rfl) (by simp) ?_
  refine AllReadyH.cons rfl (fun K hK => ?_) (AllReadyH.nil)
  (try rw [if_pos (by rfl)])
  obtain ⟨hx1, -, hx3⟩ := HM.out.box _ rfl
  obtain ⟨r0, r1, r2, rf⟩ := three_cells hx1
  have glt : np < V7.heap.size := (Array.getElem?_eq_some_iff.1 hx1).1
  go_simp
  have hB12 := ((HM.out.bel.setCell (p := ⟨np, 0, none⟩) hx3 (.int .i64 q0)).setCell (p := ⟨np, 1, none⟩) hx3 (.int .i64 q1)).setCell (p := ⟨np, 2, none⟩) hx3 (.int .i64 y2)
  have F := Lib.hid (And.intro (agg_cells hx1 (.int .i64 q0) (.int .i64 q1) (.int .i64 y2)) hB12)
  clear hHeld
  refine hK.out _ _ hB12 (fun hHeld => ?_)
  clear hK K
  clear hB12 hx1 hx3 r0 r1 r2 rf glt HM
  refine wpAnyH_take (i := 13) (v := .int .i64 y3) rfl (by kernel_rfl) (by kernel_rfl) (by kernel_rfl) (fun _ _ _ h => h) (Or.inl ⟨by rfl, ?_⟩) hHeld ?_
  · intro W hW
    go_simp
  simp [Act.put]
  refine wpAnyH_done (by kernel_rfl) ?_ _
  clear hHeld
  generalize (((V7.setCell ⟨np, 0, none⟩ (.int .i64 q0)).setCell ⟨np, 1, none⟩ (.int .i64 q1)).setCell ⟨np, 2, none⟩ (.int .i64 y2)) = D at *
  clear V7
  revert F
  revert D
  revert v2
  revert v1
  revert np
  revert ng
  revert n0
  exact ?rest
  (try rw [if_pos (by rfl)])
  go_simp
  have HM2 := Lib.hid HM.out.one
  rw [HMS.out, HMT.out.1, HMT.out.2] at HM2
  clear hHeld
  refine hK.out _ _ HM2.out.bel (fun hHeld => ?_)
  clear hK K HM
  have HM := Lib.hid HM2.out
  clear HM2
  generalize V3.alloc (.cells #[.string (moreS k), .int .i64 3, .int .i64 (-1)] 34) = V4 at *
  generalize V3.heap.size = ng at *
  clear V3
  refine wpAnyH_ready (rs := [2]) (by kernel_rfl) (by simp) ?_
  refine AllReadyH.cons rfl (fun K hK => ?_) (AllReadyH.nil)
  (try rw [if_pos (by rfl)])
  refine appC (.tmp 79) (.tmp 80) rfl Wb.heap.size _ [] rfl HM.out.row vb 0 vc l (by rw [HN9.out]; rfl) (HLL.out _ hHeld) (by simp; omega) hHeld.size ?_
  rintro v1 V5 hrow hg ho
  have HM2 := Lib.hid (HM.out.app (show ClaRow V5 Wb.heap.size v1 l from hrow) hg ho)
  clear hrow hg ho HM
  clear hHeld
  refine hK.out _ _ HM2.out.bel (fun hHeld => ?_)
  clear hK K
  have HM := Lib.hid HM2.out
  clear HM2
  simp [Act.put]
  clear V4
  refine wpAnyH_ready (rs := [5]) (by kernel_rfl) (by simp) ?_
  refine AllReadyH.cons rfl (fun K hK => ?_) (AllReadyH.nil)
  (try rw [if_pos (by rfl)])
  refine appC (.tmp 81) (.tmp 83) rfl Wb.heap.size _ l rfl HM.out.row ng 0 1 [moreC k] rfl (oneC (HM.out.lit _ rfl).1) (by simp; omega) hHeld.size ?_
  rintro v2 V6 hrow hg ho
  have HM2 := Lib.hid (HM.out.app hrow hg ho)
  clear hrow hg ho HM
  clear hHeld
  refine hK.out _ _ HM2.out.bel (fun hHeld => ?_)
  clear hK K
  have HM := Lib.hid HM2.out
  clear HM2
  simp [Act.put]
  clear V5
  refine wpAnyH_ready (rs := [7]) (by kernel_rfl) (by simp) ?_
  refine AllReadyH.cons rfl (fun K hK => ?_) (AllReadyH.nil)
  (try rw [if_pos (by rfl)])
  go_simp
  refine (HCX2.out _ _ HM.out.row hHeld).mono ?_
  rintro e V7 ⟨rfl, bn⟩
  go_simp
  have HM2 := Lib.hid (HM.out.call bn)
  clear bn HM
  clear hHeld
  refine hK.out _ _ HM2.out.bel (fun hHeld => ?_)
  clear hK K
  have HM := Lib.hid HM2.out
  clear HM2
  clear V6
  refine wpAnyH_take (i := 8) (v := .tuple #[.agg #[.int .i64 q0, .int .i64 q1, .int .i64 y2], .int .i64 y3]) rfl (by kernel_rfl) (by kernel_rfl) (by kernel_rfl) (fun _ _ _ h => h) (Or.inl ⟨by rfl, ?_⟩) hHeld ?_
  · intro W hW
    go_simp
  simp [Act.put]
  refine wpAnyH_take (i := 9) (v := .agg #[.int .i64 q0, .int .i64 q1, .int .i64 y2]) rfl (by kernel_rfl) (by kernel_rfl) (by kernel_rfl) (fun _ _ _ h => h) (Or.inl ⟨by rfl, ?_⟩) hHeld ?_
  · intro W hW
    go_simp
  simp [Act.put]
  refine wpAnyH_take (i := 10) (v := .int .i64 y3) rfl (by kernel_rfl) (by kernel_rfl) (by kernel_rfl) (fun _ _ _ h => h) (Or.inl ⟨by rfl, ?_⟩) hHeld ?_
  · intro W hW
    go_simp
  simp [Act.put]
  refine wpAnyH_ready (rs := [12]) (by kernel_rfl) (by simp) ?_
  refine AllReadyH.cons rfl (fun K hK => ?_) (AllReadyH.nil)
  (try rw [if_pos (by rfl)])
  obtain ⟨hx1, -, hx3⟩ := HM.out.box _ rfl
  obtain ⟨r0, r1, r2, rf⟩ := three_cells hx1
  have glt : np < V7.heap.size := (Array.getElem?_eq_some_iff.1 hx1).1
  go_simp
  have hB12 := ((HM.out.bel.setCell (p := ⟨np, 0, none⟩) hx3 (.int .i64 q0)).setCell (p := ⟨np, 1, none⟩) hx3 (.int .i64 q1)).setCell (p := ⟨np, 2, none⟩) hx3 (.int .i64 y2)
  have F := Lib.hid (And.intro (agg_cells hx1 (.int .i64 q0) (.int .i64 q1) (.int .i64 y2)) hB12)
  clear hHeld
  refine hK.out _ _ hB12 (fun hHeld => ?_)
  clear hK K
  clear hB12 hx1 hx3 r0 r1 r2 rf glt HM
  refine wpAnyH_take (i := 13) (v := .int .i64 y3) rfl (by kernel_rfl) (by kernel_rfl) (by kernel_rfl) (fun _ _ _ h => h) (Or.inl ⟨by rfl, ?_⟩) hHeld ?_
  · intro W hW
    go_simp
  simp [Act.put]
  refine wpAnyH_done (by kernel_rfl) ?_ _
  clear hHeld
  generalize (((V7.setCell ⟨np, 0, none⟩ (.int .i64 q0)).setCell ⟨np, 1, none⟩ (.int .i64 q1)).setCell ⟨np, 2, none⟩ (.int .i64 y2)) = D at *
  clear V7
  revert F
  revert D
  revert v2
  revert v1
  revert np
  revert ng
  revert n0
  exact ?rest
  (try rw [if_pos (by rfl)])
  go_simp
  have HM2 := Lib.hid HM.out.one
  rw [HMS.out, HMT.out.1, HMT.out.2] at HM2
  clear hHeld
  refine hK.out _ _ HM2.out.bel (fun hHeld => ?_)
  clear hK K HM
  have HM := Lib.hid HM2.out
  clear HM2
  generalize V.alloc (.cells #[.string (moreS k), .int .i64 3, .int .i64 (-1)] 34) = V2 at *
  generalize V.heap.size = ng at *
  clear V
  refine wpAnyH_ready (rs := [0, 11]) (by kernel_rfl) (by simp) ?_
  refine AllReadyH.cons rfl (fun K hK => ?_) (AllReadyH.cons rfl (fun K hK => ?_) (AllReadyH.nil))
  (try rw [if_pos (by rfl)])
  go_simp
  have HM2 := Lib.hid HM.out.emp
  clear hHeld
  refine hK.out _ _ HM2.out.bel (fun hHeld => ?_)
  clear hK K HM
  have HM := Lib.hid HM2.out
  clear HM2
  generalize V2.alloc (.cells #[] 34) = V3 at *
  generalize V2.heap.size = n0 at *
  clear V2
  refine wpAnyH_ready (rs := [2, 11]) (by kernel_rfl) (by simp) ?_
  refine AllReadyH.cons rfl (fun K hK => ?_) (AllReadyH.cons rfl (fun K hK => ?_) (AllReadyH.nil))
  (try rw [if_pos (by rfl)])
  refine appC (.tmp 79) (.tmp 80) rfl Wb.heap.size _ [] rfl HM.out.row vb 0 vc l (by rw [HN9.out]; rfl) (HLL.out _ hHeld) (by simp; omega) hHeld.size ?_
  rintro v1 V4 hrow hg ho
  have HM2 := Lib.hid (HM.out.app (show ClaRow V4 Wb.heap.size v1 l from hrow) hg ho)
  clear hrow hg ho HM
  clear hHeld
  refine hK.out _ _ HM2.out.bel (fun hHeld => ?_)
  clear hK K
  have HM := Lib.hid HM2.out
  clear HM2
  simp [Act.put]
  clear V3
  refine wpAnyH_ready (rs := [5, 11]) (by kernel_rfl) (by simp) ?_
  refine AllReadyH.cons rfl (fun K hK => ?_) (AllReadyH.cons rfl (fun K hK => ?_) (AllReadyH.nil))
  (try rw [if_pos (by rfl)])
  refine appC (.tmp 81) (.tmp 83) rfl Wb.heap.size _ l rfl HM.out.row ng 0 1 [moreC k] rfl (oneC (HM.out.lit _ rfl).1) (by simp; omega) hHeld.size ?_
  rintro v2 V5 hrow hg ho
  have HM2 := Lib.hid (HM.out.app hrow hg ho)
  clear hrow hg ho HM
  clear hHeld
  refine hK.out _ _ HM2.out.bel (fun hHeld => ?_)
  clear hK K
  have HM := Lib.hid HM2.out
  clear HM2
  simp [Act.put]
  clear V4
  refine wpAnyH_ready (rs := [7, 11]) (by kernel_rfl) (by simp) ?_
  refine AllReadyH.cons rfl (fun K hK => ?_) (AllReadyH.cons rfl (fun K hK => ?_) (AllReadyH.nil))
  (try rw [if_pos (by rfl)])
  go_simp
  refine (HCX2.out _ _ HM.out.row hHeld).mono ?_
  rintro e V6 ⟨rfl, bn⟩
  go_simp
  have HM2 := Lib.hid (HM.out.call bn)
  clear bn HM
  clear hHeld
  refine hK.out _ _ HM2.out.bel (fun hHeld => ?_)
  clear hK K
  have HM := Lib.hid HM2.out
  clear HM2
  clear V5
  refine wpAnyH_take (i := 8) (v := .tuple #[.agg #[.int .i64 q0, .int .i64 q1, .int .i64 y2], .int .i64 y3]) rfl (by kernel_rfl) (by kernel_rfl) (by kernel_rfl) (fun _ _ _ h => h) (Or.inl ⟨by rfl, ?_⟩) hHeld ?_
  · intro W hW
    go_simp
  simp [Act.put]
  refine wpAnyH_take (i := 9) (v := .agg #[.int .i64 q0, .int .i64 q1, .int .i64 y2]) rfl (by kernel_rfl) (by kernel_rfl) (by kernel_rfl) (fun _ _ _ h => h) (Or.inl ⟨by rfl, ?_⟩) hHeld ?_
  · intro W hW
    go_simp
  simp [Act.put]
  refine wpAnyH_take (i := 10) (v := .int .i64 y3) rfl (by kernel_rfl) (by kernel_rfl) (by kernel_rfl) (fun _ _ _ h => h) (Or.inl ⟨by rfl, ?_⟩) hHeld ?_
  · intro W hW
    go_simp
  simp [Act.put]
  refine wpAnyH_ready (rs := [11]) (by kernel_rfl) (by simp) ?_
  refine AllReadyH.cons rfl (fun K hK => ?_) (AllReadyH.nil)
  (try rw [if_pos (by rfl)])
  go_simp
  have HM2 := Lib.hid HM.out.hd
  clear hHeld
  refine hK.out _ _ HM2.out.bel (fun hHeld => ?_)
  clear hK K HM
  have HM := Lib.hid HM2.out
  clear HM2
  generalize V6.alloc (.cells #[.int .i64 0, .int .i64 0, .int .i64 0] 25) = V7 at *
  generalize V6.heap.size = np at *
  clear V6
  refine wpAnyH_ready (rs := [12]) (by kernel_rfl) (by simp) ?_
  refine AllReadyH.cons rfl (fun K hK => ?_) (AllReadyH.nil)
  (try rw [if_pos (by rfl)])
  obtain ⟨hx1, -, hx3⟩ := HM.out.box _ rfl
  obtain ⟨r0, r1, r2, rf⟩ := three_cells hx1
  have glt : np < V7.heap.size := (Array.getElem?_eq_some_iff.1 hx1).1
  go_simp
  have hB12 := ((HM.out.bel.setCell (p := ⟨np, 0, none⟩) hx3 (.int .i64 q0)).setCell (p := ⟨np, 1, none⟩) hx3 (.int .i64 q1)).setCell (p := ⟨np, 2, none⟩) hx3 (.int .i64 y2)
  have F := Lib.hid (And.intro (agg_cells hx1 (.int .i64 q0) (.int .i64 q1) (.int .i64 y2)) hB12)
  clear hHeld
  refine hK.out _ _ hB12 (fun hHeld => ?_)
  clear hK K
  clear hB12 hx1 hx3 r0 r1 r2 rf glt HM
  refine wpAnyH_take (i := 13) (v := .int .i64 y3) rfl (by kernel_rfl) (by kernel_rfl) (by kernel_rfl) (fun _ _ _ h => h) (Or.inl ⟨by rfl, ?_⟩) hHeld ?_
  · intro W hW
    go_simp
  simp [Act.put]
  refine wpAnyH_done (by kernel_rfl) ?_ _
  clear hHeld
  generalize (((V7.setCell ⟨np, 0, none⟩ (.int .i64 q0)).setCell ⟨np, 1, none⟩ (.int .i64 q1)).setCell ⟨np, 2, none⟩ (.int .i64 y2)) = D at *
  clear V7
  revert F
  revert D
  revert v2
  revert v1
  revert np
  revert ng
  revert n0
  exact ?rest
  (try rw [if_pos (by rfl)])
  go_simp
  have HM2 := Lib.hid HM.out.hd
  clear hHeld
  refine hK.out _ _ HM2.out.bel (fun hHeld => ?_)
  clear hK K HM
  have HM := Lib.hid HM2.out
  clear HM2
  generalize V5.alloc (.cells #[.int .i64 0, .int .i64 0, .int .i64 0] 25) = V6 at *
  generalize V5.heap.size = np at *
  clear V5
  refine wpAnyH_ready (rs := [7]) (by kernel_rfl) (by simp) ?_
  refine AllReadyH.cons rfl (fun K hK => ?_) (AllReadyH.nil)
  (try rw [if_pos (by rfl)])
  go_simp
  refine (HCX2.out _ _ HM.out.row hHeld).mono ?_
  rintro e V7 ⟨rfl, bn⟩
  go_simp
  have HM2 := Lib.hid (HM.out.call bn)
  clear bn HM
  clear hHeld
  refine hK.out _ _ HM2.out.bel (fun hHeld => ?_)
  clear hK K
  have HM := Lib.hid HM2.out
  clear HM2
  clear V6
  refine wpAnyH_take (i := 8) (v := .tuple #[.agg #[.int .i64 q0, .int .i64 q1, .int .i64 y2], .int .i64 y3]) rfl (by kernel_rfl) (by kernel_rfl) (by kernel_rfl) (fun _ _ _ h => h) (Or.inl ⟨by rfl, ?_⟩) hHeld ?_
  · intro W hW
    go_simp
  simp [Act.put]
  refine wpAnyH_take (i := 9) (v := .agg #[.int .i64 q0, .int .i64 q1, .int .i64 y2]) rfl (by kernel_rfl) (by kernel_rfl) (by kernel_rfl) (fun _ _ _ h => h) (Or.inl ⟨by rfl, ?_⟩) hHeld ?_
  · intro W hW
    go_simp
  simp [Act.put]
  refine wpAnyH_take (i := 10) (v := .int .i64 y3) rfl (by kernel_rfl) (by kernel_rfl) (by kernel_rfl) (fun _ _ _ h => h) (Or.inl ⟨by rfl, ?_⟩) hHeld ?_
  · intro W hW
    go_simp
  simp [Act.put]
  refine wpAnyH_ready (rs := [12]) (by kernel_rfl) (by simp) ?_
  refine AllReadyH.cons rfl (fun K hK => ?_) (AllReadyH.nil)
  (try rw [if_pos (by rfl)])
  obtain ⟨hx1, -, hx3⟩ := HM.out.box _ rfl
  obtain ⟨r0, r1, r2, rf⟩ := three_cells hx1
  have glt : np < V7.heap.size := (Array.getElem?_eq_some_iff.1 hx1).1
  go_simp
  have hB12 := ((HM.out.bel.setCell (p := ⟨np, 0, none⟩) hx3 (.int .i64 q0)).setCell (p := ⟨np, 1, none⟩) hx3 (.int .i64 q1)).setCell (p := ⟨np, 2, none⟩) hx3 (.int .i64 y2)
  have F := Lib.hid (And.intro (agg_cells hx1 (.int .i64 q0) (.int .i64 q1) (.int .i64 y2)) hB12)
  clear hHeld
  refine hK.out _ _ hB12 (fun hHeld => ?_)
  clear hK K
  clear hB12 hx1 hx3 r0 r1 r2 rf glt HM
  refine wpAnyH_take (i := 13) (v := .int .i64 y3) rfl (by kernel_rfl) (by kernel_rfl) (by kernel_rfl) (fun _ _ _ h => h) (Or.inl ⟨by rfl, ?_⟩) hHeld ?_
  · intro W hW
    go_simp
  simp [Act.put]
  refine wpAnyH_done (by kernel_rfl) ?_ _
  clear hHeld
  generalize (((V7.setCell ⟨np, 0, none⟩ (.int .i64 q0)).setCell ⟨np, 1, none⟩ (.int .i64 q1)).setCell ⟨np, 2, none⟩ (.int .i64 y2)) = D at *
  clear V7
  revert F
  revert D
  revert v2
  revert v1
  revert np
  revert ng
  revert n0
  exact ?rest
  (try rw [if_pos (by rfl)])
  go_simp
  have HM2 := Lib.hid HM.out.hd
  clear hHeld
  refine hK.out _ _ HM2.out.bel (fun hHeld => ?_)
  clear hK K HM
  have HM := Lib.hid HM2.out
  clear HM2
  generalize V4.alloc (.cells #[.int .i64 0, .int .i64 0, .int .i64 0] 25) = V5 at *
  generalize V4.heap.size = np at *
  clear V4
  refine wpAnyH_ready (rs := [5]) (by kernel_rfl) (by simp) ?_
  refine AllReadyH.cons rfl (fun K hK => ?_) (AllReadyH.nil)
  (try rw [if_pos (by rfl)])
  refine appC (.tmp 81) (.tmp 83) rfl Wb.heap.size _ l rfl HM.out.row ng 0 1 [moreC k] rfl (oneC (HM.out.lit _ rfl).1) (by simp; omega) hHeld.size ?_
  rintro v2 V6 hrow hg ho
  have HM2 := Lib.hid (HM.out.app hrow hg ho)
  clear hrow hg ho HM
  clear hHeld
  refine hK.out _ _ HM2.out.bel (fun hHeld => ?_)
  clear hK K
  have HM := Lib.hid HM2.out
  clear HM2
  simp [Act.put]
  clear V5
  refine wpAnyH_ready (rs := [7]) (by kernel_rfl) (by simp) ?_
  refine AllReadyH.cons rfl (fun K hK => ?_) (AllReadyH.nil)
  (try rw [if_pos (by rfl)])
  go_simp
  refine (HCX2.out _ _ HM.out.row hHeld).mono ?_
  rintro e V7 ⟨rfl, bn⟩
  go_simp
  have HM2 := Lib.hid (HM.out.call bn)
  clear bn HM
  clear hHeld
  refine hK.out _ _ HM2.out.bel (fun hHeld => ?_)
  clear hK K
  have HM := Lib.hid HM2.out
  clear HM2
  clear V6
  refine wpAnyH_take (i := 8) (v := .tuple #[.agg #[.int .i64 q0, .int .i64 q1, .int .i64 y2], .int .i64 y3]) rfl (by kernel_rfl) (by kernel_rfl) (by kernel_rfl) (fun _ _ _ h => h) (Or.inl ⟨by rfl, ?_⟩) hHeld ?_
  · intro W hW
    go_simp
  simp [Act.put]
  refine wpAnyH_take (i := 9) (v := .agg #[.int .i64 q0, .int .i64 q1, .int .i64 y2]) rfl (by kernel_rfl) (by kernel_rfl) (by kernel_rfl) (fun _ _ _ h => h) (Or.inl ⟨by rfl, ?_⟩) hHeld ?_
  · intro W hW
    go_simp
  simp [Act.put]
  refine wpAnyH_take (i := 10) (v := .int .i64 y3) rfl (by kernel_rfl) (by kernel_rfl) (by kernel_rfl) (fun _ _ _ h => h) (Or.inl ⟨by rfl, ?_⟩) hHeld ?_
  · intro W hW
    go_simp
  simp [Act.put]
  refine wpAnyH_ready (rs := [12]) (by kernel_rfl) (by simp) ?_
  refine AllReadyH.cons rfl (fun K hK => ?_) (AllReadyH.nil)
  (try rw [if_pos (by rfl)])
  obtain ⟨hx1, -, hx3⟩ := HM.out.box _ rfl
  obtain ⟨r0, r1, r2, rf⟩ := three_cells hx1
  have glt : np < V7.heap.size := (Array.getElem?_eq_some_iff.1 hx1).1
  go_simp
  have hB12 := ((HM.out.bel.setCell (p := ⟨np, 0, none⟩) hx3 (.int .i64 q0)).setCell (p := ⟨np, 1, none⟩) hx3 (.int .i64 q1)).setCell (p := ⟨np, 2, none⟩) hx3 (.int .i64 y2)
  have F := Lib.hid (And.intro (agg_cells hx1 (.int .i64 q0) (.int .i64 q1) (.int .i64 y2)) hB12)
  clear hHeld
  refine hK.out _ _ hB12 (fun hHeld => ?_)
  clear hK K
  clear hB12 hx1 hx3 r0 r1 r2 rf glt HM
  refine wpAnyH_take (i := 13) (v := .int .i64 y3) rfl (by kernel_rfl) (by kernel_rfl) (by kernel_rfl) (fun _ _ _ h => h) (Or.inl ⟨by rfl, ?_⟩) hHeld ?_
  · intro W hW
    go_simp
  simp [Act.put]
  refine wpAnyH_done (by kernel_rfl) ?_ _
  clear hHeld
  generalize (((V7.setCell ⟨np, 0, none⟩ (.int .i64 q0)).setCell ⟨np, 1, none⟩ (.int .i64 q1)).setCell ⟨np, 2, none⟩ (.int .i64 y2)) = D at *
  clear V7
  revert F
  revert D
  revert v2
  revert v1
  revert np
  revert ng
  revert n0
  exact ?rest
  (try rw [if_pos (by rfl)])
  go_simp
  have HM2 := Lib.hid HM.out.hd
  clear hHeld
  refine hK.out _ _ HM2.out.bel (fun hHeld => ?_)
  clear hK K HM
  have HM := Lib.hid HM2.out
  clear HM2
  generalize V3.alloc (.cells #[.int .i64 0, .int .i64 0, .int .i64 0] 25) = V4 at *
  generalize V3.heap.size = np at *
  clear V3
  refine wpAnyH_ready (rs := [2]) (by kernel_rfl) (by simp) ?_
  refine AllReadyH.cons rfl (fun K hK => ?_) (AllReadyH.nil)
  (try rw [if_pos (by rfl)])
  refine appC (.tmp 79) (.tmp 80) rfl Wb.heap.size _ [] rfl HM.out.row vb 0 vc l (by rw [HN9.out]; rfl) (HLL.out _ hHeld) (by simp; omega) hHeld.size ?_
  rintro v1 V5 hrow hg ho
  have HM2 := Lib.hid (HM.out.app (show ClaRow V5 Wb.heap.size v1 l from hrow) hg ho)
  clear hrow hg ho HM
  clear hHeld
  refine hK.out _ _ HM2.out.bel (fun hHeld => ?_)
  clear hK K
  have HM := Lib.hid HM2.out
  clear HM2
  simp [Act.put]
  clear V4
  refine wpAnyH_ready (rs := [5]) (by kernel_rfl) (by simp) ?_
  refine AllReadyH.cons rfl (fun K hK => ?_) (AllReadyH.nil)
  (try rw [if_pos (by rfl)])
  refine appC (.tmp 81) (.tmp 83) rfl Wb.heap.size _ l rfl HM.out.row ng 0 1 [moreC k] rfl (oneC (HM.out.lit _ rfl).1) (by simp; omega) hHeld.size ?_
  rintro v2 V6 hrow hg ho
  have HM2 := Lib.hid (HM.out.app hrow hg ho)
  clear hrow hg ho HM
  clear hHeld
  refine hK.out _ _ HM2.out.bel (fun hHeld => ?_)
  clear hK K
  have HM := Lib.hid HM2.out
  clear HM2
  simp [Act.put]
  clear V5
  refine wpAnyH_ready (rs := [7]) (by kernel_rfl) (by simp) ?_
  refine AllReadyH.cons rfl (fun K hK => ?_) (AllReadyH.nil)
  (try rw [if_pos (by rfl)])
  go_simp
  refine (HCX2.out _ _ HM.out.row hHeld).mono ?_
  rintro e V7 ⟨rfl, bn⟩
  go_simp
  have HM2 := Lib.hid (HM.out.call bn)
  clear bn HM
  clear hHeld
  refine hK.out _ _ HM2.out.bel (fun hHeld => ?_)
  clear hK K
  have HM := Lib.hid HM2.out
  clear HM2
  clear V6
  refine wpAnyH_take (i := 8) (v := .tuple #[.agg #[.int .i64 q0, .int .i64 q1, .int .i64 y2], .int .i64 y3]) rfl (by kernel_rfl) (by kernel_rfl) (by kernel_rfl) (fun _ _ _ h => h) (Or.inl ⟨by rfl, ?_⟩) hHeld ?_
  · intro W hW
    go_simp
  simp [Act.put]
  refine wpAnyH_take (i := 9) (v := .agg #[.int .i64 q0, .int .i64 q1, .int .i64 y2]) rfl (by kernel_rfl) (by kernel_rfl) (by kernel_rfl) (fun _ _ _ h => h) (Or.inl ⟨by rfl, ?_⟩) hHeld ?_
  · intro W hW
    go_simp
  simp [Act.put]
  refine wpAnyH_take (i := 10) (v := .int .i64 y3) rfl (by kernel_rfl) (by kernel_rfl) (by kernel_rfl) (fun _ _ _ h => h) (Or.inl ⟨by rfl, ?_⟩) hHeld ?_
  · intro W hW
    go_simp
  simp [Act.put]
  refine wpAnyH_ready (rs := [12]) (by kernel_rfl) (by simp) ?_
  refine AllReadyH.cons rfl (fun K hK => ?_) (AllReadyH.nil)
  (try rw [if_pos (by rfl)])
  obtain ⟨hx1, -, hx3⟩ := HM.out.box _ rfl
  obtain ⟨r0, r1, r2, rf⟩ := three_cells hx1
  have glt : np < V7.heap.size := (Array.getElem?_eq_some_iff.1 hx1).1
  go_simp
  have hB12 := ((HM.out.bel.setCell (p := ⟨np, 0, none⟩) hx3 (.int .i64 q0)).setCell (p := ⟨np, 1, none⟩) hx3 (.int .i64 q1)).setCell (p := ⟨np, 2, none⟩) hx3 (.int .i64 y2)
  have F := Lib.hid (And.intro (agg_cells hx1 (.int .i64 q0) (.int .i64 q1) (.int .i64 y2)) hB12)
  clear hHeld
  refine hK.out _ _ hB12 (fun hHeld => ?_)
  clear hK K
  clear hB12 hx1 hx3 r0 r1 r2 rf glt HM
  refine wpAnyH_take (i := 13) (v := .int .i64 y3) rfl (by kernel_rfl) (by kernel_rfl) (by kernel_rfl) (fun _ _ _ h => h) (Or.inl ⟨by rfl, ?_⟩) hHeld ?_
  · intro W hW
    go_simp
  simp [Act.put]
  refine wpAnyH_done (by kernel_rfl) ?_ _
  clear hHeld
  generalize (((V7.setCell ⟨np, 0, none⟩ (.int .i64 q0)).setCell ⟨np, 1, none⟩ (.int .i64 q1)).setCell ⟨np, 2, none⟩ (.int .i64 y2)) = D at *
  clear V7
  revert F
  revert D
  revert v2
  revert v1
  revert np
  revert ng
  revert n0
  exact ?rest
  (try rw [if_pos (by rfl)])
  go_simp
  have HM2 := Lib.hid HM.out.hd
  clear hHeld
  refine hK.out _ _ HM2.out.bel (fun hHeld => ?_)
  clear hK K HM
  have HM := Lib.hid HM2.out
  clear HM2
  generalize V2.alloc (.cells #[.int .i64 0, .int .i64 0, .int .i64 0] 25) = V3 at *
  generalize V2.heap.size = np at *
  clear V2
  refine wpAnyH_ready (rs := [0]) (by kernel_rfl) (by simp) ?_
  refine AllReadyH.cons rfl (fun K hK => ?_) (AllReadyH.nil)
  (try rw [if_pos (by rfl)])
  go_simp
  have HM2 := Lib.hid HM.out.emp
  clear hHeld
  refine hK.out _ _ HM2.out.bel (fun hHeld => ?_)
  clear hK K HM
  have HM := Lib.hid HM2.out
  clear HM2
  generalize V3.alloc (.cells #[] 34) = V4 at *
  generalize V3.heap.size = n0 at *
  clear V3
  refine wpAnyH_ready (rs := [2]) (by kernel_rfl) (by simp) ?_
  refine AllReadyH.cons rfl (fun K hK => ?_) (AllReadyH.nil)
  (try rw [if_pos (by rfl)])
  refine appC (.tmp 79) (.tmp 80) rfl Wb.heap.size _ [] rfl HM.out.row vb 0 vc l (by rw [HN9.out]; rfl) (HLL.out _ hHeld) (by simp; omega) hHeld.size ?_
  rintro v1 V5 hrow hg ho
  have HM2 := Lib.hid (HM.out.app (show ClaRow V5 Wb.heap.size v1 l from hrow) hg ho)
  clear hrow hg ho HM
  clear hHeld
  refine hK.out _ _ HM2.out.bel (fun hHeld => ?_)
  clear hK K
  have HM := Lib.hid HM2.out
  clear HM2
  simp [Act.put]
  clear V4
  refine wpAnyH_ready (rs := [5]) (by kernel_rfl) (by simp) ?_
  refine AllReadyH.cons rfl (fun K hK => ?_) (AllReadyH.nil)
  (try rw [if_pos (by rfl)])
  refine appC (.tmp 81) (.tmp 83) rfl Wb.heap.size _ l rfl HM.out.row ng 0 1 [moreC k] rfl (oneC (HM.out.lit _ rfl).1) (by simp; omega) hHeld.size ?_
  rintro v2 V6 hrow hg ho
  have HM2 := Lib.hid (HM.out.app hrow hg ho)
  clear hrow hg ho HM
  clear hHeld
  refine hK.out _ _ HM2.out.bel (fun hHeld => ?_)
  clear hK K
  have HM := Lib.hid HM2.out
  clear HM2
  simp [Act.put]
  clear V5
  refine wpAnyH_ready (rs := [7]) (by kernel_rfl) (by simp) ?_
  refine AllReadyH.cons rfl (fun K hK => ?_) (AllReadyH.nil)
  (try rw [if_pos (by rfl)])
  go_simp
  refine (HCX2.out _ _ HM.out.row hHeld).mono ?_
  rintro e V7 ⟨rfl, bn⟩
  go_simp
  have HM2 := Lib.hid (HM.out.call bn)
  clear bn HM
  clear hHeld
  refine hK.out _ _ HM2.out.bel (fun hHeld => ?_)
  clear hK K
  have HM := Lib.hid HM2.out
  clear HM2
  clear V6
  refine wpAnyH_take (i := 8) (v := .tuple #[.agg #[.int .i64 q0, .int .i64 q1, .int .i64 y2], .int .i64 y3]) rfl (by kernel_rfl) (by kernel_rfl) (by kernel_rfl) (fun _ _ _ h => h) (Or.inl ⟨by rfl, ?_⟩) hHeld ?_
  · intro W hW
    go_simp
  simp [Act.put]
  refine wpAnyH_take (i := 9) (v := .agg #[.int .i64 q0, .int .i64 q1, .int .i64 y2]) rfl (by kernel_rfl) (by kernel_rfl) (by kernel_rfl) (fun _ _ _ h => h) (Or.inl ⟨by rfl, ?_⟩) hHeld ?_
  · intro W hW
    go_simp
  simp [Act.put]
  refine wpAnyH_take (i := 10) (v := .int .i64 y3) rfl (by kernel_rfl) (by kernel_rfl) (by kernel_rfl) (fun _ _ _ h => h) (Or.inl ⟨by rfl, ?_⟩) hHeld ?_
  · intro W hW
    go_simp
  simp [Act.put]
  refine wpAnyH_ready (rs := [12]) (by kernel_rfl) (by simp) ?_
  refine AllReadyH.cons rfl (fun K hK => ?_) (AllReadyH.nil)
  (try rw [if_pos (by rfl)])
  obtain ⟨hx1, -, hx3⟩ := HM.out.box _ rfl
  obtain ⟨r0, r1, r2, rf⟩ := three_cells hx1
  have glt : np < V7.heap.size := (Array.getElem?_eq_some_iff.1 hx1).1
  go_simp
  have hB12 := ((HM.out.bel.setCell (p := ⟨np, 0, none⟩) hx3 (.int .i64 q0)).setCell (p := ⟨np, 1, none⟩) hx3 (.int .i64 q1)).setCell (p := ⟨np, 2, none⟩) hx3 (.int .i64 y2)
  have F := Lib.hid (And.intro (agg_cells hx1 (.int .i64 q0) (.int .i64 q1) (.int .i64 y2)) hB12)
  clear hHeld
  refine hK.out _ _ hB12 (fun hHeld => ?_)
  clear hK K
  clear hB12 hx1 hx3 r0 r1 r2 rf glt HM
  refine wpAnyH_take (i := 13) (v := .int .i64 y3) rfl (by kernel_rfl) (by kernel_rfl) (by kernel_rfl) (fun _ _ _ h => h) (Or.inl ⟨by rfl, ?_⟩) hHeld ?_
  · intro W hW
    go_simp
  simp [Act.put]
  refine wpAnyH_done (by kernel_rfl) ?_ _
  clear hHeld
  generalize (((V7.setCell ⟨np, 0, none⟩ (.int .i64 q0)).setCell ⟨np, 1, none⟩ (.int .i64 q1)).setCell ⟨np, 2, none⟩ (.int .i64 y2)) = D at *
  clear V7
  revert F
  revert D
  revert v2
  revert v1
  revert np
  revert ng
  revert n0
  exact ?rest
  (try rw [if_pos (by rfl)])
  go_simp
  have HM2 := Lib.hid HM.out.hd
  clear hHeld
  refine hK.out _ _ HM2.out.bel (fun hHeld => ?_)
  clear hK K HM
  have HM := Lib.hid HM2.out
  clear HM2
  generalize V.alloc (.cells #[.int .i64 0, .int .i64 0, .int .i64 0] 25) = V2 at *
  generalize V.heap.size = np at *
  clear V
  refine wpAnyH_ready (rs := [0, 4]) (by kernel_rfl) (by simp) ?_
  refine AllReadyH.cons rfl (fun K hK => ?_) (AllReadyH.cons rfl (fun K hK => ?_) (AllReadyH.nil))
  (try rw [if_pos (by rfl)])
  go_simp
  have HM2 := Lib.hid HM.out.emp
  clear hHeld
  refine hK.out _ _ HM2.out.bel (fun hHeld => ?_)
  clear hK K HM
  have HM := Lib.hid HM2.out
  clear HM2
  generalize V2.alloc (.cells #[] 34) = V3 at *
  generalize V2.heap.size = n0 at *
  clear V2
  refine wpAnyH_ready (rs := [2, 4]) (by kernel_rfl) (by simp) ?_
  refine AllReadyH.cons rfl (fun K hK => ?_) (AllReadyH.cons rfl (fun K hK => ?_) (AllReadyH.nil))
  (try rw [if_pos (by rfl)])
  refine appC (.tmp 79) (.tmp 80) rfl Wb.heap.size _ [] rfl HM.out.row vb 0 vc l (by rw [HN9.out]; rfl) (HLL.out _ hHeld) (by simp; omega) hHeld.size ?_
  rintro v1 V4 hrow hg ho
  have HM2 := Lib.hid (HM.out.app (show ClaRow V4 Wb.heap.size v1 l from hrow) hg ho)
  clear hrow hg ho HM
  clear hHeld
  refine hK.out _ _ HM2.out.bel (fun hHeld => ?_)
  clear hK K
  have HM := Lib.hid HM2.out
  clear HM2
  simp [Act.put]
  clear V3
  refine wpAnyH_ready (rs := [4]) (by kernel_rfl) (by simp) ?_
  refine AllReadyH.cons rfl (fun K hK => ?_) (AllReadyH.nil)
  (try rw [if_pos (by rfl)])
  go_simp
  have HM2 := Lib.hid HM.out.one
  rw [HMS.out, HMT.out.1, HMT.out.2] at HM2
  clear hHeld
  refine hK.out _ _ HM2.out.bel (fun hHeld => ?_)
  clear hK K HM
  have HM := Lib.hid HM2.out
  clear HM2
  generalize V4.alloc (.cells #[.string (moreS k), .int .i64 3, .int .i64 (-1)] 34) = V5 at *
  generalize V4.heap.size = ng at *
  clear V4
  refine wpAnyH_ready (rs := [5]) (by kernel_rfl) (by simp) ?_
  refine AllReadyH.cons rfl (fun K hK => ?_) (AllReadyH.nil)
  (try rw [if_pos (by rfl)])
  refine appC (.tmp 81) (.tmp 83) rfl Wb.heap.size _ l rfl HM.out.row ng 0 1 [moreC k] rfl (oneC (HM.out.lit _ rfl).1) (by simp; omega) hHeld.size ?_
  rintro v2 V6 hrow hg ho
  have HM2 := Lib.hid (HM.out.app hrow hg ho)
  clear hrow hg ho HM
  clear hHeld
  refine hK.out _ _ HM2.out.bel (fun hHeld => ?_)
  clear hK K
  have HM := Lib.hid HM2.out
  clear HM2
  simp [Act.put]
  clear V5
  refine wpAnyH_ready (rs := [7]) (by kernel_rfl) (by simp) ?_
  refine AllReadyH.cons rfl (fun K hK => ?_) (AllReadyH.nil)
  (try rw [if_pos (by rfl)])
  go_simp
  refine (HCX2.out _ _ HM.out.row hHeld).mono ?_
  rintro e V7 ⟨rfl, bn⟩
  go_simp
  have HM2 := Lib.hid (HM.out.call bn)
  clear bn HM
  clear hHeld
  refine hK.out _ _ HM2.out.bel (fun hHeld => ?_)
  clear hK K
  have HM := Lib.hid HM2.out
  clear HM2
  clear V6
  refine wpAnyH_take (i := 8) (v := .tuple #[.agg #[.int .i64 q0, .int .i64 q1, .int .i64 y2], .int .i64 y3]) rfl (by kernel_rfl) (by kernel_rfl) (by kernel_rfl) (fun _ _ _ h => h) (Or.inl ⟨by rfl, ?_⟩) hHeld ?_
  · intro W hW
    go_simp
  simp [Act.put]
  refine wpAnyH_take (i := 9) (v := .agg #[.int .i64 q0, .int .i64 q1, .int .i64 y2]) rfl (by kernel_rfl) (by kernel_rfl) (by kernel_rfl) (fun _ _ _ h => h) (Or.inl ⟨by rfl, ?_⟩) hHeld ?_
  · intro W hW
    go_simp
  simp [Act.put]
  refine wpAnyH_take (i := 10) (v := .int .i64 y3) rfl (by kernel_rfl) (by kernel_rfl) (by kernel_rfl) (fun _ _ _ h => h) (Or.inl ⟨by rfl, ?_⟩) hHeld ?_
  · intro W hW
    go_simp
  simp [Act.put]
  refine wpAnyH_ready (rs := [12]) (by kernel_rfl) (by simp) ?_
  refine AllReadyH.cons rfl (fun K hK => ?_) (AllReadyH.nil)
  (try rw [if_pos (by rfl)])
  obtain ⟨hx1, -, hx3⟩ := HM.out.box _ rfl
  obtain ⟨r0, r1, r2, rf⟩ := three_cells hx1
  have glt : np < V7.heap.size := (Array.getElem?_eq_some_iff.1 hx1).1
  go_simp
  have hB12 := ((HM.out.bel.setCell (p := ⟨np, 0, none⟩) hx3 (.int .i64 q0)).setCell (p := ⟨np, 1, none⟩) hx3 (.int .i64 q1)).setCell (p := ⟨np, 2, none⟩) hx3 (.int .i64 y2)
  have F := Lib.hid (And.intro (agg_cells hx1 (.int .i64 q0) (.int .i64 q1) (.int .i64 y2)) hB12)
  clear hHeld
  refine hK.out _ _ hB12 (fun hHeld => ?_)
  clear hK K
  clear hB12 hx1 hx3 r0 r1 r2 rf glt HM
  refine wpAnyH_take (i := 13) (v := .int .i64 y3) rfl (by kernel_rfl) (by kernel_rfl) (by kernel_rfl) (fun _ _ _ h => h) (Or.inl ⟨by rfl, ?_⟩) hHeld ?_
  · intro W hW
    go_simp
  simp [Act.put]
  refine wpAnyH_done (by kernel_rfl) ?_ _
  clear hHeld
  generalize (((V7.setCell ⟨np, 0, none⟩ (.int .i64 q0)).setCell ⟨np, 1, none⟩ (.int .i64 q1)).setCell ⟨np, 2, none⟩ (.int .i64 y2)) = D at *
  clear V7
  revert F
  revert D
  revert v2
  revert v1
  revert np
  revert ng
  revert n0
  exact ?rest
  (try rw [if_pos (by rfl)])
  go_simp
  have HM2 := Lib.hid HM.out.one
  rw [HMS.out, HMT.out.1, HMT.out.2] at HM2
  clear hHeld
  refine hK.out _ _ HM2.out.bel (fun hHeld => ?_)
  clear hK K HM
  have HM := Lib.hid HM2.out
  clear HM2
  generalize V3.alloc (.cells #[.string (moreS k), .int .i64 3, .int .i64 (-1)] 34) = V4 at *
  generalize V3.heap.size = ng at *
  clear V3
  refine wpAnyH_ready (rs := [2]) (by kernel_rfl) (by simp) ?_
  refine AllReadyH.cons rfl (fun K hK => ?_) (AllReadyH.nil)
  (try rw [if_pos (by rfl)])
  refine appC (.tmp 79) (.tmp 80) rfl Wb.heap.size _ [] rfl HM.out.row vb 0 vc l (by rw [HN9.out]; rfl) (HLL.out _ hHeld) (by simp; omega) hHeld.size ?_
  rintro v1 V5 hrow hg ho
  have HM2 := Lib.hid (HM.out.app (show ClaRow V5 Wb.heap.size v1 l from hrow) hg ho)
  clear hrow hg ho HM
  clear hHeld
  refine hK.out _ _ HM2.out.bel (fun hHeld => ?_)
  clear hK K
  have HM := Lib.hid HM2.out
  clear HM2
  simp [Act.put]
  clear V4
  refine wpAnyH_ready (rs := [5]) (by kernel_rfl) (by simp) ?_
  refine AllReadyH.cons rfl (fun K hK => ?_) (AllReadyH.nil)
  (try rw [if_pos (by rfl)])
  refine appC (.tmp 81) (.tmp 83) rfl Wb.heap.size _ l rfl HM.out.row ng 0 1 [moreC k] rfl (oneC (HM.out.lit _ rfl).1) (by simp; omega) hHeld.size ?_
  rintro v2 V6 hrow hg ho
  have HM2 := Lib.hid (HM.out.app hrow hg ho)
  clear hrow hg ho HM
  clear hHeld
  refine hK.out _ _ HM2.out.bel (fun hHeld => ?_)
  clear hK K
  have HM := Lib.hid HM2.out
  clear HM2
  simp [Act.put]
  clear V5
  refine wpAnyH_ready (rs := [7]) (by kernel_rfl) (by simp) ?_
  refine AllReadyH.cons rfl (fun K hK => ?_) (AllReadyH.nil)
  (try rw [if_pos (by rfl)])
  go_simp
  refine (HCX2.out _ _ HM.out.row hHeld).mono ?_
  rintro e V7 ⟨rfl, bn⟩
  go_simp
  have HM2 := Lib.hid (HM.out.call bn)
  clear bn HM
  clear hHeld
  refine hK.out _ _ HM2.out.bel (fun hHeld => ?_)
  clear hK K
  have HM := Lib.hid HM2.out
  clear HM2
  clear V6
  refine wpAnyH_take (i := 8) (v := .tuple #[.agg #[.int .i64 q0, .int .i64 q1, .int .i64 y2], .int .i64 y3]) rfl (by kernel_rfl) (by kernel_rfl) (by kernel_rfl) (fun _ _ _ h => h) (Or.inl ⟨by rfl, ?_⟩) hHeld ?_
  · intro W hW
    go_simp
  simp [Act.put]
  refine wpAnyH_take (i := 9) (v := .agg #[.int .i64 q0, .int .i64 q1, .int .i64 y2]) rfl (by kernel_rfl) (by kernel_rfl) (by kernel_rfl) (fun _ _ _ h => h) (Or.inl ⟨by rfl, ?_⟩) hHeld ?_
  · intro W hW
    go_simp
  simp [Act.put]
  refine wpAnyH_take (i := 10) (v := .int .i64 y3) rfl (by kernel_rfl) (by kernel_rfl) (by kernel_rfl) (fun _ _ _ h => h) (Or.inl ⟨by rfl, ?_⟩) hHeld ?_
  · intro W hW
    go_simp
  simp [Act.put]
  refine wpAnyH_ready (rs := [12]) (by kernel_rfl) (by simp) ?_
  refine AllReadyH.cons rfl (fun K hK => ?_) (AllReadyH.nil)
  (try rw [if_pos (by rfl)])
  obtain ⟨hx1, -, hx3⟩ := HM.out.box _ rfl
  obtain ⟨r0, r1, r2, rf⟩ := three_cells hx1
  have glt : np < V7.heap.size := (Array.getElem?_eq_some_iff.1 hx1).1
  go_simp
  have hB12 := ((HM.out.bel.setCell (p := ⟨np, 0, none⟩) hx3 (.int .i64 q0)).setCell (p := ⟨np, 1, none⟩) hx3 (.int .i64 q1)).setCell (p := ⟨np, 2, none⟩) hx3 (.int .i64 y2)
  have F := Lib.hid (And.intro (agg_cells hx1 (.int .i64 q0) (.int .i64 q1) (.int .i64 y2)) hB12)
  clear hHeld
  refine hK.out _ _ hB12 (fun hHeld => ?_)
  clear hK K
  clear hB12 hx1 hx3 r0 r1 r2 rf glt HM
  refine wpAnyH_take (i := 13) (v := .int .i64 y3) rfl (by kernel_rfl) (by kernel_rfl) (by kernel_rfl) (fun _ _ _ h => h) (Or.inl ⟨by rfl, ?_⟩) hHeld ?_
  · intro W hW
    go_simp
  simp [Act.put]
  refine wpAnyH_done (by kernel_rfl) ?_ _
  clear hHeld
  generalize (((V7.setCell ⟨np, 0, none⟩ (.int .i64 q0)).setCell ⟨np, 1, none⟩ (.int .i64 q1)).setCell ⟨np, 2, none⟩ (.int .i64 y2)) = D at *
  clear V7
  revert F
  revert D
  revert v2
  revert v1
  revert np
  revert ng
  revert n0
  exact ?rest
  (try rw [if_pos (by rfl)])
  go_simp
  have HM2 := Lib.hid HM.out.one
  rw [HMS.out, HMT.out.1, HMT.out.2] at HM2
  clear hHeld
  refine hK.out _ _ HM2.out.bel (fun hHeld => ?_)
  clear hK K HM
  have HM := Lib.hid HM2.out
  clear HM2
  generalize V2.alloc (.cells #[.string (moreS k), .int .i64 3, .int .i64 (-1)] 34) = V3 at *
  generalize V2.heap.size = ng at *
  clear V2
  refine wpAnyH_ready (rs := [0]) (by kernel_rfl) (by simp) ?_
  refine AllReadyH.cons rfl (fun K hK => ?_) (AllReadyH.nil)
  (try rw [if_pos (by rfl)])
  go_simp
  have HM2 := Lib.hid HM.out.emp
  clear hHeld
  refine hK.out _ _ HM2.out.bel (fun hHeld => ?_)
  clear hK K HM
  have HM := Lib.hid HM2.out
  clear HM2
  generalize V3.alloc (.cells #[] 34) = V4 at *
  generalize V3.heap.size = n0 at *
  clear V3
  refine wpAnyH_ready (rs := [2]) (by kernel_rfl) (by simp) ?_
  refine AllReadyH.cons rfl (fun K hK => ?_) (AllReadyH.nil)
  (try rw [if_pos (by rfl)])
  refine appC (.tmp 79) (.tmp 80) rfl Wb.heap.size _ [] rfl HM.out.row vb 0 vc l (by rw [HN9.out]; rfl) (HLL.out _ hHeld) (by simp; omega) hHeld.size ?_
  rintro v1 V5 hrow hg ho
  have HM2 := Lib.hid (HM.out.app (show ClaRow V5 Wb.heap.size v1 l from hrow) hg ho)
  clear hrow hg ho HM
  clear hHeld
  refine hK.out _ _ HM2.out.bel (fun hHeld => ?_)
  clear hK K
  have HM := Lib.hid HM2.out
  clear HM2
  simp [Act.put]
  clear V4
  refine wpAnyH_ready (rs := [5]) (by kernel_rfl) (by simp) ?_
  refine AllReadyH.cons rfl (fun K hK => ?_) (AllReadyH.nil)
  (try rw [if_pos (by rfl)])
  refine appC (.tmp 81) (.tmp 83) rfl Wb.heap.size _ l rfl HM.out.row ng 0 1 [moreC k] rfl (oneC (HM.out.lit _ rfl).1) (by simp; omega) hHeld.size ?_
  rintro v2 V6 hrow hg ho
  have HM2 := Lib.hid (HM.out.app hrow hg ho)
  clear hrow hg ho HM
  clear hHeld
  refine hK.out _ _ HM2.out.bel (fun hHeld => ?_)
  clear hK K
  have HM := Lib.hid HM2.out
  clear HM2
  simp [Act.put]
  clear V5
  refine wpAnyH_ready (rs := [7]) (by kernel_rfl) (by simp) ?_
  refine AllReadyH.cons rfl (fun K hK => ?_) (AllReadyH.nil)
  (try rw [if_pos (by rfl)])
  go_simp
  refine (HCX2.out _ _ HM.out.row hHeld).mono ?_
  rintro e V7 ⟨rfl, bn⟩
  go_simp
  have HM2 := Lib.hid (HM.out.call bn)
  clear bn HM
  clear hHeld
  refine hK.out _ _ HM2.out.bel (fun hHeld => ?_)
  clear hK K
  have HM := Lib.hid HM2.out
  clear HM2
  clear V6
  refine wpAnyH_take (i := 8) (v := .tuple #[.agg #[.int .i64 q0, .int .i64 q1, .int .i64 y2], .int .i64 y3]) rfl (by kernel_rfl) (by kernel_rfl) (by kernel_rfl) (fun _ _ _ h => h) (Or.inl ⟨by rfl, ?_⟩) hHeld ?_
  · intro W hW
    go_simp
  simp [Act.put]
  refine wpAnyH_take (i := 9) (v := .agg #[.int .i64 q0, .int .i64 q1, .int .i64 y2]) rfl (by kernel_rfl) (by kernel_rfl) (by kernel_rfl) (fun _ _ _ h => h) (Or.inl ⟨by rfl, ?_⟩) hHeld ?_
  · intro W hW
    go_simp
  simp [Act.put]
  refine wpAnyH_take (i := 10) (v := .int .i64 y3) rfl (by kernel_rfl) (by kernel_rfl) (by kernel_rfl) (fun _ _ _ h => h) (Or.inl ⟨by rfl, ?_⟩) hHeld ?_
  · intro W hW
    go_simp
  simp [Act.put]
  refine wpAnyH_ready (rs := [12]) (by kernel_rfl) (by simp) ?_
  refine AllReadyH.cons rfl (fun K hK => ?_) (AllReadyH.nil)
  (try rw [if_pos (by rfl)])
  obtain ⟨hx1, -, hx3⟩ := HM.out.box _ rfl
  obtain ⟨r0, r1, r2, rf⟩ := three_cells hx1
  have glt : np < V7.heap.size := (Array.getElem?_eq_some_iff.1 hx1).1
  go_simp
  have hB12 := ((HM.out.bel.setCell (p := ⟨np, 0, none⟩) hx3 (.int .i64 q0)).setCell (p := ⟨np, 1, none⟩) hx3 (.int .i64 q1)).setCell (p := ⟨np, 2, none⟩) hx3 (.int .i64 y2)
  have F := Lib.hid (And.intro (agg_cells hx1 (.int .i64 q0) (.int .i64 q1) (.int .i64 y2)) hB12)
  clear hHeld
  refine hK.out _ _ hB12 (fun hHeld => ?_)
  clear hK K
  clear hB12 hx1 hx3 r0 r1 r2 rf glt HM
  refine wpAnyH_take (i := 13) (v := .int .i64 y3) rfl (by kernel_rfl) (by kernel_rfl) (by kernel_rfl) (fun _ _ _ h => h) (Or.inl ⟨by rfl, ?_⟩) hHeld ?_
  · intro W hW
    go_simp
  simp [Act.put]
  refine wpAnyH_done (by kernel_rfl) ?_ _
  clear hHeld
  generalize (((V7.setCell ⟨np, 0, none⟩ (.int .i64 q0)).setCell ⟨np, 1, none⟩ (.int .i64 q1)).setCell ⟨np, 2, none⟩ (.int .i64 y2)) = D at *
  clear V7
  revert F
  revert D
  revert v2
  revert v1
  revert np
  revert ng
  revert n0
  exact ?rest
  case rest =>
    intro n0 ng np v1 v2 D F
    obtain ⟨⟨⟨hy0, hy1, hy2⟩, gnp⟩, bD⟩ := F.out
    have HBD := Lib.hid bD
    have HY : Hid (∀ W, Below D.heap.size D W → (W.cell? ⟨np, 0, none⟩ = some (.int .i64 q0) ∧ W.cell? ⟨np, 1, none⟩ = some (.int .i64 q1) ∧ W.cell? ⟨np, 2, none⟩ = some (.int .i64 y2) ∧ np < W.heap.size) ∧
        (W.cell? ⟨w1.heap.size, 0, none⟩ = some (.int .i64 q0) ∧ W.cell? ⟨w1.heap.size, 1, none⟩ = some (.int .i64 q1) ∧ W.cell? ⟨w1.heap.size, 2, none⟩ = some (.int .i64 z) ∧ w1.heap.size < W.heap.size) ∧
        (W.cell? ⟨p3, 0, none⟩ = some (.int .i64 q0) ∧ W.cell? ⟨p3, 1, none⟩ = some (.int .i64 q1) ∧ W.cell? ⟨p3, 2, none⟩ = some (.int .i64 q2) ∧ p3 < W.heap.size) ∧ Below w1.heap.size w1 W ∧
        (W.cell? ⟨w5.heap.size + 1, 0, none⟩ = some (.string (moreS k)) ∧ w5.heap.size + 1 < W.heap.size) ∧ Below w.heap.size w W) := fun W hW => by
      have kc := belCell hW
      have hB := belStep HBD.out hW
      obtain ⟨k1, k2, k3⟩ := HK6.out W hB
      obtain ⟨⟨c0, -⟩, gl⟩ := HC6.out W hB
      rw [HMS.out] at c0
      exact ⟨⟨(kc _ _ gnp).trans hy0, (kc _ _ gnp).trans hy1, (kc _ _ gnp).trans hy2, Nat.lt_of_lt_of_le gnp hW.size⟩, k1, k2, k3, ⟨c0, gl⟩, BW.out W k3⟩
    have HF : Hid (∀ W, Below D.heap.size D W → ∀ i, i < n → Thr W vb (i * 3) (clAt l i)) := fun W hW i hi => by
      have := HLL.out W (belStep HBD.out hW) i (by rw [HN9.out]; exact hi)
      rwa [Nat.zero_add] at this
    have HAP1 : Hid ((∀ j, j < n → fitC (clAt l j) q0 q1 z = false) → (y2, y3) = if fitC (moreC k) q0 q1 z = true then (z, 3) else (z, 0)) := fun h => by
      have := HAPP.out.1 (fun j hj => h j (by rw [← HN9.out]; exact hj))
      rw [this, HMT.out.1, HMT.out.2]
      rfl
    have HAP2 : Hid (∀ j, j < n → fitC (clAt l j) q0 q1 z = true → (y2, y3) = (q2, q3)) := fun j hj h => by
      have := HAPP.out.2 ⟨j, by rw [HN9.out]; exact hj, h⟩
      rw [this]
      exact HQD.out
    clear F hy0 hy1 hy2 gnp bD HK6 HC6 HLL HAPP HQD HBD HB6 HCX2
    go_wp2_with fail
    go_loopw [14] (fun i wr => ∃ j : Nat, j ≤ n ∧ i = .int .i64 (j : Int) ∧ (∀ t, t < j → fitC (clAt l t) q0 q1 z = false) ∧ Below D.heap.size D wr) (fun i _ => n - (intOf i).toNat)
    case atStart => exact ⟨0, Nat.zero_le _, rfl, fun t ht => absurd ht (Nat.not_lt_zero _), Below.refl _ _⟩
    case round =>
      obtain ⟨j, hj, rfl, hans, hbel⟩ := hrel
      have HAN := Lib.hid hans
      have HBL := Lib.hid hbel
      clear hans hbel
      obtain ⟨-, ⟨h0, h1, h2, h3⟩, -, hbw, -, -⟩ := HY.out _ HBL.out
      have HBW := Lib.hid hbw
      clear hbw
      by_cases hlt : j < n
      · have hz : (j : Int) < (n : Int) := by omega
        have hw1 : IntKind.i64.wrap ((j : Int) + 1) = (j : Int) + 1 := by rw [IntKind.wrap_i64]; omega
        obtain ⟨d0, d1, d2⟩ := HF.out _ HBL.out j hlt
        have HPQ := Lib.hid (fun W h => HPF.out (clAt l j) W h)
        have HA2 := Lib.hid (HAP2.out j hlt)
        have hbr : vb < wr.heap.size := World.block_lt_of_cell? _ _ d0
        have HNX : Hid (fitC (clAt l j) q0 q1 z = false → ∀ t, t < j + 1 → fitC (clAt l t) q0 q1 z = false) := fun h t ht => by
          by_cases e : t = j
          · subst e; exact h
          · exact HAN.out t (by omega)
        generalize clAt l j = q at *
        have r0 := fun m : Ext wr => m.cell hbr d0
        have r1 := fun m : Ext wr => m.cell h3 h0
        have r2 := fun m : Ext wr => m.cell h3 h1
        have r3 := fun m : Ext wr => m.cell h3 h2
        clear d0 d1 d2 h0 h1 h2 h3
        go_wp2_with fail
        refine wp_region_ext (w0 := wr) (by kernel_rfl) (by kernel_rfl) (Below.refl _ _) ?_
        repeat (go_big_quiet_step (first | (go_at_call 9; exact ext_of (HPQ.out _ (belStep HBW.out (Ext.h _))))))
        refine wpQuiet_nil ?_
        intro w6 hx6
        have hb6 := ext_out hx6
        have HB6 := Lib.hid (belStep HBL.out hb6)
        clear hx6 hb6 r0 r1 r2 r3 HPQ
        obtain ⟨⟨a0, a1, a2, a3⟩, -, ⟨c0, c1, c2, c3⟩, -, -, hww⟩ := HY.out _ HB6.out
        have HW := Lib.hid hww
        clear hww
        generalize fitC q q0 q1 z = fit at *
        cases fit
        · have HN1 := Lib.hid (HNX.out rfl)
          clear a0 a1 a2 a3 c0 c1 c2 c3
          go_wp2
          go_roundw
          case rel => exact ⟨j + 1, by omega, by go_num, HN1.out, HB6.out⟩
          case measure => simp [intOf]; omega
        · have e := HA2.out rfl
          simp only [Prod.mk.injEq] at e
          obtain ⟨rfl, rfl⟩ := e
          go_wp2
          go_ret
          exact ⟨by first | rfl | (simp; done), HW.out⟩
      · obtain rfl : j = n := by omega
        have h1' : ¬ (j : Int) < (j : Int) := by omega
        have e := HAP1.out HAN.out
        obtain ⟨⟨a0, a1, a2, a3⟩, -, -, -, ⟨s0, gs⟩, -⟩ := HY.out _ HBL.out
        have HPM' := Lib.hid (HPM.out _ HBW.out)
        cases hfm : fitC (moreC k) q0 q1 z
        · rw [hfm] at e HPM'
          simp only [Bool.false_eq_true, if_false, Prod.mk.injEq] at e
          obtain ⟨rfl, rfl⟩ := e
          go_wp2_with fail
          refine HPM'.out.mono ?_
          rintro e w7 ⟨rfl, b7⟩
          have HW := Lib.hid (HY.out _ (belStep HBL.out b7)).2.2.2.2.2
          go_wp2
          go_ret
          exact ⟨by first | rfl | (simp; done), HW.out⟩
        · rw [hfm, if_pos rfl] at e
          rw [hfm] at HPM'
          simp only [Prod.mk.injEq] at e
          obtain ⟨rfl, rfl⟩ := e
          go_wp2_with fail
          refine HPM'.out.mono ?_
          rintro e w7 ⟨rfl, b7⟩
          have HW := Lib.hid (HY.out _ (belStep HBL.out b7)).2.2.2.2.2
          go_wp2
          go_ret
          exact ⟨by first | rfl | (simp; done), HW.out⟩

end Go.Proofs.YtcipidcnkllanaaDoor
