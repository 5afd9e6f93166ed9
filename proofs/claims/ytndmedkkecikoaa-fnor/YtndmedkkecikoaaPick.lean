/-
  The reader of codes, of which the drawn inputs of the statements are made: what it picks lies in the range that is asked for; it changes its own place and nothing else.
-/
import Derived.Test.YtndmedkkecikoaaRows
import Derived.WalkKit
import Derived.ProofKit
import Derived.OpenShut
import Derived.Lib.SmallJoins
import Derived.Lib.Hide
import Derived.IntWalk
import Derived.Deep.QuietTactic
import Derived.BigQuiet
import Derived.Deep.AppendLies
namespace Go.Proofs.Ytndmedkkecikoaa
open Go.ChangeShapes Go.WideShapes Go.ChangeAt Go.RowKit Go.Joins
set_option linter.unusedVariables false

/-- The first len places of a slice hold bytes; they lie in a block below g. -/
def BytesIn (w : World) (g : Nat) (a : Option Addr) (len cap : Nat) : Prop :=
  len ≤ cap ∧ cap ≤ maxLen ∧ (len = 0 ∨ ∃ (b off : Nat) (zs : Nat → Int), a = some ⟨b, off, none⟩ ∧ b < g ∧ ∀ i, i < len → w.cell? ⟨b, off + i, none⟩ = some (.int .u8 (zs i)) ∧ 0 ≤ zs i ∧ zs i ≤ 255)

theorem pick_empty (w : World) (g len cap : Nat) (a : Option Addr) (p n : Int) (h0 : w.cell? ⟨g, 0, none⟩ = some (.slice a 0 cap)) (h1 : w.cell? ⟨g, 1, none⟩ = some (.int .i64 p)) (hf : w.frozen? ⟨g, 1, none⟩ = false)
    (hp0 : 0 ≤ p) (hp1 : p ≤ 1000000000000) (hn : 1 ≤ n) :
    Calls Try.prog 64 #[.pointer (some ⟨g, 0, none⟩), .int .i64 n] w fun e w' => e = .returned (.int .i64 0) ∧ w' = w.setCell ⟨g, 1, none⟩ (.int .i64 (p + 1)) := by
  have hd : decide (n < 1) = false := by simp; omega
  go_enter Try.func64, Try.ntmps64
  go_wp2
  go_ret
  exact ⟨rfl, rfl⟩

theorem pick_near (w : World) (g len cap b off : Nat) (p n z : Int) (h0 : w.cell? ⟨g, 0, none⟩ = some (.slice (some ⟨b, off, none⟩) len cap)) (h1 : w.cell? ⟨g, 1, none⟩ = some (.int .i64 p)) (hf : w.frozen? ⟨g, 1, none⟩ = false)
    (hp0 : 0 ≤ p) (hp1 : p ≤ 1000000000000) (hn : 1 ≤ n) (hlt : p < (len : Int)) (hne : b ≠ g) (hz : w.cell? ⟨b, off + p.toNat, none⟩ = some (.int .u8 z)) (hz0 : 0 ≤ z) (hz1 : z ≤ 255) :
    Calls Try.prog 64 #[.pointer (some ⟨g, 0, none⟩), .int .i64 n] w fun e w' => e = .returned (.int .i64 (z % n)) ∧ w' = w.setCell ⟨g, 1, none⟩ (.int .i64 (p + 1)) := by
  have hd : decide (n < 1) = false := by simp; omega
  have hl : ((len : Int) == 0) = false := by simp; omega
  go_enter Try.func64, Try.ntmps64
  go_wp2
  go_ret
  exact ⟨rfl, rfl⟩


theorem xor_nonneg {x y : Int} (hx0 : 0 ≤ x) (hx1 : x < 4611686018427387904) (hy0 : 0 ≤ y) (hy1 : y < 4611686018427387904) : 0 ≤ bits BinOp.xor IntKind.i64 x y := by
  obtain ⟨a, rfl⟩ := Int.eq_ofNat_of_zero_le hx0
  obtain ⟨b, rfl⟩ := Int.eq_ofNat_of_zero_le hy0
  have ha : a < 2 ^ 62 := by omega
  have hb : b < 2 ^ 62 := by omega
  have hx := Nat.xor_lt_two_pow ha hb
  show 0 ≤ IntKind.i64.wrap ((BitVec.ofInt 64 (a : Int) ^^^ BitVec.ofInt 64 (b : Int)).toNat : Int)
  rw [BitVec.toNat_xor, BitVec.ofInt_natCast, BitVec.ofInt_natCast, BitVec.toNat_ofNat, BitVec.toNat_ofNat, Nat.mod_eq_of_lt (by omega), Nat.mod_eq_of_lt (by omega), IntKind.wrap_i64]
  omega

/-- What pick leaves: a number in the range, and its place one further. -/
def PickPost (n p : Int) (g : Nat) (w : World) (e : Ending) (w' : World) : Prop :=
  ∃ (v : Int) (k : Nat), 0 ≤ v ∧ v < n ∧ e = .returned (.int .i64 v) ∧ w' = (w.setCell ⟨g, 1, none⟩ (.int .i64 (p + 1))).drewN k

set_option maxRecDepth 100000 in
set_option maxHeartbeats 1000000 in
theorem pick_far (w : World) (g len cap b off : Nat) (p n z y : Int) (h0 : w.cell? ⟨g, 0, none⟩ = some (.slice (some ⟨b, off, none⟩) len cap)) (h1 : w.cell? ⟨g, 1, none⟩ = some (.int .i64 p)) (hf : w.frozen? ⟨g, 1, none⟩ = false)
    (hp0 : 0 ≤ p) (hp1 : p ≤ 1000000000000) (hn : 1 ≤ n) (hlt : (len : Int) ≤ p) (hpos : 0 < (len : Int)) (hne : b ≠ g)
    (hz : w.cell? ⟨b, off + (p % (len : Int)).toNat, none⟩ = some (.int .u8 z)) (hz0 : 0 ≤ z) (hz1 : z ≤ 255)
    (hy : w.cell? ⟨b, off + ((p * 7 + 3) % (len : Int)).toNat, none⟩ = some (.int .u8 y)) (hy0 : 0 ≤ y) (hy1 : y ≤ 255) :
    Calls Try.prog 64 #[.pointer (some ⟨g, 0, none⟩), .int .i64 n] w (PickPost n p g w) := by
  have hd : decide (n < 1) = false := by simp; omega
  have hl : ((len : Int) == 0) = false := by simp; omega
  have m0 : 0 ≤ p % (len : Int) := Int.emod_nonneg _ (by omega)
  have m1 : p % (len : Int) < (len : Int) := Int.emod_lt_of_pos _ hpos
  have k0 : 0 ≤ (p * 7 + 3) % (len : Int) := Int.emod_nonneg _ (by omega)
  have k1 : (p * 7 + 3) % (len : Int) < (len : Int) := Int.emod_lt_of_pos _ hpos
  have q0 : 0 ≤ p / (len : Int) := Int.ediv_nonneg hp0 (by omega)
  have q1 : p / (len : Int) ≤ p := Int.ediv_le_self _ hp0
  go_enter Try.func64, Try.ntmps64
  go_wp2
  go_quiet (fail)
  go_wp2
  go_ret
  have hx := xor_nonneg (x := z * 131 + y * 1117 + p * 29 + p / ↑len * 53) (y := (z * 131 + y * 1117 + p * 29 + p / ↑len * 53) / 64) (by omega) (by omega) (by omega) (by omega)
  exact ⟨_, nq, Int.tmod_nonneg _ hx, Int.tmod_lt_of_pos _ (by omega), rfl, rfl⟩

/-- Block g is a reader's: it holds a slice of bytes, which lie below it, and a place that is at most B. -/
def RdOk (w : World) (g B : Nat) : Prop :=
  ∃ (a : Option Addr) (len cap : Nat) (p : Int), w.heap[g]? = some (.cells #[.slice a len cap, .int .i64 p] 99) ∧ BytesIn w g a len cap ∧ 0 ≤ p ∧ p ≤ (B : Int)

theorem BytesIn.keep {w w' : World} {g len cap : Nat} {a : Option Addr} (h : BytesIn w g a len cap) (hk : ∀ k, k < g → w'.heap[k]? = w.heap[k]?) : BytesIn w' g a len cap := by
  obtain ⟨h1, h2, h3⟩ := h
  refine ⟨h1, h2, h3.imp id ?_⟩
  rintro ⟨b, off, zs, ha, hb, hz⟩
  exact ⟨b, off, zs, ha, hb, fun i hi => ⟨(World.cell?_of_block (w := w) (hk b hb)).trans (hz i hi).1, (hz i hi).2⟩⟩
theorem BytesIn.up {w : World} {g g' len cap : Nat} {a : Option Addr} (h : BytesIn w g a len cap) (hg : g ≤ g') : BytesIn w g' a len cap := by
  obtain ⟨h1, h2, h3⟩ := h
  refine ⟨h1, h2, h3.imp id ?_⟩
  rintro ⟨b, off, zs, ha, hb, hz⟩
  exact ⟨b, off, zs, ha, by omega, hz⟩
theorem RdOk.keep {w w' : World} {g B : Nat} (h : RdOk w g B) (hk : ∀ k, k ≤ g → w'.heap[k]? = w.heap[k]?) : RdOk w' g B := by
  obtain ⟨a, len, cap, p, hg, hb, hp⟩ := h
  exact ⟨a, len, cap, p, (hk g (Nat.le_refl _)).trans hg, hb.keep fun k hlt => hk k (by omega), hp⟩
theorem RdOk.below {w w' : World} {g B N : Nat} (h : RdOk w g B) (hb : Below N w w') (hg : g < N) : RdOk w' g B := h.keep fun k hk => hb.block k (by omega)
theorem RdOk.le {w : World} {g B B' : Nat} (h : RdOk w g B) (hB : B ≤ B') : RdOk w g B' := by
  obtain ⟨a, len, cap, p, hg, hb, hp⟩ := h
  exact ⟨a, len, cap, p, hg, hb, hp.1, by omega⟩
theorem RdOk.lt {w : World} {g B : Nat} (h : RdOk w g B) : g < w.heap.size := by
  obtain ⟨a, len, cap, p, hg, _⟩ := h
  rcases Nat.lt_or_ge g w.heap.size with h' | h'
  · exact h'
  · rw [Array.getElem?_eq_none h'] at hg; cases hg

theorem RdOk.alloc {w : World} {g B : Nat} (h : RdOk w g B) (o : Obj) : RdOk (w.alloc o) g B := h.keep fun k hk => Below.heap_alloc _ _ _ (by have := h.lt; omega)
theorem RdOk.setCell {w : World} {g B : Nat} (h : RdOk w g B) {p : Addr} (hp : g < p.block) (u : Value) : RdOk (w.setCell p u) g B := h.keep fun k hk => Below.heap_setCell _ _ _ _ (by omega)

/-! ### Only block g, and what is new, has turned -/

theorem gAlloc {a w : World} {row : Option Nat} (h : a.grownBy w row) (o : Obj) : a.grownBy (w.alloc o) row :=
  ⟨h.os, h.tape, h.output, Nat.le_trans h.size (by simp), fun i hi hne => (Below.heap_alloc w o i (Nat.lt_of_lt_of_le hi h.size)).trans (h.block i hi hne)⟩
theorem gSet {a w : World} {row : Option Nat} (h : a.grownBy w row) {p : Addr} (hp : a.heap.size ≤ p.block) (u : Value) : a.grownBy (w.setCell p u) row :=
  ⟨h.os, h.tape, h.output, by simpa [World.setCell] using h.size, fun i hi hne => (Below.heap_setCell w p u i (by omega)).trans (h.block i hi hne)⟩
theorem gBelow {a w w' : World} {row : Option Nat} {N : Nat} (h : a.grownBy w row) (hb : Below N w w') (hN : a.heap.size ≤ N) : a.grownBy w' row :=
  ⟨hb.os.trans h.os, hb.tape.trans h.tape, hb.output.trans h.output, Nat.le_trans h.size hb.size, fun i hi hne => (hb.block i (by omega)).trans (h.block i hi hne)⟩
theorem gTrans {a b c : World} {row : Option Nat} (h : a.grownBy b row) (k : b.grownBy c row) : a.grownBy c row :=
  ⟨k.os.trans h.os, k.tape.trans h.tape, k.output.trans h.output, Nat.le_trans h.size k.size, fun i hi hne => (k.block i (Nat.lt_of_lt_of_le hi h.size) hne).trans (h.block i hi hne)⟩
theorem gRefl (a : World) (row : Option Nat) : a.grownBy a row := ⟨rfl, rfl, rfl, Nat.le_refl _, fun _ _ _ => rfl⟩
theorem gCell {a w : World} {g : Nat} (h : a.grownBy w (some g)) {b : Nat} (o : Nat) (hb : b < a.heap.size) (hne : b ≠ g) : w.cell? ⟨b, o, none⟩ = a.cell? ⟨b, o, none⟩ :=
  World.cell?_of_block (w := a) (h.block b hb (by intro e; cases e; exact hne rfl))
theorem gFrozen {a w : World} {g : Nat} (h : a.grownBy w (some g)) {b : Nat} (o : Nat) (hb : b < a.heap.size) (hne : b ≠ g) : w.frozen? ⟨b, o, none⟩ = a.frozen? ⟨b, o, none⟩ :=
  World.frozen?_of_block (w := a) (h.block b hb (by intro e; cases e; exact hne rfl))
/-- A reader that is the call's own: below it nothing has turned. -/
theorem gBel {a w : World} {g N : Nat} (h : a.grownBy w (some g)) (hN : N ≤ g) (hs : N ≤ a.heap.size) : Below N a w :=
  ⟨h.os, h.tape, h.output, h.size, fun k hk => h.block k (by omega) (by intro e; cases e; omega)⟩

/-- What a pick leaves, told by the reader's state. -/
def PickAny (n : Int) (g B : Nat) (w : World) (e : Ending) (w' : World) : Prop :=
  ∃ v : Int, 0 ≤ v ∧ v < n ∧ e = .returned (.int .i64 v) ∧ RdOk w' g (B + 1) ∧ w.grownBy w' (some g)

theorem pickAny_of {n p : Int} {g B len cap : Nat} {a : Option Addr} {w : World} {e : Ending} {w' : World} (hg : w.heap[g]? = some (.cells #[.slice a len cap, .int .i64 p] 99)) (hb : BytesIn w g a len cap) (hp0 : 0 ≤ p) (hp1 : p ≤ (B : Int))
    (h : PickPost n p g w e w') : PickAny n g B w e w' := by
  obtain ⟨v, k, h0, h1, he, rfl⟩ := h
  have hlt : g < w.heap.size := by
    rcases Nat.lt_or_ge g w.heap.size with h' | h'
    · exact h'
    · rw [Array.getElem?_eq_none h'] at hg; cases hg
  refine ⟨v, h0, h1, he, ⟨a, len, cap, p + 1, ?_, hb.keep fun j hj => ?_, by omega, by omega⟩, ⟨rfl, rfl, rfl, by simp [World.setCell, World.drewN], fun j hj hne => ?_⟩⟩
  · exact block_setCell hg _
  · exact Below.heap_setCell _ _ _ _ (by show j ≠ g; omega)
  · exact Below.heap_setCell _ _ _ _ (by show j ≠ g; intro h; exact hne (by rw [h]))

theorem pick_any (w : World) (g B : Nat) (n : Int) (hr : RdOk w g B) (hB : B ≤ 1000000000) (hn : 1 ≤ n) :
    Calls Try.prog 64 #[.pointer (some ⟨g, 0, none⟩), .int .i64 n] w (PickAny n g B w) := by
  obtain ⟨a, len, cap, p, hg, hb, hp0, hp1⟩ := hr
  have h0 : w.cell? ⟨g, 0, none⟩ = some (.slice a len cap) := by rw [cell_of_block hg]; rfl
  have h1 : w.cell? ⟨g, 1, none⟩ = some (.int .i64 p) := by rw [cell_of_block hg]; rfl
  have hf : w.frozen? ⟨g, 1, none⟩ = false := unfrozen_of_block hg 1
  have hb' := hb
  obtain ⟨hl, hm, hz⟩ := hb
  rcases hz with rfl | ⟨b, off, zs, rfl, hlt, hz⟩
  · refine (pick_empty w g 0 cap a p n h0 h1 hf hp0 (by omega) hn).mono ?_
    rintro e w' ⟨rfl, rfl⟩
    exact pickAny_of hg hb' hp0 hp1 ⟨0, 0, by omega, by omega, rfl, rfl⟩
  · by_cases h : len = 0
    · subst h
      refine (pick_empty w g 0 cap _ p n h0 h1 hf hp0 (by omega) hn).mono ?_
      rintro e w' ⟨rfl, rfl⟩
      exact pickAny_of hg hb' hp0 hp1 ⟨0, 0, by omega, by omega, rfl, rfl⟩
    · by_cases hk : p < (len : Int)
      · obtain ⟨c1, c2, c3⟩ := hz p.toNat (by omega)
        refine (pick_near w g len cap b off p n _ h0 h1 hf hp0 (by omega) hn hk (by omega) c1 c2 c3).mono ?_
        rintro e w' ⟨rfl, rfl⟩
        exact pickAny_of hg hb' hp0 hp1 ⟨_, 0, Int.emod_nonneg _ (by omega), Int.emod_lt_of_pos _ (by omega), rfl, rfl⟩
      · have hpos : 0 < (len : Int) := by omega
        obtain ⟨c1, c2, c3⟩ := hz (p % (len : Int)).toNat (by have := Int.emod_lt_of_pos p hpos; have := Int.emod_nonneg p (b := (len : Int)) (by omega); omega)
        obtain ⟨d1, d2, d3⟩ := hz ((p * 7 + 3) % (len : Int)).toNat (by have := Int.emod_lt_of_pos (p * 7 + 3) hpos; have := Int.emod_nonneg (p * 7 + 3) (b := (len : Int)) (by omega); omega)
        refine (pick_far w g len cap b off p n _ _ h0 h1 hf hp0 (by omega) hn (by omega) hpos (by omega) c1 c2 c3 d1 d2 d3).mono ?_
        intro e w' h
        exact pickAny_of hg hb' hp0 hp1 h

/-! ### Opening a code -/

/-- What opening leaves: a reader in a new block. -/
def OpenPost (w : World) (e : Ending) (w' : World) : Prop :=
  e = .returned (.pointer (some ⟨w.heap.size, 0, none⟩)) ∧ RdOk w' w.heap.size 0 ∧ Below w.heap.size w w'

theorem openPost_of {w : World} {a : Option Addr} {len cap : Nat} (hb : BytesIn w w.heap.size a len cap) :
    OpenPost w (.returned (.pointer (some ⟨w.heap.size, 0, none⟩))) (w.alloc (.cells #[.slice a len cap, .int .i64 0] 99)) :=
  ⟨rfl, ⟨a, len, cap, 0, (MapKept.heap_alloc w _).1, hb.keep fun k hk => Below.heap_alloc _ _ _ hk, by omega, by omega⟩, below_alloc1 _ _⟩

set_option maxHeartbeats 400000 in
theorem open_any (w : World) (a : Option Addr) (len cap : Nat) (hb : BytesIn w w.heap.size a len cap) :
    Calls Try.prog 51 #[.slice a len cap] w (OpenPost w) := by
  obtain ⟨hl, hm, hz⟩ := hb
  by_cases h : len ≤ 2000
  · have hlen : ¬ (2000 : Int) < (len : Int) := by omega
    have HB := Lib.hid (openPost_of ⟨hl, hm, hz⟩)
    clear hz
    unfold maxLen at hm
    go_enter Try.func51, Try.ntmps51
    go_wp2
    go_ret
    exact HB.out
  · have hb2 : BytesIn w w.heap.size a 2000 cap := ⟨by omega, hm, by
      rcases hz with h0 | ⟨b, off, zs, ha, hlt, hz⟩
      · omega
      · exact .inr ⟨b, off, zs, ha, hlt, fun i hi => hz i (by omega)⟩⟩
    obtain ⟨b, off, rfl⟩ : ∃ b off, a = some ⟨b, off, none⟩ := by
      rcases hz with h0 | ⟨b, off, zs, ha, hlt, hz⟩
      · omega
      · exact ⟨b, off, ha⟩
    have hlen : (2000 : Int) < (len : Int) := by omega
    have hcap : (2000 : Int) ≤ (cap : Int) := by omega
    have HB := Lib.hid (openPost_of hb2)
    clear hz hb2
    unfold maxLen at hm
    go_enter Try.func51, Try.ntmps51
    go_wp2
    go_ret
    exact HB.out

/-- A slice of bytes that came in. -/
theorem isRow_of {H : Type} {enc : TypeId × Value → H} {w : World} {a : Option Addr} {len cap : Nat} {d : DataW H} {ps : List MemPlace}
    (h : DataW.Trod enc Try.prog w 0 (fun _ => true) true 22 (.slice a len cap) d ps) : BytesIn w w.heap.size a len cap := by
  obtain ⟨fuel, hf⟩ := h
  rcases open_ints Try.underlying22 Try.underlying5 (by kernel_rfl) hf with ⟨hcs, _⟩ | ⟨x, l, c, zs, hcs, _, hl, hm, hz, _, hcell, hwz⟩
  · simp [Value.cells] at hcs
    obtain ⟨rfl, rfl, rfl⟩ := hcs
    exact ⟨by omega, by omega, .inl rfl⟩
  · simp [Value.cells] at hcs
    obtain ⟨rfl, rfl, rfl⟩ := hcs
    refine ⟨hl, hm, ?_⟩
    by_cases h0 : len = 0
    · exact .inl h0
    right
    have hzl : zs.length = cap := by simpa using hz
    obtain ⟨b, off, spot⟩ := x
    have hc0 := hcell 0 (by omega)
    have hs : spot = none := by simpa [Addr.add] using World.cell?_spot hc0
    subst hs
    refine ⟨b, off, fun i => zs.getD i 0, rfl, World.block_lt_of_cell? w _ hc0, fun i hi => ?_⟩
    have hc := hcell i (by omega)
    have hw := hwz (zs.getD i 0) (by rw [List.getD_eq_getElem?_getD, List.getElem?_eq_getElem (by omega)]; exact List.getElem_mem _)
    have hbd := bounds_u8 hw
    have ha : (⟨b, off, none⟩ : Addr).add i = ⟨b, off + i, none⟩ := by cases i <;> simp [Addr.add]
    rw [ha] at hc
    exact ⟨hc, hbd.1, hbd.2⟩

end Go.Proofs.Ytndmedkkecikoaa
