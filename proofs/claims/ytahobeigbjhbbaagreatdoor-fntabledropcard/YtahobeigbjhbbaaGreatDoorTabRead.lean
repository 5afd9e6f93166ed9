/-
  The program's reading of a table: from the last rule to the first one.
-/
import Derived.Test.YtahobeigbjhbbaaGreatDoorTabList
import Derived.RangeFuncBox
import Derived.RangeFuncLeaves
import Derived.Shelf.Abstract
import Derived.WalkKit
import Derived.OwnWalkIn
import Derived.TacticsInMore
import Derived.LoopNIn
import Derived.LoopIn
import Derived.RangeFuncKeeps
import Derived.RangeFuncNested
import Derived.Shelf.RegionOpen
namespace Go.Proofs.YtahobeigbjhbbaaGreatDoor
open Go.ChangeShapes Go.WideShapes Go.ChangeAt Go.RowKit Go.Joins
open Go.Shelf
set_option linter.unusedVariables false
attribute [local go_sem] Oper.semAt_some

/-- What a round that goes on keeps: what lay below n, and one block. -/
def KpB (n b : Nat) (A B : World) : Prop := Below n A B ∧ B.heap[b]? = A.heap[b]?
theorem KpB.trans {n b : Nat} {A B C : World} (h : KpB n b A B) (k : KpB n b B C) : KpB n b A C := ⟨h.1.trans k.1, k.2.trans h.2⟩
theorem kpB_b {n b : Nat} {w : World} (h1 : n ≤ w.heap.size) (h2 : b < w.heap.size) (W : World) (l : Nat) (o o' : Obj) (hl : w.heap.size ≤ l) (ho : W.heap[l]? = some o) (hc : o.isCells = false) (hw : o.isWalk = false) : KpB n b W (W.putObj l o') :=
  ⟨belowK_b h1 W l o o' hl ho hc hw, World.putObj_heap_other (by omega)⟩
/-- A block of cells is nothing that the loop's own book-keeping turns. -/
theorem blk_own {β : Type} (B : Nat) (f : β → Obj) (hc : ∀ s, (f s).isCells = true) : Own (fun s W => W.heap[B]? = some (f s)) := fun s X Y row hs hg hrow => by
  refine (hg.block B (Array.getElem?_eq_some_iff.1 hs).1 ?_).trans hs
  intro e
  obtain ⟨o, ho, hn⟩ := hrow B e.symm
  rw [show X.heap[B]? = some (f s) from hs] at ho
  cases ho
  rw [hc s] at hn
  cases hn
theorem ll_own {X Y : World} {row : Option Nat} (hg : X.grownBy Y row) (hrow : ∀ r, row = some r → ∃ o : Obj, X.heap[r]? = some o ∧ o.isCells = false) {g : Nat} {l : List R4} {p : Option Addr} (h : LL X g p l) : LL Y g p l :=
  h.keep fun b r q _ hb => blk_own b (fun _ : Unit => nodeO r q) (fun _ => rfl) () X Y row hb hg hrow
theorem lr_own {β : Type} (g : Nat) (f : β → List R4) : Own (fun s W => LR W g (f s)) := fun s X Y row hs hg hrow => by
  obtain ⟨q, h1, h2⟩ := hs
  exact ⟨q, blk_own g (fun _ : Unit => nodeO zR q) (fun _ => rfl) () X Y row h1 hg hrow, ll_own hg hrow h2⟩

/-- What has come, from the last rule on: each rule's place, and the rule. -/
def comeB (l : List R4) (k : Nat) : List (Nat × R4) := (List.range k).map (fun j => (l.length - 1 - j, ruAt l (l.length - 1 - j)))
theorem comeB_succ (l : List R4) (k : Nat) : comeB l (k + 1) = comeB l k ++ [(l.length - 1 - k, ruAt l (l.length - 1 - k))] := by simp [comeB, List.range_succ]
theorem comeB_len (l : List R4) (k : Nat) : (comeB l k).length = k := by simp [comeB]
/-- The list that they make. -/
def tbl (pre : List (Nat × R4)) : List R4 := (pre.map Prod.snd).reverse
theorem tbl_snoc (pre : List (Nat × R4)) (x : Nat × R4) : tbl (pre ++ [x]) = x.2 :: tbl pre := by simp [tbl]
theorem tbl_come (l : List R4) : ∀ k, k ≤ l.length → tbl (comeB l k) = l.drop (l.length - k)
  | 0, _ => by simp [comeB, tbl]
  | k + 1, h => by
    rw [comeB_succ, tbl_snoc, tbl_come l k (by omega)]
    have hlt : l.length - (k + 1) < l.length := by omega
    rw [List.drop_eq_getElem_cons hlt, ← ruAt_lt hlt, show l.length - (k + 1) + 1 = l.length - k from by omega, show l.length - 1 - k = l.length - (k + 1) from by omega]
theorem tbl_all (l : List R4) : tbl (comeB l l.length) = l := by rw [tbl_come l _ (Nat.le_refl _)]; simp
theorem chain_part (l : List R4) {k : Nat} (hk : k ≤ l.length) (h : chain (tbl (comeB l k)) = false) : chain l = false := by
  cases hc : chain l with
  | false => rfl
  | true =>
    rw [tbl_come l k hk] at h
    have := chain_drop (l.take (l.length - k)) (l.drop (l.length - k)) (by rw [List.take_append_drop]; exact hc)
    rw [this] at h
    cases h

theorem backward_any (a : Option Addr) (len cap : Nat) (w : World) :
    Calls Tryz.prog 103 #[.slice a len cap] w fun e w' => e = .returned (.func (.func 134) #[] #[.pointer (some ⟨w.heap.size, 0, none⟩)]) ∧ w' = w.alloc (.cells #[.slice a len cap] 23) := by
  have hmf : ∀ (fn : Fn) (first cap : Array Value) (w : World), (Instr.makeFunc fn first cap).run Tryz.prog w = .ok (.func fn first cap) w := fun _ _ _ _ => rfl
  go_enter Tryz.func103, Tryz.ntmps103
  go_wp2
  go_ret
  exact ⟨rfl, rfl⟩

set_option maxRecDepth 100000 in
set_option maxHeartbeats 2000000 in
/-- The iterator's function, called: the rules come from the last one on, till a round says 'no more'. -/
theorem back1_in (F : Fence) (n : Nat) (hF : F.fn 134) (hro : F.round = none) (hn : 1 ≤ n) (lo Bs n₀ : Nat) (v : Value) (l : List R4) (hlen : l.length ≤ 1048576) (J Jx : List (Nat × R4) → World → Prop)
    (hY : ∀ pre x W, J pre W → pre.length < l.length → YieldAt F (n - 1) Tryz.prog lo #[.int .i64 (x.1 : Int), R4.v x.2] W fun e W' =>
      (e = .returned (.bool true) ∧ J (pre ++ [x]) W' ∧ KpB n₀ Bs W W') ∨ (e = .returned (.bool false) ∧ Jx (pre ++ [x]) W'))
    (W : World) (hBs : W.heap[Bs]? = some (.cells #[v] 23)) (hl : Rls W n₀ v l) (h0 : J [] W) :
    CallsIn F n Tryz.prog 134 #[.func (.yield lo) #[] #[], .pointer (some ⟨Bs, 0, none⟩)] W fun e W' => (∃ v, e = .returned v) ∧
      ((∃ ys, ys = comeB l l.length ∧ J ys W') ∨ (∃ pre, (∃ k, k ≤ l.length ∧ pre = comeB l k) ∧ Jx pre W')) := by
  obtain ⟨a, cap, rfl, hc, hm, hh⟩ := hl
  have hnz : l.length = 0 ∨ ∃ b off, a = some ⟨b, off, none⟩ ∧ b < n₀ ∧ Hid (∀ i, i < l.length → Four W b (off + i * 4) (ruAt l i)) := by
    rcases hh with h | ⟨b, off, h1, h2, h3⟩
    · exact .inl (by rw [h]; rfl)
    · exact .inr ⟨b, off, h1, h2, h3⟩
  clear hh
  unfold maxLen at hm
  have HCS := Lib.hid (comeB_succ l)
  have HCL := Lib.hid (comeB_len l)
  have HBS := Lib.hid hBs
  have hbx : W.cell? ⟨Bs, 0, none⟩ = some (.slice a l.length cap) := by simp [World.cell?, hBs]
  have h0' : Hid (J (comeB l 0) W) := h0
  clear h0 hBs
  generalize hN : l.length = m at *
  refine callsIn_of_wp Tryz.func134 rfl hF ?_ hro
  simp only [Tryz.ntmps134, List.size_toArray, List.length_cons, List.length_nil, Nat.reduceAdd, Nat.reduceSub, Array.replicate_succ, Array.replicate_zero, List.push_toArray, List.append_toArray, List.nil_append, List.cons_append]
  gi_wp2
  gi_loopw [3] (fun i wr => ∃ k : Nat, k ≤ m ∧ i = .int .i64 ((m : Int) - 1 - k) ∧ J (comeB l k) wr ∧ KpB n₀ Bs W wr) (fun i _ => (intOf i + 1).toNat)
  case atStart => exact ⟨0, Nat.zero_le _, by simp, h0'.out, Below.refl _ _, rfl⟩
  case round =>
    obtain ⟨k, hk, rfl, hJs, hnx⟩ := hrel
    have hbx' : wr.cell? ⟨Bs, 0, none⟩ = some (.slice a m cap) := by simp [World.cell?, hnx.2, HBS.out]
    by_cases hlt : k < m
    · rcases hnz with h0 | ⟨b, off, rfl, hb, HC⟩
      · omega
      obtain ⟨j, hj⟩ : ∃ j, j = m - 1 - k := ⟨_, rfl⟩
      have hjm : j < m := by omega
      have hij : (m : Int) - 1 - k = (j : Int) := by omega
      obtain ⟨c0, c1, c2, c3⟩ := (HC.out j hjm).below hnx.1 hb
      have HS := Lib.hid (HCS.out k)
      rw [← hj] at HS
      obtain ⟨fn, tmps, assign, body, hy, hR⟩ := hY _ (j, ruAt l j) wr hJs (by rw [HCL.out]; exact hlt)
      dsimp only [R4.v] at hy
      rw [hij]
      have HR := Lib.hid hR
      have HIJ := Lib.hid hij
      clear hR hY hij hj
      generalize ruAt l j = x at *
      gi_wp2
      refine HR.out.mono ?_
      rintro e W3 (⟨rfl, hJ3, hk3⟩ | ⟨rfl, hJx3⟩)
      · gi_wp2
        go_roundw
        case rel => exact ⟨k + 1, by omega, by have := HIJ.out; simp; omega, by rw [HS.out]; exact hJ3, hnx.trans hk3⟩
        case measure => simp [intOf]
      · gi_wp2
        refine bodyPost_ret (results_none rfl _ _ _) rfl ?_
        exact ⟨⟨_, rfl⟩, .inr ⟨_, ⟨k + 1, by omega, HS.out.symm⟩, hJx3⟩⟩
    · obtain rfl : k = m := by omega
      have hneg : (k : Int) - 1 - k = -1 := by omega
      rw [hneg]
      gi_wp2
      go_end0
      exact ⟨⟨_, rfl⟩, .inl ⟨_, rfl, hJs⟩⟩

theorem back_stops (F : Fence) (n : Nat) (hF : F.fn 134) (hro : F.round = none) (hn : 1 ≤ n) (Bs n₀ : Nat) (v : Value) (l : List R4) (hlen : l.length ≤ 1048576) (w : World) (hBs : w.heap[Bs]? = some (.cells #[v] 23)) (hn₀ : n₀ ≤ w.heap.size) (hl : Rls w n₀ v l) :
    SeqStopsK F n Tryz.prog 134 #[.pointer (some ⟨Bs, 0, none⟩)] (fun x : Nat × R4 => #[Value.int .i64 (x.1 : Int), R4.v x.2]) (KpB n₀ Bs) (fun ys => ys = comeB l l.length) (fun pre => ∃ k, k ≤ l.length ∧ pre = comeB l k) l.length w := fun lo J Jx W hW _ _ hY h0 =>
  back1_in F n hF hro hn lo Bs n₀ v l hlen J Jx hY W ((hW.block Bs (Array.getElem?_eq_some_iff.1 hBs).1).trans hBs) (hl.below hW hn₀) h0

theorem cells1 {w : World} {b : Nat} {x : Value} {t : TypeId} (h : w.heap[b]? = some (.cells #[x] t)) : w.cell? ⟨b, 0, none⟩ = some x ∧ ∀ j, w.frozen? ⟨b, j, none⟩ = false := by
  refine ⟨?_, fun j => ?_⟩ <;> simp [World.cell?, World.frozen?, h]
theorem cells2 {w : World} {b : Nat} {x y : Value} {t : TypeId} (h : w.heap[b]? = some (.cells #[x, y] t)) : w.cell? ⟨b, 0, none⟩ = some x ∧ w.cell? ⟨b, 1, none⟩ = some y ∧ ∀ j, w.frozen? ⟨b, j, none⟩ = false := by
  refine ⟨?_, ?_, fun j => ?_⟩ <;> simp [World.cell?, World.frozen?, h]
theorem twoBlocks {w w1 : World} {A B : Obj} (b1 : Below ((w.alloc A).alloc B).heap.size ((w.alloc A).alloc B) w1) : w1.heap[w.heap.size]? = some A ∧ w1.heap[w.heap.size + 1]? = some B ∧ Below w.heap.size w w1 ∧ w.heap.size + 1 + 1 ≤ w1.heap.size := by
  have hs := b1.size
  simp only [World.size_alloc] at hs b1
  refine ⟨(b1.block _ (by omega)).trans ?_, (b1.block _ (by omega)).trans ?_, (below_alloc2 w A B).trans (b1.mono (by omega)), hs⟩
  · exact (Below.heap_alloc _ _ _ (by simp)).trans (newBlockM w A)
  · have := newBlockM (w.alloc A) B
    rw [World.size_alloc] at this
    exact this
theorem moreBlocks (w : World) (A B : Obj) : Below w.heap.size w ((w.alloc A).alloc B) ∧ ((w.alloc A).alloc B).heap[w.heap.size]? = some A ∧ ((w.alloc A).alloc B).heap[w.heap.size + 1]? = some B ∧ ((w.alloc A).alloc B).heap.size = w.heap.size + 2 := by
  obtain ⟨h1, h2, h3, -⟩ := twoBlocks (Below.refl ((w.alloc A).alloc B).heap.size ((w.alloc A).alloc B))
  exact ⟨h3, h1, h2, by simp⟩
/-- The program's list, as the two cells of a variable. -/
def lstO (g : Nat) : Obj := .cells #[.func (.func 102) #[] #[], .pointer (some ⟨g, 0, none⟩)] 75

set_option maxRecDepth 100000 in
set_option maxHeartbeats 2000000 in
theorem readTable_big (w : World) (a : Option Addr) (n cap : Nat) (hbig : 48 < n) (hm : n ≤ 1048576) :
    Calls Tryz.prog 61 #[.slice a n cap] w fun e w' => ∃ g, e = .returned (.tuple #[lstV g, .bool false]) ∧ w.heap.size ≤ g ∧ Below w.heap.size w w' := by
  have hz : (48 : Int) < (n : Int) := by omega
  refine (callsIn_wide (n := 5)).1 ?_
  refine callsIn_of_wp_marks Tryz.func61 rfl trivial ?_ rfl
  simp only [Tryz.ntmps61, List.size_toArray, List.length_cons, List.length_nil, Nat.reduceAdd, Nat.reduceSub, Array.replicate_succ, Array.replicate_zero, List.push_toArray, List.append_toArray, List.nil_append, List.cons_append]
  gi_wp2_with (first | (refine ⟨trivial, ?_⟩; gi_at_call 101; refine (callsIn_wide.2 (newList_any _)).mono ?_; rintro ex w1 ⟨rfl, -, b1⟩; obtain ⟨k0, k1, b2, s2⟩ := twoBlocks b1; have HB := Lib.hid b2; obtain ⟨c0, c1, cf⟩ := cells2 k0; obtain ⟨d0, df⟩ := cells1 k1; clear b1 b2 k0 k1; unfold lstV; have g1 : w.heap.size < w1.heap.size := (by omega); have g2 : w.heap.size + 1 < w1.heap.size := (by omega); have g3 : w.heap.size ≠ w1.heap.size := (by omega); have g4 : w.heap.size + 1 ≠ w1.heap.size := (by omega)))
  refine ⟨.tuple #[lstV (w.heap.size + 1 + 1 + 1), .bool false], ?_, _, rfl, by omega, ?_⟩
  · simp [results, Tryz.results61, go_sem, c0, c1, d0, g1, g2, lstV]
  · exact (((HB.out.setCell (by exact Nat.le_refl _) _).setCell (by exact Nat.le_refl _) _).setCell (by exact Nat.le_succ _) _).alloc (by simp [World.setCell]; omega) _

/-- Two variables are written. -/
theorem stored3 {w : World} {B0 B1 : Nat} {x y z : Value} (v u z' : Value) {t s : TypeId} (h0 : w.heap[B0]? = some (.cells #[x, y] t)) (h1 : w.heap[B1]? = some (.cells #[z] s)) (hne : B0 ≠ B1) :
    (((w.setCell ⟨B0, 0, none⟩ v).setCell ⟨B0, 1, none⟩ u).setCell ⟨B1, 0, none⟩ z').heap[B0]? = some (.cells #[v, u] t) ∧ (((w.setCell ⟨B0, 0, none⟩ v).setCell ⟨B0, 1, none⟩ u).setCell ⟨B1, 0, none⟩ z').heap[B1]? = some (.cells #[z'] s) ∧
      (∀ k, k ≠ B0 → k ≠ B1 → (((w.setCell ⟨B0, 0, none⟩ v).setCell ⟨B0, 1, none⟩ u).setCell ⟨B1, 0, none⟩ z').heap[k]? = w.heap[k]?) ∧ (((w.setCell ⟨B0, 0, none⟩ v).setCell ⟨B0, 1, none⟩ u).setCell ⟨B1, 0, none⟩ z').heap.size = w.heap.size := by
  have a1 := heap_setCell_same w B0 0 _ _ v h0
  have a2 := heap_setCell_same (w.setCell ⟨B0, 0, none⟩ v) B0 1 _ _ u a1
  have a3 : ((w.setCell ⟨B0, 0, none⟩ v).setCell ⟨B0, 1, none⟩ u).heap[B1]? = some (.cells #[z] s) := by
    rw [heap_setCell_other _ _ B1 _ (fun e => hne e.symm), heap_setCell_other _ _ B1 _ (fun e => hne e.symm)]
    exact h1
  have a4 := heap_setCell_same ((w.setCell ⟨B0, 0, none⟩ v).setCell ⟨B0, 1, none⟩ u) B1 0 _ _ z' a3
  refine ⟨?_, by simpa using a4, fun k h h' => ?_, by simp [World.setCell]⟩
  · rw [heap_setCell_other _ _ B0 _ hne]
    simpa using a2
  · rw [heap_setCell_other _ _ k _ h', heap_setCell_other _ _ k _ h, heap_setCell_other _ _ k _ h]
theorem keepsOf {B : Nat} {W W' : World} (hs : W.heap.size ≤ W'.heap.size) (h : ∀ k, B ≤ k → k < W.heap.size → W'.heap[k]? = W.heap[k]?) : KeepsFrom B W W' :=
  ⟨hs, fun k o hB hk _ => (h k hB (Array.getElem?_eq_some_iff.1 hk).1).trans hk⟩
theorem cells4 {w : World} {b : Nat} {r : R4} {t : TypeId} (h : w.heap[b]? = some (.cells #[.int .i64 r.p, .string r.s, .int .i64 r.o, .int .i64 r.t] t)) : Four w b 0 r := by
  refine ⟨?_, ?_, ?_, ?_⟩ <;> simp [World.cell?, h]

end Go.Proofs.YtahobeigbjhbbaaGreatDoor
