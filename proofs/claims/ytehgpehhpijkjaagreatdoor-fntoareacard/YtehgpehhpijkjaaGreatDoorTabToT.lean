/-
  The program's walk over a list, for a body that wants to know which rule comes at which place.
  The program's TableTo.
-/
import Derived.Test.YtehgpehhpijkjaaGreatDoorTabL
import Derived.Test.YtehgpehhpijkjaaGreatDoorTabArea
import Derived.Test.YtehgpehhpijkjaaGreatDoorTabTrim

namespace Go.Proofs.YtehgpehhpijkjaaGreatDoor
open Go.ChangeShapes Go.WideShapes Go.ChangeAt Go.RowKit Go.Joins
open Go.Shelf
set_option linter.unusedVariables false
attribute [local go_sem] Oper.semAt_some

/-- A place of a list, and the rule at it. -/
abbrev XR (l : List R4) := {x : Nat × R4 // x.1 < l.length ∧ x.2 = ruAt l x.1}
def comeX (l : List R4) (k : Nat) : List (XR l) := (List.range k).filterMap (fun j => if h : j < l.length then some ⟨(j, ruAt l j), h, rfl⟩ else none)
theorem comeX_succ (l : List R4) (k : Nat) (hk : k < l.length) : comeX l (k + 1) = comeX l k ++ [⟨(k, ruAt l k), hk, rfl⟩] := by
  unfold comeX
  rw [List.range_succ, List.filterMap_append]
  simp [hk]
theorem comeX_len (l : List R4) : ∀ k, k ≤ l.length → (comeX l k).length = k
  | 0, _ => rfl
  | k + 1, h => by rw [comeX_succ l k h, List.length_append, comeX_len l k (Nat.le_of_lt h)]; rfl

set_option maxRecDepth 100000 in
set_option maxHeartbeats 2000000 in
/-- The iterator's function, called: the rules come from the first one on, till a round says 'no more'. -/
theorem all1x_in (F : Fence) (n : Nat) (hF : F.fn 77) (hro : F.round = none) (hn : 1 ≤ n) (lo Bs : Nat) (W0 : World) (g : Nat) (l : List R4) (hlen : l.length ≤ 1048576) (hR : LR W0 g l) (J Jx : List (XR l) → World → Prop)
    (hY : ∀ pre x W, J pre W → pre.length < l.length → YieldAt F (n - 1) Tryz.prog lo #[.int .i64 (x.1.1 : Int), R4.v x.1.2] W fun e W' =>
      (e = .returned (.bool true) ∧ J (pre ++ [x]) W' ∧ Below W0.heap.size W W') ∨ (e = .returned (.bool false) ∧ Jx (pre ++ [x]) W'))
    (W : World) (hW : Below W0.heap.size W0 W) (hBs : W.heap[Bs]? = some (lstO g)) (h0 : J [] W) :
    CallsIn F n Tryz.prog 77 #[.func (.yield lo) #[] #[], .pointer (some ⟨Bs, 0, none⟩)] W fun e W' => (∃ v, e = .returned v) ∧
      ((∃ ys, ys = comeX l l.length ∧ J ys W') ∨ (∃ pre, (∃ k, k ≤ l.length ∧ pre = comeX l k) ∧ Jx pre W')) := by
  obtain ⟨q0, hq0, hll⟩ := hR
  obtain ⟨-, r4, -⟩ := nodeCells ((hW.block g (Array.getElem?_eq_some_iff.1 hq0).1).trans hq0)
  obtain ⟨b0, b1, -⟩ := cells2 hBs
  have HCS := Lib.hid (comeX_succ l)
  have HCL := Lib.hid (comeX_len l)
  have h0' : Hid (J (comeX l 0) W) := h0
  have HLL := Lib.hid hll
  clear h0 hBs hq0 hll
  refine callsIn_of_wp Tryz.func77 rfl hF ?_ hro
  simp only [Tryz.ntmps77, List.size_toArray, List.length_cons, List.length_nil, Nat.reduceAdd, Nat.reduceSub, Array.replicate_succ, Array.replicate_zero, List.push_toArray, List.append_toArray, List.nil_append, List.cons_append]
  gi_wp2
  gi_loopw [3, 4] (fun i p wr => ∃ (k : Nat) (q : Option Addr), k ≤ l.length ∧ i = .int .i64 k ∧ p = .pointer q ∧ LL W0 (g + 1) q (l.drop k) ∧ J (comeX l k) wr ∧ Below W0.heap.size W0 wr) (fun i _ _ => l.length - (intOf i).toNat)
  case atStart => exact ⟨0, q0, Nat.zero_le _, by simp, rfl, HLL.out, h0'.out, hW⟩
  case round =>
    obtain ⟨k, q, hk, rfl, rfl, hl, hJs, hnx⟩ := hrel
    by_cases hlt : k < l.length
    · have hd : l.drop k = ruAt l k :: l.drop (k + 1) := by rw [List.drop_eq_getElem_cons hlt, ruAt_lt hlt]
      rw [hd] at hl
      obtain ⟨b, q', rfl, hgb, hb, hr⟩ := hl
      obtain ⟨⟨c0, c1, c2, c3⟩, -, -⟩ := nodeCells ((hnx.block b (Array.getElem?_eq_some_iff.1 hb).1).trans hb)
      simp only [Nat.zero_add] at c1 c2 c3
      have HNB : Hid (∀ W', Below W0.heap.size W0 W' → W'.cell? ⟨b, 4, none⟩ = some (.pointer q')) := fun W' h' => (nodeCells ((h'.block b (Array.getElem?_eq_some_iff.1 hb).1).trans hb)).2.1
      have HR := Lib.hid hr
      have HS := Lib.hid (HCS.out k hlt)
      obtain ⟨fn, tmps, assign, body, hy, hR⟩ := hY _ ⟨(k, ruAt l k), hlt, rfl⟩ wr hJs (by rw [HCL.out k hk]; exact hlt)
      dsimp only [R4.v] at hy
      have HRR := Lib.hid hR
      clear hR hY hd hb hr
      gi_wp2
      refine HRR.out.mono ?_
      rintro e W3 (⟨rfl, hJ3, hk3⟩ | ⟨rfl, hJx3⟩)
      · have c4 := HNB.out _ (hnx.trans hk3)
        gi_wp2
        go_roundw
        case rel => exact ⟨k + 1, q', by omega, by go_num, rfl, HR.out, by rw [HS.out]; exact hJ3, hnx.trans hk3⟩
        case measure => simp [intOf]; omega
      · gi_wp2
        go_end0
        exact ⟨⟨_, rfl⟩, .inr ⟨_, ⟨k + 1, by omega, HS.out.symm⟩, hJx3⟩⟩
    · obtain rfl : k = l.length := by omega
      rw [List.drop_length] at hl
      obtain rfl : q = none := hl
      gi_wp2
      refine ⟨fun _ h => (by cases h), ?_⟩
      gi_wp2
      go_end0
      exact ⟨⟨_, rfl⟩, .inl ⟨_, rfl, hJs⟩⟩

theorem allx_stops (F : Fence) (n : Nat) (hF : F.fn 77) (hro : F.round = none) (hn : 1 ≤ n) (Bs : Nat) (W0 : World) (g : Nat) (l : List R4) (hlen : l.length ≤ 1048576) (hR : LR W0 g l) (w : World) (hw : Below W0.heap.size W0 w) (hBs : w.heap[Bs]? = some (lstO g)) :
    SeqStopsK F n Tryz.prog 77 #[.pointer (some ⟨Bs, 0, none⟩)] (fun x : XR l => #[Value.int .i64 (x.1.1 : Int), R4.v x.1.2]) (Below W0.heap.size) (fun ys => ys = comeX l l.length) (fun pre => ∃ k, k ≤ l.length ∧ pre = comeX l k) l.length w := fun lo J Jx W hW _ _ hY h0 =>
  all1x_in F n hF hro hn lo Bs W0 g l hlen hR J Jx hY W (hw.trans (hW.mono hw.size)) ((hW.block Bs (Array.getElem?_eq_some_iff.1 hBs).1).trans hBs) h0

end Go.Proofs.YtehgpehhpijkjaaGreatDoor

namespace Go.Proofs.YtehgpehhpijkjaaGreatDoor
open Go.ChangeShapes Go.WideShapes Go.ChangeAt Go.RowKit Go.Joins
open Go.Shelf
set_option linter.unusedVariables false
attribute [local go_sem] Oper.semAt_some

/-- The heads that the first k rules, and the lack of any, send to a port. -/
def sentF (l : List R4) (q : Int) (k : Nat) : List Bool := tabF 6 (fun b => match l.findIdx? (hasR b) with | none => decide (q = 0) | some i => decide (i < k) && decide ((ruAt l i).o = q))
theorem sentF_zero (l : List R4) (q : Int) : sentF l q 0 = bif decide (q = 0) then restF l else noL 6 := by
  have e : sentF l q 0 = tabF 6 (fun b => decide (q = 0) && !l.any (hasR b)) := tabF_congr 6 fun b _ => by
    cases h : l.findIdx? (hasR b) with
    | none =>
      have : l.any (hasR b) = false := by
        rw [List.findIdx?_eq_none_iff] at h
        rw [List.any_eq_false]
        intro x hx
        simp [h x hx]
      simp [this]
    | some i =>
      have : l.any (hasR b) = true := by
        rw [List.findIdx?_eq_some_iff_getElem] at h
        obtain ⟨hi, hp, -⟩ := h
        exact List.any_eq_true.2 ⟨_, List.getElem_mem hi, hp⟩
      simp [this]
  rw [e, tabF_and]
  rfl
theorem sentF_all (l : List R4) (q : Int) : sentF l q l.length = toM l q := tabF_congr 6 fun b _ => by
  unfold outF
  cases h : l.findIdx? (hasR b) with
  | none => simp [eq_comm]
  | some i =>
    rw [List.findIdx?_eq_some_iff_getElem] at h
    obtain ⟨hi, -⟩ := h
    simp [hi]
theorem sentF_step (l : List R4) (q : Int) {k : Nat} (hk : k < l.length) : sentF l q (k + 1) = bif decide ((ruAt l k).o = q) then List.zipWith (keepF true true true) (sentF l q k) (areaF l k) else sentF l q k := by
  have key : ∀ b, (match l.findIdx? (hasR b) with | none => decide (q = 0) | some i => decide (i < k + 1) && decide ((ruAt l i).o = q)) = ((match l.findIdx? (hasR b) with | none => decide (q = 0) | some i => decide (i < k) && decide ((ruAt l i).o = q)) || (decide (l.findIdx? (hasR b) = some k) && decide ((ruAt l k).o = q))) := fun b => by
    cases h : l.findIdx? (hasR b) with
    | none => simp
    | some i =>
      by_cases hik : i = k
      · subst hik
        simp
      · have h1 : decide (i < k + 1) = decide (i < k) := by
          by_cases h2 : i < k
          · rw [decide_eq_true h2, decide_eq_true (by omega)]
          · rw [decide_eq_false h2, decide_eq_false (by omega)]
        simp [h1, hik]
  have hA : areaF l k = tabF 6 (fun b => decide (l.findIdx? (hasR b) = some k)) := by
    rw [areaF_area l hk]
    refine tabF_congr 6 fun b _ => ?_
    unfold atF
    cases h : l.findIdx? (hasR b) with
    | none => simp
    | some i =>
      by_cases hik : i = k
      · subst hik; simp
      · have h3 : ¬ ((i : Int) = (k : Int)) := by omega
        rw [decide_eq_false (show ¬ (some i : Option Nat) = some k by simpa using hik)]
        exact decide_eq_false h3
  by_cases ho : (ruAt l k).o = q
  · rw [decide_eq_true ho, cond_true, hA]
    unfold sentF
    rw [tabF_zip]
    refine tabF_congr 6 fun b _ => ?_
    rw [key b, decide_eq_true ho, Bool.and_true]
    generalize (match l.findIdx? (hasR b) with | none => decide (q = 0) | some i => decide (i < k) && decide ((ruAt l i).o = q)) = x
    cases x <;> cases decide (l.findIdx? (hasR b) = some k) <;> rfl
  · rw [decide_eq_false ho, cond_false]
    unfold sentF
    refine tabF_congr 6 fun b _ => ?_
    rw [key b, decide_eq_false ho, Bool.and_false, Bool.or_false]

/-- What has been sent, by the rules that have come. -/
def sentP (l : List R4) (q : Int) : List Bool → List (XR l) → List Bool
  | m, [] => m
  | m, x :: xs => sentP l q (bif decide (x.1.2.o = q) then List.zipWith (keepF true true true) m (areaF l x.1.1) else m) xs
theorem sentP_snoc (l : List R4) (q : Int) (x : XR l) : ∀ (m : List Bool) (pre : List (XR l)), sentP l q m (pre ++ [x]) = bif decide (x.1.2.o = q) then List.zipWith (keepF true true true) (sentP l q m pre) (areaF l x.1.1) else sentP l q m pre
  | m, [] => rfl
  | m, y :: pre => by simp only [List.cons_append, sentP]; exact sentP_snoc l q x _ pre
theorem sentP_come (l : List R4) (q : Int) : ∀ k, k ≤ l.length → sentP l q (sentF l q 0) (comeX l k) = sentF l q k
  | 0, _ => rfl
  | k + 1, h => by rw [comeX_succ l k h, sentP_snoc, sentP_come l q k (Nat.le_of_lt h), sentF_step l q h]

/-- What a round finds in memory. -/
structure TFr (W : World) (Bo Bd Ba Bs n1 b e : Nat) (q : Int) (u : Value) (ps : List (Option Addr)) (s : Option Addr) : Prop where
  o : W.heap[Bo]? = some (.cells #[.int .i64 q] 3)
  d : W.heap[Bd]? = some (.cells #[.map (some b), .pointer (some ⟨e, 0, none⟩)] 63)
  a : Boxed W Ba 58 u
  s : Boxed W Bs 59 (.pointer s)
  row : PtrRow W n1 u ps
theorem TFr.grown {W W' : World} {Bo Bd Ba Bs n1 b e : Nat} {q : Int} {u : Value} {ps : List (Option Addr)} {s : Option Addr} (h : TFr W Bo Bd Ba Bs n1 b e q u ps s) (hg : W.grownBy W' (some b)) (h1 : Bo ≠ b) (h2 : Bd ≠ b) (h3 : Ba ≠ b) (h4 : Bs ≠ b) (h5 : b < n1) : TFr W' Bo Bd Ba Bs n1 b e q u ps s := by
  have l0 := (Array.getElem?_eq_some_iff.1 h.o).1
  have l1 := (Array.getElem?_eq_some_iff.1 h.d).1
  refine ⟨(hg.block _ l0 (fun e' => h1 (Option.some.inj e'))).trans h.o, (hg.block _ l1 (fun e' => h2 (Option.some.inj e'))).trans h.d, h.a.kept hg (fun e' => h3 (Option.some.inj e')), h.s.kept hg (fun e' => h4 (Option.some.inj e')), World.ownsRow.kept h.row hg ?_⟩
  cases hv : u.ownBlock with
  | none => exact .inl rfl
  | some k =>
    have := (World.ownsRow.lt h.row k hv).1
    exact .inr (fun e' => by have := Option.some.inj e'; omega)
theorem TFr.below {W W' : World} {Bo Bd Ba Bs n1 b e : Nat} {q : Int} {u : Value} {ps : List (Option Addr)} {s : Option Addr} (h : TFr W Bo Bd Ba Bs n1 b e q u ps s) (hg : Below W.heap.size W W') : TFr W' Bo Bd Ba Bs n1 b e q u ps s := by
  have l0 := (Array.getElem?_eq_some_iff.1 h.o).1
  have l1 := (Array.getElem?_eq_some_iff.1 h.d).1
  exact ⟨(hg.block _ l0).trans h.o, (hg.block _ l1).trans h.d, (hg.block _ h.a.lt).trans h.a, (hg.block _ h.s.lt).trans h.s, World.ownsRow.kept h.row (row := none) ⟨hg.os, hg.tape, hg.output, hg.size, fun k hk _ => hg.block k hk⟩ (by cases u.ownBlock <;> simp)⟩
/-- A block that is no cells, and not the map, turns. -/
theorem TFr.turn {W W' : World} {Bo Bd Ba Bs n1 b e : Nat} {q : Int} {u : Value} {ps : List (Option Addr)} {s : Option Addr} {row : Option Nat} (h : TFr W Bo Bd Ba Bs n1 b e q u ps s) (hg : W.grownBy W' row) (hr : ∀ r, row = some r → ∃ o : Obj, W.heap[r]? = some o ∧ o.isCells = false) : TFr W' Bo Bd Ba Bs n1 b e q u ps s := by
  have hcl : ∀ (k : Nat) cs t, W.heap[k]? = some (.cells cs t) → some k ≠ row := fun k cs t hk e' => by
    obtain ⟨o, ho, hc⟩ := hr k e'.symm
    rw [hk] at ho
    cases ho
    cases hc
  obtain ⟨f0, f1, f2, f3, f4⟩ := h
  refine ⟨(hg.block _ (Array.getElem?_eq_some_iff.1 f0).1 (hcl _ _ _ f0)).trans f0, (hg.block _ (Array.getElem?_eq_some_iff.1 f1).1 (hcl _ _ _ f1)).trans f1, f2.kept hg (hcl _ _ _ f2), f3.kept hg (hcl _ _ _ f3), World.ownsRow.kept f4 hg ?_⟩
  have f4' := f4
  obtain ⟨-, hx | ⟨gg, cap, cur, rfl, -, hgc, -⟩⟩ := f4'
  · left; rw [hx.1]; rfl
  · right; exact fun e' => hcl gg _ _ hgc e'
theorem TFr.send {W : World} {Bo Bd Ba Bs n1 b e : Nat} {q : Int} {u : Value} {ps : List (Option Addr)} {s : Option Addr} (h : TFr W Bo Bd Ba Bs n1 b e q u ps s) (s' : Option Addr) (h1 : Bs ≠ Bo) (h2 : Bs ≠ Bd) (h3 : Bs ≠ Ba) (h4 : ∀ k, u.ownBlock = some k → k ≠ Bs) : TFr (W.setCell ⟨Bs, 0, none⟩ (.pointer s')) Bo Bd Ba Bs n1 b e q u ps s' := by
  refine ⟨?_, ?_, ?_, h.s.set _, ?_⟩
  · rw [Below.heap_setCell _ _ _ _ (fun e => h1 e.symm)]
    exact h.o
  · rw [Below.heap_setCell _ _ _ _ (fun e => h2 e.symm)]
    exact h.d
  · show (W.setCell ⟨Bs, 0, none⟩ (.pointer s')).heap[Ba]? = _
    rw [Below.heap_setCell _ _ _ _ (fun e => h3 e.symm)]
    exact h.a
  · refine World.ownsRow.kept h.row (grownBy_setCell' W Bs _) ?_
    cases hv : u.ownBlock with
    | none => exact .inl rfl
    | some k => exact .inr (fun e' => h4 k hv (Option.some.inj e'))

set_option maxRecDepth 100000 in
set_option maxHeartbeats 4000000 in
theorem iTableTo_go (w : World) (v : Value) (l : List R4) (h : Rls w w.heap.size v l) (hn : l.length ≤ 1048576) (q : Int) (hE : EtOk w) (ht : tOk l = true) (hq : inB q 0 4 = true) :
    Calls Tryz.prog 14 #[v, .int .i64 q] w fun e w' => ∃ u, e = .returned u ∧ StrRow w' w.heap.size u (tidyT (toM l q)) ∧ Below w.heap.size w w' := by
  have hA0 := below_alloc1 w (.cells #[.int .i64 q] 3)
  have HC := Lib.hid (readTable_any (w.alloc (.cells #[.int .i64 q] 3)) v l ((h.below hA0 (Nat.le_refl _)).mono hA0.size) hn (hE.below hA0))
  have h48 := tOk_len ht
  rw [ht] at HC
  have HTO := Lib.hid (fun W => outOk_any q W)
  rw [hq] at HTO
  have O0 := Lib.hid (newBlockM w (.cells #[.int .i64 q] 3))
  have HSA : Hid (sentP l q (sentF l q 0) (comeX l l.length) = toM l q) := by
    show _ = _
    rw [sentP_come l q _ (Nat.le_refl _), sentF_all]
  have HSN := Lib.hid (fun (x : XR l) pre => sentP_snoc l q x (sentF l q 0) pre)
  have HS0 := Lib.hid (sentF_zero l q)
  clear h hE ht hq
  refine (callsIn_wide (n := 5)).1 ?_
  refine callsIn_of_wp_marks Tryz.func14 rfl trivial ?_ rfl
  simp only [Tryz.ntmps14, List.size_toArray, List.length_cons, List.length_nil, Nat.reduceAdd, Nat.reduceSub, Array.replicate_succ, Array.replicate_zero, List.push_toArray, List.append_toArray, List.nil_append, List.cons_append]
  gi_wp2_with fail
  refine ⟨trivial, ?_⟩
  refine (callsIn_wide.2 HC.out).mono ?_
  rintro ex w1 ⟨g, rfl, hg, hlr, b1⟩
  have HLR := Lib.hid (hlr trivial)
  have hgl : g < w1.heap.size := (Array.getElem?_eq_some_iff.1 (hlr trivial).choose_spec.1).1
  have s1 := b1.size
  simp at s1
  have B1 : Hid (Below w.heap.size w w1) := hA0.trans (b1.mono (by simp))
  have O1 : Hid (w1.heap[w.heap.size]? = some (.cells #[.int .i64 q] 3)) := (b1.block _ (by simp)).trans O0.out
  have hA1 := below_alloc1 w1 (lstO g)
  have o1 : (w1.alloc (.cells #[.func (.func 63) #[] #[], .pointer (some ⟨g, 0, none⟩)] 55)).cell? ⟨w.heap.size, 0, none⟩ = some (.int .i64 q) := (cells1 ((hA1.block _ (by omega)).trans O1.out)).1
  unfold lstV
  clear hlr b1 HC O0 hA0
  gi_wp2_with fail
  refine ⟨trivial, ?_⟩
  refine (callsIn_wide.2 (HTO.out _)).mono ?_
  rintro ex w2 ⟨rfl, rfl⟩
  gi_wp2_with fail
  refine ⟨trivial, ?_⟩
  refine (callsIn_wide.2 (newDiagram_any _)).mono ?_
  rintro ex w2 ⟨b, e, rfl, hb, d2, b2⟩
  have s2 := b2.size
  simp at s2 hb
  have hbl := d2.lt_b
  have hA2 := below_alloc1 w2 (.cells #[.map (some b), .pointer (some ⟨e, 0, none⟩)] 63)
  have B12 : Hid (Below w1.heap.size w1 w2) := hA1.trans (b2.mono (by simp))
  have D2 := Lib.hid (d2.below hA2)
  have L2 : Hid ((w2.alloc (.cells #[.map (some b), .pointer (some ⟨e, 0, none⟩)] 63)).heap[w1.heap.size]? = some (lstO g)) := (hA2.block _ (by omega)).trans ((b2.block _ (by simp)).trans (newBlockM w1 _))
  have O2 : Hid ((w2.alloc (.cells #[.map (some b), .pointer (some ⟨e, 0, none⟩)] 63)).heap[w.heap.size]? = some (.cells #[.int .i64 q] 3)) := (hA2.block _ (by omega)).trans ((B12.out.block _ (by omega)).trans O1.out)
  have K2 := Lib.hid (newBlockM w2 (.cells #[.map (some b), .pointer (some ⟨e, 0, none⟩)] 63))
  have B12' : Hid (Below w1.heap.size w1 (w2.alloc (.cells #[.map (some b), .pointer (some ⟨e, 0, none⟩)] 63))) := B12.out.alloc (by omega) _
  obtain ⟨k0, k1, -⟩ := cells2 K2.out
  obtain ⟨t0, t1, -⟩ := cells2 (show (w2.alloc (.cells #[.map (some b), .pointer (some ⟨e, 0, none⟩)] 63)).heap[w1.heap.size]? = some (.cells #[.func (.func 63) #[] #[], .pointer (some ⟨g, 0, none⟩)] 55) from L2.out)
  clear d2 b2 hA1 o1 O1 B12 hA2
  have HAS := areas_any _ w1 g b e [] l (by omega) HLR.out B12'.out (by omega) D2.out
  unfold lstV at HAS
  gi_wp2_with fail
  refine ⟨trivial, ?_⟩
  refine (callsIn_wide.2 HAS).mono ?_
  rintro ex w3 ⟨u, p, ps, E', rfl, hrow, har, hg3⟩
  clear HAS
  obtain ⟨ua, un, uc, rfl⟩ : ∃ ua un uc, u = .slice ua un uc := by
    obtain ⟨-, h1 | ⟨gg, cap, cur, h1, -⟩⟩ := hrow
    · exact ⟨_, _, _, h1.1⟩
    · exact ⟨_, _, _, h1⟩
  have s3 := hg3.size
  simp at s3
  have HROW := Lib.hid hrow
  have HAR := Lib.hid har
  have O3 : Hid (w3.heap[w.heap.size]? = some (.cells #[.int .i64 q] 3)) := (hg3.block _ (by simp; omega) (fun e' => by have := Option.some.inj e'; omega)).trans O2.out
  have L3 : Hid (w3.heap[w1.heap.size]? = some (lstO g)) := (hg3.block _ (by simp; omega) (fun e' => by have := Option.some.inj e'; omega)).trans L2.out
  have K3 : Hid (w3.heap[w2.heap.size]? = some (.cells #[.map (some b), .pointer (some ⟨e, 0, none⟩)] 63)) := (hg3.block _ (by simp) (fun e' => by have := Option.some.inj e'; omega)).trans K2.out
  have B13 : Hid (Below w1.heap.size w1 w3) := B12'.out.trans (sBel hg3 (by omega) (by simp; omega))
  have B3 : Hid (Below w.heap.size w w3) := B1.out.trans (B13.out.mono (by omega))
  have hu3 : Hid (∀ k, (Value.slice ua un uc).ownBlock = some k → k < w3.heap.size) := fun k hk => (World.ownsRow.lt hrow k hk).2
  have hA3 := below_alloc1 w3 (.cells #[.slice ua un uc] 58)
  have o3 := (cells1 ((hA3.block _ (by omega)).trans O3.out)).1
  have HKN : Hid (∀ W, Calls Tryz.prog 41 #[.pointer p, .bool (q == 0)] W fun ex w' => ex = .returned (.pointer (bif (q == 0) then p else none)) ∧ w' = W) := fun W => keptNode_any W p (q == 0)
  have R0 : Hid (Rep E' e 6 (bif (q == 0) then p else none) (sentF l q 0)) := by
    show Rep _ _ _ _ _
    rw [HS0.out]
    by_cases hz : q = 0
    · subst hz
      exact har.2.1
    · rw [decide_eq_false hz, show (q == 0) = false from by simpa using hz]
      exact Rep.none_iff.2 rfl
  generalize (bif (q == 0) then p else none) = s0 at *
  clear hrow har hg3 t0 t1 k0 k1 O2 L2 K2 B12' D2 HS0 hA3
  gi_wp2_with fail
  refine ⟨trivial, ?_⟩
  refine (callsIn_wide.2 (HKN.out _)).mono ?_
  rintro ex w4 ⟨rfl, rfl⟩
  have hA4 := below_alloc2 w3 (.cells #[.slice ua un uc] 58) (.cells #[.pointer s0] 59)
  obtain ⟨t0, t1, -⟩ := cells2 (show ((w3.alloc (.cells #[.slice ua un uc] 58)).alloc (.cells #[.pointer s0] 59)).heap[w1.heap.size]? = some (.cells #[.func (.func 63) #[] #[], .pointer (some ⟨g, 0, none⟩)] 55) from (hA4.block _ (by omega)).trans L3.out)
  clear o3
  gi_wp2_with (first | (refine ⟨trivial, ?_⟩; gi_at_call 42; refine (callsIn_wide.2 (all_any _ _)).mono ?_; rintro ex w2 ⟨rfl, rfl⟩))
  have hs0 := B13.out.size
  have HB5 : Hid (Below w3.heap.size w3 (((w3.alloc (.cells #[.slice ua un uc] 58)).alloc (.cells #[.pointer s0] 59)).alloc (lstO g))) := (below_alloc2 _ _ _).alloc (by simp; omega) _
  have hsz : (((w3.alloc (.cells #[.slice ua un uc] 58)).alloc (.cells #[.pointer s0] 59)).alloc (lstO g)).heap.size = w3.heap.size + 3 := by simp
  have kl : (((w3.alloc (.cells #[.slice ua un uc] 58)).alloc (.cells #[.pointer s0] 59)).alloc (lstO g)).heap[w3.heap.size + 1 + 1]? = some (lstO g) := by
    have := newBlockM ((w3.alloc (.cells #[.slice ua un uc] 58)).alloc (.cells #[.pointer s0] 59)) (lstO g)
    simpa using this
  have ks : Boxed (((w3.alloc (.cells #[.slice ua un uc] 58)).alloc (.cells #[.pointer s0] 59)).alloc (lstO g)) (w3.heap.size + 1) 59 (.pointer s0) := by
    have := (Boxed.new (w3.alloc (.cells #[.slice ua un uc] 58)) 59 (.pointer s0)).alloc (lstO g)
    simpa using this
  have ka : Boxed (((w3.alloc (.cells #[.slice ua un uc] 58)).alloc (.cells #[.pointer s0] 59)).alloc (lstO g)) w3.heap.size 58 (.slice ua un uc) := ((Boxed.new w3 _ _).alloc _).alloc _
  have HFR : Hid (TFr (((w3.alloc (.cells #[.slice ua un uc] 58)).alloc (.cells #[.pointer s0] 59)).alloc (lstO g)) w.heap.size w2.heap.size w3.heap.size (w3.heap.size + 1) (w2.heap.size + 1) b e q (.slice ua un uc) ps s0) :=
    ⟨(HB5.out.block _ (by omega)).trans O3.out, (HB5.out.block _ (by omega)).trans K3.out, ka, ks, by
      have := HROW.out
      simp only [World.size_alloc] at this
      exact World.ownsRow.kept this (row := none) ⟨HB5.out.os, HB5.out.tape, HB5.out.output, HB5.out.size, fun k hk _ => HB5.out.block k hk⟩ (by cases (Value.slice ua un uc).ownBlock <;> simp)⟩
  have D5 : Hid (Dg (((w3.alloc (.cells #[.slice ua un uc] 58)).alloc (.cells #[.pointer s0] 59)).alloc (lstO g)) b e E') := HAR.out.1.below HB5.out
  have B5 : Hid (Below w.heap.size w (((w3.alloc (.cells #[.slice ua un uc] 58)).alloc (.cells #[.pointer s0] 59)).alloc (lstO g))) := B3.out.trans (HB5.out.mono B3.out.size)
  have B15 : Hid (Below w1.heap.size w1 (((w3.alloc (.cells #[.slice ua un uc] 58)).alloc (.cells #[.pointer s0] 59)).alloc (lstO g))) := B13.out.trans (HB5.out.mono hs0)
  have HAA : Hid (∀ j, j < l.length → Rep E' e 6 (ptAt ps j) (areaF l j)) := HAR.out.2.2.2
  have hlp := HAR.out.2.2.1
  clear HB5 ka ks hA4 t0 t1 HAR HROW O3 L3 K3 B3 B13 HKN
  generalize hW2 : ((w3.alloc (.cells #[.slice ua un uc] 58)).alloc (.cells #[.pointer s0] 59)).alloc (lstO g) = V5 at *
  clear hW2
  refine wpIn_rangeFunc_ownH (n := 5) rfl (by omega) (gf := 77) (lb := #[.pointer (some ⟨w3.heap.size + 1 + 1, 0, none⟩)]) rfl trivial (enters_of Tryz.func77 (by kernel_rfl) rfl)
    (allx_stops Fence.wide 4 trivial rfl (by omega) (w3.heap.size + 1 + 1) w1 g l (by omega) HLR.out V5 B15.out kl) belowK_t (belowK_b (by omega)) (Below.refl _ _) (fun _ => rfl)
    (fun pre W => (∃ s E'', TFr W w.heap.size w2.heap.size w3.heap.size (w3.heap.size + 1) (w2.heap.size + 1) b e q (.slice ua un uc) ps s ∧ Dg W b e E'' ∧ (∀ x, x ∈ E' → x ∈ E'') ∧ Rep E'' e 6 s (sentP l q (sentF l q 0) pre)) ∧ Below w.heap.size w W ∧ V5.heap.size ≤ W.heap.size)
    (fun c' pre W => False)
    (fun s A B row hs hg hr => by
      obtain ⟨⟨s1, E1, h1, h2, h3, h4⟩, h5, h6⟩ := hs
      exact ⟨⟨s1, E1, h1.turn hg (fun r e' => (hr r e').2), h2.turn hg (fun r e' => ⟨by have := (hr r e').1; omega, (hr r e').2⟩), h3, h4⟩, ⟨hg.os.trans h5.os, hg.tape.trans h5.tape, hg.output.trans h5.output, Nat.le_trans h5.size hg.size, fun i hi => (hg.block i (Nat.lt_of_lt_of_le hi h5.size) (fun e' => by have := (hr i e'.symm).1; omega)).trans (h5.block i hi)⟩, Nat.le_trans h6 hg.size⟩)
    (fun c' => ownFrom_pure _ _)
    ⟨⟨s0, E', HFR.out, D5.out, fun x hx => hx, R0.out⟩, B5.out, Nat.le_refl _⟩
    (fun x a' W => ∃ Bx, V5.heap.size ≤ Bx ∧ W.heap[Bx]? = some (.cells #[.int .i64 x.1.2.p, .string x.1.2.s, .int .i64 x.1.2.o, .int .i64 x.1.2.t] 31) ∧ a' = { tmps := #[v, .int .i64 q, undef, .pointer (some ⟨w.heap.size, 0, none⟩), .slice none 0 0, .pointer (some ⟨w1.heap.size, 0, none⟩), .bool true, .pointer (some ⟨w2.heap.size, 0, none⟩), .pointer (some ⟨w3.heap.size, 0, none⟩), .pointer p, .pointer (some ⟨w3.heap.size + 1, 0, none⟩), .int .i64 x.1.1, .pointer (some ⟨Bx, 0, none⟩), .tuple #[.agg #[.func (.func 63) #[] #[], .pointer (some ⟨g, 0, none⟩)], .bool true], v, .tuple #[.agg #[.func (.func 63) #[] #[], .pointer (some ⟨g, 0, none⟩)], .bool true], .agg #[.func (.func 63) #[] #[], .pointer (some ⟨g, 0, none⟩)], .bool true, .bool true, .bool false, .bool false, .int .i64 q, .bool true, .bool false, .bool false, .agg #[.map (some b), .pointer (some ⟨e, 0, none⟩)], .tuple #[.slice ua un uc, .pointer p], .agg #[.map (some b), .pointer (some ⟨e, 0, none⟩)], .agg #[.func (.func 63) #[] #[], .pointer (some ⟨g, 0, none⟩)], .tuple #[.slice ua un uc, .pointer p], .slice ua un uc, .pointer p, .pointer p, .int .i64 q, .bool (q == 0), .pointer s0, .agg #[.func (.func 63) #[] #[], .pointer (some ⟨g, 0, none⟩)], .func (.func 77) #[] #[.pointer (some ⟨w3.heap.size + 1 + 1, 0, none⟩)], .int .i64 x.1.1, R4.v x.1.2, undef, undef, undef, undef, undef, undef, undef, undef, undef, undef, undef, undef, undef, undef], defers := [] })
    ?hAx ?assign ?body ?done ?stop
  case hAx =>
    intro x a' u A B row hs hg hr
    obtain ⟨Bx, h1, h2, h3⟩ := hs
    exact ⟨Bx, h1, blk_own Bx (fun _ : Unit => .cells #[.int .i64 x.1.2.p, .string x.1.2.s, .int .i64 x.1.2.o, .int .i64 x.1.2.t] 31) (fun _ => rfl) () A B row h2 hg (fun r e => (hr r e).2), h3⟩
  case assign =>
    rintro lp pre x W K ⟨⟨s1, E1, h1, h2, h3, h4⟩, h5, h6⟩ hK
    have hA := below_alloc1 W (.cells #[.int .i64 x.1.2.p, .string x.1.2.s, .int .i64 x.1.2.o, .int .i64 x.1.2.t] 31)
    have HK := hK _ (W.alloc (.cells #[.int .i64 x.1.2.p, .string x.1.2.s, .int .i64 x.1.2.o, .int .i64 x.1.2.t] 31)) ((KeepsOthers.alloc _ _).from _) (hA.mono (by omega)) ⟨⟨s1, E1, h1.below hA, h2.below hA, h3, h4⟩, h5.trans (hA.mono h5.size), by simp; omega⟩ ⟨W.heap.size, h6, newBlockM W _, rfl⟩
    clear hK
    unfold R4.v at *
    gi_wp2
    exact HK
  case body =>
    rintro lp pre x a' W hl ⟨rr, hrr⟩ ⟨⟨s, E1, h1, h2, h3, h4⟩, h5, h6⟩ ⟨Bx, hBx, bX, rfl⟩ hlt
    have HSX := Lib.hid (HSN.out x pre)
    obtain ⟨⟨j, r⟩, hjl, hjr⟩ := x
    dsimp only at *
    obtain ⟨gg, cp, hu, hcp, hmx, hgb, hgg, hcell⟩ := h1.row.at (k := j) (by omega)
    obtain ⟨rfl, rfl, rfl⟩ : ua = some ⟨gg, 0, none⟩ ∧ un = ps.length ∧ uc = cp := by simpa using hu
    have hbx := (Array.getElem?_eq_some_iff.1 bX).1
    obtain ⟨x0, x1, x2, x3⟩ := cells4 bX
    simp only [Nat.zero_add] at x1 x2 x3
    have o0 := (cells1 h1.o).1
    have hjz : (j : Int) < (ps.length : Int) := by omega
    unfold maxLen at hmx
    have HF1 := Lib.hid h1
    have HD1 := Lib.hid h2
    have HE1 := Lib.hid h3
    have HR1 := Lib.hid h4
    have HB1 := Lib.hid h5
    have HRA : Hid (Rep E1 e 6 (ptAt ps j) (areaF l j)) := (HAA.out j hjl).mono h3
    have HLN := Lib.hid hlp
    clear h1 h2 h3 h4 h5 hu hrr hlt hlp
    unfold R4.v
    by_cases ho : r.o = q
    · have hob : (r.o == q) = true := by simpa using ho
      rw [decide_eq_true ho, cond_true] at HSX
      clear ho
      have HX : Hid (TFr W.drew w.heap.size w2.heap.size w3.heap.size (w3.heap.size + 1) (w2.heap.size + 1) b e q (.slice (some ⟨gg, 0, none⟩) ps.length uc) ps s) := HF1.out.below (Below.refl _ _).drew
      have HXD : Hid (Dg W.drew b e E1) := HD1.out.drew
      have HCB : Hid (∀ W', Dg W' b e E1 → Calls Tryz.prog 43 #[.agg #[.map (some b), .pointer (some ⟨e, 0, none⟩)], .pointer s, .pointer (ptAt ps j), .agg #[.bool true, .bool true, .bool true]] W' fun ex w' => ∃ r', ex = .returned (.pointer r') ∧ Good W' w' b e E1 6 r' (List.zipWith (keepF true true true) (sentP l q (sentF l q 0) pre) (areaF l j))) := fun W' hW' => combine_any b e true true true 6 E1 s (ptAt ps j) _ _ W' hW' HR1.out HRA.out
      obtain ⟨k0, k1, -⟩ := cells2 HX.out.d
      have a0 := HX.out.a.cell
      have s0' := HX.out.s.cell
      have hcell' : W.drew.cell? ⟨gg, j, none⟩ = some (.pointer (ptAt ps j)) := hcell
      obtain ⟨J, hJ⟩ : ∃ J : Nat → Array Bool → Act → World → Prop, J = fun fuel listed a' w' =>
        (∃ c0 c1 c2 c3 c4 c5 c6 : Bool, fuel + (c0.toNat + c1.toNat + c2.toNat + c3.toNat + c4.toNat + c5.toNat + c6.toNat) = 9 ∧ (c4 = true → c2 = true ∧ c3 = true) ∧ (c5 = true → c4 = true) ∧ listed = #[c0, c1, c2, c3, c4, c5, c6, false, false] ∧ a' = { tmps := #[v, .int .i64 q, undef, .pointer (some ⟨w.heap.size, 0, none⟩), .slice none 0 0, .pointer (some ⟨w1.heap.size, 0, none⟩), .bool true, .pointer (some ⟨w2.heap.size, 0, none⟩), .pointer (some ⟨w3.heap.size, 0, none⟩), .pointer p, .pointer (some ⟨w3.heap.size + 1, 0, none⟩), .int .i64 j, .pointer (some ⟨Bx, 0, none⟩), .tuple #[.agg #[.func (.func 63) #[] #[], .pointer (some ⟨g, 0, none⟩)], .bool true], v, .tuple #[.agg #[.func (.func 63) #[] #[], .pointer (some ⟨g, 0, none⟩)], .bool true], .agg #[.func (.func 63) #[] #[], .pointer (some ⟨g, 0, none⟩)], .bool true, .bool true, .bool false, .bool false, .int .i64 q, .bool true, .bool false, .bool false, .agg #[.map (some b), .pointer (some ⟨e, 0, none⟩)], .tuple #[.slice (some ⟨gg, 0, none⟩) ps.length uc, .pointer p], .agg #[.map (some b), .pointer (some ⟨e, 0, none⟩)], .agg #[.func (.func 63) #[] #[], .pointer (some ⟨g, 0, none⟩)], .tuple #[.slice (some ⟨gg, 0, none⟩) ps.length uc, .pointer p], .slice (some ⟨gg, 0, none⟩) ps.length uc, .pointer p, .pointer p, .int .i64 q, .bool (q == 0), .pointer s0, .agg #[.func (.func 63) #[] #[], .pointer (some ⟨g, 0, none⟩)], .func (.func 77) #[] #[.pointer (some ⟨w3.heap.size + 1 + 1, 0, none⟩)], .int .i64 j, .agg #[.int .i64 r.p, .string r.s, .int .i64 r.o, .int .i64 r.t], .pointer (some ⟨Bx, 2, none⟩), .int .i64 r.o, .int .i64 q, .bool true, (bif c0 then .agg #[.map (some b), .pointer (some ⟨e, 0, none⟩)] else undef), (bif c1 then .pointer s else undef), (bif c2 then .slice (some ⟨gg, 0, none⟩) ps.length uc else undef), (bif c3 then .int .i64 j else undef), (bif c4 then .pointer (some ⟨gg, j, none⟩) else undef), (bif c5 then .pointer (ptAt ps j) else undef), (bif c6 then .agg #[.bool true, .bool true, .bool true] else undef), undef, undef, undef], defers := [] } ∧ w' = W.drew) ∨
        (∃ (s5 : Option Addr), fuel = 1 ∧ listed = #[true, true, true, true, true, true, true, true, false] ∧ a' = { tmps := #[v, .int .i64 q, undef, .pointer (some ⟨w.heap.size, 0, none⟩), .slice none 0 0, .pointer (some ⟨w1.heap.size, 0, none⟩), .bool true, .pointer (some ⟨w2.heap.size, 0, none⟩), .pointer (some ⟨w3.heap.size, 0, none⟩), .pointer p, .pointer (some ⟨w3.heap.size + 1, 0, none⟩), .int .i64 j, .pointer (some ⟨Bx, 0, none⟩), .tuple #[.agg #[.func (.func 63) #[] #[], .pointer (some ⟨g, 0, none⟩)], .bool true], v, .tuple #[.agg #[.func (.func 63) #[] #[], .pointer (some ⟨g, 0, none⟩)], .bool true], .agg #[.func (.func 63) #[] #[], .pointer (some ⟨g, 0, none⟩)], .bool true, .bool true, .bool false, .bool false, .int .i64 q, .bool true, .bool false, .bool false, .agg #[.map (some b), .pointer (some ⟨e, 0, none⟩)], .tuple #[.slice (some ⟨gg, 0, none⟩) ps.length uc, .pointer p], .agg #[.map (some b), .pointer (some ⟨e, 0, none⟩)], .agg #[.func (.func 63) #[] #[], .pointer (some ⟨g, 0, none⟩)], .tuple #[.slice (some ⟨gg, 0, none⟩) ps.length uc, .pointer p], .slice (some ⟨gg, 0, none⟩) ps.length uc, .pointer p, .pointer p, .int .i64 q, .bool (q == 0), .pointer s0, .agg #[.func (.func 63) #[] #[], .pointer (some ⟨g, 0, none⟩)], .func (.func 77) #[] #[.pointer (some ⟨w3.heap.size + 1 + 1, 0, none⟩)], .int .i64 j, .agg #[.int .i64 r.p, .string r.s, .int .i64 r.o, .int .i64 r.t], .pointer (some ⟨Bx, 2, none⟩), .int .i64 r.o, .int .i64 q, .bool true, .agg #[.map (some b), .pointer (some ⟨e, 0, none⟩)], .pointer s, .slice (some ⟨gg, 0, none⟩) ps.length uc, .int .i64 j, .pointer (some ⟨gg, j, none⟩), .pointer (ptAt ps j), .agg #[.bool true, .bool true, .bool true], .pointer s5, undef, undef], defers := [] } ∧ Good W.drew w' b e E1 6 s5 (List.zipWith (keepF true true true) (sentP l q (sentF l q 0) pre) (areaF l j))) ∨
        (∃ (s5 : Option Addr) (w5 : World), fuel = 0 ∧ listed = #[true, true, true, true, true, true, true, true, true] ∧ a' = { tmps := #[v, .int .i64 q, undef, .pointer (some ⟨w.heap.size, 0, none⟩), .slice none 0 0, .pointer (some ⟨w1.heap.size, 0, none⟩), .bool true, .pointer (some ⟨w2.heap.size, 0, none⟩), .pointer (some ⟨w3.heap.size, 0, none⟩), .pointer p, .pointer (some ⟨w3.heap.size + 1, 0, none⟩), .int .i64 j, .pointer (some ⟨Bx, 0, none⟩), .tuple #[.agg #[.func (.func 63) #[] #[], .pointer (some ⟨g, 0, none⟩)], .bool true], v, .tuple #[.agg #[.func (.func 63) #[] #[], .pointer (some ⟨g, 0, none⟩)], .bool true], .agg #[.func (.func 63) #[] #[], .pointer (some ⟨g, 0, none⟩)], .bool true, .bool true, .bool false, .bool false, .int .i64 q, .bool true, .bool false, .bool false, .agg #[.map (some b), .pointer (some ⟨e, 0, none⟩)], .tuple #[.slice (some ⟨gg, 0, none⟩) ps.length uc, .pointer p], .agg #[.map (some b), .pointer (some ⟨e, 0, none⟩)], .agg #[.func (.func 63) #[] #[], .pointer (some ⟨g, 0, none⟩)], .tuple #[.slice (some ⟨gg, 0, none⟩) ps.length uc, .pointer p], .slice (some ⟨gg, 0, none⟩) ps.length uc, .pointer p, .pointer p, .int .i64 q, .bool (q == 0), .pointer s0, .agg #[.func (.func 63) #[] #[], .pointer (some ⟨g, 0, none⟩)], .func (.func 77) #[] #[.pointer (some ⟨w3.heap.size + 1 + 1, 0, none⟩)], .int .i64 j, .agg #[.int .i64 r.p, .string r.s, .int .i64 r.o, .int .i64 r.t], .pointer (some ⟨Bx, 2, none⟩), .int .i64 r.o, .int .i64 q, .bool true, .agg #[.map (some b), .pointer (some ⟨e, 0, none⟩)], .pointer s, .slice (some ⟨gg, 0, none⟩) ps.length uc, .int .i64 j, .pointer (some ⟨gg, j, none⟩), .pointer (ptAt ps j), .agg #[.bool true, .bool true, .bool true], .pointer s5, undef, undef], defers := [] } ∧ w' = w5.setCell ⟨w3.heap.size + 1, 0, none⟩ (.pointer s5) ∧ Good W.drew w5 b e E1 6 s5 (List.zipWith (keepF true true true) (sentP l q (sentF l q 0) pre) (areaF l j))) := ⟨_, rfl⟩
      gi_wp2_with fail
      refine wpIn_region_any (by kernel_rfl) ?_
      refine wpAny_inv J ?h0 ?h1 _ _ _ _ (by rw [hJ]; exact .inl ⟨false, false, false, false, false, false, false, rfl, (fun h => by cases h), (fun h => by cases h), rfl, rfl, rfl⟩)
      case h0 =>
        intro listed a' w' h
        rw [hJ] at h
        rcases h with ⟨c0, c1, c2, c3, c4, c5, c6, hf, -⟩ | ⟨s5, hf, -⟩ | ⟨s5, w5, -, rfl, rfl, rfl, hG⟩
        · have := Bool.toNat_le c0; have := Bool.toNat_le c1; have := Bool.toNat_le c2; have := Bool.toNat_le c3; have := Bool.toNat_le c4; have := Bool.toNat_le c5; have := Bool.toNat_le c6; omega
        · omega
        clear hJ J
        refine ⟨by kernel_rfl, ?_⟩
        obtain ⟨E5, s5', D5', R5, g5⟩ := hG
        have FR5 := Lib.hid (HX.out.grown g5 (by omega) (by omega) (by omega) (by omega) (by omega))
        have hown : ∀ k, (Value.slice (some ⟨gg, 0, none⟩) ps.length uc).ownBlock = some k → k ≠ w3.heap.size + 1 := fun k hk => by have := hu3.out k hk; omega
        have FR6 := FR5.out.send s5 (by omega) (by omega) (by omega) hown
        have KF : KeepsFrom V5.heap.size W (w5.setCell ⟨w3.heap.size + 1, 0, none⟩ (.pointer s5)) := (((show KeepsOthers W W.drew from ⟨Nat.le_refl _, fun k o hk _ => hk⟩).from _).trans (KeepsFrom.of_grownBy g5 (fun j' e' => by have := Option.some.inj e'; omega))).trans ((KeepsOthers.setCell _ _ _).from _)
        have BW9 : Below w1.heap.size W (w5.setCell ⟨w3.heap.size + 1, 0, none⟩ (.pointer s5)) := ((Below.refl w1.heap.size W).drew.trans (sBel g5 (by omega) (by have : W.drew.heap.size = W.heap.size := rfl; omega))).setCell (by dsimp only; omega) _
        have D6 := D5'.boxed FR5.out.s (by decide) (.pointer s5)
        have BB9 : Below w.heap.size w (w5.setCell ⟨w3.heap.size + 1, 0, none⟩ (.pointer s5)) := HB1.out.trans (BW9.mono (by omega))
        gi_wp2
        exact ⟨KF, BW9, ⟨s5, E5, FR6, D6, fun x hx => s5' x (HE1.out x hx), by rw [HSX.out]; exact R5⟩, BB9, Nat.le_trans h6 KF.size⟩
      case h1 =>
        intro fuel listed a' w' h
        rw [hJ] at h
        rcases h with ⟨c0, c1, c2, c3, c4, c5, c6, hf, hi4, hi5, rfl, rfl, rfl⟩ | ⟨s5, hf, rfl, rfl, hG⟩ | ⟨s5, w5, hf, -⟩
        · refine ⟨fun hr => ?_, fun i hi => ?_⟩
          · exfalso
            revert hr
            clear hf hJ
            revert hi4 hi5
            cases c0 <;> cases c1 <;> cases c2 <;> cases c3 <;> cases c4 <;> cases c5 <;> cases c6 <;> (intro hi4 hi5 hr; first | exact absurd hr (by decide +kernel) | (simp at hi4) | (simp at hi5))
          · obtain ⟨hun, o, ho', hall⟩ := mem_ready.1 hi
            clear hi
            match i, hun, ho', hall with
            | 0, hun, ho', hall =>
              obtain rfl : c0 = false := hun
              refine wpOpIn_step rfl fun K hK => ?_
              go_simp
              refine hK _ _ ?_
              clear hK K
              rw [hJ]
              exact .inl ⟨true, c1, c2, c3, c4, c5, c6, by simp at hf ⊢; omega, hi4, hi5, rfl, rfl, rfl⟩
            | 1, hun, ho', hall =>
              obtain rfl : c1 = false := hun
              refine wpOpIn_step rfl fun K hK => ?_
              go_simp
              refine hK _ _ ?_
              clear hK K
              rw [hJ]
              exact .inl ⟨c0, true, c2, c3, c4, c5, c6, by simp at hf ⊢; omega, hi4, hi5, rfl, rfl, rfl⟩
            | 2, hun, ho', hall =>
              obtain rfl : c2 = false := hun
              refine wpOpIn_step rfl fun K hK => ?_
              go_simp
              refine hK _ _ ?_
              clear hK K
              rw [hJ]
              exact .inl ⟨c0, c1, true, c3, c4, c5, c6, by simp at hf ⊢; omega, (fun h => absurd (hi4 h).1 (by decide)), hi5, rfl, rfl, rfl⟩
            | 3, hun, ho', hall =>
              obtain rfl : c3 = false := hun
              refine wpOpIn_step rfl fun K hK => ?_
              go_simp
              refine hK _ _ ?_
              clear hK K
              rw [hJ]
              exact .inl ⟨c0, c1, c2, true, c4, c5, c6, by simp at hf ⊢; omega, (fun h => absurd (hi4 h).2 (by decide)), hi5, rfl, rfl, rfl⟩
            | 4, hun, ho', hall =>
              obtain rfl : c4 = false := hun
              simp at ho'
              subst ho'
              obtain rfl : c2 = true := hall { on := 2, ground := .data } (by simp) rfl
              obtain rfl : c3 = true := hall { on := 3, ground := .data } (by simp) rfl
              refine wpOpIn_step rfl fun K hK => ?_
              go_simp
              refine hK _ _ ?_
              clear hK K
              rw [hJ]
              exact .inl ⟨c0, c1, true, true, true, c5, c6, by simp at hf ⊢; omega, (fun _ => ⟨rfl, rfl⟩), (fun _ => rfl), rfl, rfl, rfl⟩
            | 5, hun, ho', hall =>
              obtain rfl : c5 = false := hun
              simp at ho'
              subst ho'
              obtain rfl : c4 = true := hall { on := 4, ground := .data } (by simp) rfl
              obtain ⟨rfl, rfl⟩ := hi4 rfl
              refine wpOpIn_step rfl fun K hK => ?_
              go_simp
              refine hK _ _ ?_
              clear hK K
              rw [hJ]
              exact .inl ⟨c0, c1, true, true, true, true, c6, by simp at hf ⊢; omega, (fun _ => ⟨rfl, rfl⟩), (fun _ => rfl), rfl, rfl, rfl⟩
            | 6, hun, ho', hall =>
              obtain rfl : c6 = false := hun
              refine wpOpIn_step rfl fun K hK => ?_
              go_simp
              refine hK _ _ ?_
              clear hK K
              rw [hJ]
              exact .inl ⟨c0, c1, c2, c3, c4, c5, true, by simp at hf ⊢; omega, hi4, hi5, rfl, rfl, rfl⟩
            | 7, hun, ho', hall =>
              simp at ho'
              subst ho'
              obtain rfl : c0 = true := hall { on := 0, ground := .data } (by simp) rfl
              obtain rfl : c1 = true := hall { on := 1, ground := .data } (by simp) rfl
              obtain rfl : c5 = true := hall { on := 5, ground := .data } (by simp) rfl
              obtain rfl : c6 = true := hall { on := 6, ground := .data } (by simp) rfl
              obtain rfl := hi5 rfl
              obtain ⟨rfl, rfl⟩ := hi4 rfl
              clear hall hun
              refine wpOpIn_step rfl fun K hK => ?_
              go_simp
              refine ⟨trivial, ?_⟩
              refine (CallsIn.inRound lp (callsIn_wide.2 (HCB.out _ HXD.out))).mono ?_
              rintro ex w5 ⟨p5, rfl, hG⟩
              refine hK _ _ ?_
              clear hK K
              rw [hJ]
              exact .inr (.inl ⟨p5, by simp at hf; omega, rfl, rfl, hG⟩)
            | 8, hun, ho', hall =>
              simp at ho'
              subst ho'
              exact Bool.noConfusion (hall { on := 7, ground := .data } (by simp) rfl : false = true)
            | i + 9, hun, ho', hall => simp at ho'
        · have hG' := hG
          obtain ⟨E5, s5', D5', R5, g5⟩ := hG'
          have FR5 := HX.out.grown g5 (by omega) (by omega) (by omega) (by omega) (by omega)
          have s5c := FR5.s.cell
          have s5f := FR5.s.frozen
          refine ⟨fun hr => ?_, fun i hi => ?_⟩
          · exact absurd hr (by decide +kernel)
          · obtain ⟨hun, o, ho', hall⟩ := mem_ready.1 hi
            clear hi
            match i, hun, ho', hall with
            | 0, hun, ho', hall => exact Bool.noConfusion (hun : true = false)
            | 1, hun, ho', hall => exact Bool.noConfusion (hun : true = false)
            | 2, hun, ho', hall => exact Bool.noConfusion (hun : true = false)
            | 3, hun, ho', hall => exact Bool.noConfusion (hun : true = false)
            | 4, hun, ho', hall => exact Bool.noConfusion (hun : true = false)
            | 5, hun, ho', hall => exact Bool.noConfusion (hun : true = false)
            | 6, hun, ho', hall => exact Bool.noConfusion (hun : true = false)
            | 7, hun, ho', hall => exact Bool.noConfusion (hun : true = false)
            | 8, hun, ho', hall =>
              refine wpOpIn_step rfl fun K hK => ?_
              go_simp
              refine hK _ _ ?_
              clear hK K
              rw [hJ]
              exact .inr (.inr ⟨s5, w', by omega, rfl, rfl, rfl, hG⟩)
            | i + 9, hun, ho', hall => simp at ho'
        · omega
    · have hob : (r.o == q) = false := by simpa using ho
      rw [decide_eq_false ho, cond_false] at HSX
      clear ho
      gi_wp2
      refine ⟨KeepsFrom.refl _ _, Below.refl _ _, ⟨s, E1, HF1.out, HD1.out, HE1.out, by rw [HSX.out]; exact HR1.out⟩, HB1.out, h6⟩
  case done =>
    rintro D ys W hD rfl ⟨⟨s, E1, h1, h2, h3, h4⟩, h5, h6⟩ hK
    have r0 := h1.s.cell
    rw [HSA.out] at h4
    have HD1 := Lib.hid h2
    have HR1 := Lib.hid h4
    have HB1 := Lib.hid h5
    have HK := Lib.hid hK
    clear h1 h2 h3 h4 h5 hK
    gi_wp2_with fail
    refine ⟨trivial, ?_⟩
    refine (callsIn_wide.2 (texts_any _ _ _ _ _ _ HD1.out HR1.out)).mono ?_
    rintro ex w4 ⟨v4, rfl, hrow, b4⟩
    have HS := Lib.hid hrow
    have B4 := Lib.hid (belStep HB1.out b4)
    have HK4 : Hid (w4.heap[D]? = some (.deferred (some []))) := (b4.block _ (Array.getElem?_eq_some_iff.1 HK.out).1).trans HK.out
    have hws := HB1.out.size
    clear hrow b4
    gi_wp2
    refine ⟨by simp, .inl ⟨_, _, rfl, run_takeDeferred HK4.out, ?_⟩⟩
    refine ⟨_, results_tmp rfl _ _ _, v4, rfl, ?_, B4.out.trans (belowK_b (w := w) (Nat.le_refl _) w4 D _ _ (by omega) HK4.out rfl rfl)⟩
    exact World.ownsRow.mono (ownsRow_putObj HS.out (.deferred none) HK4.out rfl) hws
  case stop =>
    rintro D c' pre W hD - h
    exact h.elim

set_option maxRecDepth 100000 in
set_option maxHeartbeats 4000000 in
theorem iTableTo_any (w : World) (v : Value) (l : List R4) (h : Rls w w.heap.size v l) (hn : l.length ≤ 1048576) (q : Int) (hE : EtOk w) :
    Calls Tryz.prog 14 #[v, .int .i64 q] w fun e w' => ∃ u, e = .returned u ∧ StrRow w' w.heap.size u (toT l q) ∧ Below w.heap.size w w' := by
  by_cases hin : tOk l = true ∧ inB q 0 4 = true
  · have := iTableTo_go w v l h hn q hE hin.1 hin.2
    rwa [show tidyT (toM l q) = toT l q from by rw [toT, hin.1, hin.2]; rfl] at this
  have HT : Hid (toT l q = []) := by
    show _ = _
    unfold toT
    cases h1 : tOk l
    · rfl
    · cases h2 : inB q 0 4
      · rfl
      · exact absurd ⟨h1, h2⟩ hin
  rw [HT.out]
  have hA0 := below_alloc1 w (.cells #[.int .i64 q] 3)
  have HC := Lib.hid (readTable_any (w.alloc (.cells #[.int .i64 q] 3)) v l ((h.below hA0 (Nat.le_refl _)).mono hA0.size) hn (hE.below hA0))
  have HTO := Lib.hid (fun W => outOk_any q W)
  have O0 := Lib.hid (newBlockM w (.cells #[.int .i64 q] 3))
  clear h hE
  go_enter Tryz.func14, Tryz.ntmps14
  go_wp2_with fail
  refine HC.out.mono ?_
  rintro e w1 ⟨g, rfl, hg, hlr, b1⟩
  have s1 := b1.size
  simp at s1
  have B1 : Hid (Below w.heap.size w (w1.alloc (lstO g))) := (hA0.trans (b1.mono (by simp))).alloc (by omega) _
  have o1 : (w1.alloc (.cells #[.func (.func 63) #[] #[], .pointer (some ⟨g, 0, none⟩)] 55)).cell? ⟨w.heap.size, 0, none⟩ = some (.int .i64 q) := (cells1 (((below_alloc1 w1 _).block _ (by omega)).trans ((b1.block _ (by simp)).trans O0.out))).1
  unfold lstV
  clear hlr b1 HC hg hA0
  cases ht : tOk l
  · go_wp2
    go_ret
    exact ⟨_, rfl, ⟨rfl, .inl ⟨rfl, rfl⟩⟩, B1.out⟩
  · have h2 : inB q 0 4 = false := by
      cases h2 : inB q 0 4
      · rfl
      · exact absurd ⟨ht, h2⟩ hin
    rw [h2] at HTO
    clear h2 hin
    go_wp2_with fail
    refine (HTO.out _).mono ?_
    rintro e w2 ⟨rfl, rfl⟩
    go_wp2
    go_ret
    exact ⟨_, rfl, ⟨rfl, .inl ⟨rfl, rfl⟩⟩, B1.out⟩

end Go.Proofs.YtehgpehhpijkjaaGreatDoor
