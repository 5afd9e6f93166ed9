/-
  The program's walk over a list, for a body that wants to know which rule comes at which place.
-/
import Derived.Test.YtahobeigbjhbbaaGreatDoorTabL
namespace Go.Proofs.YtahobeigbjhbbaaGreatDoor
open Go.ChangeShapes Go.WideShapes Go.ChangeAt Go.RowKit Go.Joins
open Go.Shelf
set_option linter.unusedVariables false
attribute [local go_sem] Oper.semAt_some

/-- A place of a list, and the rule at it. -/
abbrev XR (l : List R4) := {x : Nat × R4 // x.1 < l.length ∧ x.2 = ruAt l x.1}
def comeX (l : List R4) (k : Nat) : List (XR l) := (List.range k).filterMap (fun j => if h : j < l.length then some ⟨(j, ruAt l j), h, rfl⟩ else none)
theorem comeX_succ (l : List R4) (k : Nat) (hk : k < l.length) : comeX l (k + 1) = comeX l k ++ [⟨(k, ruAt l k), hk, rfl⟩] := by
  unfold comeX
  rw [List.range_succ, List.filterMap_append]
  simp [hk]
theorem comeX_len (l : List R4) : ∀ k, k ≤ l.length → (comeX l k).length = k
  | 0, _ => rfl
  | k + 1, h => by rw [comeX_succ l k h, List.length_append, comeX_len l k (Nat.le_of_lt h)]; rfl

set_option maxRecDepth 100000 in
set_option maxHeartbeats 2000000 in
/-- The iterator's function, called: the rules come from the first one on, till a round says 'no more'. -/
theorem all1x_in (F : Fence) (n : Nat) (hF : F.fn 125) (hro : F.round = none) (hn : 1 ≤ n) (lo Bs : Nat) (W0 : World) (g : Nat) (l : List R4) (hlen : l.length ≤ 1048576) (hR : LR W0 g l) (J Jx : List (XR l) → World → Prop)
    (hY : ∀ pre x W, J pre W → pre.length < l.length → YieldAt F (n - 1) Tryz.prog lo #[.int .i64 (x.1.1 : Int), R4.v x.1.2] W fun e W' =>
      (e = .returned (.bool true) ∧ J (pre ++ [x]) W' ∧ Below W0.heap.size W W') ∨ (e = .returned (.bool false) ∧ Jx (pre ++ [x]) W'))
    (W : World) (hW : Below W0.heap.size W0 W) (hBs : W.heap[Bs]? = some (lstO g)) (h0 : J [] W) :
    CallsIn F n Tryz.prog 125 #[.func (.yield lo) #[] #[], .pointer (some ⟨Bs, 0, none⟩)] W fun e W' => (∃ v, e = .returned v) ∧
      ((∃ ys, ys = comeX l l.length ∧ J ys W') ∨ (∃ pre, (∃ k, k ≤ l.length ∧ pre = comeX l k) ∧ Jx pre W')) := by
  obtain ⟨q0, hq0, hll⟩ := hR
  obtain ⟨-, r4, -⟩ := nodeCells ((hW.block g (Array.getElem?_eq_some_iff.1 hq0).1).trans hq0)
  obtain ⟨b0, b1, -⟩ := cells2 hBs
  have HCS := Lib.hid (comeX_succ l)
  have HCL := Lib.hid (comeX_len l)
  have h0' : Hid (J (comeX l 0) W) := h0
  have HLL := Lib.hid hll
  clear h0 hBs hq0 hll
  refine callsIn_of_wp Tryz.func125 rfl hF ?_ hro
  simp only [Tryz.ntmps125, List.size_toArray, List.length_cons, List.length_nil, Nat.reduceAdd, Nat.reduceSub, Array.replicate_succ, Array.replicate_zero, List.push_toArray, List.append_toArray, List.nil_append, List.cons_append]
  gi_wp2
  gi_loopw [3, 4] (fun i p wr => ∃ (k : Nat) (q : Option Addr), k ≤ l.length ∧ i = .int .i64 k ∧ p = .pointer q ∧ LL W0 (g + 1) q (l.drop k) ∧ J (comeX l k) wr ∧ Below W0.heap.size W0 wr) (fun i _ _ => l.length - (intOf i).toNat)
  case atStart => exact ⟨0, q0, Nat.zero_le _, by simp, rfl, HLL.out, h0'.out, hW⟩
  case round =>
    obtain ⟨k, q, hk, rfl, rfl, hl, hJs, hnx⟩ := hrel
    by_cases hlt : k < l.length
    · have hd : l.drop k = ruAt l k :: l.drop (k + 1) := by rw [List.drop_eq_getElem_cons hlt, ruAt_lt hlt]
      rw [hd] at hl
      obtain ⟨b, q', rfl, hgb, hb, hr⟩ := hl
      obtain ⟨⟨c0, c1, c2, c3⟩, -, -⟩ := nodeCells ((hnx.block b (Array.getElem?_eq_some_iff.1 hb).1).trans hb)
      simp only [Nat.zero_add] at c1 c2 c3
      have HNB : Hid (∀ W', Below W0.heap.size W0 W' → W'.cell? ⟨b, 4, none⟩ = some (.pointer q')) := fun W' h' => (nodeCells ((h'.block b (Array.getElem?_eq_some_iff.1 hb).1).trans hb)).2.1
      have HR := Lib.hid hr
      have HS := Lib.hid (HCS.out k hlt)
      obtain ⟨fn, tmps, assign, body, hy, hR⟩ := hY _ ⟨(k, ruAt l k), hlt, rfl⟩ wr hJs (by rw [HCL.out k hk]; exact hlt)
      dsimp only [R4.v] at hy
      have HRR := Lib.hid hR
      clear hR hY hd hb hr
      gi_wp2
      refine HRR.out.mono ?_
      rintro e W3 (⟨rfl, hJ3, hk3⟩ | ⟨rfl, hJx3⟩)
      · have c4 := HNB.out _ (hnx.trans hk3)
        gi_wp2
        go_roundw
        case rel => exact ⟨k + 1, q', by omega, by go_num, rfl, HR.out, by rw [HS.out]; exact hJ3, hnx.trans hk3⟩
        case measure => simp [intOf]; omega
      · gi_wp2
        go_end0
        exact ⟨⟨_, rfl⟩, .inr ⟨_, ⟨k + 1, by omega, HS.out.symm⟩, hJx3⟩⟩
    · obtain rfl : k = l.length := by omega
      rw [List.drop_length] at hl
      obtain rfl : q = none := hl
      gi_wp2
      refine ⟨fun _ h => (by cases h), ?_⟩
      gi_wp2
      go_end0
      exact ⟨⟨_, rfl⟩, .inl ⟨_, rfl, hJs⟩⟩

theorem allx_stops (F : Fence) (n : Nat) (hF : F.fn 125) (hro : F.round = none) (hn : 1 ≤ n) (Bs : Nat) (W0 : World) (g : Nat) (l : List R4) (hlen : l.length ≤ 1048576) (hR : LR W0 g l) (w : World) (hw : Below W0.heap.size W0 w) (hBs : w.heap[Bs]? = some (lstO g)) :
    SeqStopsK F n Tryz.prog 125 #[.pointer (some ⟨Bs, 0, none⟩)] (fun x : XR l => #[Value.int .i64 (x.1.1 : Int), R4.v x.1.2]) (Below W0.heap.size) (fun ys => ys = comeX l l.length) (fun pre => ∃ k, k ≤ l.length ∧ pre = comeX l k) l.length w := fun lo J Jx W hW _ _ hY h0 =>
  all1x_in F n hF hro hn lo Bs W0 g l hlen hR J Jx hY W (hw.trans (hW.mono hw.size)) ((hW.block Bs (Array.getElem?_eq_some_iff.1 hBs).1).trans hBs) h0

end Go.Proofs.YtahobeigbjhbbaaGreatDoor
