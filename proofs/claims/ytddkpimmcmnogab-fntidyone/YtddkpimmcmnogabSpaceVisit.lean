/-
  Chapter 3, the program: the patterns of the canonical list are handed over one by one.
-/
import Derived.Test.YtddkpimmcmnogabSpaceSet
import Derived.RangeFuncBox
import Derived.RangeFuncLeaves
import Derived.Shelf.Abstract
import Derived.WalkKit
import Derived.OwnWalkIn
import Derived.TacticsInMore
import Derived.LoopNIn
import Derived.LoopIn
import Derived.Maps.AppendAt
import Derived.RangeFuncKeeps
import Derived.Deep.QuietTactic
import Derived.BigQuiet
namespace Go.Proofs.Ytddkpimmcmnogab
open Go.ChangeShapes Go.WideShapes Go.ChangeAt Go.RowKit Go.Joins
open Go.Shelf
set_option linter.unusedVariables false

theorem bDrewN {B : Nat} {a w : World} (h : Below B a w) (n : Nat) : Below B a (w.drewN n) := ⟨h.os, h.tape, h.output, h.size, h.block⟩
/-- Signs as masks, as a value. -/
def mkA (x : List UInt8) : Value := .agg #[.int .u8 (ofB (cL x)), .int .u8 (ofB (vL x))]
/-- What a round that goes on keeps: what lay below n, and masks wherever they lie. -/
def KpM (n : Nat) (W W' : World) : Prop := Below n W W' ∧ ∀ (k : Nat) (cs : Array Value), W.heap[k]? = some (.cells cs 67) → W'.heap[k]? = some (.cells cs 67)
theorem KpM.trans {n : Nat} {A B C : World} (h : KpM n A B) (k : KpM n B C) : KpM n A C := ⟨h.1.trans k.1, fun j cs hj => k.2 j cs (h.2 j cs hj)⟩
theorem KpM.of {n : Nat} {A B : World} (h : Below A.heap.size A B) (hn : n ≤ A.heap.size) : KpM n A B := ⟨h.mono hn, fun j cs hj => (h.block j (Array.getElem?_eq_some_iff.1 hj).1).trans hj⟩
/-- The diagram lies below n. -/
def DgN (n : Nat) (w : World) (b e : Nat) (E : List Nd) : Prop := Dg w b e E ∧ b < n ∧ e < n ∧ ∀ z o k, (z, o, k) ∈ E → k < n
theorem DgN.below {n : Nat} {w w' : World} {b e : Nat} {E : List Nd} (h : DgN n w b e E) (hb : Below n w w') : DgN n w' b e E := by
  obtain ⟨hd, h1, h2, h3⟩ := h
  obtain ⟨es, clock, hm, he⟩ := hd.map
  exact ⟨⟨(hb.block _ h2).trans hd.last, ⟨es, clock, (hb.block _ h1).trans hm, he⟩, fun z o j hj => ⟨(hb.block _ (h3 z o j hj)).trans (hd.node z o j hj).1, (hd.node z o j hj).2⟩, hd.uniq⟩, h1, h2, h3⟩
theorem Dg.to {w : World} {b e : Nat} {E : List Nd} (h : Dg w b e E) : DgN w.heap.size w b e E :=
  ⟨h, h.lt_b, (Array.getElem?_eq_some_iff.1 h.last).1, fun z o k hk => (Array.getElem?_eq_some_iff.1 (h.node z o k hk).1).1⟩

/-- What a visit leaves: all of L has come. -/
def Vis (J : List (List UInt8) → World → Prop) (n : Nat) (pre L : List (List UInt8)) (W : World) (e : Ending) (W' : World) : Prop :=
  e = .returned (.bool true) ∧ J (pre ++ L) W' ∧ KpM n W W'

set_option maxRecDepth 100000 in
set_option maxHeartbeats 2000000 in
/-- At the end: the pattern is handed over. -/
theorem visit_end (l e : Nat) (s : List UInt8) (W : World) (R : World → Prop)
    (hY : ∀ m, YieldAt Fence.wide m Try.prog l #[mkA s] (W.alloc (.cells #[.int .u8 (ofB (cL s)), .int .u8 (ofB (vL s))] 67)) fun ex W' => ex = .returned (.bool true) ∧ R W') :
    Calls Try.prog 50 #[.pointer (some ⟨e, 0, none⟩), .int .i64 6, .agg #[.int .u8 (ofB (cL s)), .int .u8 (ofB (vL s))], .func (.yield l) #[] #[]] W fun ex W' => ex = .returned (.bool true) ∧ R W' := by
  have hdd : ∀ k : Nat, (Fence.wide.depth.isSome = true → 1 ≤ k) := fun k h => by cases h
  obtain ⟨fn, tmps, assign, body, hy, hR⟩ := hY (3 - 1)
  unfold mkA at hy
  refine (callsIn_wide (n := 3)).1 ?_
  refine callsIn_of_wp Try.func50 rfl trivial ?_ rfl
  simp only [Try.ntmps50, List.size_toArray, List.length_cons, List.length_nil, Nat.reduceAdd, Nat.reduceSub, Array.replicate_succ, Array.replicate_zero, List.push_toArray, List.append_toArray, List.nil_append, List.cons_append]
  gi_wp2_with ((try refine ⟨hdd _, ?_⟩); refine hR.mono ?_; clear hR; rintro ex W1 ⟨rfl, hr⟩)
  go_ret
  exact ⟨rfl, hr⟩

/-! ### Signs that are added -/

theorem getD_snoc (s : List UInt8) (b : UInt8) (i : Nat) : (s ++ [b]).getD i 120 = if i = s.length then b else s.getD i 120 := by
  simp only [List.getD_eq_getElem?_getD, List.getElem?_append]
  by_cases h : i < s.length
  · rw [if_pos h, if_neg (by omega)]
  · by_cases e : i = s.length
    · simp [e]
    · rw [if_neg h, if_neg e, List.getElem?_eq_none (by simp; omega), List.getElem?_eq_none (by omega)]
theorem getD_x (s : List UInt8) (i : Nat) : (s ++ [120]).getD i 120 = s.getD i 120 := by
  rw [getD_snoc]
  by_cases e : i = s.length
  · subst e; simp [List.getD_eq_getElem?_getD]
  · rw [if_neg e]
theorem cL_x (s : List UInt8) : cL (s ++ [120]) = cL s := by
  funext i
  unfold cL
  rw [getD_x]
theorem vL_x (s : List UInt8) : vL (s ++ [120]) = vL s := by
  funext i
  unfold vL
  rw [getD_x]
theorem cL_snoc (s : List UInt8) (b : UInt8) (hb : (b == 120) = false) (i : Nat) : cL (s ++ [b]) i = (cL s i || i == s.length) := by
  unfold cL
  rw [getD_snoc]
  by_cases e : i = s.length
  · simp [e, hb]
  · simp [e]
theorem vL_snoc (s : List UInt8) (q : Bool) (i : Nat) : vL (s ++ [bif q then 49 else 48]) i = ((vL s i && !(i == s.length)) || (q && i == s.length)) := by
  unfold vL
  rw [getD_snoc]
  by_cases e : i = s.length
  · cases q <;> simp [e]
  · have e' : (i == s.length) = false := by simpa using e
    simp [e, e']
theorem with_sgn (s : List UInt8) (k : Nat) (hs : s.length = k) (hk : k < 6) (q : Bool) (x : Int) (hx : x = bif q then pw k else 0) (W : World) :
    Calls Try.prog 51 #[.agg #[.int .u8 (ofB (cL s)), .int .u8 (ofB (vL s))], .int .u8 (pw k), .int .u8 x] W fun e w' =>
      e = .returned (.agg #[.int .u8 (ofB (cL (s ++ [bif q then 49 else 48]))), .int .u8 (ofB (vL (s ++ [bif q then 49 else 48])))]) ∧ Below W.heap.size W w' := by
  subst hs
  have e1 : ofB (cL (s ++ [bif q then 49 else 48])) = ofB (fun i => cL s i || i == s.length) := ofB_congr fun i _ => cL_snoc s _ (by cases q <;> rfl) i
  have e2 : ofB (vL (s ++ [bif q then 49 else 48])) = ofB (fun i => (vL s i && !(i == s.length)) || (q && i == s.length)) := ofB_congr fun i _ => vL_snoc s q i
  rw [e1, e2]
  refine with_at _ _ s.length hk x q ?_ W
  subst hx
  rw [one_bit q hk]
  cases q
  · have := yes_bits (fun _ => false) hk
    rw [ofB_zero] at this
    rw [cond_false, this]
    exact one_bit false hk
  · have := yes_bits (fun i => i == s.length) hk
    rw [← pw_ofB hk] at this
    rw [cond_true, this]
    simpa using one_bit true hk

set_option maxRecDepth 100000 in
set_option maxHeartbeats 2000000 in
theorem visit_nil (J : List (List UInt8) → World → Prop) (n₀ l : Nat) (k : Int) (x y : Int) (pre : List (List UInt8)) (W : World) (hJ : ∀ s A B, J s A → Below A.heap.size A B → J s B) (h0 : J pre W) (hn : n₀ ≤ W.heap.size) :
    Calls Try.prog 50 #[.pointer none, .int .i64 k, .agg #[.int .u8 x, .int .u8 y], .func (.yield l) #[] #[]] W (Vis J n₀ pre [] W) := by
  have HV : Hid (J (pre ++ []) (W.alloc (.cells #[.int .u8 x, .int .u8 y] 67)) ∧ KpM n₀ W (W.alloc (.cells #[.int .u8 x, .int .u8 y] 67))) := ⟨by rw [List.append_nil]; exact hJ _ _ _ h0 (below_alloc1 _ _), KpM.of (below_alloc1 _ _) hn⟩
  clear h0
  go_enter Try.func50, Try.ntmps50
  go_wp2
  go_ret
  exact ⟨rfl, HV.out⟩

set_option maxRecDepth 100000 in
set_option maxHeartbeats 4000000 in
theorem visit_same (J : List (List UInt8) → World → Prop) (n₀ l b e a j : Nat) (E : List Nd) (z : Option Addr) (s : List UInt8) (pre L : List (List UInt8)) (W : World) (hd : DgN n₀ W b e E) (hk : (z, z, a) ∈ E) (hz : Vp E e z)
    (hj : j < 6) (hJ : ∀ s A B, J s A → Below A.heap.size A B → J s B) (h0 : J pre W) (hn : n₀ ≤ W.heap.size)
    (ih : ∀ W', KpM n₀ W W' → W.heap.size ≤ W'.heap.size → J pre W' → Calls Try.prog 50 #[.pointer z, .int .i64 ((j : Int) + 1), .agg #[.int .u8 (ofB (cL s)), .int .u8 (ofB (vL s))], .func (.yield l) #[] #[]] W' (Vis J n₀ pre L W')) :
    Calls Try.prog 50 #[.pointer (some ⟨a, 0, none⟩), .int .i64 j, .agg #[.int .u8 (ofB (cL s)), .int .u8 (ofB (vL s))], .func (.yield l) #[] #[]] W (Vis J n₀ pre L W) := by
  have hb1 := below_alloc1 W (.cells #[.int .u8 (ofB (cL s)), .int .u8 (ofB (vL s))] 67)
  have hd1 := hd.1.alloc (.cells #[.int .u8 (ofB (cL s)), .int .u8 (ofB (vL s))] 67)
  have hpk := hd1.pk hz
  have heq : ∀ n, (binOp .eql 42 (.pointer z) (.pointer z)).run Try.prog ((W.alloc (.cells #[.int .u8 (ofB (cL s)), .int .u8 (ofB (vL s))] 67)).drewN n) = .ok (.bool true) ((W.alloc (.cells #[.int .u8 (ofB (cL s)), .int .u8 (ofB (vL s))] 67)).drewN n) := fun n => by
    have := eql_ptr ((W.alloc (.cells #[.int .u8 (ofB (cL s)), .int .u8 (ofB (vL s))] 67)).drewN n) (p := z) (q := z) hpk hpk
    simpa using this
  obtain ⟨c0, c1, hla, hab⟩ := hd1.cells hk
  have K2 := duoCells (newBlockM W (.cells #[.int .u8 (ofB (cL s)), .int .u8 (ofB (vL s))] 67))
  obtain ⟨d0, d1, d2⟩ := K2
  have hj6 : ((j : Int) == 6) = false := by simp; omega
  have q3 : IntKind.i64.wrap ((j : Int) + 1) = (j : Int) + 1 := by rw [IntKind.wrap_i64]; omega
  have HI : Hid (∀ W', Below (W.alloc (.cells #[.int .u8 (ofB (cL s)), .int .u8 (ofB (vL s))] 67)).heap.size (W.alloc (.cells #[.int .u8 (ofB (cL s)), .int .u8 (ofB (vL s))] 67)) W' →
      Calls Try.prog 50 #[.pointer z, .int .i64 ((j : Int) + 1), .agg #[.int .u8 (ofB (cL s)), .int .u8 (ofB (vL s))], .func (.yield l) #[] #[]] W' (Vis J n₀ pre L W)) := fun W' hb => by
    have hb' := hb1.trans (hb.mono (by simp))
    refine (ih W' (KpM.of hb' hn) hb'.size (hJ _ _ _ h0 hb')).mono ?_
    rintro ex W'' ⟨h1, h2, h3⟩
    exact ⟨h1, h2, (KpM.of hb' hn).trans h3⟩
  clear hd hd1 hk hz h0 ih hpk hb1
  go_enter Try.func50, Try.ntmps50
  go_wp2_with fail
  generalize (W.alloc (.cells #[.int .u8 (ofB (cL s)), .int .u8 (ofB (vL s))] 67)) = W1 at *
  go_quiet (fail)
  have HD2 : Hid (∀ n, Below W1.heap.size W1 (W1.drewN n)) := fun n => bDrewN (Below.refl _ _) n
  go_wp2_with fail
  clear heq
  go_region_with (first | (go_at_call 50; ((with_reducible refine (HI.out _ (HD2.out _)).mono ?_); rintro ex w2 ⟨rfl, hv⟩; have HV := Lib.hid hv; clear hv)))
  all_goals
    go_wp2
    go_ret
    exact ⟨rfl, HV.out⟩

set_option maxRecDepth 100000 in
set_option maxHeartbeats 8000000 in
theorem visit_split (J : List (List UInt8) → World → Prop) (n₀ l b e a j : Nat) (E : List Nd) (z o : Option Addr) (s : List UInt8) (pre L0 L1 : List (List UInt8)) (W : World) (hd : DgN n₀ W b e E) (hk : (z, o, a) ∈ E) (hz : Vp E e z) (ho : Vp E e o) (hzo : z ≠ o)
    (hs : s.length = j) (hj : j < 6) (hJ : ∀ s A B, J s A → Below A.heap.size A B → J s B) (h0 : J pre W) (hn : n₀ ≤ W.heap.size)
    (ih0 : ∀ W', KpM n₀ W W' → W.heap.size ≤ W'.heap.size → J pre W' → Calls Try.prog 50 #[.pointer z, .int .i64 ((j : Int) + 1), .agg #[.int .u8 (ofB (cL (s ++ [48]))), .int .u8 (ofB (vL (s ++ [48])))], .func (.yield l) #[] #[]] W' (Vis J n₀ pre L0 W'))
    (ih1 : ∀ W', KpM n₀ W W' → W.heap.size ≤ W'.heap.size → J (pre ++ L0) W' → Calls Try.prog 50 #[.pointer o, .int .i64 ((j : Int) + 1), .agg #[.int .u8 (ofB (cL (s ++ [49]))), .int .u8 (ofB (vL (s ++ [49])))], .func (.yield l) #[] #[]] W' (Vis J n₀ (pre ++ L0) L1 W')) :
    Calls Try.prog 50 #[.pointer (some ⟨a, 0, none⟩), .int .i64 j, .agg #[.int .u8 (ofB (cL s)), .int .u8 (ofB (vL s))], .func (.yield l) #[] #[]] W (Vis J n₀ pre (L0 ++ L1) W) := by
  have hb1 := below_alloc1 W (.cells #[.int .u8 (ofB (cL s)), .int .u8 (ofB (vL s))] 67)
  have hd1 := hd.1.alloc (.cells #[.int .u8 (ofB (cL s)), .int .u8 (ofB (vL s))] 67)
  have hpz := hd1.pk hz
  have hpo := hd1.pk ho
  have heq : ∀ n, (binOp .eql 42 (.pointer z) (.pointer o)).run Try.prog ((W.alloc (.cells #[.int .u8 (ofB (cL s)), .int .u8 (ofB (vL s))] 67)).drewN n) = .ok (.bool false) ((W.alloc (.cells #[.int .u8 (ofB (cL s)), .int .u8 (ofB (vL s))] 67)).drewN n) := fun n => by
    have := eql_ptr ((W.alloc (.cells #[.int .u8 (ofB (cL s)), .int .u8 (ofB (vL s))] 67)).drewN n) (p := z) (q := o) hpz hpo
    simpa [hzo] using this
  obtain ⟨c0, c1, hla, hab⟩ := hd1.cells hk
  have han : a < n₀ := hd.2.2.2 _ _ _ hk
  have hmb := newBlockM W (.cells #[.int .u8 (ofB (cL s)), .int .u8 (ofB (vL s))] 67)
  have K2 := duoCells hmb
  obtain ⟨d0, d1, d2⟩ := K2
  have hj6 : ((j : Int) == 6) = false := by simp; omega
  have q3 : IntKind.i64.wrap ((j : Int) + 1) = (j : Int) + 1 := by rw [IntKind.wrap_i64]; omega
  have HA : Hid (∀ W', KpM n₀ (W.alloc (.cells #[.int .u8 (ofB (cL s)), .int .u8 (ofB (vL s))] 67)) W' →
      W'.cell? ⟨a, 0, none⟩ = some (.pointer z) ∧ W'.cell? ⟨a, 1, none⟩ = some (.pointer o) ∧ W'.cell? ⟨W.heap.size, 0, none⟩ = some (.int .u8 (ofB (cL s))) ∧ W'.cell? ⟨W.heap.size, 1, none⟩ = some (.int .u8 (ofB (vL s)))) := fun W' hk' => by
    have m := duoCells (hk'.2 _ _ hmb)
    exact ⟨(hk'.1.cell (p := ⟨a, 0, none⟩) han).trans c0, (hk'.1.cell (p := ⟨a, 1, none⟩) han).trans c1, m.1, m.2.1⟩
  have HN : Hid (n₀ ≤ (W.alloc (.cells #[.int .u8 (ofB (cL s)), .int .u8 (ofB (vL s))] 67)).heap.size) := by show _ ≤ _; simp; omega
  have HW1 : Hid (KpM n₀ W (W.alloc (.cells #[.int .u8 (ofB (cL s)), .int .u8 (ofB (vL s))] 67))) := KpM.of hb1 hn
  have HS1 : Hid (W.heap.size ≤ (W.alloc (.cells #[.int .u8 (ofB (cL s)), .int .u8 (ofB (vL s))] 67)).heap.size) := hb1.size
  have HJ1 : Hid (J pre (W.alloc (.cells #[.int .u8 (ofB (cL s)), .int .u8 (ofB (vL s))] 67))) := hJ _ _ _ h0 hb1
  have HI0 : Hid (∀ W', KpM n₀ W W' → W.heap.size ≤ W'.heap.size → J pre W' → Calls Try.prog 50 #[.pointer z, .int .i64 ((j : Int) + 1), .agg #[.int .u8 (ofB (cL (s ++ [48]))), .int .u8 (ofB (vL (s ++ [48])))], .func (.yield l) #[] #[]] W' (fun ex W'' => ex = .returned (.bool true) ∧ J (pre ++ L0) W'' ∧ KpM n₀ W' W'')) := ih0
  have HI1 : Hid (∀ W', KpM n₀ W W' → W.heap.size ≤ W'.heap.size → J (pre ++ L0) W' → Calls Try.prog 50 #[.pointer o, .int .i64 ((j : Int) + 1), .agg #[.int .u8 (ofB (cL (s ++ [49]))), .int .u8 (ofB (vL (s ++ [49])))], .func (.yield l) #[] #[]] W' (fun ex W'' => ex = .returned (.bool true) ∧ J ((pre ++ L0) ++ L1) W'' ∧ KpM n₀ W' W'')) := ih1
  have HP0 : Hid (∀ W', Calls Try.prog 51 #[.agg #[.int .u8 (ofB (cL s)), .int .u8 (ofB (vL s))], .int .u8 (pw j), .int .u8 0] W' fun e w' => e = .returned (.agg #[.int .u8 (ofB (cL (s ++ [48]))), .int .u8 (ofB (vL (s ++ [48])))]) ∧ Below W'.heap.size W' w') := fun W' => with_sgn s j hs hj false 0 rfl W'
  have HP1 : Hid (∀ W', Calls Try.prog 51 #[.agg #[.int .u8 (ofB (cL s)), .int .u8 (ofB (vL s))], .int .u8 (pw j), .int .u8 (pw j)] W' fun e w' => e = .returned (.agg #[.int .u8 (ofB (cL (s ++ [49]))), .int .u8 (ofB (vL (s ++ [49])))]) ∧ Below W'.heap.size W' w') := fun W' => with_sgn s j hs hj true (pw j) rfl W'
  have HJA : Hid (∀ s W W', J s W → Below W.heap.size W W' → J s W') := hJ
  clear hd hd1 hk hz ho h0 ih0 ih1 hpz hpo hb1 hmb hJ hzo
  go_enter Try.func50, Try.ntmps50
  go_wp2_with fail
  generalize (W.alloc (.cells #[.int .u8 (ofB (cL s)), .int .u8 (ofB (vL s))] 67)) = W1 at *
  go_quiet (fail)
  have HD2 : Hid (∀ n, Below W1.heap.size W1 (W1.drewN n)) := fun n => bDrewN (Below.refl _ _) n
  go_wp2_with (go_at_call 43; refine (wildBit_at _ hj _).mono ?_; rintro ex wq ⟨rfl, rfl⟩)
  clear heq c0 c1 d0 d1 d2
  go_region_held3 (fun W' => W'.cell? ⟨a, 0, none⟩ = some (.pointer z) ∧ W'.cell? ⟨a, 1, none⟩ = some (.pointer o) ∧ W'.cell? ⟨W.heap.size, 0, none⟩ = some (.int .u8 (ofB (cL s))) ∧ W'.cell? ⟨W.heap.size, 1, none⟩ = some (.int .u8 (ofB (vL s))))
    (first | exact HA.out _ (KpM.of ((HD2.out _).drew) HN.out) | exact HA.out _ K5.out | exact HA.out _ K4.out | exact HA.out _ K3.out | exact HA.out _ K2.out)
    (first
      | (go_at_call 51; ((with_reducible refine (HP0.out _).mono ?_); rintro ex w2 ⟨rfl, b2⟩; have B2 : Hid (Below W1.heap.size W1 w2) := belStep (HD2.out _).drew b2; have K2 : Hid (KpM n₀ W1 w2) := KpM.of B2.out HN.out; clear b2))
      | (go_at_call 50; ((with_reducible refine (HI0.out _ (HW1.out.trans K2.out) (Nat.le_trans HS1.out B2.out.size) (HJA.out _ _ _ HJ1.out B2.out)).mono ?_); rintro ex w3 ⟨rfl, j3, k3⟩; have K3 : Hid (KpM n₀ W1 w3) := K2.out.trans k3; have J3 := Lib.hid j3; have hs3 : Hid (W1.heap.size ≤ w3.heap.size) := K3.out.1.size; clear j3 k3))
      | (go_at_call 51; ((with_reducible refine (HP1.out _).mono ?_); rintro ex w4 ⟨rfl, b4⟩; have J4 : Hid (J (pre ++ L0) w4) := HJA.out _ _ _ J3.out b4; have K4 : Hid (KpM n₀ W1 w4) := K3.out.trans (KpM.of b4 (Nat.le_trans HN.out hs3.out)); have hs4 : Hid (W1.heap.size ≤ w4.heap.size) := K4.out.1.size; clear b4))
      | (go_at_call 50; ((with_reducible refine (HI1.out _ (HW1.out.trans K4.out) (Nat.le_trans HS1.out hs4.out) J4.out).mono ?_); rintro ex w5 ⟨rfl, j5, k5⟩; have J5 := Lib.hid j5; have K5 : Hid (KpM n₀ W1 w5) := K4.out.trans k5; clear j5 k5)))
  go_wp2
  go_ret
  exact ⟨rfl, by rw [← List.append_assoc]; exact J5.out, HW1.out.trans K5.out⟩

theorem mapCons (s : List UInt8) (c : UInt8) (L : List (List UInt8)) : (L.map (fun l => c :: l)).map (fun x => s ++ x) = L.map (fun x => (s ++ [c]) ++ x) := by
  rw [List.map_map]
  apply List.map_congr_left
  intro x _
  simp

/-- All patterns of a node come, in the canonical order. -/
theorem visit_any (J : List (List UInt8) → World → Prop) (n₀ l b e N : Nat) (E : List Nd) (hJ : ∀ s A B, J s A → Below A.heap.size A B → J s B)
    (hY : ∀ m pre x W1, J pre W1 → pre.length < N → YieldAt Fence.wide m Try.prog l #[mkA x] W1 fun ex W' => ex = .returned (.bool true) ∧ J (pre ++ [x]) W' ∧ KpM n₀ W1 W') :
    ∀ (h j : Nat), h + j = 6 → ∀ (p : Option Addr) (m : List Bool) (s : List UInt8) (pre : List (List UInt8)) (W : World), s.length = j → DgN n₀ W b e E → n₀ ≤ W.heap.size → Rep E e h p m → J pre W → pre.length + (tidyB h m).length ≤ N →
      Calls Try.prog 50 #[.pointer p, .int .i64 (j : Int), .agg #[.int .u8 (ofB (cL s)), .int .u8 (ofB (vL s))], .func (.yield l) #[] #[]] W (Vis J n₀ pre ((tidyB h m).map (fun x => s ++ x)) W)
  | h, j, hj, none, m, s, pre, W, hs, hd, hn, hr, h0, hN => by
    rw [Rep.none_iff.1 hr, tidyB_no]
    exact visit_nil J n₀ l j _ _ pre W hJ h0 hn
  | 0, j, hj, some a, m, s, pre, W, hs, hd, hn, hr, h0, hN => by
    obtain ⟨rfl, rfl⟩ := hr
    obtain rfl : j = 6 := by omega
    have e1 : (tidyB 0 [true]).map (fun x => s ++ x) = [s] := by simp [tidyB]
    rw [e1]
    have hb1 := below_alloc1 W (.cells #[.int .u8 (ofB (cL s)), .int .u8 (ofB (vL s))] 67)
    refine visit_end l e s W (fun W' => J (pre ++ [s]) W' ∧ KpM n₀ W W') fun m => ?_
    have hy := hY m pre s _ (hJ _ _ _ h0 hb1) (by simp [tidyB] at hN; omega)
    obtain ⟨fn, tmps, assign, body, hy, hR⟩ := hy
    refine ⟨fn, tmps, assign, body, hy, hR.mono ?_⟩
    rintro ex W' ⟨h1, h2, h3⟩
    exact ⟨h1, h2, (KpM.of hb1 hn).trans h3⟩
  | h + 1, j, hj, some a, m, s, pre, W, hs, hd, hn, hr, h0, hN => by
    obtain ⟨a, rfl⟩ := hr.adr_of
    obtain ⟨z, o, m0, m1, hk, hne, rfl, hr0, hr1⟩ := hr.parts
    have htd := Rep.tidy hd.1.uniq hr0 hr1
    by_cases hzo : z = o
    · subst hzo
      obtain rfl := hr0.same_set hd.1.uniq hr1
      rw [if_pos rfl] at htd
      rw [htd] at hN ⊢
      rw [mapCons]
      refine visit_same J n₀ l b e a j E z s pre _ W hd hk hr0.vp (by omega) hJ h0 hn fun W' hk' hsz hj' => ?_
      have := visit_any J n₀ l b e N E hJ hY h (j + 1) (by omega) z m0 (s ++ [120]) pre W' (by simp [hs]) (hd.below hk'.1) (Nat.le_trans hn hsz) hr0 hj' (by simpa using hN)
      rw [cL_x, vL_x] at this
      simpa using this
    · rw [if_neg hzo] at htd
      rw [htd] at hN ⊢
      rw [List.map_append, mapCons, mapCons]
      simp only [List.length_append, List.length_map] at hN
      refine visit_split J n₀ l b e a j E z o s pre _ _ W hd hk hr0.vp hr1.vp hzo hs (by omega) hJ h0 hn (fun W' hk' hsz hj' => ?_) (fun W' hk' hsz hj' => ?_)
      · have := visit_any J n₀ l b e N E hJ hY h (j + 1) (by omega) z m0 (s ++ [48]) pre W' (by simp [hs]) (hd.below hk'.1) (Nat.le_trans hn hsz) hr0 hj' (by omega)
        simpa using this
      · have := visit_any J n₀ l b e N E hJ hY h (j + 1) (by omega) o m1 (s ++ [49]) _ W' (by simp [hs]) (hd.below hk'.1) (Nat.le_trans hn hsz) hr1 hj' (by simp; omega)
        simpa using this

set_option maxRecDepth 100000 in
set_option maxHeartbeats 2000000 in
/-- The iterator's function, called: all patterns of its node come. -/
theorem masks1_any (J : List (List UInt8) → World → Prop) (n₀ l b e Bn : Nat) (E : List Nd) (p : Option Addr) (m : List Bool) (W : World) (hJ : ∀ s A B, J s A → Below A.heap.size A B → J s B)
    (hY : ∀ k pre x W1, J pre W1 → pre.length < (tidyB 6 m).length → YieldAt Fence.wide k Try.prog l #[mkA x] W1 fun ex W' => ex = .returned (.bool true) ∧ J (pre ++ [x]) W' ∧ KpM n₀ W1 W')
    (hd : DgN n₀ W b e E) (hn : n₀ ≤ W.heap.size) (hr : Rep E e 6 p m) (h0 : J [] W) (hc : W.cell? ⟨Bn, 0, none⟩ = some (.pointer p)) :
    Calls Try.prog 49 #[.func (.yield l) #[] #[], .pointer (some ⟨Bn, 0, none⟩)] W fun ex W' => (∃ v, ex = .returned v) ∧ J (tidyB 6 m) W' := by
  have hv := visit_any J n₀ l b e (tidyB 6 m).length E hJ hY 6 0 rfl p m [] [] W rfl hd hn hr h0 (by simp)
  have hz : ofB (cL []) = 0 := by decide
  have hz' : ofB (vL []) = 0 := by decide
  rw [hz, hz'] at hv
  have HV : Hid (Calls Try.prog 50 #[.pointer p, .int .i64 0, .agg #[.int .u8 0, .int .u8 0], .func (.yield l) #[] #[]] W fun ex W' => ex = .returned (.bool true) ∧ J (tidyB 6 m) W') := by
    refine Calls.mono hv ?_
    rintro ex W' ⟨h1, h2, -⟩
    exact ⟨h1, by simpa using h2⟩
  clear hv hY hd hr h0 hJ hz hz'
  go_enter Try.func49, Try.ntmps49
  go_wp2_with (go_at_call 50; refine HV.out.mono ?_; rintro ex w2 ⟨rfl, hj⟩; have HJ := Lib.hid hj; clear hj)
  go_end0
  exact ⟨⟨_, rfl⟩, HJ.out⟩

end Go.Proofs.Ytddkpimmcmnogab
