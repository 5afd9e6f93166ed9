/-
  SpaceVisit: Chapter 3, the program: the patterns of the canonical list are handed over one by one.
  SpaceLoop: A loop over an iterator whose body never leaves it; the program's texts and many of a set.
  SpaceTexts: Chapter 3, the program: the texts of a set; how many heads it has.
  SpaceTextsB: Chapter 3, the program: the texts of a set.
-/
import Derived.Test.YtndmedkkecikoaaSpaceSet
import Derived.RangeFuncBox
import Derived.RangeFuncLeaves
import Derived.Shelf.Abstract
import Derived.WalkKit
import Derived.OwnWalkIn
import Derived.TacticsInMore
import Derived.LoopNIn
import Derived.LoopIn
import Derived.Maps.AppendAt
import Derived.RangeFuncKeeps
import Derived.Deep.QuietTactic
import Derived.BigQuiet
import Derived.RangeFuncNested
import Derived.Shelf.RegionOpen
namespace Go.Proofs.Ytndmedkkecikoaa
open Go.ChangeShapes Go.WideShapes Go.ChangeAt Go.RowKit Go.Joins
open Go.Shelf
set_option linter.unusedVariables false

theorem bDrewN {B : Nat} {a w : World} (h : Below B a w) (n : Nat) : Below B a (w.drewN n) := ⟨h.os, h.tape, h.output, h.size, h.block⟩
/-- Signs as masks, as a value. -/
def mkA (x : List UInt8) : Value := .agg #[.int .u8 (ofB (cL x)), .int .u8 (ofB (vL x))]
/-- What a round that goes on keeps: what lay below n, and masks wherever they lie. -/
def KpM (n : Nat) (W W' : World) : Prop := Below n W W' ∧ ∀ (k : Nat) (cs : Array Value), W.heap[k]? = some (.cells cs 87) → W'.heap[k]? = some (.cells cs 87)
theorem KpM.trans {n : Nat} {A B C : World} (h : KpM n A B) (k : KpM n B C) : KpM n A C := ⟨h.1.trans k.1, fun j cs hj => k.2 j cs (h.2 j cs hj)⟩
theorem KpM.of {n : Nat} {A B : World} (h : Below A.heap.size A B) (hn : n ≤ A.heap.size) : KpM n A B := ⟨h.mono hn, fun j cs hj => (h.block j (Array.getElem?_eq_some_iff.1 hj).1).trans hj⟩
/-- The diagram lies below n. -/
def DgN (n : Nat) (w : World) (b e : Nat) (E : List Nd) : Prop := Dg w b e E ∧ b < n ∧ e < n ∧ ∀ z o k, (z, o, k) ∈ E → k < n
theorem DgN.below {n : Nat} {w w' : World} {b e : Nat} {E : List Nd} (h : DgN n w b e E) (hb : Below n w w') : DgN n w' b e E := by
  obtain ⟨hd, h1, h2, h3⟩ := h
  obtain ⟨es, clock, hm, he⟩ := hd.map
  exact ⟨⟨(hb.block _ h2).trans hd.last, ⟨es, clock, (hb.block _ h1).trans hm, he⟩, fun z o j hj => ⟨(hb.block _ (h3 z o j hj)).trans (hd.node z o j hj).1, (hd.node z o j hj).2⟩, hd.uniq⟩, h1, h2, h3⟩
theorem Dg.to {w : World} {b e : Nat} {E : List Nd} (h : Dg w b e E) : DgN w.heap.size w b e E :=
  ⟨h, h.lt_b, (Array.getElem?_eq_some_iff.1 h.last).1, fun z o k hk => (Array.getElem?_eq_some_iff.1 (h.node z o k hk).1).1⟩

/-- What a visit leaves: all of L has come. -/
def Vis (J : List (List UInt8) → World → Prop) (n : Nat) (pre L : List (List UInt8)) (W : World) (e : Ending) (W' : World) : Prop :=
  e = .returned (.bool true) ∧ J (pre ++ L) W' ∧ KpM n W W'

set_option maxRecDepth 100000 in
set_option maxHeartbeats 2000000 in
/-- At the end: the pattern is handed over. -/
theorem visit_end (l e : Nat) (s : List UInt8) (W : World) (R : World → Prop)
    (hY : ∀ m, YieldAt Fence.wide m Try.prog l #[mkA s] (W.alloc (.cells #[.int .u8 (ofB (cL s)), .int .u8 (ofB (vL s))] 87)) fun ex W' => ex = .returned (.bool true) ∧ R W') :
    Calls Try.prog 97 #[.pointer (some ⟨e, 0, none⟩), .int .i64 6, .agg #[.int .u8 (ofB (cL s)), .int .u8 (ofB (vL s))], .func (.yield l) #[] #[]] W fun ex W' => ex = .returned (.bool true) ∧ R W' := by
  have hdd : ∀ k : Nat, (Fence.wide.depth.isSome = true → 1 ≤ k) := fun k h => by cases h
  obtain ⟨fn, tmps, assign, body, hy, hR⟩ := hY (3 - 1)
  unfold mkA at hy
  refine (callsIn_wide (n := 3)).1 ?_
  refine callsIn_of_wp Try.func97 rfl trivial ?_ rfl
  simp only [Try.ntmps97, List.size_toArray, List.length_cons, List.length_nil, Nat.reduceAdd, Nat.reduceSub, Array.replicate_succ, Array.replicate_zero, List.push_toArray, List.append_toArray, List.nil_append, List.cons_append]
  gi_wp2_with ((try refine ⟨hdd _, ?_⟩); refine hR.mono ?_; clear hR; rintro ex W1 ⟨rfl, hr⟩)
  go_ret
  exact ⟨rfl, hr⟩

/-! ### Signs that are added -/

theorem getD_snoc (s : List UInt8) (b : UInt8) (i : Nat) : (s ++ [b]).getD i 120 = if i = s.length then b else s.getD i 120 := by
  simp only [List.getD_eq_getElem?_getD, List.getElem?_append]
  by_cases h : i < s.length
  · rw [if_pos h, if_neg (by omega)]
  · by_cases e : i = s.length
    · simp [e]
    · rw [if_neg h, if_neg e, List.getElem?_eq_none (by simp; omega), List.getElem?_eq_none (by omega)]
theorem getD_x (s : List UInt8) (i : Nat) : (s ++ [120]).getD i 120 = s.getD i 120 := by
  rw [getD_snoc]
  by_cases e : i = s.length
  · subst e; simp [List.getD_eq_getElem?_getD]
  · rw [if_neg e]
theorem cL_x (s : List UInt8) : cL (s ++ [120]) = cL s := by
  funext i
  unfold cL
  rw [getD_x]
theorem vL_x (s : List UInt8) : vL (s ++ [120]) = vL s := by
  funext i
  unfold vL
  rw [getD_x]
theorem cL_snoc (s : List UInt8) (b : UInt8) (hb : (b == 120) = false) (i : Nat) : cL (s ++ [b]) i = (cL s i || i == s.length) := by
  unfold cL
  rw [getD_snoc]
  by_cases e : i = s.length
  · simp [e, hb]
  · simp [e]
theorem vL_snoc (s : List UInt8) (q : Bool) (i : Nat) : vL (s ++ [bif q then 49 else 48]) i = ((vL s i && !(i == s.length)) || (q && i == s.length)) := by
  unfold vL
  rw [getD_snoc]
  by_cases e : i = s.length
  · cases q <;> simp [e]
  · have e' : (i == s.length) = false := by simpa using e
    simp [e, e']
theorem with_sgn (s : List UInt8) (k : Nat) (hs : s.length = k) (hk : k < 6) (q : Bool) (x : Int) (hx : x = bif q then pw k else 0) (W : World) :
    Calls Try.prog 91 #[.agg #[.int .u8 (ofB (cL s)), .int .u8 (ofB (vL s))], .int .u8 (pw k), .int .u8 x] W fun e w' =>
      e = .returned (.agg #[.int .u8 (ofB (cL (s ++ [bif q then 49 else 48]))), .int .u8 (ofB (vL (s ++ [bif q then 49 else 48])))]) ∧ Below W.heap.size W w' := by
  subst hs
  have e1 : ofB (cL (s ++ [bif q then 49 else 48])) = ofB (fun i => cL s i || i == s.length) := ofB_congr fun i _ => cL_snoc s _ (by cases q <;> rfl) i
  have e2 : ofB (vL (s ++ [bif q then 49 else 48])) = ofB (fun i => (vL s i && !(i == s.length)) || (q && i == s.length)) := ofB_congr fun i _ => vL_snoc s q i
  rw [e1, e2]
  refine with_at _ _ s.length hk x q ?_ W
  subst hx
  rw [one_bit q hk]
  cases q
  · have := yes_bits (fun _ => false) hk
    rw [ofB_zero] at this
    rw [cond_false, this]
    exact one_bit false hk
  · have := yes_bits (fun i => i == s.length) hk
    rw [← pw_ofB hk] at this
    rw [cond_true, this]
    simpa using one_bit true hk

set_option maxRecDepth 100000 in
set_option maxHeartbeats 2000000 in
theorem visit_nil (J : List (List UInt8) → World → Prop) (n₀ l : Nat) (k : Int) (x y : Int) (pre : List (List UInt8)) (W : World) (hJ : ∀ s A B, J s A → Below A.heap.size A B → J s B) (h0 : J pre W) (hn : n₀ ≤ W.heap.size) :
    Calls Try.prog 97 #[.pointer none, .int .i64 k, .agg #[.int .u8 x, .int .u8 y], .func (.yield l) #[] #[]] W (Vis J n₀ pre [] W) := by
  have HV : Hid (J (pre ++ []) (W.alloc (.cells #[.int .u8 x, .int .u8 y] 87)) ∧ KpM n₀ W (W.alloc (.cells #[.int .u8 x, .int .u8 y] 87))) := ⟨by rw [List.append_nil]; exact hJ _ _ _ h0 (below_alloc1 _ _), KpM.of (below_alloc1 _ _) hn⟩
  clear h0
  go_enter Try.func97, Try.ntmps97
  go_wp2
  go_ret
  exact ⟨rfl, HV.out⟩

set_option maxRecDepth 100000 in
set_option maxHeartbeats 4000000 in
theorem visit_same (J : List (List UInt8) → World → Prop) (n₀ l b e a j : Nat) (E : List Nd) (z : Option Addr) (s : List UInt8) (pre L : List (List UInt8)) (W : World) (hd : DgN n₀ W b e E) (hk : (z, z, a) ∈ E) (hz : Vp E e z)
    (hj : j < 6) (hJ : ∀ s A B, J s A → Below A.heap.size A B → J s B) (h0 : J pre W) (hn : n₀ ≤ W.heap.size)
    (ih : ∀ W', KpM n₀ W W' → W.heap.size ≤ W'.heap.size → J pre W' → Calls Try.prog 97 #[.pointer z, .int .i64 ((j : Int) + 1), .agg #[.int .u8 (ofB (cL s)), .int .u8 (ofB (vL s))], .func (.yield l) #[] #[]] W' (Vis J n₀ pre L W')) :
    Calls Try.prog 97 #[.pointer (some ⟨a, 0, none⟩), .int .i64 j, .agg #[.int .u8 (ofB (cL s)), .int .u8 (ofB (vL s))], .func (.yield l) #[] #[]] W (Vis J n₀ pre L W) := by
  have hb1 := below_alloc1 W (.cells #[.int .u8 (ofB (cL s)), .int .u8 (ofB (vL s))] 87)
  have hd1 := hd.1.alloc (.cells #[.int .u8 (ofB (cL s)), .int .u8 (ofB (vL s))] 87)
  have hpk := hd1.pk hz
  have heq : ∀ n, (binOp .eql 58 (.pointer z) (.pointer z)).run Try.prog ((W.alloc (.cells #[.int .u8 (ofB (cL s)), .int .u8 (ofB (vL s))] 87)).drewN n) = .ok (.bool true) ((W.alloc (.cells #[.int .u8 (ofB (cL s)), .int .u8 (ofB (vL s))] 87)).drewN n) := fun n => by
    have := eql_ptr ((W.alloc (.cells #[.int .u8 (ofB (cL s)), .int .u8 (ofB (vL s))] 87)).drewN n) (p := z) (q := z) hpk hpk
    simpa using this
  obtain ⟨c0, c1, hla, hab⟩ := hd1.cells hk
  have K2 := duoCells (newBlockM W (.cells #[.int .u8 (ofB (cL s)), .int .u8 (ofB (vL s))] 87))
  obtain ⟨d0, d1, d2⟩ := K2
  have hj6 : ((j : Int) == 6) = false := by simp; omega
  have q3 : IntKind.i64.wrap ((j : Int) + 1) = (j : Int) + 1 := by rw [IntKind.wrap_i64]; omega
  have HI : Hid (∀ W', Below (W.alloc (.cells #[.int .u8 (ofB (cL s)), .int .u8 (ofB (vL s))] 87)).heap.size (W.alloc (.cells #[.int .u8 (ofB (cL s)), .int .u8 (ofB (vL s))] 87)) W' →
      Calls Try.prog 97 #[.pointer z, .int .i64 ((j : Int) + 1), .agg #[.int .u8 (ofB (cL s)), .int .u8 (ofB (vL s))], .func (.yield l) #[] #[]] W' (Vis J n₀ pre L W)) := fun W' hb => by
    have hb' := hb1.trans (hb.mono (by simp))
    refine (ih W' (KpM.of hb' hn) hb'.size (hJ _ _ _ h0 hb')).mono ?_
    rintro ex W'' ⟨h1, h2, h3⟩
    exact ⟨h1, h2, (KpM.of hb' hn).trans h3⟩
  clear hd hd1 hk hz h0 ih hpk hb1
  go_enter Try.func97, Try.ntmps97
  go_wp2_with fail
  generalize (W.alloc (.cells #[.int .u8 (ofB (cL s)), .int .u8 (ofB (vL s))] 87)) = W1 at *
  go_quiet (fail)
  have HD2 : Hid (∀ n, Below W1.heap.size W1 (W1.drewN n)) := fun n => bDrewN (Below.refl _ _) n
  go_wp2_with fail
  clear heq
  go_region_with (first | (go_at_call 97; ((with_reducible refine (HI.out _ (HD2.out _)).mono ?_); rintro ex w2 ⟨rfl, hv⟩; have HV := Lib.hid hv; clear hv)))
  all_goals
    go_wp2
    go_ret
    exact ⟨rfl, HV.out⟩

set_option maxRecDepth 100000 in
set_option maxHeartbeats 8000000 in
theorem visit_split (J : List (List UInt8) → World → Prop) (n₀ l b e a j : Nat) (E : List Nd) (z o : Option Addr) (s : List UInt8) (pre L0 L1 : List (List UInt8)) (W : World) (hd : DgN n₀ W b e E) (hk : (z, o, a) ∈ E) (hz : Vp E e z) (ho : Vp E e o) (hzo : z ≠ o)
    (hs : s.length = j) (hj : j < 6) (hJ : ∀ s A B, J s A → Below A.heap.size A B → J s B) (h0 : J pre W) (hn : n₀ ≤ W.heap.size)
    (ih0 : ∀ W', KpM n₀ W W' → W.heap.size ≤ W'.heap.size → J pre W' → Calls Try.prog 97 #[.pointer z, .int .i64 ((j : Int) + 1), .agg #[.int .u8 (ofB (cL (s ++ [48]))), .int .u8 (ofB (vL (s ++ [48])))], .func (.yield l) #[] #[]] W' (Vis J n₀ pre L0 W'))
    (ih1 : ∀ W', KpM n₀ W W' → W.heap.size ≤ W'.heap.size → J (pre ++ L0) W' → Calls Try.prog 97 #[.pointer o, .int .i64 ((j : Int) + 1), .agg #[.int .u8 (ofB (cL (s ++ [49]))), .int .u8 (ofB (vL (s ++ [49])))], .func (.yield l) #[] #[]] W' (Vis J n₀ (pre ++ L0) L1 W')) :
    Calls Try.prog 97 #[.pointer (some ⟨a, 0, none⟩), .int .i64 j, .agg #[.int .u8 (ofB (cL s)), .int .u8 (ofB (vL s))], .func (.yield l) #[] #[]] W (Vis J n₀ pre (L0 ++ L1) W) := by
  have hb1 := below_alloc1 W (.cells #[.int .u8 (ofB (cL s)), .int .u8 (ofB (vL s))] 87)
  have hd1 := hd.1.alloc (.cells #[.int .u8 (ofB (cL s)), .int .u8 (ofB (vL s))] 87)
  have hpz := hd1.pk hz
  have hpo := hd1.pk ho
  have heq : ∀ n, (binOp .eql 58 (.pointer z) (.pointer o)).run Try.prog ((W.alloc (.cells #[.int .u8 (ofB (cL s)), .int .u8 (ofB (vL s))] 87)).drewN n) = .ok (.bool false) ((W.alloc (.cells #[.int .u8 (ofB (cL s)), .int .u8 (ofB (vL s))] 87)).drewN n) := fun n => by
    have := eql_ptr ((W.alloc (.cells #[.int .u8 (ofB (cL s)), .int .u8 (ofB (vL s))] 87)).drewN n) (p := z) (q := o) hpz hpo
    simpa [hzo] using this
  obtain ⟨c0, c1, hla, hab⟩ := hd1.cells hk
  have han : a < n₀ := hd.2.2.2 _ _ _ hk
  have hmb := newBlockM W (.cells #[.int .u8 (ofB (cL s)), .int .u8 (ofB (vL s))] 87)
  have K2 := duoCells hmb
  obtain ⟨d0, d1, d2⟩ := K2
  have hj6 : ((j : Int) == 6) = false := by simp; omega
  have q3 : IntKind.i64.wrap ((j : Int) + 1) = (j : Int) + 1 := by rw [IntKind.wrap_i64]; omega
  have HA : Hid (∀ W', KpM n₀ (W.alloc (.cells #[.int .u8 (ofB (cL s)), .int .u8 (ofB (vL s))] 87)) W' →
      W'.cell? ⟨a, 0, none⟩ = some (.pointer z) ∧ W'.cell? ⟨a, 1, none⟩ = some (.pointer o) ∧ W'.cell? ⟨W.heap.size, 0, none⟩ = some (.int .u8 (ofB (cL s))) ∧ W'.cell? ⟨W.heap.size, 1, none⟩ = some (.int .u8 (ofB (vL s)))) := fun W' hk' => by
    have m := duoCells (hk'.2 _ _ hmb)
    exact ⟨(hk'.1.cell (p := ⟨a, 0, none⟩) han).trans c0, (hk'.1.cell (p := ⟨a, 1, none⟩) han).trans c1, m.1, m.2.1⟩
  have HN : Hid (n₀ ≤ (W.alloc (.cells #[.int .u8 (ofB (cL s)), .int .u8 (ofB (vL s))] 87)).heap.size) := by show _ ≤ _; simp; omega
  have HW1 : Hid (KpM n₀ W (W.alloc (.cells #[.int .u8 (ofB (cL s)), .int .u8 (ofB (vL s))] 87))) := KpM.of hb1 hn
  have HS1 : Hid (W.heap.size ≤ (W.alloc (.cells #[.int .u8 (ofB (cL s)), .int .u8 (ofB (vL s))] 87)).heap.size) := hb1.size
  have HJ1 : Hid (J pre (W.alloc (.cells #[.int .u8 (ofB (cL s)), .int .u8 (ofB (vL s))] 87))) := hJ _ _ _ h0 hb1
  have HI0 : Hid (∀ W', KpM n₀ W W' → W.heap.size ≤ W'.heap.size → J pre W' → Calls Try.prog 97 #[.pointer z, .int .i64 ((j : Int) + 1), .agg #[.int .u8 (ofB (cL (s ++ [48]))), .int .u8 (ofB (vL (s ++ [48])))], .func (.yield l) #[] #[]] W' (fun ex W'' => ex = .returned (.bool true) ∧ J (pre ++ L0) W'' ∧ KpM n₀ W' W'')) := ih0
  have HI1 : Hid (∀ W', KpM n₀ W W' → W.heap.size ≤ W'.heap.size → J (pre ++ L0) W' → Calls Try.prog 97 #[.pointer o, .int .i64 ((j : Int) + 1), .agg #[.int .u8 (ofB (cL (s ++ [49]))), .int .u8 (ofB (vL (s ++ [49])))], .func (.yield l) #[] #[]] W' (fun ex W'' => ex = .returned (.bool true) ∧ J ((pre ++ L0) ++ L1) W'' ∧ KpM n₀ W' W'')) := ih1
  have HP0 : Hid (∀ W', Calls Try.prog 91 #[.agg #[.int .u8 (ofB (cL s)), .int .u8 (ofB (vL s))], .int .u8 (pw j), .int .u8 0] W' fun e w' => e = .returned (.agg #[.int .u8 (ofB (cL (s ++ [48]))), .int .u8 (ofB (vL (s ++ [48])))]) ∧ Below W'.heap.size W' w') := fun W' => with_sgn s j hs hj false 0 rfl W'
  have HP1 : Hid (∀ W', Calls Try.prog 91 #[.agg #[.int .u8 (ofB (cL s)), .int .u8 (ofB (vL s))], .int .u8 (pw j), .int .u8 (pw j)] W' fun e w' => e = .returned (.agg #[.int .u8 (ofB (cL (s ++ [49]))), .int .u8 (ofB (vL (s ++ [49])))]) ∧ Below W'.heap.size W' w') := fun W' => with_sgn s j hs hj true (pw j) rfl W'
  have HJA : Hid (∀ s W W', J s W → Below W.heap.size W W' → J s W') := hJ
  clear hd hd1 hk hz ho h0 ih0 ih1 hpz hpo hb1 hmb hJ hzo
  go_enter Try.func97, Try.ntmps97
  go_wp2_with fail
  generalize (W.alloc (.cells #[.int .u8 (ofB (cL s)), .int .u8 (ofB (vL s))] 87)) = W1 at *
  go_quiet (fail)
  have HD2 : Hid (∀ n, Below W1.heap.size W1 (W1.drewN n)) := fun n => bDrewN (Below.refl _ _) n
  go_wp2_with (go_at_call 82; refine (wildBit_at _ hj _).mono ?_; rintro ex wq ⟨rfl, rfl⟩)
  clear heq c0 c1 d0 d1 d2
  go_region_held3 (fun W' => W'.cell? ⟨a, 0, none⟩ = some (.pointer z) ∧ W'.cell? ⟨a, 1, none⟩ = some (.pointer o) ∧ W'.cell? ⟨W.heap.size, 0, none⟩ = some (.int .u8 (ofB (cL s))) ∧ W'.cell? ⟨W.heap.size, 1, none⟩ = some (.int .u8 (ofB (vL s))))
    (first | exact HA.out _ (KpM.of ((HD2.out _).drew) HN.out) | exact HA.out _ K5.out | exact HA.out _ K4.out | exact HA.out _ K3.out | exact HA.out _ K2.out)
    (first
      | (go_at_call 91; ((with_reducible refine (HP0.out _).mono ?_); rintro ex w2 ⟨rfl, b2⟩; have B2 : Hid (Below W1.heap.size W1 w2) := belStep (HD2.out _).drew b2; have K2 : Hid (KpM n₀ W1 w2) := KpM.of B2.out HN.out; clear b2))
      | (go_at_call 97; ((with_reducible refine (HI0.out _ (HW1.out.trans K2.out) (Nat.le_trans HS1.out B2.out.size) (HJA.out _ _ _ HJ1.out B2.out)).mono ?_); rintro ex w3 ⟨rfl, j3, k3⟩; have K3 : Hid (KpM n₀ W1 w3) := K2.out.trans k3; have J3 := Lib.hid j3; have hs3 : Hid (W1.heap.size ≤ w3.heap.size) := K3.out.1.size; clear j3 k3))
      | (go_at_call 91; ((with_reducible refine (HP1.out _).mono ?_); rintro ex w4 ⟨rfl, b4⟩; have J4 : Hid (J (pre ++ L0) w4) := HJA.out _ _ _ J3.out b4; have K4 : Hid (KpM n₀ W1 w4) := K3.out.trans (KpM.of b4 (Nat.le_trans HN.out hs3.out)); have hs4 : Hid (W1.heap.size ≤ w4.heap.size) := K4.out.1.size; clear b4))
      | (go_at_call 97; ((with_reducible refine (HI1.out _ (HW1.out.trans K4.out) (Nat.le_trans HS1.out hs4.out) J4.out).mono ?_); rintro ex w5 ⟨rfl, j5, k5⟩; have J5 := Lib.hid j5; have K5 : Hid (KpM n₀ W1 w5) := K4.out.trans k5; clear j5 k5)))
  go_wp2
  go_ret
  exact ⟨rfl, by rw [← List.append_assoc]; exact J5.out, HW1.out.trans K5.out⟩

theorem mapCons (s : List UInt8) (c : UInt8) (L : List (List UInt8)) : (L.map (fun l => c :: l)).map (fun x => s ++ x) = L.map (fun x => (s ++ [c]) ++ x) := by
  rw [List.map_map]
  apply List.map_congr_left
  intro x _
  simp

/-- All patterns of a node come, in the canonical order. -/
theorem visit_any (J : List (List UInt8) → World → Prop) (n₀ l b e N : Nat) (E : List Nd) (hJ : ∀ s A B, J s A → Below A.heap.size A B → J s B)
    (hY : ∀ m pre x W1, J pre W1 → pre.length < N → YieldAt Fence.wide m Try.prog l #[mkA x] W1 fun ex W' => ex = .returned (.bool true) ∧ J (pre ++ [x]) W' ∧ KpM n₀ W1 W') :
    ∀ (h j : Nat), h + j = 6 → ∀ (p : Option Addr) (m : List Bool) (s : List UInt8) (pre : List (List UInt8)) (W : World), s.length = j → DgN n₀ W b e E → n₀ ≤ W.heap.size → Rep E e h p m → J pre W → pre.length + (tidyB h m).length ≤ N →
      Calls Try.prog 97 #[.pointer p, .int .i64 (j : Int), .agg #[.int .u8 (ofB (cL s)), .int .u8 (ofB (vL s))], .func (.yield l) #[] #[]] W (Vis J n₀ pre ((tidyB h m).map (fun x => s ++ x)) W)
  | h, j, hj, none, m, s, pre, W, hs, hd, hn, hr, h0, hN => by
    rw [Rep.none_iff.1 hr, tidyB_no]
    exact visit_nil J n₀ l j _ _ pre W hJ h0 hn
  | 0, j, hj, some a, m, s, pre, W, hs, hd, hn, hr, h0, hN => by
    obtain ⟨rfl, rfl⟩ := hr
    obtain rfl : j = 6 := by omega
    have e1 : (tidyB 0 [true]).map (fun x => s ++ x) = [s] := by simp [tidyB]
    rw [e1]
    have hb1 := below_alloc1 W (.cells #[.int .u8 (ofB (cL s)), .int .u8 (ofB (vL s))] 87)
    refine visit_end l e s W (fun W' => J (pre ++ [s]) W' ∧ KpM n₀ W W') fun m => ?_
    have hy := hY m pre s _ (hJ _ _ _ h0 hb1) (by simp [tidyB] at hN; omega)
    obtain ⟨fn, tmps, assign, body, hy, hR⟩ := hy
    refine ⟨fn, tmps, assign, body, hy, hR.mono ?_⟩
    rintro ex W' ⟨h1, h2, h3⟩
    exact ⟨h1, h2, (KpM.of hb1 hn).trans h3⟩
  | h + 1, j, hj, some a, m, s, pre, W, hs, hd, hn, hr, h0, hN => by
    obtain ⟨a, rfl⟩ := hr.adr_of
    obtain ⟨z, o, m0, m1, hk, hne, rfl, hr0, hr1⟩ := hr.parts
    have htd := Rep.tidy hd.1.uniq hr0 hr1
    by_cases hzo : z = o
    · subst hzo
      obtain rfl := hr0.same_set hd.1.uniq hr1
      rw [if_pos rfl] at htd
      rw [htd] at hN ⊢
      rw [mapCons]
      refine visit_same J n₀ l b e a j E z s pre _ W hd hk hr0.vp (by omega) hJ h0 hn fun W' hk' hsz hj' => ?_
      have := visit_any J n₀ l b e N E hJ hY h (j + 1) (by omega) z m0 (s ++ [120]) pre W' (by simp [hs]) (hd.below hk'.1) (Nat.le_trans hn hsz) hr0 hj' (by simpa using hN)
      rw [cL_x, vL_x] at this
      simpa using this
    · rw [if_neg hzo] at htd
      rw [htd] at hN ⊢
      rw [List.map_append, mapCons, mapCons]
      simp only [List.length_append, List.length_map] at hN
      refine visit_split J n₀ l b e a j E z o s pre _ _ W hd hk hr0.vp hr1.vp hzo hs (by omega) hJ h0 hn (fun W' hk' hsz hj' => ?_) (fun W' hk' hsz hj' => ?_)
      · have := visit_any J n₀ l b e N E hJ hY h (j + 1) (by omega) z m0 (s ++ [48]) pre W' (by simp [hs]) (hd.below hk'.1) (Nat.le_trans hn hsz) hr0 hj' (by omega)
        simpa using this
      · have := visit_any J n₀ l b e N E hJ hY h (j + 1) (by omega) o m1 (s ++ [49]) _ W' (by simp [hs]) (hd.below hk'.1) (Nat.le_trans hn hsz) hr1 hj' (by simp; omega)
        simpa using this

set_option maxRecDepth 100000 in
set_option maxHeartbeats 2000000 in
/-- The iterator's function, called: all patterns of its node come. -/
theorem masks1_any (J : List (List UInt8) → World → Prop) (n₀ l b e Bn : Nat) (E : List Nd) (p : Option Addr) (m : List Bool) (W : World) (hJ : ∀ s A B, J s A → Below A.heap.size A B → J s B)
    (hY : ∀ k pre x W1, J pre W1 → pre.length < (tidyB 6 m).length → YieldAt Fence.wide k Try.prog l #[mkA x] W1 fun ex W' => ex = .returned (.bool true) ∧ J (pre ++ [x]) W' ∧ KpM n₀ W1 W')
    (hd : DgN n₀ W b e E) (hn : n₀ ≤ W.heap.size) (hr : Rep E e 6 p m) (h0 : J [] W) (hc : W.cell? ⟨Bn, 0, none⟩ = some (.pointer p)) :
    Calls Try.prog 96 #[.func (.yield l) #[] #[], .pointer (some ⟨Bn, 0, none⟩)] W fun ex W' => (∃ v, ex = .returned v) ∧ J (tidyB 6 m) W' := by
  have hv := visit_any J n₀ l b e (tidyB 6 m).length E hJ hY 6 0 rfl p m [] [] W rfl hd hn hr h0 (by simp)
  have hz : ofB (cL []) = 0 := by decide
  have hz' : ofB (vL []) = 0 := by decide
  rw [hz, hz'] at hv
  have HV : Hid (Calls Try.prog 97 #[.pointer p, .int .i64 0, .agg #[.int .u8 0, .int .u8 0], .func (.yield l) #[] #[]] W fun ex W' => ex = .returned (.bool true) ∧ J (tidyB 6 m) W') := by
    refine Calls.mono hv ?_
    rintro ex W' ⟨h1, h2, -⟩
    exact ⟨h1, by simpa using h2⟩
  clear hv hY hd hr h0 hJ hz hz'
  go_enter Try.func96, Try.ntmps96
  go_wp2_with (go_at_call 97; refine HV.out.mono ?_; rintro ex w2 ⟨rfl, hj⟩; have HJ := Lib.hid hj; clear hj)
  go_end0
  exact ⟨⟨_, rfl⟩, HJ.out⟩

end Go.Proofs.Ytndmedkkecikoaa

namespace Go.Proofs.Ytndmedkkecikoaa
open Go.ChangeShapes Go.WideShapes Go.ChangeAt Go.RowKit Go.Joins
open Go.Shelf
set_option linter.unusedVariables false
attribute [local go_sem] Oper.semAt_some

/-- A block that is no cells is exchanged: masks and what lies below stay. -/
theorem KpM.put {n : Nat} {W : World} {k : Nat} {o : Obj} (o' : Obj) (hn : n ≤ k) (ho : W.heap[k]? = some o) (hc : o.isCells = false) : KpM n W (W.putObj k o') := by
  have hlt := (Array.getElem?_eq_some_iff.1 ho).1
  refine ⟨(Below.refl n W).grown (grownBy_putObj' W k o') (by omega) (fun j e => by cases e; exact hn), fun j cs hj => ?_⟩
  by_cases e : j = k
  · subst e
    rw [ho] at hj
    cases hj
    simp [Obj.isCells] at hc
  · exact (World.putObj_heap_other e).trans hj

/-- The record of a loop that stands ready. -/
def recOf (fn : FuncId) (a : Act) (ps : Array Tmp) (assign body : Code) (d : Nat) : Loop := { state := .ready, pending := none, fn := fn, tmps := a.tmps, params := ps, assign := assign, body := body, defers := d }

set_option maxHeartbeats 1000000 in
/-- 'for x := range seq', where seq hands over the signs of xs and the body never leaves: one round for each; a round's variable lies in a block of its own. -/
theorem loop_all {n : Nat} {g : Operand} {ps : Array Tmp} {assign body : Code} {Q : Exit → Act → World → Prop} {a : Act} {w : World} {gf : Nat} {lb : Array Value} (n₀ : Nat) (hn₀ : n₀ ≤ w.heap.size) (hps : ps.size = 1)
    (hg : a.eval g = .func (.func gf) #[] lb) (eg : ∀ args W, (callFunc gf args).run Try.prog W = .ok (.enter gf args) W) (xs : List (List UInt8))
    (hseq : ∀ (l : Nat) (J : List (List UInt8) → World → Prop) (W : World), Below w.heap.size w W → (∀ s A B, J s A → Below A.heap.size A B → J s B) →
      (∀ k pre x W1, J pre W1 → pre.length < xs.length → YieldAt Fence.wide k Try.prog l #[mkA x] W1 fun ex W' => ex = .returned (.bool true) ∧ J (pre ++ [x]) W' ∧ KpM n₀ W1 W') → J [] W →
      Calls Try.prog gf (#[.func (.yield l) #[] #[]] ++ lb) W fun ex W' => (∃ v, ex = .returned v) ∧ J xs W')
    (I : List (List UInt8) → World → Prop) (hI : OwnFrom w.heap.size I) (h0 : I [] w) (a₁ : List UInt8 → Nat → Act)
    (hassign : ∀ (l k : Nat) (x : List UInt8) (W : World) (K : Act → World → Prop), K (a₁ x W.heap.size) (W.alloc (.cells #[.int .u8 (ofB (cL x)), .int .u8 (ofB (vL x))] 87)) →
      assign.wpIn (Fence.wide.inRound l) k Try.prog (Exit.then K (fun _ _ _ => False)) { tmps := (ps.zip #[mkA x]).foldl (fun t (p, v) => t.setIfInBounds p v) a.tmps, defers := [] } W)
    (hbody : ∀ (l k : Nat) (pre : List (List UInt8)) (x : List UInt8) (Bx : Nat) (W : World), I pre W → pre.length < xs.length → w.heap.size ≤ Bx → W.heap[Bx]? = some (.cells #[.int .u8 (ofB (cL x)), .int .u8 (ofB (vL x))] 87) →
      body.wpIn (Fence.wide.inRound l) k Try.prog (fun ex _ W' => ex = .normal ∧ KeepsFrom w.heap.size W W' ∧ KpM n₀ W W' ∧ I (pre ++ [x]) W') (a₁ x Bx) W)
    (hdone : ∀ (D : Nat) (W : World), w.heap.size ≤ D → I xs W → W.heap[D]? = some (.deferred (some [])) → Q .normal { a with defers := { target := .collected D, args := #[] } :: a.defers } W) :
    (Code.rangeFunc g ps assign body).wpIn Fence.wide n Try.prog Q a w := by
  refine wpIn_rangeFunc fun fn hfn => ?_
  -- the two blocks that the statement lays
  obtain ⟨W1, hW1⟩ : ∃ W1, (w.alloc (.deferred (some []))).alloc (.loop (recOf fn a ps assign body w.heap.size)) = W1 := ⟨_, rfl⟩
  have hb1 : Below w.heap.size w W1 := by rw [← hW1]; exact below_alloc2 _ _ _
  have hrec : W1.heap[w.heap.size + 1]? = some (.loop (recOf fn a ps assign body w.heap.size)) := by
    rw [← hW1]
    have := newBlockM (w.alloc (.deferred (some []))) (.loop (recOf fn a ps assign body w.heap.size))
    simpa using this
  have hdef : W1.heap[w.heap.size]? = some (.deferred (some [])) := by
    rw [← hW1]
    exact (Below.heap_alloc _ _ _ (by simp)).trans (newBlockM w _)
  have hI1 : I [] W1 := by rw [← hW1]; exact hI.alloc _ (hI.alloc _ h0)
  refine ⟨w.heap.size + 1, [{ target := .collected w.heap.size, args := #[] }], W1, { target := .fn (.func gf) lb, args := #[.func (.yield (w.heap.size + 1)) #[] #[]] }, W1, gf, #[.func (.yield (w.heap.size + 1)) #[] #[]] ++ lb, W1, ?_, ?_, fun _ _ => trivial, ?_, (fun h => by cases h), callsIn_wide.2 ?_⟩
  · rw [← hW1]; exact run_enterLoop_outer _ _ _ _ _
  · simp only [resolve, hg]
    simp [go_sem]
  · simp [invoke, go_sem, eg]
  -- the patterns come, one by one
  refine (hseq (w.heap.size + 1) (fun pre W => I pre W ∧ W.heap[w.heap.size + 1]? = some (.loop (recOf fn a ps assign body w.heap.size)) ∧ W.heap[w.heap.size]? = some (.deferred (some [])) ∧ w.heap.size ≤ W.heap.size) W1 hb1 ?_ ?_ ⟨hI1, hrec, hdef, hb1.size⟩).mono ?_
  · rintro s A B ⟨i1, i2, i3, i4⟩ hAB
    exact ⟨hI s A B none i1 (sOf none hAB) (fun r e => by cases e), (hAB.block _ (Array.getElem?_eq_some_iff.1 i2).1).trans i2, (hAB.block _ (Array.getElem?_eq_some_iff.1 i3).1).trans i3, Nat.le_trans i4 hAB.size⟩
  · rintro k pre x W ⟨i1, i2, i3, i4⟩ hlen
    have hlt := (Array.getElem?_eq_some_iff.1 i2).1
    have hlt0 := (Array.getElem?_eq_some_iff.1 i3).1
    refine ⟨fn, _, assign, body, run_yield i2 (by rw [show (recOf fn a ps assign body w.heap.size).params = ps from rfl, hps]; rfl), roundIn_of_wpIn hfn (hassign _ _ x W _ ?_)⟩
    -- the variable's block is laid; the record is busy
    have hA := below_alloc1 W (.cells #[.int .u8 (ofB (cL x)), .int .u8 (ofB (vL x))] 87)
    have j2 := (hA.block _ hlt).trans i2
    have j3 := (hA.block _ hlt0).trans i3
    refine ⟨_, run_beginRound j2 rfl, ?_⟩
    have kA : KpM n₀ W (W.alloc (.cells #[.int .u8 (ofB (cL x)), .int .u8 (ofB (vL x))] 87)) := KpM.of hA (by omega)
    generalize hWA : (W.alloc (.cells #[.int .u8 (ofB (cL x)), .int .u8 (ofB (vL x))] 87)) = WA at *
    have hbx : WA.heap[W.heap.size]? = some (.cells #[.int .u8 (ofB (cL x)), .int .u8 (ofB (vL x))] 87) := by rw [← hWA]; exact newBlockM W _
    have iA : I pre WA := by rw [← hWA]; exact hI.alloc _ i1
    have hltA := (Array.getElem?_eq_some_iff.1 j2).1
    obtain ⟨rb, hrb⟩ : ∃ rb, ({ recOf fn a ps assign body w.heap.size with state := .busy } : Loop) = rb := ⟨_, rfl⟩
    rw [hrb]
    have kB := KpM.put (.loop rb) (n := n₀) (by omega) j2 rfl
    have iB : I pre (WA.putObj (w.heap.size + 1) (.loop rb)) := hI.putObj _ iA (by omega) j2 rfl
    have bB : (WA.putObj (w.heap.size + 1) (.loop rb)).heap[W.heap.size]? = some (.cells #[.int .u8 (ofB (cL x)), .int .u8 (ofB (vL x))] 87) := (World.putObj_heap_other (by omega)).trans hbx
    have rB : (WA.putObj (w.heap.size + 1) (.loop rb)).heap[w.heap.size + 1]? = some (.loop rb) := World.putObj_heap_same hltA
    have dB : (WA.putObj (w.heap.size + 1) (.loop rb)).heap[w.heap.size]? = some (.deferred (some [])) := (World.putObj_heap_other (by omega)).trans j3
    have sB : (WA.putObj (w.heap.size + 1) (.loop rb)).heap.size = WA.heap.size := by simp [World.putObj]
    refine wpIn_mono (hbody _ _ pre x W.heap.size _ iB hlen i4 bB) ?_
    rintro ex a3 W3 ⟨rfl, q1, q2, q3⟩
    have r3 := q1.same _ _ (by omega) rB rfl
    have d3 := q1.same _ _ (Nat.le_refl _) dB rfl
    have s3 := (Array.getElem?_eq_some_iff.1 r3).1
    have hend := run_endRound (P := Try.prog) none r3
    have hback : ({ rb with state := if (none : Option Code).isNone then .ready else .done, pending := none } : Loop) = recOf fn a ps assign body w.heap.size := by rw [← hrb]; rfl
    rw [hback] at hend
    refine ⟨_, _, hend, rfl, ⟨hI.putObj _ q3 (by omega) r3 rfl, World.putObj_heap_same s3, (World.putObj_heap_other (by omega)).trans d3, by simp [World.putObj]; omega⟩, ?_⟩
    exact (kA.trans (kB.trans q2)).trans (KpM.put _ (by omega) r3 rfl)
  · rintro ex W2 ⟨⟨v, rfl⟩, i1, i2, i3, i4⟩
    refine ⟨none, _, run_endLoop i2 (by simp [recOf]), ?_⟩
    exact hdone _ _ (Nat.le_refl _) (hI.putObj _ i1 (by omega) i2 rfl) ((World.putObj_heap_other (by omega)).trans i3)

end Go.Proofs.Ytndmedkkecikoaa

namespace Go.Proofs.Ytndmedkkecikoaa
open Go.ChangeShapes Go.WideShapes Go.ChangeAt Go.RowKit Go.Joins
open Go.Shelf
set_option linter.unusedVariables false
attribute [local go_sem] Oper.semAt_some

theorem masks_any (p : Option Addr) (w : World) :
    Calls Try.prog 85 #[.pointer p] w fun e w' => e = .returned (.func (.func 96) #[] #[.pointer (some ⟨w.heap.size, 0, none⟩)]) ∧ w' = w.alloc (.cells #[.pointer p] 58) := by
  have hmf : ∀ (fn : Fn) (first cap : Array Value) (w : World), (Instr.makeFunc fn first cap).run Try.prog w = .ok (.func fn first cap) w := fun _ _ _ _ => rfl
  go_enter Try.func85, Try.ntmps85
  go_wp2
  go_ret
  exact ⟨rfl, rfl⟩

/-- A round that stores into one box of the caller's, behind calls that leave what was there. -/
theorem round_set {W w2 : World} {n B LB : Nat} {t : TypeId} {v : Value} (v' : Value) (hv : Boxed W B t v) (ht : t ≠ 87) (hb : Below W.heap.size W w2) (hn : n ≤ B) (hB : B < LB) :
    KeepsFrom LB W (w2.setCell ⟨B, 0, none⟩ v') ∧ KpM n W (w2.setCell ⟨B, 0, none⟩ v') ∧ Boxed (w2.setCell ⟨B, 0, none⟩ v') B t v' ∧ Below n W (w2.setCell ⟨B, 0, none⟩ v') := by
  have hv2 : Boxed w2 B t v := (hb.block B hv.lt).trans hv
  have hg : W.grownBy (w2.setCell ⟨B, 0, none⟩ v') (some B) := sTrans (sOf _ hb) ⟨rfl, rfl, rfl, by simp [World.setCell], fun k hk hne => Below.heap_setCell _ _ _ _ (fun e => hne (by rw [e]))⟩
  have hbn : Below n W (w2.setCell ⟨B, 0, none⟩ v') := sBel hg hn (Nat.le_trans hn (Nat.le_of_lt hv.lt))
  refine ⟨KeepsFrom.of_grownBy hg (fun j e => by cases e; exact hB), ⟨hbn, fun k cs hk => ?_⟩, hv2.set v', hbn⟩
  refine (hg.block k (Array.getElem?_eq_some_iff.1 hk).1 ?_).trans hk
  intro e
  cases e
  rw [show W.heap[B]? = _ from hv] at hk
  cases hk
  exact ht rfl

/-- How many heads the patterns have that came. -/
def sumL6 (l : List (List UInt8)) : Int := (l.map fun x => manyB (cL x)).sum
theorem sumL6_snoc (l : List (List UInt8)) (x : List UInt8) : sumL6 (l ++ [x]) = sumL6 l + manyB (cL x) := by simp [sumL6]
theorem manyB_le (c : Nat → Bool) : 0 ≤ manyB c ∧ manyB c ≤ 64 := by
  unfold manyB
  have h : ∀ n, n ≤ 6 → (0 : Int) ≤ 2 ^ (6 - n) ∧ (2 : Int) ^ (6 - n) ≤ 64 := by decide
  exact h _ (cnt6_le _ _ _ _ _ _)
theorem sumL6_bound : ∀ (l : List (List UInt8)), 0 ≤ sumL6 l ∧ sumL6 l ≤ 64 * l.length
  | [] => by simp [sumL6]
  | x :: l => by
    have h1 := sumL6_bound l
    have h2 := manyB_le (cL x)
    unfold sumL6 at *
    simp only [List.map_cons, List.sum_cons, List.length_cons]
    omega

set_option maxRecDepth 100000 in
set_option maxHeartbeats 4000000 in
theorem many_node (w : World) (b e : Nat) (E : List Nd) (p : Option Addr) (m : List Bool) (hd : Dg w b e E) (hr : Rep E e 6 p m) :
    Calls Try.prog 69 #[.pointer p] w fun ex w' => ex = .returned (.int .i64 (sumL6 (tidyB 6 m))) ∧ Below w.heap.size w w' := by
  have hlen := tidyB_many 6 m
  refine (callsIn_wide (n := 5)).1 ?_
  refine callsIn_of_wp_marks Try.func69 rfl trivial ?_ rfl
  simp only [Try.ntmps69, List.size_toArray, List.length_cons, List.length_nil, Nat.reduceAdd, Nat.reduceSub, Array.replicate_succ, Array.replicate_zero, List.push_toArray, List.append_toArray, List.nil_append, List.cons_append]
  gi_wp2_with (refine ⟨trivial, ?_⟩; gi_at_call 85; refine (callsIn_wide.2 (masks_any _ _)).mono ?_; rintro ex w' ⟨rfl, rfl⟩)
  have hB0 : Below w.heap.size w ((w.alloc (.cells #[.int .i64 0] 3)).alloc (.cells #[.pointer p] 58)) := below_alloc2 _ _ _
  have bS := Boxed.new w 3 (.int .i64 0)
  have bN := Boxed.new (w.alloc (.cells #[.int .i64 0] 3)) 58 (.pointer p)
  rw [World.size_alloc] at bN
  have hsz : ((w.alloc (.cells #[.int .i64 0] 3)).alloc (.cells #[.pointer p] 58)).heap.size = w.heap.size + 2 := by simp
  refine loop_all (gf := 96) (lb := #[.pointer (some ⟨w.heap.size + 1, 0, none⟩)]) w.heap.size (by rw [hsz]; omega) rfl rfl (enters_of Try.func96 (by kernel_rfl) rfl) (tidyB 6 m)
    (fun l J W hW hJ hY h0 => masks1_any J w.heap.size l b e (w.heap.size + 1) E p m W hJ hY (hd.to.below (hB0.trans (hW.mono (by rw [hsz]; omega)))) (Nat.le_trans hB0.size hW.size) hr h0 ((hW.cell (p := ⟨w.heap.size + 1, 0, none⟩) (by rw [hsz]; simp)).trans bN.cell))
    (fun pre W => Boxed W w.heap.size 3 (.int .i64 (sumL6 pre)) ∧ Below w.heap.size w W)
    (OwnFrom.and (Own.from (boxed_own _ _ _) _) (ownFrom_below (Nat.le_refl _) (by rw [hsz]; omega)))
    ⟨bS.alloc _, hB0⟩
    (fun x Bx => { tmps := #[.pointer p, undef, .int .i64 0, .pointer (some ⟨w.heap.size, 0, none⟩), .pointer (some ⟨Bx, 0, none⟩), .pointer p, .func (.func 96) #[] #[.pointer (some ⟨w.heap.size + 1, 0, none⟩)], mkA x, undef, undef, undef, undef, undef], defers := [] }) ?assign ?body ?done
  case assign =>
    intro l k x W K hK
    unfold mkA at *
    gi_wp2
    exact hK
  case body =>
    rintro l k pre x Bx W ⟨hv, hB⟩ hlt hBx hbx
    have hc := hv.cell
    have hf := hv.frozen
    have K2 := duoCells hbx
    have hmx : Try.prog.follows .mixedOrders = true := by kernel_rfl
    obtain ⟨d0, d1, d2⟩ := K2
    have HB := Lib.hid hB
    have HV := Lib.hid hv
    have hs0 := sumL6_bound pre
    have hs1 := manyB_le (cL x)
    have hs2 := sumL6_snoc pre x
    have hvl := hv.lt
    have hbl := (Array.getElem?_eq_some_iff.1 hbx).1
    have HS2 := Lib.hid hs2
    have hw64 : wrap64 (sumL6 pre + manyB (cL x)) = sumL6 pre + manyB (cL x) := by unfold wrap64; omega
    have hw65 : IntKind.i64.wrap (sumL6 pre + manyB (cL x)) = sumL6 pre + manyB (cL x) := by rw [IntKind.wrap_i64]; omega
    clear hs2 hbx hB hv
    generalize sumL6 pre = sp at *
    gi_wp2
    gi_region_with_o (refine ⟨trivial, (fun h => by cases h), ?_⟩; gi_at_call 88; refine (CallsIn.inRound l (callsIn_wide.2 (many_any _ _ _))).mono ?_; rintro ex w2 ⟨rfl, b2⟩; have hc2 : w2.cell? ⟨w.heap.size, 0, none⟩ = some (.int .i64 sp) := (belCell b2 _ _ hvl).trans hc; have hf2 : w2.frozen? ⟨w.heap.size, 0, none⟩ = false := (World.frozen?_of_block (w := W) (b2.block _ hvl)).trans hf; have B2 : Hid (Below W.heap.size W w2) := ((Below.refl _ _).drew).trans b2; clear b2)
    all_goals gi_wp2
    all_goals
      have HE := round_set (n := w.heap.size) (LB := w.heap.size + 2) (.int .i64 (sp + manyB (cL x))) HV.out (by decide) B2.out (Nat.le_refl _) (by omega)
      exact ⟨HE.1, HE.2.1, by rw [HS2.out]; exact HE.2.2.1, HB.out.trans HE.2.2.2⟩
  case done =>
    rintro D W hD ⟨hv, hB⟩ hK
    have hc := hv.cell
    gi_wp2
    refine ⟨by simp, .inl ⟨_, _, rfl, run_takeDeferred hK, ?_⟩⟩
    exact ⟨_, results_tmp rfl _ _ _, rfl, hB.trans (belowK_b (w := w) (Nat.le_refl _) W D _ _ (by rw [hsz] at hD; omega) hK rfl rfl)⟩

end Go.Proofs.Ytndmedkkecikoaa

namespace Go.Proofs.Ytndmedkkecikoaa
open Go.ChangeShapes Go.WideShapes Go.ChangeAt Go.RowKit Go.Joins
open Go.Shelf
set_option linter.unusedVariables false
attribute [local go_sem] Oper.semAt_some

/-- An append of one text, as an operation of a region. -/
theorem app_step {F : Fence} {n : Nat} {o : Oper} {a : Act} {w : World} {K : Act → World → Prop} {Q : Exit → Act → World → Prop} (s x : Operand) (hop : o.op = Op.call { callee := Callee.builtin Builtin.append, args := #[s, x], argTypes := #[23, 23] })
    (base k : Nat) (v : Value) (xs : List Value) (hs : a.eval s = v) (hown : w.ownsRow base 9 1 v k xs) (g : Nat) (t : ByteArray) (hx : a.eval x = .slice (some ⟨g, 0, none⟩) 1 1) (hc : w.cell? ⟨g, 0, none⟩ = some (.string t)) (b1 : k + 1 ≤ 1000) (b3 : base ≤ w.heap.size)
    (hK : ∀ v' w', w'.ownsRow base 9 1 v' (k + 1) (xs ++ [.string t]) → w.grownBy w' v.ownBlock → K (a.put o.dst v') w') : o.wpIn F n Try.prog a w K Q := by
  obtain ⟨i0, hi, hz0, hz1, hz2⟩ := info_parts infoStr
  obtain ⟨v', w', hrun, r1, r2, r3⟩ := run_append_own (P := Try.prog) w base 23 o.type 9 i0 (.string ⟨#[]⟩) 1 16 Try.underlying23 hi hz0 hz1 hz2 rfl (by decide) v k xs hown ⟨g, 0, none⟩ 1 1 [.string t] rfl
    (fun j u hj => by
      match j, hj with
      | 0, hj => simp at hj; subst hj; simpa [Addr.add] using hc) (fun u hu => by simp at hu; subst hu; rfl) (by unfold maxLen; omega) (by omega) b3
  unfold Oper.wpIn
  refine ⟨?_, ?_⟩
  · simp [Oper.about, hop, resolve, Target.leads, Sem.run_pure]
  · rw [Oper.semAt_plain F _ _ (by rw [hop]; intro c hc'; cases hc')]
    simp [execOp, hop, resolve, invoke, builtin, hs, hx, hrun, Result.andThen]
    exact hK _ _ r1 r2

/-- The text of signs. -/
def tx (x : List UInt8) : ByteArray := txt (cL x) (vL x)

/-- Behind the store of what was appended. -/
theorem round_app {W w2 w3 : World} {n B LB k : Nat} {v v' : Value} {xs ys : List Value} {tmp : Obj} (hv : Boxed W B 23 v) (hrow : W.ownsRow n 9 1 v k xs) (hb : Below W.heap.size W w2) (hn : n ≤ B) (hB : B < LB) (hnW : n ≤ W.heap.size)
    (hown : w3.ownsRow n 9 1 v' (k + 1) ys) (hg : (w2.alloc tmp).grownBy w3 v.ownBlock) :
    KeepsFrom LB W (w3.setCell ⟨B, 0, none⟩ v') ∧ KpM n W (w3.setCell ⟨B, 0, none⟩ v') ∧ Boxed (w3.setCell ⟨B, 0, none⟩ v') B 23 v' ∧ (w3.setCell ⟨B, 0, none⟩ v').ownsRow n 9 1 v' (k + 1) ys ∧ Below n W (w3.setCell ⟨B, 0, none⟩ v') ∧ w3.cell? ⟨B, 0, none⟩ = some v ∧ w3.frozen? ⟨B, 0, none⟩ = false := by
  have hv2 : Boxed w2 B 23 v := (hb.block B hv.lt).trans hv
  have hrow2 : w2.ownsRow n 9 1 v k xs := ownsBelow hrow hb
  obtain ⟨h1, h2, h3, h4, h5⟩ := hv2.appended (by decide) hrow2 (Nat.le_trans hnW hb.size) hn hown hg
  refine ⟨⟨Nat.le_trans hb.size h4.size, fun j o _ hj ho => h4.same j o ((hb.block j (Array.getElem?_eq_some_iff.1 hj).1).trans hj) ho⟩, ⟨(hb.mono hnW).trans h5, fun j cs hj => ?_⟩, h2, h3, (hb.mono hnW).trans h5, h1.cell, h1.frozen⟩
  have hj2 := (hb.block j (Array.getElem?_eq_some_iff.1 hj).1).trans hj
  have hjl := (Array.getElem?_eq_some_iff.1 hj2).1
  have hj3 : w3.heap[j]? = some (.cells cs 87) := by
    refine (hg.block j (by simp; omega) ?_).trans ((Below.heap_alloc _ _ _ hjl).trans hj2)
    intro e
    obtain ⟨-, hx | ⟨g, cap, cur, rfl, -, hgc, -⟩⟩ := hrow2
    · rw [hx.1] at e; cases e
    · have : j = g := by injection e
      subst this
      rw [hgc] at hj2
      cases hj2
  refine (Below.heap_setCell _ _ _ _ (fun e => ?_)).trans hj3
  have e' : j = B := e
  rw [e', show w3.heap[B]? = _ from h1] at hj3
  cases hj3

set_option maxRecDepth 100000 in
set_option maxHeartbeats 4000000 in
theorem texts_any (w : World) (b e : Nat) (E : List Nd) (p : Option Addr) (m : List Bool) (hd : Dg w b e E) (hr : Rep E e 6 p m) :
    Calls Try.prog 62 #[.pointer p] w fun ex w' => ∃ v, ex = .returned v ∧ StrRow w' w.heap.size v (tidyT m) ∧ Below w.heap.size w w' := by
  have hlen := tidyB_many 6 m
  have HTX : Hid ((tidyB 6 m).map tx = tidyT m) := by
    show _ = _
    unfold tidyT
    apply List.map_congr_left
    intro x hx
    exact txt_L (tidyB_len 6 m x hx) (tidyB_sgn 6 m x hx)
  refine (callsIn_wide (n := 5)).1 ?_
  refine callsIn_of_wp_marks Try.func62 rfl trivial ?_ rfl
  simp only [Try.ntmps62, List.size_toArray, List.length_cons, List.length_nil, Nat.reduceAdd, Nat.reduceSub, Array.replicate_succ, Array.replicate_zero, List.push_toArray, List.append_toArray, List.nil_append, List.cons_append]
  gi_wp2_with (refine ⟨trivial, ?_⟩; gi_at_call 85; refine (callsIn_wide.2 (masks_any _ _)).mono ?_; rintro ex w' ⟨rfl, rfl⟩)
  have hB0 : Below w.heap.size w ((w.alloc (.cells #[.slice none 0 0] 23)).alloc (.cells #[.pointer p] 58)) := below_alloc2 _ _ _
  have bS := Boxed.new w 23 (.slice none 0 0)
  have bN := Boxed.new (w.alloc (.cells #[.slice none 0 0] 23)) 58 (.pointer p)
  rw [World.size_alloc] at bN
  have hsz : ((w.alloc (.cells #[.slice none 0 0] 23)).alloc (.cells #[.pointer p] 58)).heap.size = w.heap.size + 2 := by simp
  refine loop_all (gf := 96) (lb := #[.pointer (some ⟨w.heap.size + 1, 0, none⟩)]) w.heap.size (by rw [hsz]; omega) rfl rfl (enters_of Try.func96 (by kernel_rfl) rfl) (tidyB 6 m)
    (fun l J W hW hJ hY h0 => masks1_any J w.heap.size l b e (w.heap.size + 1) E p m W hJ hY (hd.to.below (hB0.trans (hW.mono (by rw [hsz]; omega)))) (Nat.le_trans hB0.size hW.size) hr h0 ((hW.cell (p := ⟨w.heap.size + 1, 0, none⟩) (by rw [hsz]; simp)).trans bN.cell))
    (fun (pre : List (List UInt8)) W => (∃ v, Boxed W w.heap.size 23 v ∧ W.ownsRow w.heap.size 9 1 v pre.length ((pre.map tx).map Value.string) ∧ True) ∧ Below w.heap.size w W)
    (OwnFrom.and (Own.from (holdsRow_own w.heap.size w.heap.size 23 9 1 (fun (pre : List (List UInt8)) => pre.length) (fun (pre : List (List UInt8)) => (pre.map tx).map Value.string) (fun _ _ => True)) _) (ownFrom_below (Nat.le_refl _) (by rw [hsz]; omega)))
    ⟨⟨_, bS.alloc _, World.ownsRow_nil _ _ _ _, trivial⟩, hB0⟩
    (fun x Bx => { tmps := #[.pointer p, undef, .slice none 0 0, .pointer (some ⟨w.heap.size, 0, none⟩), .pointer (some ⟨Bx, 0, none⟩), .pointer p, .func (.func 96) #[] #[.pointer (some ⟨w.heap.size + 1, 0, none⟩)], mkA x, undef, undef, undef, undef, undef, undef], defers := [] }) ?assign ?body ?done
  case assign =>
    intro l k x W K hK
    unfold mkA at *
    gi_wp2
    exact hK
  case body =>
    rintro l k pre x Bx W ⟨⟨v, hv, hrow, -⟩, hB⟩ hlt hBx hbx
    have hc := hv.cell
    have hf := hv.frozen
    obtain ⟨d0, d1, d2⟩ := duoCells hbx
    have HB := Lib.hid hB
    have HV := Lib.hid hv
    have HR := Lib.hid hrow
    have hvl := hv.lt
    have hbl := (Array.getElem?_eq_some_iff.1 hbx).1
    have hp64 : pre.length + 1 ≤ 1000 := by omega
    -- behind the text: what the append wants, what the round leaves
    have HT : Hid (∀ w2, Below W.heap.size W w2 → ∀ (F : Fence) (nn : Nat) (o : Oper) (a : Act) (K : Act → World → Prop) (Q : Exit → Act → World → Prop) (s y : Operand), o.op = Op.call { callee := Callee.builtin Builtin.append, args := #[s, y], argTypes := #[23, 23] } →
        a.eval s = v → a.eval y = .slice (some ⟨w2.heap.size, 0, none⟩) 1 1 →
        (∀ v' w3, w3.cell? ⟨w.heap.size, 0, none⟩ = some v → w3.frozen? ⟨w.heap.size, 0, none⟩ = false → (∃ g' cap', v' = .slice (some ⟨g', 0, none⟩) (pre.length + 1) cap') →
          Hid (KeepsFrom (w.heap.size + 2) W (w3.setCell ⟨w.heap.size, 0, none⟩ v') ∧ KpM w.heap.size W (w3.setCell ⟨w.heap.size, 0, none⟩ v') ∧
            (∃ u, Boxed (w3.setCell ⟨w.heap.size, 0, none⟩ v') w.heap.size 23 u ∧ (w3.setCell ⟨w.heap.size, 0, none⟩ v').ownsRow w.heap.size 9 1 u (pre ++ [x]).length (((pre ++ [x]).map tx).map Value.string) ∧ True) ∧ Below w.heap.size w (w3.setCell ⟨w.heap.size, 0, none⟩ v')) → K (a.put o.dst v') w3) →
        o.wpIn F nn Try.prog a (w2.alloc (.cells #[.string (tx x)] 9)) K Q) := by
      intro w2 hb2 F nn o a K Q s y hop hs hy hK
      have hnW : w.heap.size ≤ W.heap.size := Nat.le_of_lt hvl
      have hr2 := ownsBelow HR.out hb2
      refine app_step s y hop w.heap.size pre.length v _ hs (hr2.alloc _) w2.heap.size (tx x) hy (cell_one_new _ _ _ 0 _ rfl) hp64 (by have := hb2.size; simp; omega) ?_
      intro v' w3 hown hg
      obtain ⟨g', cap', hv'⟩ := ownsRow_succ hown
      obtain ⟨q1, q2, q3, q4, q5, q6, q7⟩ := round_app (LB := w.heap.size + 2) HV.out HR.out hb2 (Nat.le_refl _) (by omega) hnW hown hg
      refine hK v' w3 q6 q7 ⟨g', cap', hv'⟩ ⟨q1, q2, ⟨v', q3, ?_, trivial⟩, HB.out.trans q5⟩
      simpa using q4
    clear hB hv hrow hbx
    gi_wp2
    refine wpIn_region_any (by kernel_rfl) ?_
    try (change wpAnyIn _ _ _ _ _ _ _ _ _ (World.drew _))
    refine wpAnyIn_ready (rs := [0, 1]) (by kernel_rfl) (by simp) ?_
    refine AllReadyIn.cons rfl (fun K hK => ?_) (AllReadyIn.cons rfl (fun K hK => ?_) AllReadyIn.nil)
    · go_simp
      refine hK _ _ ?_
      clear hK K
      refine wpAnyIn_ready (rs := [1]) (by kernel_rfl) (by simp) ?_
      refine AllReadyIn.cons rfl (fun K hK => ?_) AllReadyIn.nil
      go_simp
      refine hK _ _ ?_
      clear hK K
      refine wpAnyIn_ready (rs := [2]) (by kernel_rfl) (by simp) ?_
      refine AllReadyIn.cons rfl (fun K hK => ?_) AllReadyIn.nil
      go_simp
      refine ⟨trivial, (fun h => by cases h), ?_⟩
      refine (CallsIn.inRound l (callsIn_wide.2 (text_any _ _ _))).mono ?_
      rintro ex w2 ⟨rfl, b2⟩
      have B2 : Hid (Below W.heap.size W w2) := ((Below.refl _ _).drew).trans b2
      have hc2 : w2.cell? ⟨w.heap.size, 0, none⟩ = some v := (belCell B2.out _ _ hvl).trans hc
      have hc2' : ∀ o : Obj, (w2.alloc o).cell? ⟨w.heap.size, 0, none⟩ = some v := fun o => (((Below.refl _ w2).alloc (Nat.le_refl _) o).cell (p := ⟨w.heap.size, 0, none⟩) (Nat.lt_of_lt_of_le hvl B2.out.size)).trans hc2
      clear b2
      refine hK _ _ ?_
      clear hK K
      refine wpAnyIn_ready (rs := [3]) (by kernel_rfl) (by simp) ?_
      refine AllReadyIn.cons rfl (fun K hK => ?_) AllReadyIn.nil
      go_simp
      refine hK _ _ ?_
      clear hK K
      refine wpAnyIn_ready (rs := [4]) (by kernel_rfl) (by simp) ?_
      refine AllReadyIn.cons rfl (fun K hK => ?_) AllReadyIn.nil
      rw [if_pos (by rfl)]
      refine HT.out w2 B2.out _ _ _ _ _ _ _ _ rfl rfl rfl ?_
      rintro v' w3 hc3 hf3 ⟨g', cap', rfl⟩ HE
      refine hK _ _ ?_
      clear hK K
      refine wpAnyIn_ready (rs := [5]) (by kernel_rfl) (by simp) ?_
      refine AllReadyIn.cons rfl (fun K hK => ?_) AllReadyIn.nil
      go_simp
      refine hK _ _ ?_
      clear hK K
      refine wpAnyIn_done (by kernel_rfl) ?_ _
      gi_wp2
      simpa using HE.out
    · go_simp
      refine hK _ _ ?_
      clear hK K
      refine wpAnyIn_ready (rs := [0, 2]) (by kernel_rfl) (by simp) ?_
      refine AllReadyIn.cons rfl (fun K hK => ?_) (AllReadyIn.cons rfl (fun K hK => ?_) AllReadyIn.nil)
      · go_simp
        refine hK _ _ ?_
        clear hK K
        refine wpAnyIn_ready (rs := [2]) (by kernel_rfl) (by simp) ?_
        refine AllReadyIn.cons rfl (fun K hK => ?_) AllReadyIn.nil
        go_simp
        refine ⟨trivial, (fun h => by cases h), ?_⟩
        refine (CallsIn.inRound l (callsIn_wide.2 (text_any _ _ _))).mono ?_
        rintro ex w2 ⟨rfl, b2⟩
        have B2 : Hid (Below W.heap.size W w2) := ((Below.refl _ _).drew).trans b2
        have hc2 : w2.cell? ⟨w.heap.size, 0, none⟩ = some v := (belCell B2.out _ _ hvl).trans hc
        have hc2' : ∀ o : Obj, (w2.alloc o).cell? ⟨w.heap.size, 0, none⟩ = some v := fun o => (((Below.refl _ w2).alloc (Nat.le_refl _) o).cell (p := ⟨w.heap.size, 0, none⟩) (Nat.lt_of_lt_of_le hvl B2.out.size)).trans hc2
        clear b2
        refine hK _ _ ?_
        clear hK K
        refine wpAnyIn_ready (rs := [3]) (by kernel_rfl) (by simp) ?_
        refine AllReadyIn.cons rfl (fun K hK => ?_) AllReadyIn.nil
        go_simp
        refine hK _ _ ?_
        clear hK K
        refine wpAnyIn_ready (rs := [4]) (by kernel_rfl) (by simp) ?_
        refine AllReadyIn.cons rfl (fun K hK => ?_) AllReadyIn.nil
        rw [if_pos (by rfl)]
        refine HT.out w2 B2.out _ _ _ _ _ _ _ _ rfl rfl rfl ?_
        rintro v' w3 hc3 hf3 ⟨g', cap', rfl⟩ HE
        refine hK _ _ ?_
        clear hK K
        refine wpAnyIn_ready (rs := [5]) (by kernel_rfl) (by simp) ?_
        refine AllReadyIn.cons rfl (fun K hK => ?_) AllReadyIn.nil
        go_simp
        refine hK _ _ ?_
        clear hK K
        refine wpAnyIn_done (by kernel_rfl) ?_ _
        gi_wp2
        simpa using HE.out
      · go_simp
        refine ⟨trivial, (fun h => by cases h), ?_⟩
        refine (CallsIn.inRound l (callsIn_wide.2 (text_any _ _ _))).mono ?_
        rintro ex w2 ⟨rfl, b2⟩
        have B2 : Hid (Below W.heap.size W w2) := ((Below.refl _ _).drew).trans b2
        have hc2 : w2.cell? ⟨w.heap.size, 0, none⟩ = some v := (belCell B2.out _ _ hvl).trans hc
        have hc2' : ∀ o : Obj, (w2.alloc o).cell? ⟨w.heap.size, 0, none⟩ = some v := fun o => (((Below.refl _ w2).alloc (Nat.le_refl _) o).cell (p := ⟨w.heap.size, 0, none⟩) (Nat.lt_of_lt_of_le hvl B2.out.size)).trans hc2
        clear b2
        refine hK _ _ ?_
        clear hK K
        refine wpAnyIn_ready (rs := [0, 3]) (by kernel_rfl) (by simp) ?_
        refine AllReadyIn.cons rfl (fun K hK => ?_) (AllReadyIn.cons rfl (fun K hK => ?_) AllReadyIn.nil)
        · go_simp
          refine hK _ _ ?_
          clear hK K
          refine wpAnyIn_ready (rs := [3]) (by kernel_rfl) (by simp) ?_
          refine AllReadyIn.cons rfl (fun K hK => ?_) AllReadyIn.nil
          go_simp
          refine hK _ _ ?_
          clear hK K
          refine wpAnyIn_ready (rs := [4]) (by kernel_rfl) (by simp) ?_
          refine AllReadyIn.cons rfl (fun K hK => ?_) AllReadyIn.nil
          rw [if_pos (by rfl)]
          refine HT.out w2 B2.out _ _ _ _ _ _ _ _ rfl rfl rfl ?_
          rintro v' w3 hc3 hf3 ⟨g', cap', rfl⟩ HE
          refine hK _ _ ?_
          clear hK K
          refine wpAnyIn_ready (rs := [5]) (by kernel_rfl) (by simp) ?_
          refine AllReadyIn.cons rfl (fun K hK => ?_) AllReadyIn.nil
          go_simp
          refine hK _ _ ?_
          clear hK K
          refine wpAnyIn_done (by kernel_rfl) ?_ _
          gi_wp2
          simpa using HE.out
        · go_simp
          refine hK _ _ ?_
          clear hK K
          refine wpAnyIn_ready (rs := [0]) (by kernel_rfl) (by simp) ?_
          refine AllReadyIn.cons rfl (fun K hK => ?_) AllReadyIn.nil
          go_simp
          refine hK _ _ ?_
          clear hK K
          refine wpAnyIn_ready (rs := [4]) (by kernel_rfl) (by simp) ?_
          refine AllReadyIn.cons rfl (fun K hK => ?_) AllReadyIn.nil
          rw [if_pos (by rfl)]
          refine HT.out w2 B2.out _ _ _ _ _ _ _ _ rfl rfl rfl ?_
          rintro v' w3 hc3 hf3 ⟨g', cap', rfl⟩ HE
          refine hK _ _ ?_
          clear hK K
          refine wpAnyIn_ready (rs := [5]) (by kernel_rfl) (by simp) ?_
          refine AllReadyIn.cons rfl (fun K hK => ?_) AllReadyIn.nil
          go_simp
          refine hK _ _ ?_
          clear hK K
          refine wpAnyIn_done (by kernel_rfl) ?_ _
          gi_wp2
          simpa using HE.out
  case done =>
    rintro D W hD ⟨⟨v, hv, hrow, -⟩, hB⟩ hK
    have hc := hv.cell
    gi_wp2
    refine ⟨by simp, .inl ⟨_, _, rfl, run_takeDeferred hK, ?_⟩⟩
    refine ⟨_, results_tmp rfl _ _ _, v, rfl, ?_, hB.trans (belowK_b (w := w) (Nat.le_refl _) W D _ _ (by rw [hsz] at hD; omega) hK rfl rfl)⟩
    have := ownsRow_putObj hrow (.deferred none) hK rfl
    rw [HTX.out] at this
    show World.ownsRow _ _ _ _ _ _ _
    rw [show (tidyT m).length = (tidyB 6 m).length from by simp [tidyT]]
    exact this

end Go.Proofs.Ytndmedkkecikoaa
