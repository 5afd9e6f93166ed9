/-
  WildFacts: Plain facts on patterns and heads: what two patterns have in common, counted and head by head. No program is walked here but the statements' own draw of a head by its number.
  WildCount: How many heads a pattern has, counted one by one.
  WildFactsB: Plain facts on patterns: of three patterns it does not matter which are taken first; one pattern is in another one, if all its heads are.
  WildLessS: What the model's WildLess returns: a slice of its own, with the same texts as the program's.
  WildLessF: Plain facts on what is left of a pattern without another one: each head of the first that is not of the second is of one piece, no other head is of any; how many heads the pieces have.
-/
import Derived.Test.YtndmedkkecikoaaDrawWild
import Derived.Test.YtndmedkkecikoaaWildLs
import Derived.Test.YtndmedkkecikoaaWildSpecB
namespace Go.Proofs.Ytndmedkkecikoaa
open Go.ChangeShapes Go.WideShapes Go.ChangeAt Go.RowKit Go.Joins
set_option linter.unusedVariables false

set_option maxHeartbeats 400000 in
theorem lxHead_at (n : Nat) (hm : (n : Int) ≤ 1048576) (w : World) :
    Calls Try.prog 25 #[.int .i64 n] w fun e w' => e = .returned (.agg #[.int .i64 ((n : Int) / 16 % 4), .int .i64 ((n : Int) / 4 % 4), .int .i64 ((n : Int) % 4)]) ∧ Below w.heap.size w w' := by
  have h0 : (0 : Int) ≤ (n : Int) := Int.natCast_nonneg _
  go_enter Try.func25, Try.ntmps25
  go_wp2
  exact bodyPost_ret (v := .agg #[.int .i64 ((n : Int) / 16 % 4), .int .i64 ((n : Int) / 4 % 4), .int .i64 ((n : Int) % 4)]) (by simp [results, Try.results25, go_sem]) rfl ⟨rfl, below_alloc1 _ _⟩

/-- A head's cells, in every world that keeps what was there. -/
theorem cellsHeld {W : World} {i : Nat} {x y z : Value} (h : W.cell? ⟨i, 0, none⟩ = some x ∧ W.cell? ⟨i, 1, none⟩ = some y ∧ W.cell? ⟨i, 2, none⟩ = some z ∧ ∀ o, W.frozen? ⟨i, o, none⟩ = false) (hi : i < W.heap.size) (w' : World) (hb : Below W.heap.size W w') :
    w'.cell? ⟨i, 0, none⟩ = some x ∧ w'.cell? ⟨i, 1, none⟩ = some y ∧ w'.cell? ⟨i, 2, none⟩ = some z := by
  have hc := belCell hb
  exact ⟨(hc _ _ hi).trans h.1, (hc _ _ hi).trans h.2.1, (hc _ _ hi).trans h.2.2.1⟩

/-- The bits of a number of a head. -/
def kb (n : Nat) (i : Nat) : Bool := hB ((n : Int) / 16 % 4) ((n : Int) / 4 % 4) ((n : Int) % 4) i
theorem lx_ok (n : Nat) : okB ((n : Int) / 16 % 4) ((n : Int) / 4 % 4) ((n : Int) % 4) = true := okB_mk (by omega) (by omega) (by omega) (by omega) (by omega) (by omega)
theorem hasS_lx (s : ByteArray) (n : Nat) : hasS s ((n : Int) / 16 % 4) ((n : Int) / 4 % 4) ((n : Int) % 4) = (okS s && hasM (cf s) (vf s) (kb n)) := by
  unfold hasS
  rw [lx_ok]
  rfl

/-! ### In common -/

theorem meetB_comm (c v c' v' : Nat → Bool) : meetB c v c' v' = meetB c' v' c v := all6_congr fun i _ => by cases c i <;> cases v i <;> cases c' i <;> cases v' i <;> rfl
theorem meetS_comm (a b : ByteArray) : meetS b a = meetS a b := by
  unfold meetS
  rw [meetB_comm]
  cases okS a <;> cases okS b <;> rfl
theorem andS_comm (a b : ByteArray) : andS b a = andS a b := by
  unfold andS
  rw [meetS_comm]
  cases meetS a b
  · rfl
  · show txt _ _ = txt _ _
    unfold txt
    refine mk6_congr fun i _ => ?_
    show chr (cf b i || cf a i) (vf b i || vf a i) = chr (cf a i || cf b i) (vf a i || vf b i)
    rw [Bool.or_comm (cf b i), Bool.or_comm (vf b i)]
theorem vf_cf {s : ByteArray} (i : Nat) (h : vf s i = true) : cf s i = true := by
  unfold vf at h
  unfold cf
  rw [beq_iff_eq] at h
  rw [h]
  rfl
theorem okS_andS {a b : ByteArray} (h : meetS a b = true) : okS (andS a b) = true := by
  unfold andS
  rw [h]
  exact okS_txt _ _
theorem cf_andS {a b : ByteArray} (h : meetS a b = true) {i : Nat} (hi : i < 6) : cf (andS a b) i = (cf a i || cf b i) := by
  unfold andS
  rw [h]
  exact cf_txt _ _ hi
theorem vf_andS {a b : ByteArray} (h : meetS a b = true) {i : Nat} (hi : i < 6) : vf (andS a b) i = (vf a i || vf b i) := by
  unfold andS
  rw [h]
  show vf (txt _ _) i = _
  rw [vf_txt _ _ hi]
  have h1 := vf_cf (s := a) i
  have h2 := vf_cf (s := b) i
  cases h3 : vf a i
  · cases h4 : vf b i
    · simp
    · rw [h2 h4]; simp
  · rw [h1 h3]; simp
/-- A number is of both, if there is something in common, and it is of that. -/
theorem hasM_and {a b : ByteArray} (ha : okS a = true) (hb : okS b = true) (f : Nat → Bool) :
    (hasM (cf a) (vf a) f && hasM (cf b) (vf b) f) = (meetS a b && hasM (cf (andS a b)) (vf (andS a b)) f) := by
  cases hm : meetS a b
  · have hm' : meetB (cf a) (vf a) (cf b) (vf b) = false := by unfold meetS at hm; rw [ha, hb] at hm; simpa using hm
    obtain ⟨i, hi, he⟩ := all6_not.1 hm'
    rw [Bool.false_and]
    cases h1 : hasM (cf a) (vf a) f
    · rfl
    · cases h2 : hasM (cf b) (vf b) f
      · rfl
      · have e1 := all6_iff.1 h1 i hi
        have e2 := all6_iff.1 h2 i hi
        revert he e1 e2
        cases cf a i <;> cases vf a i <;> cases cf b i <;> cases vf b i <;> cases f i <;> simp
  · rw [Bool.true_and]
    have hm' : meetB (cf a) (vf a) (cf b) (vf b) = true := by unfold meetS at hm; rw [ha, hb] at hm; simpa using hm
    rw [Bool.eq_iff_iff, Bool.and_eq_true]
    unfold hasM
    rw [all6_iff, all6_iff, all6_iff]
    constructor
    · rintro ⟨h1, h2⟩ i hi
      have e1 := h1 i hi
      have e2 := h2 i hi
      rw [cf_andS hm hi, vf_andS hm hi]
      revert e1 e2
      cases cf a i <;> cases vf a i <;> cases cf b i <;> cases vf b i <;> cases f i <;> simp
    · intro h
      have key : ∀ i, i < 6 → ((f i && cf a i) == vf a i) = true ∧ ((f i && cf b i) == vf b i) = true := fun i hi => by
        have e := h i hi
        have em := all6_iff.1 hm' i hi
        have h1 := vf_cf (s := a) i
        have h2 := vf_cf (s := b) i
        rw [cf_andS hm hi, vf_andS hm hi] at e
        revert e em h1 h2
        cases cf a i <;> cases vf a i <;> cases cf b i <;> cases vf b i <;> cases f i <;> simp
      exact ⟨fun i hi => (key i hi).1, fun i hi => (key i hi).2⟩
theorem hasS_and (a b : ByteArray) (ha : okS a = true) (hb : okS b = true) (n : Nat) :
    (hasS a ((n : Int) / 16 % 4) ((n : Int) / 4 % 4) ((n : Int) % 4) && hasS b ((n : Int) / 16 % 4) ((n : Int) / 4 % 4) ((n : Int) % 4))
      = (meetS a b && hasS (andS a b) ((n : Int) / 16 % 4) ((n : Int) / 4 % 4) ((n : Int) % 4)) := by
  rw [hasS_lx, hasS_lx, hasS_lx, ha, hb, Bool.true_and, Bool.true_and, hasM_and ha hb]
  cases hm : meetS a b
  · rfl
  · rw [okS_andS hm]; rfl
theorem andS_size (a b : ByteArray) : (andS a b).size ≤ 6 := by
  unfold andS
  cases meetS a b
  · exact Nat.zero_le _
  · exact Nat.le_refl _

end Go.Proofs.Ytndmedkkecikoaa

namespace Go.Proofs.Ytndmedkkecikoaa
open Go.ChangeShapes Go.WideShapes Go.ChangeAt Go.RowKit Go.Joins
set_option linter.unusedVariables false

/-- How many of the first k. -/
def cntTo (p : Nat → Bool) : Nat → Nat | 0 => 0 | k + 1 => cntTo p k + (p k).toNat
theorem cntTo_le (p : Nat → Bool) : ∀ k, cntTo p k ≤ k
  | 0 => Nat.le_refl _
  | k + 1 => by
    have := cntTo_le p k
    have h1 : (p k).toNat ≤ 1 := by cases p k <;> decide
    simp only [cntTo]
    omega
theorem cntTo_congr {p q : Nat → Bool} : ∀ {k : Nat}, (∀ i, i < k → p i = q i) → cntTo p k = cntTo q k
  | 0, _ => rfl
  | k + 1, h => by
    simp only [cntTo]
    rw [cntTo_congr (k := k) (fun i hi => h i (by omega)), h k (by omega)]
def pk (a b c d e f : Bool × Bool) (k : Nat) : Bool :=
  (bif Nat.testBit k 5 then a.2 else a.1) && ((bif Nat.testBit k 4 then b.2 else b.1) && ((bif Nat.testBit k 3 then c.2 else c.1) && ((bif Nat.testBit k 2 then d.2 else d.1) && ((bif Nat.testBit k 1 then e.2 else e.1) && (bif Nat.testBit k 0 then f.2 else f.1)))))
def trF (t : Fin 3) : Bool × Bool := (t != 1, t != 0)
def xsF (t : Fin 3) : Nat := bif t == 2 then 2 else 1
set_option maxRecDepth 100000 in
theorem cnt_tri : ∀ a b c d e f : Fin 3, cntTo (pk (trF a) (trF b) (trF c) (trF d) (trF e) (trF f)) 64 = xsF a * (xsF b * (xsF c * (xsF d * (xsF e * xsF f)))) := by decide +kernel

theorem kb_fin : ∀ k : Fin 64, kb k.val 0 = Nat.testBit k.val 5 ∧ kb k.val 1 = Nat.testBit k.val 4 ∧ kb k.val 2 = Nat.testBit k.val 3 ∧ kb k.val 3 = Nat.testBit k.val 2 ∧ kb k.val 4 = Nat.testBit k.val 1 ∧ kb k.val 5 = Nat.testBit k.val 0 := by decide +kernel

/-- The sign of a place, as a number. -/
def tS (s : ByteArray) (i : Nat) : Fin 3 := bif byA s i == 48 then 0 else bif byA s i == 49 then 1 else 2
theorem tS_pos {s : ByteArray} (hk : okS s = true) {i : Nat} (hi : i < 6) (b : Bool) : ((b && cf s i) == vf s i) = (bif b then (trF (tS s i)).2 else (trF (tS s i)).1) := by
  rcases okS_sgn hk i hi with e | e | e <;> cases b <;> simp [cf, vf, tS, trF, e]
theorem tS_xs {s : ByteArray} (hk : okS s = true) {i : Nat} (hi : i < 6) : xsF (tS s i) = (bif cf s i then 1 else 2) := by
  rcases okS_sgn hk i hi with e | e | e <;> simp [cf, tS, xsF, e]
theorem hasM_pk {s : ByteArray} (hk : okS s = true) {k : Nat} (h : k < 64) : hasM (cf s) (vf s) (kb k) = pk (trF (tS s 0)) (trF (tS s 1)) (trF (tS s 2)) (trF (tS s 3)) (trF (tS s 4)) (trF (tS s 5)) k := by
  obtain ⟨e0, e1, e2, e3, e4, e5⟩ := kb_fin ⟨k, h⟩
  unfold hasM all6 pk
  simp only at e0 e1 e2 e3 e4 e5
  dsimp only
  rw [e0, e1, e2, e3, e4, e5, tS_pos hk (by omega), tS_pos hk (by omega), tS_pos hk (by omega), tS_pos hk (by omega), tS_pos hk (by omega), tS_pos hk (by omega)]
theorem many_prod (c : Nat → Bool) : manyB c = (((bif c 0 then 1 else 2) * ((bif c 1 then 1 else 2) * ((bif c 2 then 1 else 2) * ((bif c 3 then 1 else 2) * ((bif c 4 then 1 else 2) * (bif c 5 then 1 else 2))))) : Nat) : Int) := by
  unfold manyB cnt6
  cases c 0 <;> cases c 1 <;> cases c 2 <;> cases c 3 <;> cases c 4 <;> cases c 5 <;> rfl
/-- As many heads as counted one by one. -/
theorem cnt_many {s : ByteArray} (hk : okS s = true) : ((cntTo (fun k => hasM (cf s) (vf s) (kb k)) 64 : Nat) : Int) = manyB (cf s) := by
  rw [cntTo_congr (fun k hk' => hasM_pk hk hk'), cnt_tri, many_prod]
  rw [tS_xs hk (by omega), tS_xs hk (by omega), tS_xs hk (by omega), tS_xs hk (by omega), tS_xs hk (by omega), tS_xs hk (by omega)]
theorem manyB_pos (c : Nat → Bool) : 1 ≤ manyB c ∧ manyB c ≤ 64 := by
  rw [many_prod]
  cases c 0 <;> cases c 1 <;> cases c 2 <;> cases c 3 <;> cases c 4 <;> cases c 5 <;> decide

end Go.Proofs.Ytndmedkkecikoaa

namespace Go.Proofs.Ytndmedkkecikoaa
open Go.ChangeShapes Go.WideShapes Go.ChangeAt Go.RowKit Go.Joins
set_option linter.unusedVariables false

theorem meetS_parts {a b : ByteArray} (h : meetS a b = true) : okS a = true ∧ okS b = true ∧ meetB (cf a) (vf a) (cf b) (vf b) = true := by
  unfold meetS at h
  simp only [Bool.and_eq_true] at h
  exact h
theorem meetS_mk {a b : ByteArray} (ha : okS a = true) (hb : okS b = true) (h : meetB (cf a) (vf a) (cf b) (vf b) = true) : meetS a b = true := by
  unfold meetS
  rw [ha, hb, h]
  rfl
theorem andS_yes {a b : ByteArray} (h : meetS a b = true) : andS a b = txt (fun i => cf a i || cf b i) (fun i => vf a i || vf b i) := by unfold andS; rw [h]; rfl
theorem txt_congr {c v c' v' : Nat → Bool} (h : ∀ i, i < 6 → c i = c' i ∧ v i = v' i) : txt c v = txt c' v' := mk6_congr fun i hi => by rw [(h i hi).1, (h i hi).2]

/-- Of three patterns. -/
theorem and_three {a b c : ByteArray} (h1 : meetS a b = true) (h2 : meetS (andS a b) c = true) : meetS b c = true ∧ meetS a (andS b c) = true ∧ andS a (andS b c) = andS (andS a b) c := by
  obtain ⟨ha, hb, hm⟩ := meetS_parts h1
  obtain ⟨hab, hc, hm2⟩ := meetS_parts h2
  have key : ∀ i, i < 6 → (!((vf b i ^^ vf c i) && cf b i && cf c i)) = true ∧ (!((vf a i ^^ (vf b i || vf c i)) && cf a i && (cf b i || cf c i))) = true := fun i hi => by
    have e1 := all6_iff.1 hm i hi
    have e2 := all6_iff.1 hm2 i hi
    rw [cf_andS h1 hi, vf_andS h1 hi] at e2
    have ua := vf_cf (s := a) i
    have ub := vf_cf (s := b) i
    have uc := vf_cf (s := c) i
    revert e1 e2 ua ub uc
    cases cf a i <;> cases vf a i <;> cases cf b i <;> cases vf b i <;> cases cf c i <;> cases vf c i <;> simp
  have m1 : meetS b c = true := meetS_mk hb hc (all6_iff.2 fun i hi => (key i hi).1)
  have m2 : meetS a (andS b c) = true := meetS_mk ha (okS_andS m1) (all6_iff.2 fun i hi => by
    rw [cf_andS m1 hi, vf_andS m1 hi]
    exact (key i hi).2)
  refine ⟨m1, m2, ?_⟩
  rw [andS_yes m2, andS_yes h2]
  refine txt_congr fun i hi => ?_
  rw [cf_andS m1 hi, vf_andS m1 hi, cf_andS h1 hi, vf_andS h1 hi]
  exact ⟨(Bool.or_assoc _ _ _).symm, (Bool.or_assoc _ _ _).symm⟩
/-- A pattern with itself. -/
theorem and_self {a : ByteArray} (ha : okS a = true) : meetS a a = true ∧ andS a a = a := by
  have m : meetS a a = true := meetS_mk ha ha (all6_iff.2 fun i hi => by cases vf a i <;> rfl)
  refine ⟨m, ?_⟩
  rw [andS_yes m]
  have := txt_back ha
  rw [← this]
  refine txt_congr fun i hi => ?_
  rw [this]
  exact ⟨Bool.or_self _, Bool.or_self _⟩

/-! ### All of the first k -/

def preTo (P : Nat → Bool) : Nat → Bool | 0 => true | k + 1 => preTo P k && P k
theorem preTo_iff (P : Nat → Bool) : ∀ k, preTo P k = true ↔ ∀ i, i < k → P i = true
  | 0 => ⟨fun _ i hi => by omega, fun _ => rfl⟩
  | k + 1 => by
    simp only [preTo, Bool.and_eq_true, preTo_iff P k]
    constructor
    · rintro ⟨h1, h2⟩ i hi
      rcases Nat.lt_or_ge i k with h | h
      · exact h1 i h
      · obtain rfl : i = k := by omega
        exact h2
    · intro h
      exact ⟨fun i hi => h i (by omega), h k (by omega)⟩
/-- Of some number are any six bits. -/
theorem bits_num (f : Nat → Bool) : ∃ k, k < 64 ∧ ∀ i, i < 6 → kb k i = f i := by
  refine ⟨(ofB f).toNat, by have := ofB_bound f; omega, fun i hi => ?_⟩
  have hn : (ofB f).toNat < 64 := by have := ofB_bound f; omega
  have key : ∀ a b c d e g : Bool, kb (of6 a b c d e g).toNat 0 = a ∧ kb (of6 a b c d e g).toNat 1 = b ∧ kb (of6 a b c d e g).toNat 2 = c ∧ kb (of6 a b c d e g).toNat 3 = d ∧ kb (of6 a b c d e g).toNat 4 = e ∧ kb (of6 a b c d e g).toNat 5 = g := by decide +kernel
  obtain ⟨h0, h1, h2, h3, h4, h5⟩ := key (f 0) (f 1) (f 2) (f 3) (f 4) (f 5)
  match i, hi with
  | 0, _ => exact h0
  | 1, _ => exact h1
  | 2, _ => exact h2
  | 3, _ => exact h3
  | 4, _ => exact h4
  | 5, _ => exact h5
theorem hasM_congr (c v : Nat → Bool) {f g : Nat → Bool} (h : ∀ i, i < 6 → f i = g i) : hasM c v f = hasM c v g := all6_congr fun i hi => by rw [h i hi]
/-- One in another, if all its heads are. -/
theorem in_all {a b : ByteArray} (ha : okS a = true) (hb : okS b = true) : inM (cf a) (vf a) (cf b) (vf b) = preTo (fun k => !hasM (cf a) (vf a) (kb k) || hasM (cf b) (vf b) (kb k)) 64 := by
  cases hi : inM (cf a) (vf a) (cf b) (vf b)
  · symm
    cases hp : preTo (fun k => !hasM (cf a) (vf a) (kb k) || hasM (cf b) (vf b) (kb k)) 64
    · rfl
    exfalso
    rw [preTo_iff] at hp
    have hpos : ∃ i, i < 6 ∧ (!(cf b i && !cf a i) && !((vf a i ^^ vf b i) && cf a i && cf b i)) = false := by
      unfold inM meetB at hi
      rw [Bool.and_eq_false_iff] at hi
      rcases hi with h | h
      · obtain ⟨i, hi, he⟩ := all6_not.1 h
        exact ⟨i, hi, by rw [he]; rfl⟩
      · obtain ⟨i, hi, he⟩ := all6_not.1 h
        exact ⟨i, hi, by rw [he]; simp⟩
    obtain ⟨i, hi6, he⟩ := hpos
    -- a head of a that is not of b
    obtain ⟨k, hk, hkf⟩ := bits_num (fun j => bif cf a j then vf a j else !(vf b j))
    have h := hp k hk
    rw [hasM_congr _ _ hkf, hasM_congr _ _ hkf] at h
    have h1 : hasM (cf a) (vf a) (fun j => bif cf a j then vf a j else !(vf b j)) = true := all6_iff.2 fun j hj => by
      have := vf_cf (s := a) j
      show (((bif cf a j then vf a j else !(vf b j)) && cf a j) == vf a j) = true
      revert this
      cases cf a j <;> cases vf a j <;> cases vf b j <;> simp
    have h2 : hasM (cf b) (vf b) (fun j => bif cf a j then vf a j else !(vf b j)) = false := all6_not.2 ⟨i, hi6, by
      have u1 := vf_cf (s := a) i
      have u2 := vf_cf (s := b) i
      show (((bif cf a i then vf a i else !(vf b i)) && cf b i) == vf b i) = false
      revert he u1 u2
      cases cf a i <;> cases vf a i <;> cases cf b i <;> cases vf b i <;> simp⟩
    rw [h1, h2] at h
    cases h
  · symm
    rw [preTo_iff]
    intro k hk
    unfold inM meetB at hi
    rw [Bool.and_eq_true] at hi
    cases h1 : hasM (cf a) (vf a) (kb k)
    · rfl
    · show hasM (cf b) (vf b) (kb k) = true
      refine all6_iff.2 fun i hi6 => ?_
      have e1 := all6_iff.1 hi.1 i hi6
      have e2 := all6_iff.1 hi.2 i hi6
      have e3 := all6_iff.1 h1 i hi6
      have u1 := vf_cf (s := a) i
      have u2 := vf_cf (s := b) i
      revert e1 e2 e3 u1 u2
      cases cf a i <;> cases vf a i <;> cases cf b i <;> cases vf b i <;> cases kb k i <;> simp
theorem in_both {a b : ByteArray} (ha : okS a = true) (hb : okS b = true) : (inS a b && inS b a) = (a.toList == b.toList) := by
  unfold inS
  rw [ha, hb, Bool.true_and, Bool.true_and, Bool.true_and, Bool.true_and, Bool.eq_iff_iff, Bool.and_eq_true, beq_iff_eq]
  constructor
  · rintro ⟨h1, h2⟩
    unfold inM meetB at h1 h2
    rw [Bool.and_eq_true] at h1 h2
    have : a = b := by
      rw [← txt_back ha, ← txt_back hb]
      refine txt_congr fun i hi => ?_
      have e1 := all6_iff.1 h1.1 i hi
      have e2 := all6_iff.1 h1.2 i hi
      have e3 := all6_iff.1 h2.1 i hi
      have u1 := vf_cf (s := a) i
      have u2 := vf_cf (s := b) i
      revert e1 e2 e3 u1 u2
      cases cf a i <;> cases vf a i <;> cases cf b i <;> cases vf b i <;> simp
    rw [this]
  · intro h
    have : a = b := by
      apply ByteArray.ext
      rw [ByteArray.toList_eq, ByteArray.toList_eq] at h
      exact Array.toList_inj.1 h
    subst this
    have : inM (cf a) (vf a) (cf a) (vf a) = true := by
      unfold inM meetB
      rw [all6_iff.2 fun i hi => by cases cf a i <;> rfl, all6_iff.2 fun i hi => by cases vf a i <;> rfl]
      rfl
    exact ⟨this, this⟩
theorem in_allX {a : ByteArray} (ha : okS a = true) : inS a ⟨#[120, 120, 120, 120, 120, 120]⟩ = true := by
  unfold inS
  rw [ha, show okS ⟨#[120, 120, 120, 120, 120, 120]⟩ = true from by decide, Bool.true_and, Bool.true_and]
  have hc : ∀ i, i < 6 → cf ⟨#[120, 120, 120, 120, 120, 120]⟩ i = false := fun i hi => by
    match i, hi with
    | 0, _ | 1, _ | 2, _ | 3, _ | 4, _ | 5, _ => rfl
  unfold inM meetB
  rw [all6_iff.2 fun i hi => by rw [hc i hi]; rfl, all6_iff.2 fun i hi => by rw [hc i hi]; simp]
  rfl

end Go.Proofs.Ytndmedkkecikoaa

namespace Go.Proofs.Ytndmedkkecikoaa
open Go.ChangeShapes Go.WideShapes Go.ChangeAt Go.RowKit Go.Joins
set_option linter.unusedVariables false

theorem byA_app (s t : ByteArray) (i : Nat) : byA (s ++ t) i = if i < s.size then byA s i else byA t (i - s.size) := by
  unfold byA
  rw [ByteArray.data_append]
  simp only [Array.getD_eq_getD_getElem?]
  by_cases h : i < s.data.size
  · rw [Array.getElem?_append_left h, if_pos (show i < s.size from h)]
  · rw [Array.getElem?_append_right (by omega), if_neg (show ¬ i < s.size from h)]
    rfl
theorem byA_ext (s : ByteArray) (a b i : Nat) (hb : b ≤ s.size) (hi : a + i < b) : byA (s.extract a b) i = byA s (a + i) := by
  unfold byA
  rw [ByteArray.data_extract]
  simp only [Array.getD_eq_getD_getElem?]
  rw [Array.getElem?_extract, if_pos (by have : b ≤ s.data.size := hb; omega)]
theorem preS_byA (k : Nat) (f : Nat → UInt8) {i : Nat} (h : i < k) : byA (preS k f) i = f i := by
  unfold byA preS
  simp [h]

/-- The other sign. -/
def othC (b : UInt8) : UInt8 := bif b == 48 then 49 else 48
/-- A piece, byte by byte. -/
theorem piece_text {a b : ByteArray} (ha : okS a = true) (hb : okS b = true) (hm : meetB (cf a) (vf a) (cf b) (vf b) = true) {k : Nat} (hk : k < 6) (hs : selB (cf a) (cf b) k = true) :
    preS k (fun i => andC (byA a i) (byA b i)) ++ ⟨#[othC (byA b k)]⟩ ++ a.extract (k + 1) 6 = txt (pcB (cf a) (cf b) k) (pvB (cf a) (vf a) (vf b) k) := by
  have ha6 := okS_size ha
  have z1 : (preS k (fun i => andC (byA a i) (byA b i)) ++ ⟨#[othC (byA b k)]⟩).size = k + 1 := by rw [ByteArray.size_append, preS_size]; rfl
  have z2 : (a.extract (k + 1) 6).size = 5 - k := by simp; omega
  have z : (preS k (fun i => andC (byA a i) (byA b i)) ++ ⟨#[othC (byA b k)]⟩ ++ a.extract (k + 1) 6).size = 6 := by rw [ByteArray.size_append, z1, z2]; omega
  rw [← mk6_back z]
  unfold txt
  rw [meet_pos ha hb] at hm
  refine mk6_congr fun i hi => ?_
  rw [byA_app, z1]
  have hmi := all6_iff.1 hm i hi
  by_cases h1 : i < k + 1
  · rw [if_pos h1, byA_app, preS_size]
    by_cases h2 : i < k
    · rw [if_pos h2, preS_byA _ _ h2]
      have e1 : (i == k) = false := by simp; omega
      simp only [pcB, pvB, ckB, vkB, e1, h2, decide_true, Bool.true_and, Bool.or_false, Bool.not_false, Bool.and_true, Bool.and_false]
      rcases okS_sgn ha i hi with e | e | e <;> rcases okS_sgn hb i hi with e' | e' | e' <;> simp [cf, vf, metC, andC, chr, e, e'] at hmi ⊢
    · obtain rfl : i = k := by omega
      rw [if_neg h2, Nat.sub_self]
      show othC (byA b i) = _
      unfold selB at hs
      simp only [pcB, pvB, beq_self_eq_true, Bool.or_true, Bool.not_true, Bool.and_false, Bool.false_or, Bool.and_true]
      rcases okS_sgn ha i hi with e | e | e <;> rcases okS_sgn hb i hi with e' | e' | e' <;> simp [cf, vf, othC, chr, e, e'] at hs ⊢
  · rw [if_neg h1, byA_ext _ _ _ _ (by omega) (by omega), show k + 1 + (i - (k + 1)) = i from by omega]
    have e1 : (i == k) = false := by simp; omega
    have e2 : decide (i < k) = false := by simp; omega
    simp only [pcB, pvB, ckB, vkB, e1, e2, Bool.false_and, Bool.or_false, Bool.not_false, Bool.and_true, Bool.and_false]
    rcases okS_sgn ha i hi with e | e | e <;> simp [cf, vf, chr, e]
theorem pieces_step (ca va cb vb : Nat → Bool) (k : Nat) (h : selB ca cb k = true) : textsOf (piecesTo ca va cb vb (k + 1)) = textsOf (piecesTo ca va cb vb k) ++ [txt (pcB ca cb k) (pvB ca va vb k)] := by
  simp [piecesTo, h, textsOf]
theorem pieces_stay (ca va cb vb : Nat → Bool) (k : Nat) (h : selB ca cb k = false) : textsOf (piecesTo ca va cb vb (k + 1)) = textsOf (piecesTo ca va cb vb k) := by
  simp [piecesTo, h]
theorem texts_len (ca va cb vb : Nat → Bool) (k : Nat) : (textsOf (piecesTo ca va cb vb k)).length ≤ k := by
  unfold textsOf
  rw [List.length_map]
  exact pieces_len _ _ _ _ _

set_option maxRecDepth 100000 in
set_option maxHeartbeats 4000000 in
theorem sWildLess_meet (a b : ByteArray) (hka : okS a = true) (hkb : okS b = true) (hm : meetS a b = true) (w : World) :
    Calls Try.prog 45 #[.string a, .string b] w fun e w' => ∃ v, e = .returned v ∧ StrRow w' w.heap.size v (textsOf (piecesTo (cf a) (vf a) (cf b) (vf b) 6)) ∧ Below w.heap.size w w' := by
  have ha6 : a.size = 6 := okS_size hka
  have hb6 : b.size = 6 := okS_size hkb
  have hmb : meetB (cf a) (vf a) (cf b) (vf b) = true := by unfold meetS at hm; rw [hka, hkb] at hm; simpa using hm
  have HL := Lib.hid (l2And_any a b hka hkb)
  rw [show andS a b = mk6 (fun i => andC (byA a i) (byA b i)) from by unfold andS; rw [hm]; exact and_pos hka hkb hmb] at HL
  have hml := mk6_list (fun i => andC (byA a i) (byA b i))
  have HP := Lib.hid (fun k (hk : k < 6) hs => piece_text hka hkb hmb hk hs)
  have HS := Lib.hid (fun k hs => pieces_step (cf a) (vf a) (cf b) (vf b) k hs)
  have HT := Lib.hid (fun k hs => pieces_stay (cf a) (vf a) (cf b) (vf b) k hs)
  have HN := Lib.hid (fun k => texts_len (cf a) (vf a) (cf b) (vf b) k)
  have HQ : Hid (∀ k, k < 6 → selB (cf a) (cf b) k = ((byA a k == 120) && !(byA b k == 120))) := fun k hk => by
    unfold selB cf
    cases byA a k == 120 <;> cases byA b k == 120 <;> rfl
  have HGB : Hid (∀ k, k < 6 → byA b k = 48 ∨ byA b k = 49 ∨ byA b k = 120) := fun k hk => okS_sgn hkb k hk
  obtain ⟨i0, hi, hz0, hz1, hz2⟩ := info_parts infoStr
  have HI := Lib.hid hi
  have HZ0 := Lib.hid hz0
  have HZ1 := Lib.hid hz1
  have HZ2 := Lib.hid hz2
  clear hi hz0 hz1 hz2 hm hmb
  generalize hf : (fun i => andC (byA a i) (byA b i)) = f at *
  have HF : Hid (∀ i, f i = andC (byA a i) (byA b i)) := fun i => by rw [← hf]
  clear hf
  go_enter Try.func45, Try.ntmps45
  go_wp2_with fail
  refine (sWildOk_any a (by omega) _).mono ?_
  rintro e w' ⟨rfl, rfl⟩
  rw [hka]
  go_wp2_with fail
  refine (sWildOk_any b (by omega) _).mono ?_
  rintro e w' ⟨rfl, rfl⟩
  rw [hkb]
  go_wp2_with fail
  refine (HL.out _).mono ?_
  rintro e w1 ⟨rfl, b1⟩
  have s1 := b1.size
  simp at s1
  have HO1 : Hid (w1.ownsRow w.heap.size 9 1 (.slice (some ⟨w.heap.size, 0, none⟩) 0 0) 0 []) := ownsBelow (World.ownsRow_made w #[] 0 (Nat.le_refl _) (Nat.zero_le _) rfl) b1
  have B1 : Hid (Below w.heap.size w w1) := (below_alloc1 _ _).trans (b1.mono (by simp))
  clear b1
  go_wp2
  go_loopw [5, 6, 7] (fun o h i wr => ∃ k : Nat, k ≤ 6 ∧ i = .int .i64 k ∧ h = .string (preS k f) ∧ wr.ownsRow w.heap.size 9 1 o (textsOf (piecesTo (cf a) (vf a) (cf b) (vf b) k)).length ((textsOf (piecesTo (cf a) (vf a) (cf b) (vf b) k)).map Value.string) ∧ w.heap.size ≤ wr.heap.size ∧ Below w.heap.size w wr) (fun _ _ i _ => 6 - (intOf i).toNat)
  case atStart => exact ⟨0, Nat.zero_le _, rfl, rfl, HO1.out, by omega, B1.out⟩
  case round =>
    clear HO1 B1 hml
    obtain ⟨k, hk, rfl, rfl, hown, hsz, hbel⟩ := hrel
    have HO := Lib.hid hown
    clear hown
    have hps := preS_size k f
    have hs1 : ∀ c : UInt8, (⟨#[c]⟩ : ByteArray).size = 1 := fun _ => rfl
    have hnk := HN.out k
    by_cases hlt : k < 6
    · have ga : (a[k]'(by omega)) = byA a k := byA_get _
      have gb : (b[k]'(by omega)) = byA b k := byA_get _
      have hza : (k : Int) < (a.size : Int) := by omega
      have hzb : (k : Int) < (b.size : Int) := by omega
      have hsa := slice_one (s := a) (k := k) (by omega)
      have hsb := slice_one (s := b) (k := k) (by omega)
      have z3 : (a.extract (k + 1) 6).size = 5 - k := by simp; omega
      have f3 : ∀ W : World, (Instr.slice 9 (.string a) (some (.int .i64 ((k : Int) + 1))) none none).run Try.prog W = .ok (.string (a.extract (k + 1) 6)) W := fun W => by
        rw [run_slice_string_from_if (P := Try.prog) W 9 a .i64 ((k : Int) + 1) Try.underlying9]
        have e1 : ((k : Int) + 1).toNat = k + 1 := by omega
        have e2 : (0 : Int) ≤ (k : Int) + 1 ∧ (k : Int) + 1 ≤ 6 := by omega
        simp [ha6, e1, e2]
      by_cases ea : byA a k = 120
      · rcases HGB.out k hlt with eb | eb | eb
        · -- the sign of the second is 48
          have hsel : Hid (selB (cf a) (cf b) k = true) := by show _ = _; rw [HQ.out k hlt, ea, eb]; rfl
          have HPK := Lib.hid (HP.out k hlt hsel.out)
          have HSK := Lib.hid (HS.out k hsel.out)
          rw [eb] at HPK
          rw [show othC 48 = 49 from rfl] at HPK
          have hst := Lib.hid (preS_one k f (byA b k) (by rw [HF.out, ea]; rfl))
          rw [ea] at ga
          rw [eb] at gb hsb hst
          generalize txt (pcB (cf a) (cf b) k) (pvB (cf a) (vf a) (vf b) k) = t at *
          go_wp2_with (at_builtin; refine wpList_append_own _ rfl _ _ 23 rfl w.heap.size 9 i0 (.string ⟨#[]⟩) 1 16 Try.underlying23 HI.out HZ0.out HZ1.out HZ2.out rfl (by decide) _ _ _ rfl (HO.out.alloc _) ⟨wr.heap.size, 0, none⟩ 1 1 [.string (preS k f ++ ⟨#[49]⟩ ++ a.extract (k + 1) 6)] rfl rfl ?c1 ?c2 ?c3 ?c4 ?c5 ?_)
          case c1 =>
            intro j u hj
            match j, hj with
            | 0, hj => simp at hj; subst hj; simp [Addr.add]
          case c2 => intro u hu; simp at hu; subst hu; rfl
          case c3 => unfold maxLen; omega
          case c4 => omega
          case c5 => simp; omega
          intro v' w5 hown5 hg5 _
          have s5 := hg5.size
          simp at s5
          have B5 : Hid (Below w.heap.size w w5) := (hbel.alloc hsz _).trans (grownBelow (HO.out.alloc _) hg5 (by simp; omega))
          have HO5 : Hid (w5.ownsRow w.heap.size 9 1 v' (textsOf (piecesTo (cf a) (vf a) (cf b) (vf b) (k + 1))).length ((textsOf (piecesTo (cf a) (vf a) (cf b) (vf b) (k + 1))).map Value.string)) := by
            show w5.ownsRow _ _ _ _ _ _
            rw [HSK.out, List.map_append, List.length_append, ← HPK.out]
            exact hown5
          clear hown5 hg5 HO hbel
          go_wp2
          go_roundw
          case rel => exact ⟨k + 1, by omega, by go_num, by rw [hst.out], HO5.out, by omega, B5.out⟩
          case measure => simp [intOf]; omega
        · -- the sign of the second is 49
          have hsel : Hid (selB (cf a) (cf b) k = true) := by show _ = _; rw [HQ.out k hlt, ea, eb]; rfl
          have HPK := Lib.hid (HP.out k hlt hsel.out)
          have HSK := Lib.hid (HS.out k hsel.out)
          rw [eb] at HPK
          rw [show othC 49 = 48 from rfl] at HPK
          have hst := Lib.hid (preS_one k f (byA b k) (by rw [HF.out, ea]; rfl))
          rw [ea] at ga
          rw [eb] at gb hsb hst
          generalize txt (pcB (cf a) (cf b) k) (pvB (cf a) (vf a) (vf b) k) = t at *
          go_wp2_with (at_builtin; refine wpList_append_own _ rfl _ _ 23 rfl w.heap.size 9 i0 (.string ⟨#[]⟩) 1 16 Try.underlying23 HI.out HZ0.out HZ1.out HZ2.out rfl (by decide) _ _ _ rfl (HO.out.alloc _) ⟨wr.heap.size, 0, none⟩ 1 1 [.string (preS k f ++ ⟨#[48]⟩ ++ a.extract (k + 1) 6)] rfl rfl ?c1 ?c2 ?c3 ?c4 ?c5 ?_)
          case c1 =>
            intro j u hj
            match j, hj with
            | 0, hj => simp at hj; subst hj; simp [Addr.add]
          case c2 => intro u hu; simp at hu; subst hu; rfl
          case c3 => unfold maxLen; omega
          case c4 => omega
          case c5 => simp; omega
          intro v' w5 hown5 hg5 _
          have s5 := hg5.size
          simp at s5
          have B5 : Hid (Below w.heap.size w w5) := (hbel.alloc hsz _).trans (grownBelow (HO.out.alloc _) hg5 (by simp; omega))
          have HO5 : Hid (w5.ownsRow w.heap.size 9 1 v' (textsOf (piecesTo (cf a) (vf a) (cf b) (vf b) (k + 1))).length ((textsOf (piecesTo (cf a) (vf a) (cf b) (vf b) (k + 1))).map Value.string)) := by
            show w5.ownsRow _ _ _ _ _ _
            rw [HSK.out, List.map_append, List.length_append, ← HPK.out]
            exact hown5
          clear hown5 hg5 HO hbel
          go_wp2
          go_roundw
          case rel => exact ⟨k + 1, by omega, by go_num, by rw [hst.out], HO5.out, by omega, B5.out⟩
          case measure => simp [intOf]; omega
        · -- both are x
          have hsel : Hid (selB (cf a) (cf b) k = false) := by show _ = _; rw [HQ.out k hlt, ea, eb]; rfl
          have HTK := Lib.hid (HT.out k hsel.out)
          have hst := Lib.hid (preS_one k f (byA a k) (by rw [HF.out, ea, eb]; rfl))
          rw [ea] at ga hsa hst
          rw [eb] at gb
          go_wp2
          go_roundw
          case rel => exact ⟨k + 1, by omega, by go_num, by rw [hst.out], by rw [HTK.out]; exact HO.out, hsz, hbel⟩
          case measure => simp [intOf]; omega
      · have na := (byte_ne 120 120 rfl (by omega) ea).1
        have ea' : (byA a k == 120) = false := by simpa using ea
        have hsel : Hid (selB (cf a) (cf b) k = false) := by show _ = _; rw [HQ.out k hlt, ea']; rfl
        have HTK := Lib.hid (HT.out k hsel.out)
        have hst := Lib.hid (preS_one k f (byA a k) (by rw [HF.out]; unfold andC; rw [ea']; rfl))
        clear ea ea'
        go_wp2
        go_roundw
        case rel => exact ⟨k + 1, by omega, by go_num, by rw [hst.out], by rw [HTK.out]; exact HO.out, hsz, hbel⟩
        case measure => simp [intOf]; omega
    · obtain rfl : k = 6 := by omega
      go_wp2
      go_ret
      exact ⟨_, rfl, HO.out, hbel⟩

set_option maxRecDepth 100000 in
set_option maxHeartbeats 4000000 in
theorem sWildLess_any (a b : ByteArray) (ha : a.size ≤ 1048576) (hb : b.size ≤ 1048576) (w : World) :
    Calls Try.prog 45 #[.string a, .string b] w fun e w' => ∃ v, e = .returned v ∧ StrRow w' w.heap.size v (lessL a b) ∧ Below w.heap.size w w' := by
  have HO := Lib.hid (World.ownsRow_made (e := 9) (size := 1) w #[] 0 (Nat.le_refl _) (Nat.zero_le _) rfl)
  cases hka : okS a
  · rw [show lessL a b = [] from by unfold lessL; rw [hka]; rfl]
    go_enter Try.func45, Try.ntmps45
    go_wp2_with (go_at_call 46; refine (sWildOk_any _ ha _).mono ?_; rintro e w' ⟨rfl, rfl⟩; rw [hka])
    go_ret
    exact ⟨_, rfl, HO.out, below_alloc1 _ _⟩
  · cases hkb : okS b
    · rw [show lessL a b = [] from by unfold lessL; rw [hka, hkb]; rfl]
      go_enter Try.func45, Try.ntmps45
      go_wp2_with fail
      refine (sWildOk_any _ ha _).mono ?_
      rintro e w' ⟨rfl, rfl⟩
      rw [hka]
      go_wp2_with fail
      refine (sWildOk_any _ hb _).mono ?_
      rintro e w' ⟨rfl, rfl⟩
      rw [hkb]
      go_wp2
      go_ret
      exact ⟨_, rfl, HO.out, below_alloc1 _ _⟩
    · cases hm : meetS a b
      · rw [show lessL a b = [a] from by unfold lessL; rw [hka, hkb, hm]; rfl]
        have HL := Lib.hid (l2And_any a b hka hkb)
        rw [show andS a b = ⟨#[]⟩ from by unfold andS; rw [hm]; rfl] at HL
        obtain ⟨i0, hi, hz0, hz1, hz2⟩ := info_parts infoStr
        have HI := Lib.hid hi
        have HZ0 := Lib.hid hz0
        have HZ1 := Lib.hid hz1
        have HZ2 := Lib.hid hz2
        clear hi hz0 hz1 hz2
        go_enter Try.func45, Try.ntmps45
        go_wp2_with fail
        refine (sWildOk_any _ ha _).mono ?_
        rintro e w' ⟨rfl, rfl⟩
        rw [hka]
        go_wp2_with fail
        refine (sWildOk_any _ hb _).mono ?_
        rintro e w' ⟨rfl, rfl⟩
        rw [hkb]
        go_wp2_with fail
        refine (HL.out _).mono ?_
        rintro e w1 ⟨rfl, b1⟩
        have s1 := b1.size
        simp at s1
        have HO1 : Hid (w1.ownsRow w.heap.size 9 1 (.slice (some ⟨w.heap.size, 0, none⟩) 0 0) 0 []) := ownsBelow HO.out b1
        have B1 : Hid (Below w.heap.size w w1) := (below_alloc1 _ _).trans (b1.mono (by simp))
        clear b1
        go_wp2_with (at_builtin; refine wpList_append_own _ rfl _ _ 23 rfl w.heap.size 9 i0 (.string ⟨#[]⟩) 1 16 Try.underlying23 HI.out HZ0.out HZ1.out HZ2.out rfl (by decide) _ _ _ rfl (HO1.out.alloc _) ⟨w1.heap.size, 0, none⟩ 1 1 [.string a] rfl rfl ?c1 ?c2 ?c3 ?c4 ?c5 ?_)
        case c1 =>
          intro j u hj
          match j, hj with
          | 0, hj => simp at hj; subst hj; simp [Addr.add]
        case c2 => intro u hu; simp at hu; subst hu; rfl
        case c3 => unfold maxLen; omega
        case c4 => omega
        case c5 => simp; omega
        intro v' w5 hown5 hg5 _
        have B5 : Hid (Below w.heap.size w w5) := (B1.out.alloc (by omega) _).trans (grownBelow (HO1.out.alloc _) hg5 (by simp; omega))
        have HO5 : Hid (StrRow w5 w.heap.size v' [a]) := hown5
        clear hown5 hg5
        go_wp2
        go_ret
        exact ⟨_, rfl, HO5.out, B5.out⟩
      · rw [show lessL a b = textsOf (piecesTo (cf a) (vf a) (cf b) (vf b) 6) from by unfold lessL; rw [hka, hkb, hm]; rfl]
        exact sWildLess_meet a b hka hkb hm w

end Go.Proofs.Ytndmedkkecikoaa

namespace Go.Proofs.Ytndmedkkecikoaa
open Go.ChangeShapes Go.WideShapes Go.ChangeAt Go.RowKit Go.Joins
set_option linter.unusedVariables false

/-- One place is set. -/
theorem hasM_set {c v c' v' : Nat → Bool} {k : Nat} {q : Bool} (hk : k < 6) (f : Nat → Bool) (hc : c k = false) (hv : v k = false)
    (h : ∀ i, i < 6 → i ≠ k → c' i = c i ∧ v' i = v i) (hc' : c' k = true) (hv' : v' k = q) : hasM c' v' f = (hasM c v f && (f k == q)) := by
  rw [Bool.eq_iff_iff, Bool.and_eq_true]
  unfold hasM
  rw [all6_iff, all6_iff]
  constructor
  · intro hh
    refine ⟨fun i hi => ?_, ?_⟩
    · by_cases e : i = k
      · subst e; rw [hc, hv]; simp
      · have := hh i hi
        rw [(h i hi e).1, (h i hi e).2] at this
        exact this
    · have := hh k hk
      rw [hc', hv', Bool.and_true] at this
      exact this
  · rintro ⟨h1, h2⟩ i hi
    by_cases e : i = k
    · subst e; rw [hc', hv', Bool.and_true]; exact h2
    · rw [(h i hi e).1, (h i hi e).2]; exact h1 i hi
theorem hasM_eq {c v c' v' : Nat → Bool} (f : Nat → Bool) (h : ∀ i, i < 6 → c' i = c i ∧ v' i = v i) : hasM c' v' f = hasM c v f := all6_congr fun i hi => by rw [(h i hi).1, (h i hi).2]
theorem ck_ne {ca cb : Nat → Bool} {k i : Nat} (e : i ≠ k) : ckB ca cb (k + 1) i = ckB ca cb k i := by
  have : (i < k + 1) = (i < k) := by apply propext; omega
  simp [ckB, this]
theorem vk_ne {ca va vb : Nat → Bool} {k i : Nat} (e : i ≠ k) : vkB ca va vb (k + 1) i = vkB ca va vb k i := by
  have : (i < k + 1) = (i < k) := by apply propext; omega
  simp [vkB, this]
theorem sel_parts {ca cb : Nat → Bool} {k : Nat} (h : selB ca cb k = true) : ca k = false ∧ cb k = true := by
  unfold selB at h
  revert h
  cases ca k <;> cases cb k <;> simp

/-- How many pieces of the first k places a number is of. -/
def cntP (l : List ((Nat → Bool) × (Nat → Bool))) (f : Nat → Bool) : Nat := (l.map fun p => (hasM p.1 p.2 f).toNat).sum
theorem cntP_step {ca va cb vb : Nat → Bool} (hv : ∀ i, vb i = true → cb i = true) (f : Nat → Bool) : ∀ k, k ≤ 6 → cntP (piecesTo ca va cb vb k) f + (hasM (ckB ca cb k) (vkB ca va vb k) f).toNat = (hasM (ckB ca cb 0) (vkB ca va vb 0) f).toNat
  | 0, _ => by simp [cntP, piecesTo]
  | k + 1, hk => by
    have ih := cntP_step (ca := ca) (va := va) hv f k (by omega)
    cases hs : selB ca cb k
    · have e : hasM (ckB ca cb (k + 1)) (vkB ca va vb (k + 1)) f = hasM (ckB ca cb k) (vkB ca va vb k) f := hasM_eq f fun i hi => by
        by_cases e : i = k
        · subst e
          have hv := hv i
          unfold selB at hs
          revert hs hv
          simp only [ckB, vkB]
          cases ca i <;> cases cb i <;> cases vb i <;> simp
        · exact ⟨ck_ne e, vk_ne e⟩
      rw [e]
      simpa [piecesTo, hs] using ih
    · obtain ⟨h1, h2⟩ := sel_parts hs
      have c0 : ckB ca cb k k = false := by simp [ckB, h1]
      have v0 : vkB ca va vb k k = false := by simp [vkB, h1]
      have e1 := hasM_set (c := ckB ca cb k) (v := vkB ca va vb k) (c' := ckB ca cb (k + 1)) (v' := vkB ca va vb (k + 1)) (k := k) (q := vb k) (by omega) f c0 v0 (fun i _ e => ⟨ck_ne e, vk_ne e⟩) (by simp [ckB, h2]) (by simp [vkB, h1])
      have e2 := hasM_set (c := ckB ca cb k) (v := vkB ca va vb k) (c' := pcB ca cb k) (v' := pvB ca va vb k) (k := k) (q := !vb k) (by omega) f c0 v0
        (fun i _ e => by have e' : (i == k) = false := by simpa using e
                         simp [pcB, pvB, e']) (by simp [pcB]) (by simp [pvB])
      have e3 : cntP (piecesTo ca va cb vb (k + 1)) f = cntP (piecesTo ca va cb vb k) f + (hasM (pcB ca cb k) (pvB ca va vb k) f).toNat := by simp [piecesTo, hs, cntP]
      rw [e3, e1, e2, ← ih]
      cases hasM (ckB ca cb k) (vkB ca va vb k) f <;> cases f k <;> cases vb k <;> simp

theorem hasM_txt {c v : Nat → Bool} (h : ∀ i, i < 6 → v i = true → c i = true) (f : Nat → Bool) : hasM (cf (txt c v)) (vf (txt c v)) f = hasM c v f := hasM_eq f fun i hi => by
  rw [cf_txt _ _ hi, vf_txt _ _ hi]
  have := h i hi
  revert this
  cases c i <;> cases v i <;> simp
theorem piece_vc {ca va cb vb : Nat → Bool} (ha : ∀ i, va i = true → ca i = true) (hb : ∀ i, vb i = true → cb i = true) (k i : Nat) (h : pvB ca va vb k i = true) : pcB ca cb k i = true := by
  have ha := ha i
  have hb := hb i
  revert h ha hb
  simp only [pvB, pcB, ckB, vkB]
  cases ca i <;> cases va i <;> cases cb i <;> cases vb i <;> cases (i == k) <;> cases decide (i < k) <;> simp
theorem pieces_vc {ca va cb vb : Nat → Bool} (ha : ∀ i, va i = true → ca i = true) (hb : ∀ i, vb i = true → cb i = true) : ∀ k, ∀ p ∈ piecesTo ca va cb vb k, ∀ i, p.2 i = true → p.1 i = true
  | 0, p, hp => by simp [piecesTo] at hp
  | k + 1, p, hp => by
    cases hs : selB ca cb k
    · rw [show piecesTo ca va cb vb (k + 1) = piecesTo ca va cb vb k from by simp [piecesTo, hs]] at hp
      exact pieces_vc ha hb k p hp
    · rw [show piecesTo ca va cb vb (k + 1) = piecesTo ca va cb vb k ++ [(pcB ca cb k, pvB ca va vb k)] from by simp [piecesTo, hs], List.mem_append] at hp
      rcases hp with hp | hp
      · exact pieces_vc ha hb k p hp
      · simp at hp
        subst hp
        exact fun i h => piece_vc ha hb k i h

/-- How many of a list of texts a number is of. -/
def cntL (l : List ByteArray) (f : Nat → Bool) : Nat := (l.map fun s => (okS s && hasM (cf s) (vf s) f).toNat).sum
theorem cntL_texts (ps : List ((Nat → Bool) × (Nat → Bool))) (h : ∀ p ∈ ps, ∀ i, p.2 i = true → p.1 i = true) (f : Nat → Bool) : cntL (textsOf ps) f = cntP ps f := by
  unfold cntL cntP textsOf
  rw [List.map_map]
  congr 1
  refine List.map_congr_left fun p hp => ?_
  show (okS (txt p.1 p.2) && _).toNat = _
  rw [okS_txt, Bool.true_and, hasM_txt (fun i _ => h p hp i)]
/-- Each head of the first that is not of the second is of one piece. -/
theorem less_count {a b : ByteArray} (ha : okS a = true) (hb : okS b = true) (f : Nat → Bool) : cntL (lessL a b) f = (hasM (cf a) (vf a) f && !hasM (cf b) (vf b) f).toNat := by
  have hand := hasM_and ha hb f
  cases hm : meetS a b
  · rw [show lessL a b = [a] from by unfold lessL; rw [ha, hb, hm]; rfl]
    rw [hm, Bool.false_and] at hand
    simp only [cntL, List.map_cons, List.map_nil, List.sum_cons, List.sum_nil, ha, Bool.true_and, Nat.add_zero]
    revert hand
    cases hasM (cf a) (vf a) f <;> cases hasM (cf b) (vf b) f <;> simp
  · rw [show lessL a b = textsOf (piecesTo (cf a) (vf a) (cf b) (vf b) 6) from by unfold lessL; rw [ha, hb, hm]; rfl]
    rw [cntL_texts _ (pieces_vc (fun i h => vf_cf i h) (fun i h => vf_cf i h) 6)]
    have h := cntP_step (ca := cf a) (va := vf a) (cb := cf b) (vb := vf b) (fun i h => vf_cf i h) f 6 (Nat.le_refl _)
    have e0 : hasM (ckB (cf a) (cf b) 0) (vkB (cf a) (vf a) (vf b) 0) f = hasM (cf a) (vf a) f := hasM_eq f fun i hi => by
      have := vf_cf (s := a) i
      simp only [ckB, vkB]
      revert this
      cases cf a i <;> cases vf a i <;> simp
    have e6 : hasM (ckB (cf a) (cf b) 6) (vkB (cf a) (vf a) (vf b) 6) f = hasM (cf (andS a b)) (vf (andS a b)) f := hasM_eq f fun i hi => by
      rw [cf_andS hm hi, vf_andS hm hi]
      have u1 := vf_cf (s := a) i
      have u2 := vf_cf (s := b) i
      have em := all6_iff.1 (meetS_parts hm).2.2 i hi
      simp only [ckB, vkB, hi, decide_true, Bool.true_and]
      revert u1 u2 em
      cases cf a i <;> cases vf a i <;> cases cf b i <;> cases vf b i <;> simp
    rw [hm, Bool.true_and] at hand
    rw [e0, e6, ← hand] at h
    revert h
    cases hasM (cf a) (vf a) f <;> cases hasM (cf b) (vf b) f <;> simp

/-! ### How many heads -/

theorem many_split {c : Nat → Bool} {k : Nat} (hk : k < 6) (hc : c k = false) : manyB c = 2 * manyB (fun i => c i || i == k) := by
  rw [many_prod, many_prod]
  match k, hk with
  | 0, _ => simp only [hc]; cases c 1 <;> cases c 2 <;> cases c 3 <;> cases c 4 <;> cases c 5 <;> rfl
  | 1, _ => simp only [hc]; cases c 0 <;> cases c 2 <;> cases c 3 <;> cases c 4 <;> cases c 5 <;> rfl
  | 2, _ => simp only [hc]; cases c 0 <;> cases c 1 <;> cases c 3 <;> cases c 4 <;> cases c 5 <;> rfl
  | 3, _ => simp only [hc]; cases c 0 <;> cases c 1 <;> cases c 2 <;> cases c 4 <;> cases c 5 <;> rfl
  | 4, _ => simp only [hc]; cases c 0 <;> cases c 1 <;> cases c 2 <;> cases c 3 <;> cases c 5 <;> rfl
  | 5, _ => simp only [hc]; cases c 0 <;> cases c 1 <;> cases c 2 <;> cases c 3 <;> cases c 4 <;> rfl
theorem manyB_congr {c d : Nat → Bool} (h : ∀ i, i < 6 → c i = d i) : manyB c = manyB d := by
  unfold manyB
  rw [h 0 (by omega), h 1 (by omega), h 2 (by omega), h 3 (by omega), h 4 (by omega), h 5 (by omega)]
def sumP (l : List ((Nat → Bool) × (Nat → Bool))) : Int := (l.map fun p => manyB p.1).sum
theorem sumP_step (ca va cb vb : Nat → Bool) : ∀ k, k ≤ 6 → sumP (piecesTo ca va cb vb k) + manyB (ckB ca cb k) = manyB (ckB ca cb 0)
  | 0, _ => by simp [sumP, piecesTo]
  | k + 1, hk => by
    have ih := sumP_step ca va cb vb k (by omega)
    cases hs : selB ca cb k
    · have e : manyB (ckB ca cb (k + 1)) = manyB (ckB ca cb k) := manyB_congr fun i hi => by
        by_cases e : i = k
        · subst e
          unfold selB at hs
          revert hs
          simp only [ckB]
          cases ca i <;> cases cb i <;> simp
        · exact ck_ne e
      rw [e]
      simpa [piecesTo, hs] using ih
    · obtain ⟨h1, h2⟩ := sel_parts hs
      have c0 : ckB ca cb k k = false := by simp [ckB, h1]
      have e1 : manyB (ckB ca cb (k + 1)) = manyB (pcB ca cb k) := manyB_congr fun i hi => by
        by_cases e : i = k
        · subst e; simp [ckB, pcB, h2]
        · have e' : (i == k) = false := by simpa using e
          rw [ck_ne e]; simp [pcB, e']
      have e2 : manyB (ckB ca cb k) = 2 * manyB (pcB ca cb k) := many_split (by omega) c0
      have e3 : sumP (piecesTo ca va cb vb (k + 1)) = sumP (piecesTo ca va cb vb k) + manyB (pcB ca cb k) := by simp [piecesTo, hs, sumP]
      rw [e3, e1]
      omega
def sumL (l : List ByteArray) : Int := (l.map fun s => manyS s).sum
theorem sumL_texts (ps : List ((Nat → Bool) × (Nat → Bool))) : sumL (textsOf ps) = sumP ps := by
  unfold sumL sumP textsOf
  rw [List.map_map]
  congr 1
  refine List.map_congr_left fun p hp => ?_
  show manyS (txt p.1 p.2) = _
  unfold manyS
  rw [okS_txt]
  show manyB (cf (txt p.1 p.2)) = _
  exact manyB_congr fun i hi => cf_txt _ _ hi
/-- What is left, and what is in common, are all. -/
theorem less_sum {a b : ByteArray} (ha : okS a = true) (hb : okS b = true) : sumL (lessL a b) + (bif meetS a b then manyS (andS a b) else 0) = manyS a := by
  have ea : manyS a = manyB (cf a) := by unfold manyS; rw [ha]; rfl
  cases hm : meetS a b
  · rw [show lessL a b = [a] from by unfold lessL; rw [ha, hb, hm]; rfl]
    simp [sumL]
  · rw [show lessL a b = textsOf (piecesTo (cf a) (vf a) (cf b) (vf b) 6) from by unfold lessL; rw [ha, hb, hm]; rfl, sumL_texts]
    have h := sumP_step (cf a) (vf a) (cf b) (vf b) 6 (Nat.le_refl _)
    rw [show manyB (ckB (cf a) (cf b) 0) = manyB (cf a) from manyB_congr fun i _ => by simp [ckB]] at h
    rw [ea, ← h]
    show _ + manyS (andS a b) = _
    unfold manyS
    rw [okS_andS hm]
    show _ + manyB _ = _
    congr 1
    refine manyB_congr fun i hi => ?_
    rw [cf_andS hm hi]
    simp [ckB, hi]
theorem pieces_none (ca va cb vb : Nat → Bool) : ∀ k, k ≤ 6 → (decide ((piecesTo ca va cb vb k).length = 0) = preTo (fun i => !selB ca cb i) k)
  | 0, _ => rfl
  | k + 1, hk => by
    have ih := pieces_none ca va cb vb k (by omega)
    simp only [preTo]
    rw [← ih]
    cases hs : selB ca cb k
    · simp [piecesTo, hs]
    · simp [piecesTo, hs]
/-- Nothing is left, if one is in the other. -/
theorem less_none {a b : ByteArray} (ha : okS a = true) (hb : okS b = true) : (((lessL a b).length : Int) == 0) = inS a b := by
  have e0 : inS a b = inM (cf a) (vf a) (cf b) (vf b) := by unfold inS; rw [ha, hb]; rfl
  have em : meetS a b = meetB (cf a) (vf a) (cf b) (vf b) := by unfold meetS; rw [ha, hb]; rfl
  rw [e0]
  unfold inM
  rw [← em]
  cases hm : meetS a b
  · rw [show lessL a b = [a] from by unfold lessL; rw [ha, hb, hm]; rfl]
    simp
  · rw [show lessL a b = textsOf (piecesTo (cf a) (vf a) (cf b) (vf b) 6) from by unfold lessL; rw [ha, hb, hm]; rfl, Bool.and_true]
    have h := pieces_none (cf a) (vf a) (cf b) (vf b) 6 (Nat.le_refl _)
    have e1 : (((textsOf (piecesTo (cf a) (vf a) (cf b) (vf b) 6)).length : Int) == 0) = decide ((piecesTo (cf a) (vf a) (cf b) (vf b) 6).length = 0) := by
      unfold textsOf
      rw [List.length_map, Bool.eq_iff_iff]
      simp
    rw [e1, h, Bool.eq_iff_iff, preTo_iff, all6_iff]
    rfl

end Go.Proofs.Ytndmedkkecikoaa
