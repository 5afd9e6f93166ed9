/-
  How many heads a pattern has, counted one by one.
-/
import Derived.Test.YtddkpimmcmnogabWildFacts
namespace Go.Proofs.Ytddkpimmcmnogab
open Go.ChangeShapes Go.WideShapes Go.ChangeAt Go.RowKit Go.Joins
set_option linter.unusedVariables false

/-- How many of the first k. -/
def cntTo (p : Nat → Bool) : Nat → Nat | 0 => 0 | k + 1 => cntTo p k + (p k).toNat
theorem cntTo_le (p : Nat → Bool) : ∀ k, cntTo p k ≤ k
  | 0 => Nat.le_refl _
  | k + 1 => by
    have := cntTo_le p k
    have h1 : (p k).toNat ≤ 1 := by cases p k <;> decide
    simp only [cntTo]
    omega
theorem cntTo_congr {p q : Nat → Bool} : ∀ {k : Nat}, (∀ i, i < k → p i = q i) → cntTo p k = cntTo q k
  | 0, _ => rfl
  | k + 1, h => by
    simp only [cntTo]
    rw [cntTo_congr (k := k) (fun i hi => h i (by omega)), h k (by omega)]
def pk (a b c d e f : Bool × Bool) (k : Nat) : Bool :=
  (bif Nat.testBit k 5 then a.2 else a.1) && ((bif Nat.testBit k 4 then b.2 else b.1) && ((bif Nat.testBit k 3 then c.2 else c.1) && ((bif Nat.testBit k 2 then d.2 else d.1) && ((bif Nat.testBit k 1 then e.2 else e.1) && (bif Nat.testBit k 0 then f.2 else f.1)))))
def trF (t : Fin 3) : Bool × Bool := (t != 1, t != 0)
def xsF (t : Fin 3) : Nat := bif t == 2 then 2 else 1
set_option maxRecDepth 100000 in
theorem cnt_tri : ∀ a b c d e f : Fin 3, cntTo (pk (trF a) (trF b) (trF c) (trF d) (trF e) (trF f)) 64 = xsF a * (xsF b * (xsF c * (xsF d * (xsF e * xsF f)))) := by decide +kernel

theorem kb_fin : ∀ k : Fin 64, kb k.val 0 = Nat.testBit k.val 5 ∧ kb k.val 1 = Nat.testBit k.val 4 ∧ kb k.val 2 = Nat.testBit k.val 3 ∧ kb k.val 3 = Nat.testBit k.val 2 ∧ kb k.val 4 = Nat.testBit k.val 1 ∧ kb k.val 5 = Nat.testBit k.val 0 := by decide +kernel

/-- The sign of a place, as a number. -/
def tS (s : ByteArray) (i : Nat) : Fin 3 := bif byA s i == 48 then 0 else bif byA s i == 49 then 1 else 2
theorem tS_pos {s : ByteArray} (hk : okS s = true) {i : Nat} (hi : i < 6) (b : Bool) : ((b && cf s i) == vf s i) = (bif b then (trF (tS s i)).2 else (trF (tS s i)).1) := by
  rcases okS_sgn hk i hi with e | e | e <;> cases b <;> simp [cf, vf, tS, trF, e]
theorem tS_xs {s : ByteArray} (hk : okS s = true) {i : Nat} (hi : i < 6) : xsF (tS s i) = (bif cf s i then 1 else 2) := by
  rcases okS_sgn hk i hi with e | e | e <;> simp [cf, tS, xsF, e]
theorem hasM_pk {s : ByteArray} (hk : okS s = true) {k : Nat} (h : k < 64) : hasM (cf s) (vf s) (kb k) = pk (trF (tS s 0)) (trF (tS s 1)) (trF (tS s 2)) (trF (tS s 3)) (trF (tS s 4)) (trF (tS s 5)) k := by
  obtain ⟨e0, e1, e2, e3, e4, e5⟩ := kb_fin ⟨k, h⟩
  unfold hasM all6 pk
  simp only at e0 e1 e2 e3 e4 e5
  dsimp only
  rw [e0, e1, e2, e3, e4, e5, tS_pos hk (by omega), tS_pos hk (by omega), tS_pos hk (by omega), tS_pos hk (by omega), tS_pos hk (by omega), tS_pos hk (by omega)]
theorem many_prod (c : Nat → Bool) : manyB c = (((bif c 0 then 1 else 2) * ((bif c 1 then 1 else 2) * ((bif c 2 then 1 else 2) * ((bif c 3 then 1 else 2) * ((bif c 4 then 1 else 2) * (bif c 5 then 1 else 2))))) : Nat) : Int) := by
  unfold manyB cnt6
  cases c 0 <;> cases c 1 <;> cases c 2 <;> cases c 3 <;> cases c 4 <;> cases c 5 <;> rfl
/-- As many heads as counted one by one. -/
theorem cnt_many {s : ByteArray} (hk : okS s = true) : ((cntTo (fun k => hasM (cf s) (vf s) (kb k)) 64 : Nat) : Int) = manyB (cf s) := by
  rw [cntTo_congr (fun k hk' => hasM_pk hk hk'), cnt_tri, many_prod]
  rw [tS_xs hk (by omega), tS_xs hk (by omega), tS_xs hk (by omega), tS_xs hk (by omega), tS_xs hk (by omega), tS_xs hk (by omega)]
theorem manyB_pos (c : Nat → Bool) : 1 ≤ manyB c ∧ manyB c ≤ 64 := by
  rw [many_prod]
  cases c 0 <;> cases c 1 <;> cases c 2 <;> cases c 3 <;> cases c 4 <;> cases c 5 <;> decide

end Go.Proofs.Ytddkpimmcmnogab
