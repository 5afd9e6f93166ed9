/-
  Nets in plain words: which links are a net, what lies at each port, as the program reads them; no memory here.
-/
import Derived.Test.YtjjhahhchimmlaaGreatDoorNetS
import Derived.Laws.Rows
import Derived.Deep.MidRow
namespace Go.Proofs.YtjjhahhchimmlaaGreatDoor
open Go.ChangeShapes Go.WideShapes Go.ChangeAt Go.RowKit Go.Joins
set_option linter.unusedVariables false

def swB (n : Int) : Bool := inB n 1 4
def ptB (n : Int) : Bool := inB n 1 3

/-- Forty numbers: at a switch s and a port t the numbers 8 s + 2 t and the next one: the other end. -/
abbrev Pv := Nat → Int
def pz : Pv := fun _ => 0
def setE (P : Pv) (s t : Nat) (x y : Int) : Pv := fun i => if i = s * 8 + t * 2 then x else if i = s * 8 + t * 2 + 1 then y else P i
def frB (P : Pv) (sw port : Int) : Bool := swB sw && (ptB port && (P (sw.toNat * 8 + port.toNat * 2) == 0 && P (sw.toNat * 8 + port.toNat * 2 + 1) == 0))
def rdOk (P : Pv) (k : K4) : Bool := !(k.p == k.o) && (frB P k.p k.s && frB P k.o k.t)
def rdSet (P : Pv) (k : K4) : Pv := setE (setE P k.p.toNat k.s.toNat k.o k.t) k.o.toNat k.t.toNat k.p k.s
def okF : Pv → List K4 → Bool
  | _, [] => true
  | P, k :: l => rdOk P k && okF (rdSet P k) l
/-- The links are a net. -/
def netB (l : List K4) : Bool := decide (l.length ≤ 6) && okF pz l
/-- What lies at the ports of a net. -/
def pk (l : List K4) : Pv := l.foldl rdSet pz

theorem okF_drop {l : List K4} {P : Pv} {k : Nat} (h : k < l.length) : okF P (l.drop k) = (rdOk P (lkAt l k) && okF (rdSet P (lkAt l k)) (l.drop (k + 1))) := by
  rw [List.drop_eq_getElem_cons h, lkAt_lt h]
  rfl
theorem pk_drop {l : List K4} {P : Pv} {k : Nat} (h : k < l.length) : (l.drop k).foldl rdSet P = (l.drop (k + 1)).foldl rdSet (rdSet P (lkAt l k)) := by
  rw [List.drop_eq_getElem_cons h, lkAt_lt h]
  rfl

/-- The forty numbers as cells. -/
def pvA (P : Pv) : Array Value := ((List.range 40).map fun i => Value.int .i64 (P i)).toArray
theorem pvA_size (P : Pv) : (pvA P).size = 40 := by simp [pvA]
theorem pvA_at (P : Pv) {i : Nat} (h : i < 40) : (pvA P)[i]? = some (.int .i64 (P i)) := by simp [pvA, h]
theorem pvA_one (P : Pv) : (pvA P).all (·.oneCell') = true := by
  simp only [pvA, Array.all_eq_true]
  intro i hi
  simp
  rfl
theorem pvA_set (P : Pv) {s t : Nat} (x y : Int) (h : s * 8 + t * 2 + 1 < 40) : ((pvA P).setIfInBounds (s * 8 + t * 2) (.int .i64 x)).setIfInBounds (s * 8 + t * 2 + 1) (.int .i64 y) = pvA (setE P s t x y) := by
  apply Array.ext_getElem?
  intro i
  by_cases hi : i < 40
  · rw [pvA_at _ hi, Array.getElem?_setIfInBounds, Array.getElem?_setIfInBounds, Array.size_setIfInBounds, pvA_size]
    unfold setE
    by_cases h1 : s * 8 + t * 2 + 1 = i
    · have h0 : ¬ i = s * 8 + t * 2 := by omega
      simp [h1.symm, h]
    · by_cases h0 : s * 8 + t * 2 = i
      · have : ¬ i = s * 8 + t * 2 + 1 := by omega
        subst h0
        simp [hi]
      · have a : ¬ i = s * 8 + t * 2 := fun e => h0 e.symm
        have b : ¬ i = s * 8 + t * 2 + 1 := fun e => h1 e.symm
        rw [if_neg h1, if_neg h0, pvA_at _ hi, if_neg a, if_neg b]
  · rw [Array.getElem?_eq_none (by simp [pvA]; omega), Array.getElem?_eq_none (by simp [pvA]; omega)]

/-- A block holds the forty numbers. -/
def Pb (w : World) (g : Nat) (P : Pv) : Prop := w.heap[g]? = some (.cells (pvA P) 68)
theorem Pb.cell {w : World} {g : Nat} {P : Pv} (h : Pb w g P) {i : Nat} (hi : i < 40) : w.cell? ⟨g, i, none⟩ = some (.int .i64 (P i)) := by
  rw [cell_of_row w g i _ _ _ h, pvA_at P hi]
theorem Pb.frozen {w : World} {g : Nat} {P : Pv} (h : Pb w g P) (i : Nat) : w.frozen? ⟨g, i, none⟩ = false := by simp [World.frozen?, show w.heap[g]? = _ from h]
theorem Pb.below {w w' : World} {n g : Nat} {P : Pv} (h : Pb w g P) (hb : Below n w w') (hn : g < n) : Pb w' g P := (hb.block g hn).trans h
theorem Pb.lt {w : World} {g : Nat} {P : Pv} (h : Pb w g P) : g < w.heap.size := (Array.getElem?_eq_some_iff.1 h).1
theorem Pb.range {w : World} {g : Nat} {P : Pv} (h : Pb w g P) {s : Nat} (hs : s < 5) : w.rangeAt g (s * 8) ((List.range 8).map fun i => Value.int .i64 (P (s * 8 + i))) := by
  intro j v hv
  have hj : j < 8 := by simpa using (List.getElem?_eq_some_iff.1 hv).1
  rw [h.cell (by omega)]
  simpa [hj] using hv
theorem Pb.put {w : World} {g : Nat} {P : Pv} (h : Pb w g P) {s t : Nat} (x y : Int) (hs : s * 8 + t * 2 + 1 < 40) : Pb ((w.setCell ⟨g, s * 8 + t * 2, none⟩ (.int .i64 x)).setCell ⟨g, s * 8 + t * 2 + 1, none⟩ (.int .i64 y)) g (setE P s t x y) := by
  unfold Pb
  rw [← pvA_set P x y hs]
  have h1 : (w.setCell ⟨g, s * 8 + t * 2, none⟩ (.int .i64 x)).heap[g]? = some (.cells ((pvA P).setIfInBounds (s * 8 + t * 2) (.int .i64 x)) 68) := block_setCell h _
  exact block_setCell h1 _

end Go.Proofs.YtjjhahhchimmlaaGreatDoor
