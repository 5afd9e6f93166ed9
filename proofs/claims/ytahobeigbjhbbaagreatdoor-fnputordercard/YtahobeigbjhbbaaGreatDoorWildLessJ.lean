/-
  What the program's WildLess returns: a slice of its own, with the texts of what is left.
-/
import Derived.Test.YtahobeigbjhbbaaGreatDoorWildLessI
import Derived.Test.YtahobeigbjhbbaaGreatDoorStrRow
namespace Go.Proofs.YtahobeigbjhbbaaGreatDoor
open Go.ChangeShapes Go.WideShapes Go.ChangeAt Go.RowKit Go.Joins
set_option linter.unusedVariables false

def pAt (ps : List ((Nat → Bool) × (Nat → Bool))) (k : Nat) : (Nat → Bool) × (Nat → Bool) := ps.getD k (fun _ => false, fun _ => false)
theorem flatM_get : ∀ (ps : List ((Nat → Bool) × (Nat → Bool))) (k : Nat), k < ps.length → (flatM ps)[k * 2]? = some (.int .u8 (ofB (pAt ps k).1)) ∧ (flatM ps)[k * 2 + 1]? = some (.int .u8 (ofB (pAt ps k).2))
  | [], k, h => by simp at h
  | p :: ps, 0, _ => ⟨rfl, rfl⟩
  | p :: ps, k + 1, h => by
    have := flatM_get ps k (by simpa using h)
    have e : flatM (p :: ps) = .int .u8 (ofB p.1) :: .int .u8 (ofB p.2) :: flatM ps := rfl
    rw [e, show (k + 1) * 2 = k * 2 + 1 + 1 from by omega]
    exact this
def textsOf (ps : List ((Nat → Bool) × (Nat → Bool))) : List ByteArray := ps.map fun p => txt p.1 p.2
theorem take_texts (ps : List ((Nat → Bool) × (Nat → Bool))) {k : Nat} (h : k < ps.length) : textsOf (ps.take (k + 1)) = textsOf (ps.take k) ++ [txt (pAt ps k).1 (pAt ps k).2] := by
  unfold textsOf pAt
  rw [List.take_succ_eq_append_getElem h, List.map_append]
  simp [h]

/-- What is left of one pattern without another one. -/
def lessL (a b : ByteArray) : List ByteArray :=
  bif okS a && okS b then (bif meetS a b then textsOf (piecesTo (cf a) (vf a) (cf b) (vf b) 6) else [a]) else []
theorem vfcf {s : ByteArray} (i : Nat) (h : vf s i = true) : cf s i = true := by
  unfold vf at h
  unfold cf
  rw [beq_iff_eq] at h
  rw [h]
  rfl

end Go.Proofs.YtahobeigbjhbbaaGreatDoor
