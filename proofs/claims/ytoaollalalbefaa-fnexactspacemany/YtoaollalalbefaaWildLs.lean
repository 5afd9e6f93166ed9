/-
  What the program's WildLess returns: a slice of its own, with the texts of what is left.
  What the program's WildLess returns: a slice of its own, with the texts of what is left.
-/
import Derived.Test.YtoaollalalbefaaWildImpl
import Derived.Deep.Onto
import Derived.OwnWalk
import Derived.Test.YtoaollalalbefaaStrB

namespace Go.Proofs.Ytoaollalalbefaa
open Go.ChangeShapes Go.WideShapes Go.ChangeAt Go.RowKit Go.Joins
set_option linter.unusedVariables false

/-! ### What is left, place by place -/

def ckB (ca cb : Nat → Bool) (k : Nat) (j : Nat) : Bool := ca j || (decide (j < k) && cb j)
def vkB (ca va vb : Nat → Bool) (k : Nat) (j : Nat) : Bool := bif ca j then va j else (decide (j < k) && vb j)
def pcB (ca cb : Nat → Bool) (k : Nat) (j : Nat) : Bool := ckB ca cb k j || j == k
def pvB (ca va vb : Nat → Bool) (k : Nat) (j : Nat) : Bool := (vkB ca va vb k j && !(j == k)) || (!vb k && j == k)
def selB (ca cb : Nat → Bool) (k : Nat) : Bool := cb k && !ca k
/-- The pieces of the first k places. -/
def piecesTo (ca va cb vb : Nat → Bool) : Nat → List ((Nat → Bool) × (Nat → Bool))
  | 0 => []
  | k + 1 => bif selB ca cb k then piecesTo ca va cb vb k ++ [(pcB ca cb k, pvB ca va vb k)] else piecesTo ca va cb vb k
theorem pieces_len (ca va cb vb : Nat → Bool) : ∀ k, (piecesTo ca va cb vb k).length ≤ k
  | 0 => Nat.le_refl _
  | k + 1 => by
    have := pieces_len ca va cb vb k
    simp only [piecesTo]
    cases selB ca cb k <;> simp <;> omega
def flatM (l : List ((Nat → Bool) × (Nat → Bool))) : List Value := l.flatMap fun p => [.int .u8 (ofB p.1), .int .u8 (ofB p.2)]
theorem flatM_append (l m : List ((Nat → Bool) × (Nat → Bool))) : flatM (l ++ m) = flatM l ++ flatM m := by simp [flatM]
theorem flatM_len (l : List ((Nat → Bool) × (Nat → Bool))) : (flatM l).length = l.length * 2 := by
  induction l with
  | nil => rfl
  | cons p l ih => simp [flatM] at ih ⊢; omega

theorem less_test (ca cb : Nat → Bool) {k : Nat} (hk : k < 6) : (bits BinOp.andNot IntKind.u8 (bits BinOp.and IntKind.u8 (pw k) (ofB cb)) (ofB (ckB ca cb k)) == 0) = !selB ca cb k := by
  rw [pw_ofB hk, ofB_and, ofB_andNot, ofB_isZero]
  cases hs : selB ca cb k
  · refine all6_iff.2 fun i hi => ?_
    by_cases h : i = k
    · subst h
      unfold selB at hs
      simp only [ckB]
      revert hs
      cases ca i <;> cases cb i <;> simp
    · simp [h]
  · refine all6_not.2 ⟨k, hk, ?_⟩
    unfold selB at hs
    simp only [ckB]
    revert hs
    cases ca k <;> cases cb k <;> simp
theorem ck_step {ca cb : Nat → Bool} {k : Nat} (h : selB ca cb k = true) : ofB (pcB ca cb k) = ofB (ckB ca cb (k + 1)) := ofB_congr fun i _ => by
  by_cases e : i = k
  · subst e
    unfold selB at h
    revert h
    simp only [pcB, ckB]
    cases ca i <;> cases cb i <;> simp
  · have : (i < k + 1) = (i < k) := by apply propext; omega
    simp [pcB, ckB, e, this]
theorem ck_stay {ca cb : Nat → Bool} {k : Nat} (h : selB ca cb k = false) : ofB (ckB ca cb (k + 1)) = ofB (ckB ca cb k) := ofB_congr fun i _ => by
  by_cases e : i = k
  · subst e
    unfold selB at h
    revert h
    simp only [ckB]
    cases ca i <;> cases cb i <;> simp
  · have : (i < k + 1) = (i < k) := by apply propext; omega
    simp [ckB, this]
theorem vk_stay {ca va cb vb : Nat → Bool} (hv : ∀ i, vb i = true → cb i = true) {k : Nat} (h : selB ca cb k = false) : ofB (vkB ca va vb (k + 1)) = ofB (vkB ca va vb k) := ofB_congr fun i _ => by
  by_cases e : i = k
  · subst e
    have hv := hv i
    unfold selB at h
    revert h hv
    simp only [vkB]
    cases ca i <;> cases cb i <;> cases vb i <;> simp
  · have : (i < k + 1) = (i < k) := by apply propext; omega
    simp [vkB, this]
theorem vk_step {ca va cb vb : Nat → Bool} {k : Nat} (h : selB ca cb k = true) : ofB (fun i => (vkB ca va vb k i && !(i == k)) || (vb k && i == k)) = ofB (vkB ca va vb (k + 1)) := ofB_congr fun i _ => by
  by_cases e : i = k
  · subst e
    unfold selB at h
    revert h
    simp only [vkB]
    cases ca i <;> cases cb i <;> cases vb i <;> simp
  · have : (i < k + 1) = (i < k) := by apply propext; omega
    have e' : (i == k) = false := by simpa using e
    simp [vkB, this, e']

/-- A bit is set, to what a number has there. -/
theorem with_bits (v : Nat → Bool) {k : Nat} (hk : k < 6) (x : Int) (q : Bool) (hx : bits BinOp.and IntKind.u8 x (pw k) = ofB (fun i => q && i == k)) :
    bits BinOp.or IntKind.u8 (bits BinOp.andNot IntKind.u8 (ofB v) (pw k)) (bits BinOp.and IntKind.u8 x (pw k)) = ofB (fun i => (v i && !(i == k)) || (q && i == k)) := by
  rw [hx, pw_ofB hk, ofB_andNot, ofB_or]

set_option maxHeartbeats 400000 in
theorem with_at (c v : Nat → Bool) (k : Nat) (hk : k < 6) (x : Int) (q : Bool) (hx : bits BinOp.and IntKind.u8 x (pw k) = ofB (fun i => q && i == k)) (w : World) :
    Calls Try.prog 68 #[.agg #[.int .u8 (ofB c), .int .u8 (ofB v)], .int .u8 (pw k), .int .u8 x] w fun e w' => e = .returned (.agg #[.int .u8 (ofB (fun i => c i || i == k)), .int .u8 (ofB (fun i => (v i && !(i == k)) || (q && i == k)))]) ∧ Below w.heap.size w w' := by
  rw [← with_bits v hk x q hx, ← or_pw c hk]
  clear hx
  go_enter Try.func68, Try.ntmps68
  go_wp2
  exact bodyPost_ret (v := .agg #[.int .u8 (bits BinOp.or IntKind.u8 (ofB c) (pw k)), .int .u8 (bits BinOp.or IntKind.u8 (bits BinOp.andNot IntKind.u8 (ofB v) (pw k)) (bits BinOp.and IntKind.u8 x (pw k)))]) (by simp [results, Try.results68, go_sem]) rfl
    ⟨rfl, by repeat (first | exact below_alloc2 _ _ _ | refine Below.setCell ?_ (by simp) _)⟩

theorem not_fin : ∀ a b c d e f : Bool, bits BinOp.and IntKind.u8 (bits BinOp.xor IntKind.u8 IntKind.u8.max (of6 a b c d e f)) 32 = (bif a then 0 else 32) ∧ bits BinOp.and IntKind.u8 (bits BinOp.xor IntKind.u8 IntKind.u8.max (of6 a b c d e f)) 16 = (bif b then 0 else 16)
    ∧ bits BinOp.and IntKind.u8 (bits BinOp.xor IntKind.u8 IntKind.u8.max (of6 a b c d e f)) 8 = (bif c then 0 else 8) ∧ bits BinOp.and IntKind.u8 (bits BinOp.xor IntKind.u8 IntKind.u8.max (of6 a b c d e f)) 4 = (bif d then 0 else 4)
    ∧ bits BinOp.and IntKind.u8 (bits BinOp.xor IntKind.u8 IntKind.u8.max (of6 a b c d e f)) 2 = (bif e then 0 else 2) ∧ bits BinOp.and IntKind.u8 (bits BinOp.xor IntKind.u8 IntKind.u8.max (of6 a b c d e f)) 1 = (bif f then 0 else 1) := by decide +kernel
theorem one_bit (q : Bool) {k : Nat} (hk : k < 6) : ofB (fun i => q && i == k) = (bif q then pw k else 0) := by
  cases q
  · exact ofB_zero
  · rw [pw_ofB hk]; rfl
theorem not_bits (u : Nat → Bool) {k : Nat} (hk : k < 6) : bits BinOp.and IntKind.u8 (bits BinOp.xor IntKind.u8 IntKind.u8.max (ofB u)) (pw k) = ofB (fun i => !u k && i == k) := by
  rw [one_bit _ hk]
  obtain ⟨h0, h1, h2, h3, h4, h5⟩ := not_fin (u 0) (u 1) (u 2) (u 3) (u 4) (u 5)
  have e : ∀ (q : Bool) (x : Int), (bif q then 0 else x) = (bif !q then x else 0) := fun q x => by cases q <;> rfl
  match k, hk with
  | 0, _ => exact h0.trans (e _ _)
  | 1, _ => exact h1.trans (e _ _)
  | 2, _ => exact h2.trans (e _ _)
  | 3, _ => exact h3.trans (e _ _)
  | 4, _ => exact h4.trans (e _ _)
  | 5, _ => exact h5.trans (e _ _)
theorem yes_bits (u : Nat → Bool) {k : Nat} (hk : k < 6) : bits BinOp.and IntKind.u8 (ofB u) (pw k) = ofB (fun i => u k && i == k) := by
  rw [pw_ofB hk, ofB_and]
  refine ofB_congr fun i _ => ?_
  by_cases h : i = k
  · subst h; rfl
  · have h' : (i == k) = false := by simpa using h
    simp [h']

/-- A row of the call's own, behind a call that leaves what was there, and behind a store below it. -/
theorem ownsBelow {w w' : World} {base : Nat} {e : TypeId} {size : Nat} {v : Value} {n : Nat} {xs : List Value} (h : w.ownsRow base e size v n xs) (hb : Below w.heap.size w w') : w'.ownsRow base e size v n xs :=
  h.kept (row := none) ⟨hb.os, hb.tape, hb.output, hb.size, fun k hk _ => hb.block k hk⟩ (by cases v.ownBlock <;> simp)
theorem ownsSet {w : World} {base : Nat} {e : TypeId} {size : Nat} {v : Value} {n : Nat} {xs : List Value} (h : w.ownsRow base e size v n xs) {p : Addr} (hp : p.block < base) (u : Value) : (w.setCell p u).ownsRow base e size v n xs :=
  h.kept (row := some p.block) ⟨rfl, rfl, rfl, by simp [World.setCell], fun k hk hne => Below.heap_setCell _ _ _ _ (fun e => hne (by rw [e]))⟩ (by
    cases hv : v.ownBlock with
    | none => exact .inl rfl
    | some j => exact .inr (fun e => by have := (h.lt j hv).1; injection e; omega))
/-- Behind an append other blocks are as they were. -/
theorem grownOther {w w' : World} {base : Nat} {e : TypeId} {size : Nat} {v : Value} {n : Nat} {xs : List Value} (h : w.ownsRow base e size v n xs) (hg : w.grownBy w' v.ownBlock) {j : Nat} (hj : j < base) (hs : base ≤ w.heap.size) : w'.heap[j]? = w.heap[j]? :=
  hg.block j (by omega) (fun e => by have := (h.lt j e.symm).1; omega)
theorem grownBelow {w w' : World} {base : Nat} {e : TypeId} {size : Nat} {v : Value} {n : Nat} {xs : List Value} (h : w.ownsRow base e size v n xs) (hg : w.grownBy w' v.ownBlock) (hs : base ≤ w.heap.size) : Below base w w' :=
  ⟨hg.os, hg.tape, hg.output, hg.size, fun j hj => grownOther h hg hj hs⟩

theorem infoMasks : (Try.prog.info? 69).map (fun i => (i.zero, i.size, i.bytes)) = some (some (.agg #[.int .u8 0, .int .u8 0]), 2, 2) := by kernel_rfl
theorem infoStr : (Try.prog.info? 9).map (fun i => (i.zero, i.size, i.bytes)) = some (some (.string ⟨#[]⟩), 1, 16) := by kernel_rfl

end Go.Proofs.Ytoaollalalbefaa

namespace Go.Proofs.Ytoaollalalbefaa
open Go.ChangeShapes Go.WideShapes Go.ChangeAt Go.RowKit Go.Joins
set_option linter.unusedVariables false

def pAt (ps : List ((Nat → Bool) × (Nat → Bool))) (k : Nat) : (Nat → Bool) × (Nat → Bool) := ps.getD k (fun _ => false, fun _ => false)
theorem flatM_get : ∀ (ps : List ((Nat → Bool) × (Nat → Bool))) (k : Nat), k < ps.length → (flatM ps)[k * 2]? = some (.int .u8 (ofB (pAt ps k).1)) ∧ (flatM ps)[k * 2 + 1]? = some (.int .u8 (ofB (pAt ps k).2))
  | [], k, h => by simp at h
  | p :: ps, 0, _ => ⟨rfl, rfl⟩
  | p :: ps, k + 1, h => by
    have := flatM_get ps k (by simpa using h)
    have e : flatM (p :: ps) = .int .u8 (ofB p.1) :: .int .u8 (ofB p.2) :: flatM ps := rfl
    rw [e, show (k + 1) * 2 = k * 2 + 1 + 1 from by omega]
    exact this
def textsOf (ps : List ((Nat → Bool) × (Nat → Bool))) : List ByteArray := ps.map fun p => txt p.1 p.2
theorem take_texts (ps : List ((Nat → Bool) × (Nat → Bool))) {k : Nat} (h : k < ps.length) : textsOf (ps.take (k + 1)) = textsOf (ps.take k) ++ [txt (pAt ps k).1 (pAt ps k).2] := by
  unfold textsOf pAt
  rw [List.take_succ_eq_append_getElem h, List.map_append]
  simp [h]

/-- What is left of one pattern without another one. -/
def lessL (a b : ByteArray) : List ByteArray :=
  bif okS a && okS b then (bif meetS a b then textsOf (piecesTo (cf a) (vf a) (cf b) (vf b) 6) else [a]) else []
theorem vfcf {s : ByteArray} (i : Nat) (h : vf s i = true) : cf s i = true := by
  unfold vf at h
  unfold cf
  rw [beq_iff_eq] at h
  rw [h]
  rfl

end Go.Proofs.Ytoaollalalbefaa
