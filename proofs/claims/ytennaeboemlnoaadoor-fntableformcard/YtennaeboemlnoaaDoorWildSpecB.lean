/-
  What the model's functions of chapter 2 return, second part: what two patterns have in common, one in another, how many heads, the pattern of one head.
-/
import Derived.Test.YtennaeboemlnoaaDoorWildSpec
import Derived.Test.YtennaeboemlnoaaDoorHeadB
namespace Go.Proofs.YtennaeboemlnoaaDoor
open Go.ChangeShapes Go.WideShapes Go.ChangeAt Go.RowKit Go.Joins
set_option linter.unusedVariables false

/-- The first k bytes. -/
def preS (k : Nat) (f : Nat → UInt8) : ByteArray := ⟨((List.range k).map f).toArray⟩
theorem preS_size (k : Nat) (f : Nat → UInt8) : (preS k f).size = k := by simp [preS, ByteArray.size]
theorem preS_six (f : Nat → UInt8) : preS 6 f = mk6 f := rfl
theorem preS_one (k : Nat) (f : Nat → UInt8) (b : UInt8) (h : b = f k) : preS k f ++ ⟨#[b]⟩ = preS (k + 1) f := by
  subst h
  apply ByteArray.ext
  rw [ByteArray.data_append]
  simp [preS, List.range_succ]
theorem extract_one {s : ByteArray} {k : Nat} (h : k < s.size) : s.extract k (k + 1) = ⟨#[byA s k]⟩ := by
  apply ByteArray.ext
  rw [ByteArray.data_extract]
  apply Array.ext
  · have : k < s.data.size := h
    simp; omega
  · intro i h1 h2
    have hi : i = 0 := by simp at h2; omega
    subst hi
    rw [Array.getElem_extract]
    have := byA_get h
    rw [ByteArray.getElem_eq_getElem_data] at this
    simpa using this
theorem preS_step {s : ByteArray} {k : Nat} (h : k < s.size) (f : Nat → UInt8) (hf : f k = byA s k) : preS k f ++ s.extract k (k + 1) = preS (k + 1) f := by
  rw [extract_one h]
  exact preS_one k f _ hf.symm

/-- One byte of a string, as a string. -/
theorem slice_one {s : ByteArray} {k : Nat} (h : k < s.size) (w : World) :
    (Instr.slice 9 (.string s) (some (.int .i64 (k : Int))) (some (.int .i64 ((k : Int) + 1))) none).run Tryd.prog w = .ok (.string ⟨#[byA s k]⟩) w := by
  have := run_slice_string (P := Tryd.prog) w 9 s .i64 .i64 (k : Int) ((k : Int) + 1) Tryd.underlying9 (by omega) (by omega) (by omega)
  rw [this]
  rw [show ((k : Int)).toNat = k from by omega, show ((k : Int) + 1).toNat = k + 1 from by omega, extract_one h]

/-- The sign that two signs have in common; and whether there is one. -/
def andC (a b : UInt8) : UInt8 := bif a == 120 then b else a
def metC (a b : UInt8) : Bool := (a == 120) || ((b == 120) || (a == b))
theorem meet_pos {a b : ByteArray} (ha : okS a = true) (hb : okS b = true) : meetB (cf a) (vf a) (cf b) (vf b) = all6 (fun i => metC (byA a i) (byA b i)) :=
  all6_congr fun i hi => by
    rcases okS_sgn ha i hi with e | e | e <;> rcases okS_sgn hb i hi with e' | e' | e' <;> simp [cf, vf, metC, e, e']
theorem and_pos {a b : ByteArray} (ha : okS a = true) (hb : okS b = true) (hm : meetB (cf a) (vf a) (cf b) (vf b) = true) : txt (fun i => cf a i || cf b i) (fun i => vf a i || vf b i) = mk6 (fun i => andC (byA a i) (byA b i)) := by
  rw [meet_pos ha hb] at hm
  refine mk6_congr fun i hi => ?_
  have hm := all6_iff.1 hm i hi
  rcases okS_sgn ha i hi with e | e | e <;> rcases okS_sgn hb i hi with e' | e' | e' <;> simp [cf, vf, metC, andC, chr, e, e'] at hm ⊢

theorem mk6_list (f : Nat → UInt8) : (mk6 f).toList = [f 0, f 1, f 2, f 3, f 4, f 5] := by rw [ByteArray.toList_eq]; rfl
theorem empty_list : (⟨#[]⟩ : ByteArray).toList = [] := by rw [ByteArray.toList_eq]

theorem in_pos {a b : ByteArray} (ha : okS a = true) (hb : okS b = true) : ((andS a b).toList == a.toList) = inS a b := by
  have e0 : inS a b = inM (cf a) (vf a) (cf b) (vf b) := by unfold inS; rw [ha, hb]; rfl
  rw [e0]
  unfold inM
  cases hm : meetB (cf a) (vf a) (cf b) (vf b)
  · have e1 : andS a b = ⟨#[]⟩ := by unfold andS meetS; rw [ha, hb, hm]; rfl
    rw [e1, ← mk6_back (okS_size ha), mk6_list, empty_list]
    simp
  · have e1 : andS a b = mk6 (fun i => andC (byA a i) (byA b i)) := by unfold andS meetS; rw [ha, hb, hm]; exact and_pos ha hb hm
    rw [e1, Bool.and_true]
    have e2 : a.toList = [byA a 0, byA a 1, byA a 2, byA a 3, byA a 4, byA a 5] := by rw [← mk6_list, mk6_back (okS_size ha)]
    rw [e2, mk6_list]
    rw [meet_pos ha hb] at hm
    have e3 : all6 (fun i => !(cf b i && !cf a i)) = all6 (fun i => andC (byA a i) (byA b i) == byA a i) := all6_congr fun i hi => by
      have hm := all6_iff.1 hm i hi
      rcases okS_sgn ha i hi with e | e | e <;> rcases okS_sgn hb i hi with e' | e' | e' <;> simp [cf, metC, andC, e, e'] at hm ⊢
    rw [e3, Bool.eq_iff_iff, all6_iff]
    simp only [beq_iff_eq, List.cons.injEq, and_true]
    constructor
    · rintro ⟨h0, h1, h2, h3, h4, h5⟩ i hi
      match i, hi with
      | 0, _ => exact h0
      | 1, _ => exact h1
      | 2, _ => exact h2
      | 3, _ => exact h3
      | 4, _ => exact h4
      | 5, _ => exact h5
    · intro h
      exact ⟨h 0 (by omega), h 1 (by omega), h 2 (by omega), h 3 (by omega), h 4 (by omega), h 5 (by omega)⟩

/-! ### How many -/

def pmany (c : Nat → Bool) : Nat → Int | 0 => 1 | k + 1 => bif c k then pmany c k else 2 * pmany c k
theorem pmany_bound (c : Nat → Bool) : ∀ k, 1 ≤ pmany c k ∧ pmany c k ≤ 2 ^ k
  | 0 => by simp [pmany]
  | k + 1 => by
    obtain ⟨h1, h2⟩ := pmany_bound c k
    have : (2 : Int) ^ (k + 1) = 2 ^ k * 2 := Int.pow_succ 2 k
    simp only [pmany]
    cases c k <;> simp <;> omega
theorem pmany_six (c : Nat → Bool) : pmany c 6 = manyB c := by
  unfold manyB cnt6 pmany pmany pmany pmany pmany pmany pmany
  cases c 0 <;> cases c 1 <;> cases c 2 <;> cases c 3 <;> cases c 4 <;> cases c 5 <;> rfl
theorem pmany_le {c : Nat → Bool} {k : Nat} (h : k ≤ 6) : pmany c k ≤ 64 :=
  Int.le_trans (pmany_bound c k).2 (by
    match k, h with
    | 0, _ | 1, _ | 2, _ | 3, _ | 4, _ | 5, _ | 6, _ => decide)

/-! ### The pattern of one head -/

set_option maxRecDepth 100000 in
set_option maxHeartbeats 1000000 in
theorem l2Of_any (f : Nat → Bool) (w : World) :
    Calls Tryd.prog 92 #[.int .i64 (ofB f)] w fun e w' => e = .returned (.string (mk6 (fun i => bitV (f i)))) ∧ Below w.heap.size w w' := by
  have h0 := ofB_bound f
  go_enter Tryd.func92, Tryd.ntmps92
  go_wp2
  go_loopw [3, 4] (fun o i wr => ∃ k : Nat, k ≤ 6 ∧ i = .int .i64 k ∧ o = .string (preS k (fun i => bitV (f i))) ∧ Below w.heap.size w wr) (fun _ i _ => 6 - (intOf i).toNat)
  case atStart => exact ⟨0, Nat.zero_le _, rfl, rfl, Below.refl _ _⟩
  case round =>
    obtain ⟨k, hk, rfl, rfl, hbel⟩ := hrel
    have hps := preS_size k (fun i => bitV (f i))
    have hs1 : ∀ c : UInt8, (⟨#[c]⟩ : ByteArray).size = 1 := fun _ => rfl
    by_cases hlt : k < 6
    · have hst := Lib.hid (preS_one k (fun i => bitV (f i)) (bitV (f k)) rfl)
      have hcv := convert_one wr ((bitV (f k)).toNat : Int) (by omega) (by have := (bitV (f k)).toNat_lt; omega)
      rw [show UInt8.ofNat (((bitV (f k)).toNat : Int)).toNat = bitV (f k) from by simp] at hcv
      go_wp2_with (go_at_call 115; refine (l2Bit_at _ _ hlt _).mono ?_; rintro e w' ⟨rfl, rfl⟩)
      go_roundw
      case rel => exact ⟨k + 1, by omega, by go_num, by rw [hst.out], hbel.alloc hbel.size _⟩
      case measure => simp [intOf]; omega
    · obtain rfl : k = 6 := by omega
      go_wp2
      go_ret
      exact ⟨rfl, hbel⟩

theorem of_bits (f : Nat → Bool) : mk6 (fun i => bitV (f i)) = txt (fun _ => true) f := mk6_congr fun i _ => rfl

end Go.Proofs.YtennaeboemlnoaaDoor
