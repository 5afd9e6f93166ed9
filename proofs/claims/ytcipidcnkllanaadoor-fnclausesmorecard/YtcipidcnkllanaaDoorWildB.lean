/-
  Plain facts on signs of patterns and on numbers of six bits, for chapter 2: no program is walked here.
  What the program's own functions on patterns return: a text is read as a set of masks or as none.
  What the masks' methods return: whether two meet, one is in another, a head is of them, how many heads they have, their text, what two have in common.
-/
import Derived.Test.YtcipidcnkllanaaDoorRows
import Derived.WalkKit
import Derived.ProofKit
import Derived.OpenShut
import Derived.Lib.SmallJoins
import Derived.Lib.Hide
import Derived.Deep.RegionWith
import Derived.Test.YtcipidcnkllanaaDoorHeadB
import Derived.Deep.RegionHeld3

namespace Go.Proofs.YtcipidcnkllanaaDoor
open Go.ChangeShapes Go.WideShapes Go.ChangeAt Go.RowKit Go.Joins
set_option linter.unusedVariables false

/-- Of six places each. -/
def all6 (p : Nat → Bool) : Bool := p 0 && (p 1 && (p 2 && (p 3 && (p 4 && p 5))))
theorem all6_congr {p q : Nat → Bool} (h : ∀ i, i < 6 → p i = q i) : all6 p = all6 q := by
  unfold all6
  rw [h 0 (by omega), h 1 (by omega), h 2 (by omega), h 3 (by omega), h 4 (by omega), h 5 (by omega)]
theorem all6_iff {p : Nat → Bool} : all6 p = true ↔ ∀ i, i < 6 → p i = true := by
  unfold all6
  simp only [Bool.and_eq_true]
  constructor
  · rintro ⟨h0, h1, h2, h3, h4, h5⟩ i hi
    match i, hi with
    | 0, _ => exact h0
    | 1, _ => exact h1
    | 2, _ => exact h2
    | 3, _ => exact h3
    | 4, _ => exact h4
    | 5, _ => exact h5
  · intro h
    exact ⟨h 0 (by omega), h 1 (by omega), h 2 (by omega), h 3 (by omega), h 4 (by omega), h 5 (by omega)⟩
theorem all6_not {p : Nat → Bool} : all6 p = false ↔ ∃ i, i < 6 ∧ p i = false := by
  constructor
  · intro h
    apply Classical.byContradiction
    intro hn
    have : all6 p = true := all6_iff.2 fun i hi => by
      cases hp : p i
      · exact absurd ⟨i, hi, hp⟩ hn
      · rfl
    rw [h] at this
    cases this
  · rintro ⟨i, hi, hp⟩
    cases h : all6 p
    · rfl
    · rw [all6_iff.1 h i hi] at hp
      cases hp

/-- A number of six bits, the first one the greatest. -/
def of6 (a b c d e f : Bool) : Int :=
  (bif a then 32 else 0) + ((bif b then 16 else 0) + ((bif c then 8 else 0) + ((bif d then 4 else 0) + ((bif e then 2 else 0) + (bif f then 1 else 0)))))
def ofB (f : Nat → Bool) : Int := of6 (f 0) (f 1) (f 2) (f 3) (f 4) (f 5)
theorem ofB_congr {p q : Nat → Bool} (h : ∀ i, i < 6 → p i = q i) : ofB p = ofB q := by
  unfold ofB
  rw [h 0 (by omega), h 1 (by omega), h 2 (by omega), h 3 (by omega), h 4 (by omega), h 5 (by omega)]
theorem of6_bound : ∀ a b c d e f : Bool, 0 ≤ of6 a b c d e f ∧ of6 a b c d e f ≤ 63 := by decide +kernel
theorem ofB_bound (f : Nat → Bool) : 0 ≤ ofB f ∧ ofB f ≤ 63 := of6_bound _ _ _ _ _ _
theorem of6_or : ∀ a b c d e f a' b' c' d' e' f' : Bool, bits BinOp.or IntKind.u8 (of6 a b c d e f) (of6 a' b' c' d' e' f') = of6 (a || a') (b || b') (c || c') (d || d') (e || e') (f || f') := by decide +kernel
theorem of6_and : ∀ a b c d e f a' b' c' d' e' f' : Bool, bits BinOp.and IntKind.u8 (of6 a b c d e f) (of6 a' b' c' d' e' f') = of6 (a && a') (b && b') (c && c') (d && d') (e && e') (f && f') := by decide +kernel
theorem of6_xor : ∀ a b c d e f a' b' c' d' e' f' : Bool, bits BinOp.xor IntKind.u8 (of6 a b c d e f) (of6 a' b' c' d' e' f') = of6 (a ^^ a') (b ^^ b') (c ^^ c') (d ^^ d') (e ^^ e') (f ^^ f') := by decide +kernel
theorem of6_andNot : ∀ a b c d e f a' b' c' d' e' f' : Bool, bits BinOp.andNot IntKind.u8 (of6 a b c d e f) (of6 a' b' c' d' e' f') = of6 (a && !a') (b && !b') (c && !c') (d && !d') (e && !e') (f && !f') := by decide +kernel
theorem of6_eq : ∀ a b c d e f a' b' c' d' e' f' : Bool, (of6 a b c d e f == of6 a' b' c' d' e' f') = ((a == a') && ((b == b') && ((c == c') && ((d == d') && ((e == e') && (f == f')))))) := by decide +kernel
theorem ofB_or (f g : Nat → Bool) : bits BinOp.or IntKind.u8 (ofB f) (ofB g) = ofB (fun i => f i || g i) := of6_or _ _ _ _ _ _ _ _ _ _ _ _
theorem ofB_and (f g : Nat → Bool) : bits BinOp.and IntKind.u8 (ofB f) (ofB g) = ofB (fun i => f i && g i) := of6_and _ _ _ _ _ _ _ _ _ _ _ _
theorem ofB_xor (f g : Nat → Bool) : bits BinOp.xor IntKind.u8 (ofB f) (ofB g) = ofB (fun i => f i ^^ g i) := of6_xor _ _ _ _ _ _ _ _ _ _ _ _
theorem ofB_andNot (f g : Nat → Bool) : bits BinOp.andNot IntKind.u8 (ofB f) (ofB g) = ofB (fun i => f i && !g i) := of6_andNot _ _ _ _ _ _ _ _ _ _ _ _
theorem ofB_eq (f g : Nat → Bool) : (ofB f == ofB g) = all6 (fun i => f i == g i) := of6_eq _ _ _ _ _ _ _ _ _ _ _ _
theorem ofB_zero : ofB (fun _ => false) = 0 := by decide
theorem ofB_isZero (f : Nat → Bool) : (ofB f == 0) = all6 (fun i => !f i) := by
  rw [← ofB_zero, ofB_eq]
  exact all6_congr fun i _ => by cases f i <;> rfl

/-- The bit of a place alone. -/
def pw (k : Nat) : Int := match k with | 0 => 32 | 1 => 16 | 2 => 8 | 3 => 4 | 4 => 2 | _ => 1
theorem pw_ofB {k : Nat} (hk : k < 6) : pw k = ofB (fun i => i == k) := by
  match k, hk with
  | 0, _ => decide
  | 1, _ => decide
  | 2, _ => decide
  | 3, _ => decide
  | 4, _ => decide
  | 5, _ => decide
theorem pw_bound (k : Nat) : 1 ≤ pw k ∧ pw k ≤ 32 := by
  unfold pw
  split <;> decide
theorem and_pw (f : Nat → Bool) {k : Nat} (hk : k < 6) : (bits BinOp.and IntKind.u8 (ofB f) (pw k) == 0) = !f k := by
  rw [pw_ofB hk, ofB_and, ofB_isZero]
  cases hf : f k
  · exact all6_iff.2 fun i _ => by
      by_cases h : i = k
      · subst h; simp [hf]
      · simp [h]
  · exact all6_not.2 ⟨k, hk, by simp [hf]⟩
theorem or_pw (f : Nat → Bool) {k : Nat} (hk : k < 6) : bits BinOp.or IntKind.u8 (ofB f) (pw k) = ofB (fun i => f i || i == k) := by rw [pw_ofB hk, ofB_or]

/-- The first k places, and no other. -/
def pre (k : Nat) (f : Nat → Bool) : Nat → Bool := fun i => decide (i < k) && f i
theorem pre_zero (f : Nat → Bool) : ofB (pre 0 f) = 0 := by rw [← ofB_zero]; exact ofB_congr fun i _ => by simp [pre]
theorem pre_six (f : Nat → Bool) : ofB (pre 6 f) = ofB f := ofB_congr fun i hi => by simp [pre, hi]
theorem pre_yes {f : Nat → Bool} {k : Nat} (hk : k < 6) (h : f k = true) : bits BinOp.or IntKind.u8 (ofB (pre k f)) (pw k) = ofB (pre (k + 1) f) := by
  rw [or_pw _ hk]
  refine ofB_congr fun i _ => ?_
  by_cases hi : i = k
  · subst hi; simp [pre, h]
  · have : (i < k + 1) = (i < k) := by apply propext; omega
    simp [pre, hi, this]
theorem pre_no {f : Nat → Bool} {k : Nat} (h : f k = false) : ofB (pre (k + 1) f) = ofB (pre k f) := by
  refine ofB_congr fun i _ => ?_
  by_cases hi : i = k
  · subst hi; simp [pre, h]
  · have : (i < k + 1) = (i < k) := by apply propext; omega
    simp [pre, this]

/-! ### Signs -/

/-- The byte at a place. -/
def byA (s : ByteArray) (i : Nat) : UInt8 := s.data.getD i 0
theorem byA_get {s : ByteArray} {i : Nat} (h : i < s.size) : s[i]'h = byA s i := by
  simp only [byA, Array.getD]
  exact (dif_pos (c := i < s.data.size) h).symm
def sgn (b : UInt8) : Bool := b == 48 || (b == 49 || b == 120)
theorem sgn_true {b : UInt8} (h : sgn b = true) : b = 48 ∨ b = 49 ∨ b = 120 := by simpa [sgn] using h
/-- A pattern. -/
def okS (s : ByteArray) : Bool := (s.size == 6) && all6 (fun i => sgn (byA s i))
theorem okS_size {s : ByteArray} (h : okS s = true) : s.size = 6 := by
  simp only [okS, Bool.and_eq_true, beq_iff_eq] at h
  exact h.1
theorem okS_sgn {s : ByteArray} (h : okS s = true) (i : Nat) (hi : i < 6) : byA s i = 48 ∨ byA s i = 49 ∨ byA s i = 120 := by
  simp only [okS, Bool.and_eq_true] at h
  exact sgn_true (all6_iff.1 h.2 i hi)
/-- Which places are no x, and which are 1. -/
def cf (s : ByteArray) (i : Nat) : Bool := !(byA s i == 120)
def vf (s : ByteArray) (i : Nat) : Bool := byA s i == 49

/-- A text of six bytes. -/
def mk6 (f : Nat → UInt8) : ByteArray := ⟨#[f 0, f 1, f 2, f 3, f 4, f 5]⟩
theorem mk6_size (f : Nat → UInt8) : (mk6 f).size = 6 := rfl
theorem mk6_byA (f : Nat → UInt8) {i : Nat} (hi : i < 6) : byA (mk6 f) i = f i := by
  match i, hi with
  | 0, _ => rfl
  | 1, _ => rfl
  | 2, _ => rfl
  | 3, _ => rfl
  | 4, _ => rfl
  | 5, _ => rfl
theorem mk6_congr {f g : Nat → UInt8} (h : ∀ i, i < 6 → f i = g i) : mk6 f = mk6 g := by
  unfold mk6
  rw [h 0 (by omega), h 1 (by omega), h 2 (by omega), h 3 (by omega), h 4 (by omega), h 5 (by omega)]
theorem mk6_back {s : ByteArray} (h : s.size = 6) : mk6 (byA s) = s := by
  obtain ⟨⟨l⟩⟩ := s
  match l, h with
  | [b0, b1, b2, b3, b4, b5], _ => rfl
/-- The sign of a place. -/
def chr (c v : Bool) : UInt8 := bif c then (bif v then 49 else 48) else 120
def txt (c v : Nat → Bool) : ByteArray := mk6 (fun i => chr (c i) (v i))
theorem txt_back {s : ByteArray} (h : okS s = true) : txt (cf s) (vf s) = s := by
  rw [← mk6_back (okS_size h)]
  unfold txt
  refine mk6_congr fun i hi => ?_
  rw [mk6_back (okS_size h)]
  rcases okS_sgn h i hi with e | e | e <;> simp [cf, vf, chr, e]
theorem sgn_chr (c v : Bool) : sgn (chr c v) = true := by cases c <;> cases v <;> rfl
theorem okS_txt (c v : Nat → Bool) : okS (txt c v) = true := by
  simp only [okS, Bool.and_eq_true]
  exact ⟨rfl, all6_iff.2 fun i hi => by rw [txt, mk6_byA _ hi]; exact sgn_chr _ _⟩
theorem cf_txt (c v : Nat → Bool) {i : Nat} (hi : i < 6) : cf (txt c v) i = c i := by
  unfold cf txt
  rw [mk6_byA _ hi]
  cases c i <;> cases v i <;> rfl
theorem vf_txt (c v : Nat → Bool) {i : Nat} (hi : i < 6) : vf (txt c v) i = (c i && v i) := by
  unfold vf txt
  rw [mk6_byA _ hi]
  cases c i <;> cases v i <;> rfl

end Go.Proofs.YtcipidcnkllanaaDoor

namespace Go.Proofs.YtcipidcnkllanaaDoor
open Go.ChangeShapes Go.WideShapes Go.ChangeAt Go.RowKit Go.Joins
set_option linter.unusedVariables false

end Go.Proofs.YtcipidcnkllanaaDoor

namespace Go.Proofs.YtcipidcnkllanaaDoor
open Go.ChangeShapes Go.WideShapes Go.ChangeAt Go.RowKit Go.Joins
set_option linter.unusedVariables false

/-! ### Plain facts -/

/-- Two masks meet; one is in another; a number is of masks. -/
def meetB (c v c' v' : Nat → Bool) : Bool := all6 (fun i => !((v i ^^ v' i) && c i && c' i))
def inM (c v c' v' : Nat → Bool) : Bool := all6 (fun i => !(c' i && !c i)) && meetB c v c' v'
def hasM (c v b : Nat → Bool) : Bool := all6 (fun i => (b i && c i) == v i)
theorem meet_bits (c v c' v' : Nat → Bool) : (bits BinOp.and IntKind.u8 (bits BinOp.and IntKind.u8 (bits BinOp.xor IntKind.u8 (ofB v) (ofB v')) (ofB c)) (ofB c') == 0) = meetB c v c' v' := by
  rw [ofB_xor, ofB_and, ofB_and, ofB_isZero]; rfl
theorem in_bits (c c' : Nat → Bool) : (bits BinOp.andNot IntKind.u8 (ofB c') (ofB c) == 0) = all6 (fun i => !(c' i && !c i)) := by
  rw [ofB_andNot, ofB_isZero]
theorem has_bits (c v b : Nat → Bool) : (bits BinOp.and IntKind.u8 (ofB b) (ofB c) == ofB v) = hasM c v b := by
  rw [ofB_and, ofB_eq]; rfl

/-- How many of six. -/
def cnt6 (a b c d e f : Bool) : Nat := a.toNat + (b.toNat + (c.toNat + (d.toNat + (e.toNat + f.toNat))))
def manyB (c : Nat → Bool) : Int := 2 ^ (6 - cnt6 (c 0) (c 1) (c 2) (c 3) (c 4) (c 5))

/-! ### How many -/

def cntB (c : Nat → Bool) : Nat := cnt6 (c 0) (c 1) (c 2) (c 3) (c 4) (c 5)
theorem cnt6_le : ∀ a b c d e f : Bool, cnt6 a b c d e f ≤ 6 := by decide
theorem cntB_le (c : Nat → Bool) : cntB c ≤ 6 := cnt6_le _ _ _ _ _ _

/-! ### The text -/

/-- Six cells, of which the first k are written. -/
def sixV (k : Nat) (f : Nat → UInt8) (i : Nat) : Value := .int .u8 (if i < k then ((f i).toNat : Int) else 0)
def sixA (k : Nat) (f : Nat → UInt8) : Array Value := #[sixV k f 0, sixV k f 1, sixV k f 2, sixV k f 3, sixV k f 4, sixV k f 5]
theorem sixA_zero (f : Nat → UInt8) : sixA 0 f = #[.int .u8 0, .int .u8 0, .int .u8 0, .int .u8 0, .int .u8 0, .int .u8 0] := rfl
theorem sixV_ne {k i : Nat} (f : Nat → UInt8) (h : i ≠ k) : sixV (k + 1) f i = sixV k f i := by
  unfold sixV
  have : (i < k + 1) = (i < k) := by apply propext; omega
  simp only [this]
theorem sixV_eq (k : Nat) (f : Nat → UInt8) : sixV (k + 1) f k = .int .u8 ((f k).toNat : Int) := by simp [sixV]
theorem sixA_step {k : Nat} (hk : k < 6) (f : Nat → UInt8) : (sixA k f).setIfInBounds k (.int .u8 ((f k).toNat : Int)) = sixA (k + 1) f := by
  match k, hk with
  | 0, _ => simp [sixA, sixV]
  | 1, _ => simp [sixA, sixV]
  | 2, _ => simp [sixA, sixV]
  | 3, _ => simp [sixA, sixV]
  | 4, _ => simp [sixA, sixV]
  | 5, _ => simp [sixA, sixV]
theorem sixA_get {f : Nat → UInt8} {j : Nat} (hj : j < 6) : (sixA 6 f)[j]? = some (.int .u8 ((f j).toNat : Int)) := by
  match j, hj with
  | 0, _ => rfl
  | 1, _ => rfl
  | 2, _ => rfl
  | 3, _ => rfl
  | 4, _ => rfl
  | 5, _ => rfl

theorem convert_six (w : World) (g : Nat) (f : Nat → UInt8) (t : TypeId) (h : w.heap[g]? = some (.cells (sixA 6 f) t)) :
    (convert 22 9 (.slice (some ⟨g, 0, none⟩) 6 6)).run Tryd.prog w = .ok (.string (mk6 f)) w := by
  refine run_convert_bytes_back (P := Tryd.prog) w 22 9 5 ⟨g, 0, none⟩ 6 [f 0, f 1, f 2, f 3, f 4, f 5] Tryd.underlying22 Tryd.underlying5 Tryd.underlying9 ?_
  intro j hj
  have hj : j < 6 := hj
  have ha : (⟨g, 0, none⟩ : Addr).add j = ⟨g, j, none⟩ := by cases j <;> simp [Addr.add]
  rw [ha, cell_of_block h, sixA_get hj]
  match j, hj with
  | 0, _ => rfl
  | 1, _ => rfl
  | 2, _ => rfl
  | 3, _ => rfl
  | 4, _ => rfl
  | 5, _ => rfl

/-! ### What two have in common -/

/-! ### Which method is called through the interface -/

theorem newBlockM (w : World) (o : Obj) : (w.alloc o).heap[w.heap.size]? = some o := (MapKept.heap_alloc w o).1
theorem duoCells {w : World} {b : Nat} {x y : Value} {t : TypeId} (h : w.heap[b]? = some (.cells #[x, y] t)) : w.cell? ⟨b, 0, none⟩ = some x ∧ w.cell? ⟨b, 1, none⟩ = some y ∧ ∀ o, w.frozen? ⟨b, o, none⟩ = false :=
  ⟨by rw [cell_of_block h]; rfl, by rw [cell_of_block h]; rfl, fun o => unfrozen_of_block h o⟩

end Go.Proofs.YtcipidcnkllanaaDoor
