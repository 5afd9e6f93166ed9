/-
  Plain facts on signs of patterns and on numbers of six bits, for chapter 2: no program is walked here.
  What the program's own functions on patterns return: a text is read as a set of masks or as none.
  What the masks' methods return: whether two meet, one is in another, a head is of them, how many heads they have, their text, what two have in common.
-/
import Derived.Test.YtndmedkkecikoaaRows
import Derived.WalkKit
import Derived.ProofKit
import Derived.OpenShut
import Derived.Lib.SmallJoins
import Derived.Lib.Hide
import Derived.Deep.RegionWith
import Derived.Test.YtndmedkkecikoaaHeadB
import Derived.Deep.RegionHeld3

namespace Go.Proofs.Ytndmedkkecikoaa
open Go.ChangeShapes Go.WideShapes Go.ChangeAt Go.RowKit Go.Joins
set_option linter.unusedVariables false

/-- Of six places each. -/
def all6 (p : Nat → Bool) : Bool := p 0 && (p 1 && (p 2 && (p 3 && (p 4 && p 5))))
theorem all6_congr {p q : Nat → Bool} (h : ∀ i, i < 6 → p i = q i) : all6 p = all6 q := by
  unfold all6
  rw [h 0 (by omega), h 1 (by omega), h 2 (by omega), h 3 (by omega), h 4 (by omega), h 5 (by omega)]
theorem all6_iff {p : Nat → Bool} : all6 p = true ↔ ∀ i, i < 6 → p i = true := by
  unfold all6
  simp only [Bool.and_eq_true]
  constructor
  · rintro ⟨h0, h1, h2, h3, h4, h5⟩ i hi
    match i, hi with
    | 0, _ => exact h0
    | 1, _ => exact h1
    | 2, _ => exact h2
    | 3, _ => exact h3
    | 4, _ => exact h4
    | 5, _ => exact h5
  · intro h
    exact ⟨h 0 (by omega), h 1 (by omega), h 2 (by omega), h 3 (by omega), h 4 (by omega), h 5 (by omega)⟩
theorem all6_not {p : Nat → Bool} : all6 p = false ↔ ∃ i, i < 6 ∧ p i = false := by
  constructor
  · intro h
    apply Classical.byContradiction
    intro hn
    have : all6 p = true := all6_iff.2 fun i hi => by
      cases hp : p i
      · exact absurd ⟨i, hi, hp⟩ hn
      · rfl
    rw [h] at this
    cases this
  · rintro ⟨i, hi, hp⟩
    cases h : all6 p
    · rfl
    · rw [all6_iff.1 h i hi] at hp
      cases hp

/-- A number of six bits, the first one the greatest. -/
def of6 (a b c d e f : Bool) : Int :=
  (bif a then 32 else 0) + ((bif b then 16 else 0) + ((bif c then 8 else 0) + ((bif d then 4 else 0) + ((bif e then 2 else 0) + (bif f then 1 else 0)))))
def ofB (f : Nat → Bool) : Int := of6 (f 0) (f 1) (f 2) (f 3) (f 4) (f 5)
theorem ofB_congr {p q : Nat → Bool} (h : ∀ i, i < 6 → p i = q i) : ofB p = ofB q := by
  unfold ofB
  rw [h 0 (by omega), h 1 (by omega), h 2 (by omega), h 3 (by omega), h 4 (by omega), h 5 (by omega)]
theorem of6_bound : ∀ a b c d e f : Bool, 0 ≤ of6 a b c d e f ∧ of6 a b c d e f ≤ 63 := by decide +kernel
theorem ofB_bound (f : Nat → Bool) : 0 ≤ ofB f ∧ ofB f ≤ 63 := of6_bound _ _ _ _ _ _
theorem of6_or : ∀ a b c d e f a' b' c' d' e' f' : Bool, bits BinOp.or IntKind.u8 (of6 a b c d e f) (of6 a' b' c' d' e' f') = of6 (a || a') (b || b') (c || c') (d || d') (e || e') (f || f') := by decide +kernel
theorem of6_and : ∀ a b c d e f a' b' c' d' e' f' : Bool, bits BinOp.and IntKind.u8 (of6 a b c d e f) (of6 a' b' c' d' e' f') = of6 (a && a') (b && b') (c && c') (d && d') (e && e') (f && f') := by decide +kernel
theorem of6_xor : ∀ a b c d e f a' b' c' d' e' f' : Bool, bits BinOp.xor IntKind.u8 (of6 a b c d e f) (of6 a' b' c' d' e' f') = of6 (a ^^ a') (b ^^ b') (c ^^ c') (d ^^ d') (e ^^ e') (f ^^ f') := by decide +kernel
theorem of6_andNot : ∀ a b c d e f a' b' c' d' e' f' : Bool, bits BinOp.andNot IntKind.u8 (of6 a b c d e f) (of6 a' b' c' d' e' f') = of6 (a && !a') (b && !b') (c && !c') (d && !d') (e && !e') (f && !f') := by decide +kernel
theorem of6_eq : ∀ a b c d e f a' b' c' d' e' f' : Bool, (of6 a b c d e f == of6 a' b' c' d' e' f') = ((a == a') && ((b == b') && ((c == c') && ((d == d') && ((e == e') && (f == f')))))) := by decide +kernel
theorem ofB_or (f g : Nat → Bool) : bits BinOp.or IntKind.u8 (ofB f) (ofB g) = ofB (fun i => f i || g i) := of6_or _ _ _ _ _ _ _ _ _ _ _ _
theorem ofB_and (f g : Nat → Bool) : bits BinOp.and IntKind.u8 (ofB f) (ofB g) = ofB (fun i => f i && g i) := of6_and _ _ _ _ _ _ _ _ _ _ _ _
theorem ofB_xor (f g : Nat → Bool) : bits BinOp.xor IntKind.u8 (ofB f) (ofB g) = ofB (fun i => f i ^^ g i) := of6_xor _ _ _ _ _ _ _ _ _ _ _ _
theorem ofB_andNot (f g : Nat → Bool) : bits BinOp.andNot IntKind.u8 (ofB f) (ofB g) = ofB (fun i => f i && !g i) := of6_andNot _ _ _ _ _ _ _ _ _ _ _ _
theorem ofB_eq (f g : Nat → Bool) : (ofB f == ofB g) = all6 (fun i => f i == g i) := of6_eq _ _ _ _ _ _ _ _ _ _ _ _
theorem ofB_zero : ofB (fun _ => false) = 0 := by decide
theorem ofB_isZero (f : Nat → Bool) : (ofB f == 0) = all6 (fun i => !f i) := by
  rw [← ofB_zero, ofB_eq]
  exact all6_congr fun i _ => by cases f i <;> rfl

/-- The bit of a place alone. -/
def pw (k : Nat) : Int := match k with | 0 => 32 | 1 => 16 | 2 => 8 | 3 => 4 | 4 => 2 | _ => 1
theorem pw_ofB {k : Nat} (hk : k < 6) : pw k = ofB (fun i => i == k) := by
  match k, hk with
  | 0, _ => decide
  | 1, _ => decide
  | 2, _ => decide
  | 3, _ => decide
  | 4, _ => decide
  | 5, _ => decide
theorem pw_bound (k : Nat) : 1 ≤ pw k ∧ pw k ≤ 32 := by
  unfold pw
  split <;> decide
theorem and_pw (f : Nat → Bool) {k : Nat} (hk : k < 6) : (bits BinOp.and IntKind.u8 (ofB f) (pw k) == 0) = !f k := by
  rw [pw_ofB hk, ofB_and, ofB_isZero]
  cases hf : f k
  · exact all6_iff.2 fun i _ => by
      by_cases h : i = k
      · subst h; simp [hf]
      · simp [h]
  · exact all6_not.2 ⟨k, hk, by simp [hf]⟩
theorem or_pw (f : Nat → Bool) {k : Nat} (hk : k < 6) : bits BinOp.or IntKind.u8 (ofB f) (pw k) = ofB (fun i => f i || i == k) := by rw [pw_ofB hk, ofB_or]

/-- The first k places, and no other. -/
def pre (k : Nat) (f : Nat → Bool) : Nat → Bool := fun i => decide (i < k) && f i
theorem pre_zero (f : Nat → Bool) : ofB (pre 0 f) = 0 := by rw [← ofB_zero]; exact ofB_congr fun i _ => by simp [pre]
theorem pre_six (f : Nat → Bool) : ofB (pre 6 f) = ofB f := ofB_congr fun i hi => by simp [pre, hi]
theorem pre_yes {f : Nat → Bool} {k : Nat} (hk : k < 6) (h : f k = true) : bits BinOp.or IntKind.u8 (ofB (pre k f)) (pw k) = ofB (pre (k + 1) f) := by
  rw [or_pw _ hk]
  refine ofB_congr fun i _ => ?_
  by_cases hi : i = k
  · subst hi; simp [pre, h]
  · have : (i < k + 1) = (i < k) := by apply propext; omega
    simp [pre, hi, this]
theorem pre_no {f : Nat → Bool} {k : Nat} (h : f k = false) : ofB (pre (k + 1) f) = ofB (pre k f) := by
  refine ofB_congr fun i _ => ?_
  by_cases hi : i = k
  · subst hi; simp [pre, h]
  · have : (i < k + 1) = (i < k) := by apply propext; omega
    simp [pre, this]

/-! ### Signs -/

/-- The byte at a place. -/
def byA (s : ByteArray) (i : Nat) : UInt8 := s.data.getD i 0
theorem byA_get {s : ByteArray} {i : Nat} (h : i < s.size) : s[i]'h = byA s i := by
  simp only [byA, Array.getD]
  exact (dif_pos (c := i < s.data.size) h).symm
def sgn (b : UInt8) : Bool := b == 48 || (b == 49 || b == 120)
theorem sgn_true {b : UInt8} (h : sgn b = true) : b = 48 ∨ b = 49 ∨ b = 120 := by simpa [sgn] using h
/-- A pattern. -/
def okS (s : ByteArray) : Bool := (s.size == 6) && all6 (fun i => sgn (byA s i))
theorem okS_size {s : ByteArray} (h : okS s = true) : s.size = 6 := by
  simp only [okS, Bool.and_eq_true, beq_iff_eq] at h
  exact h.1
theorem okS_sgn {s : ByteArray} (h : okS s = true) (i : Nat) (hi : i < 6) : byA s i = 48 ∨ byA s i = 49 ∨ byA s i = 120 := by
  simp only [okS, Bool.and_eq_true] at h
  exact sgn_true (all6_iff.1 h.2 i hi)
/-- Which places are no x, and which are 1. -/
def cf (s : ByteArray) (i : Nat) : Bool := !(byA s i == 120)
def vf (s : ByteArray) (i : Nat) : Bool := byA s i == 49

/-- A text of six bytes. -/
def mk6 (f : Nat → UInt8) : ByteArray := ⟨#[f 0, f 1, f 2, f 3, f 4, f 5]⟩
theorem mk6_size (f : Nat → UInt8) : (mk6 f).size = 6 := rfl
theorem mk6_byA (f : Nat → UInt8) {i : Nat} (hi : i < 6) : byA (mk6 f) i = f i := by
  match i, hi with
  | 0, _ => rfl
  | 1, _ => rfl
  | 2, _ => rfl
  | 3, _ => rfl
  | 4, _ => rfl
  | 5, _ => rfl
theorem mk6_congr {f g : Nat → UInt8} (h : ∀ i, i < 6 → f i = g i) : mk6 f = mk6 g := by
  unfold mk6
  rw [h 0 (by omega), h 1 (by omega), h 2 (by omega), h 3 (by omega), h 4 (by omega), h 5 (by omega)]
theorem mk6_back {s : ByteArray} (h : s.size = 6) : mk6 (byA s) = s := by
  obtain ⟨⟨l⟩⟩ := s
  match l, h with
  | [b0, b1, b2, b3, b4, b5], _ => rfl
/-- The sign of a place. -/
def chr (c v : Bool) : UInt8 := bif c then (bif v then 49 else 48) else 120
def txt (c v : Nat → Bool) : ByteArray := mk6 (fun i => chr (c i) (v i))
theorem txt_back {s : ByteArray} (h : okS s = true) : txt (cf s) (vf s) = s := by
  rw [← mk6_back (okS_size h)]
  unfold txt
  refine mk6_congr fun i hi => ?_
  rw [mk6_back (okS_size h)]
  rcases okS_sgn h i hi with e | e | e <;> simp [cf, vf, chr, e]
theorem sgn_chr (c v : Bool) : sgn (chr c v) = true := by cases c <;> cases v <;> rfl
theorem okS_txt (c v : Nat → Bool) : okS (txt c v) = true := by
  simp only [okS, Bool.and_eq_true]
  exact ⟨rfl, all6_iff.2 fun i hi => by rw [txt, mk6_byA _ hi]; exact sgn_chr _ _⟩
theorem cf_txt (c v : Nat → Bool) {i : Nat} (hi : i < 6) : cf (txt c v) i = c i := by
  unfold cf txt
  rw [mk6_byA _ hi]
  cases c i <;> cases v i <;> rfl
theorem vf_txt (c v : Nat → Bool) {i : Nat} (hi : i < 6) : vf (txt c v) i = (c i && v i) := by
  unfold vf txt
  rw [mk6_byA _ hi]
  cases c i <;> cases v i <;> rfl

end Go.Proofs.Ytndmedkkecikoaa

namespace Go.Proofs.Ytndmedkkecikoaa
open Go.ChangeShapes Go.WideShapes Go.ChangeAt Go.RowKit Go.Joins
set_option linter.unusedVariables false

set_option maxHeartbeats 400000 in
theorem wildBit_at (k : Nat) (hk : k < 6) (w : World) :
    Calls Try.prog 82 #[.int .i64 k] w fun e w' => e = .returned (.int .u8 (pw k)) ∧ w = w' := by
  match k, hk with
  | 0, _ | 1, _ | 2, _ | 3, _ | 4, _ | 5, _ =>
    go_enter Try.func82, Try.ntmps82
    go_wp2
    go_ret
    exact ⟨rfl, rfl⟩

/-- Masks, as a value; and as one of an interface. -/
def mskV (c v : Nat → Bool) : Value := .agg #[.int .u8 (ofB c), .int .u8 (ofB v)]
def mskI (c v : Nat → Bool) : Value := .iface 87 (.agg #[.int .u8 (ofB c), .int .u8 (ofB v)])
def noneI : Value := .iface 110 (.agg #[])

set_option maxHeartbeats 1000000 in
theorem readWild_yes (s : ByteArray) (hk : okS s = true) (w : World) :
    Calls Try.prog 61 #[.string s] w fun e w' => e = .returned (.iface 87 (.agg #[.int .u8 (ofB (cf s)), .int .u8 (ofB (vf s))])) ∧ Below w.heap.size w w' := by
  have h6 : s.size = 6 := okS_size hk
  have h6' : ((s.size : Int) != 6) = false := by simp [h6]
  have HK := Lib.hid (okS_sgn hk)
  clear hk
  go_enter Try.func61, Try.ntmps61
  go_wp2
  go_loopw [10] (fun i wr => ∃ k : Nat, k ≤ 6 ∧ i = .int .i64 k ∧ wr.heap[w.heap.size]? = some (.cells #[.int .u8 (ofB (pre k (cf s))), .int .u8 (ofB (pre k (vf s)))] 87) ∧ Below w.heap.size w wr) (fun i _ => 6 - (intOf i).toNat)
  case atStart => exact ⟨0, Nat.zero_le _, rfl, by rw [pre_zero, pre_zero]; exact (MapKept.heap_alloc w _).1, below_alloc1 _ _⟩
  case round =>
    obtain ⟨k, hk, rfl, hblk, hbel⟩ := hrel
    have c0 : wr.cell? ⟨w.heap.size, 0, none⟩ = some (.int .u8 (ofB (pre k (cf s)))) := by rw [cell_of_block hblk]; rfl
    have c1 : wr.cell? ⟨w.heap.size, 1, none⟩ = some (.int .u8 (ofB (pre k (vf s)))) := by rw [cell_of_block hblk]; rfl
    have f0 := unfrozen_of_block hblk
    by_cases hlt : k < 6
    · have hb : (s[k]'(by omega)) = byA s k := byA_get _
      rcases HK.out k hlt with e | e | e
      · have ec : Hid (cf s k = true) := by show cf s k = true; simp [cf, e]
        have ev : Hid (vf s k = false) := by show vf s k = false; simp [vf, e]
        go_wp2
        go_region_with (go_at_call 82; refine (wildBit_at _ hlt _).mono ?_; rintro e wq ⟨rfl, rfl⟩)
        all_goals
          rw [pre_yes hlt ec.out]
          go_wp2
          go_roundw
          case rel => exact ⟨k + 1, by omega, by go_num, by rw [pre_no ev.out]; exact block_setCell hblk _, (hbel.setCell (Nat.le_refl _) _).drew⟩
          case measure => simp [intOf]; omega
      · have ec : Hid (cf s k = true) := by show cf s k = true; simp [cf, e]
        have ev : Hid (vf s k = true) := by show vf s k = true; simp [vf, e]
        go_wp2
        go_region_with (go_at_call 82; refine (wildBit_at _ hlt _).mono ?_; rintro e wq ⟨rfl, rfl⟩)
        all_goals
          rw [pre_yes hlt ec.out]
          go_wp2
          go_region_with (go_at_call 82; refine (wildBit_at _ hlt _).mono ?_; rintro e wq ⟨rfl, rfl⟩)
          all_goals
            rw [pre_yes hlt ev.out]
            go_wp2
            go_roundw
            case rel => exact ⟨k + 1, by omega, by go_num, block_setCell (w := World.setCell wr _ _) (block_setCell hblk _) _, (((hbel.setCell (Nat.le_refl _) _).setCell (Nat.le_refl _) _).drew).drew⟩
            case measure => simp [intOf]; omega
      · have ec : Hid (cf s k = false) := by show cf s k = false; simp [cf, e]
        have ev : Hid (vf s k = false) := by show vf s k = false; simp [vf, e]
        go_wp2
        go_roundw
        case rel => exact ⟨k + 1, by omega, by go_num, by rw [pre_no ev.out, pre_no ec.out]; exact hblk, hbel⟩
        case measure => simp [intOf]; omega
    · obtain rfl : k = 6 := by omega
      rw [pre_six] at c0 c1
      go_wp2
      go_ret
      exact ⟨rfl, hbel⟩

set_option maxHeartbeats 1000000 in
theorem readWild_short (s : ByteArray) (hs : s.size ≠ 6) (hm : s.size ≤ 1048576) (w : World) :
    Calls Try.prog 61 #[.string s] w fun e w' => e = .returned (.iface 110 (.agg #[])) ∧ Below w.heap.size w w' := by
  have h6' : ((s.size : Int) != 6) = true := by simp; omega
  go_enter Try.func61, Try.ntmps61
  go_wp2
  go_ret
  exact ⟨rfl, Below.refl _ _⟩

set_option maxHeartbeats 1000000 in
theorem readWild_bad (s : ByteArray) (h6 : s.size = 6) (j : Nat) (hj : j < 6) (hbad : sgn (byA s j) = false) (w : World) :
    Calls Try.prog 61 #[.string s] w fun e w' => e = .returned (.iface 110 (.agg #[])) ∧ Below w.heap.size w w' := by
  have h6' : ((s.size : Int) != 6) = false := by simp [h6]
  have HB := Lib.hid hbad
  clear hbad
  go_enter Try.func61, Try.ntmps61
  go_wp2
  go_loopw [10] (fun i wr => ∃ k : Nat, k ≤ j ∧ i = .int .i64 k ∧ (∃ c v : Int, wr.heap[w.heap.size]? = some (.cells #[.int .u8 c, .int .u8 v] 87)) ∧ Below w.heap.size w wr) (fun i _ => 6 - (intOf i).toNat)
  case atStart => exact ⟨0, Nat.zero_le _, rfl, ⟨0, 0, (MapKept.heap_alloc w _).1⟩, below_alloc1 _ _⟩
  case round =>
    obtain ⟨k, hk, rfl, ⟨c, v, hblk⟩, hbel⟩ := hrel
    have c0 : wr.cell? ⟨w.heap.size, 0, none⟩ = some (.int .u8 c) := by rw [cell_of_block hblk]; rfl
    have c1 : wr.cell? ⟨w.heap.size, 1, none⟩ = some (.int .u8 v) := by rw [cell_of_block hblk]; rfl
    have f0 := unfrozen_of_block hblk
    have hlt : k < 6 := by omega
    have hb : (s[k]'(by omega)) = byA s k := byA_get _
    have HN : Hid (sgn (byA s k) = true → k + 1 ≤ j) := by
      intro h
      have : k ≠ j := by
        rintro rfl
        rw [HB.out] at h
        cases h
      omega
    by_cases e48 : byA s k = 48
    · have HN1 := HN.out (by rw [e48]; rfl)
      go_wp2
      go_region_with (go_at_call 82; refine (wildBit_at _ hlt _).mono ?_; rintro e wq ⟨rfl, rfl⟩)
      all_goals
        go_wp2
        go_roundw
        case rel => exact ⟨k + 1, HN1, by go_num, ⟨_, _, block_setCell hblk _⟩, (hbel.setCell (Nat.le_refl _) _).drew⟩
        case measure => simp [intOf]; omega
    have n48 : (((byA s k).toNat : Int) == 48) = false := by
      have : (byA s k).toNat ≠ 48 := fun e => e48 (by apply UInt8.toNat_inj.1; simpa using e)
      simp; omega
    by_cases e49 : byA s k = 49
    · have HN1 := HN.out (by rw [e49]; rfl)
      clear n48 e48
      go_wp2
      go_region_with (go_at_call 82; refine (wildBit_at _ hlt _).mono ?_; rintro e wq ⟨rfl, rfl⟩)
      all_goals
        go_wp2
        go_region_with (go_at_call 82; refine (wildBit_at _ hlt _).mono ?_; rintro e wq ⟨rfl, rfl⟩)
        all_goals
          go_wp2
          go_roundw
          case rel => exact ⟨k + 1, HN1, by go_num, ⟨_, _, block_setCell (w := World.setCell wr _ _) (block_setCell hblk _) _⟩, (((hbel.setCell (Nat.le_refl _) _).setCell (Nat.le_refl _) _).drew).drew⟩
          case measure => simp [intOf]; omega
    have n49 : (((byA s k).toNat : Int) == 49) = false := by
      have : (byA s k).toNat ≠ 49 := fun e => e49 (by apply UInt8.toNat_inj.1; simpa using e)
      simp; omega
    by_cases e120 : byA s k = 120
    · have HN1 := HN.out (by rw [e120]; rfl)
      clear n48 e48 n49 e49
      go_wp2
      go_roundw
      case rel => exact ⟨k + 1, HN1, by go_num, ⟨_, _, hblk⟩, hbel⟩
      case measure => simp [intOf]; omega
    have n120 : (((byA s k).toNat : Int) == 120) = false := by
      have : (byA s k).toNat ≠ 120 := fun e => e120 (by apply UInt8.toNat_inj.1; simpa using e)
      simp; omega
    clear e48 e49 e120
    go_wp2
    go_ret
    exact ⟨rfl, hbel⟩

/-- What is no pattern is read as none. -/
theorem readWild_no (s : ByteArray) (hk : okS s = false) (hm : s.size ≤ 1048576) (w : World) :
    Calls Try.prog 61 #[.string s] w fun e w' => e = .returned (.iface 110 (.agg #[])) ∧ Below w.heap.size w w' := by
  by_cases h6 : s.size = 6
  · have : all6 (fun i => sgn (byA s i)) = false := by simpa [okS, h6] using hk
    obtain ⟨j, hj, hb⟩ := all6_not.1 this
    exact readWild_bad s h6 j hj hb w
  · exact readWild_short s h6 hm w

end Go.Proofs.Ytndmedkkecikoaa

namespace Go.Proofs.Ytndmedkkecikoaa
open Go.ChangeShapes Go.WideShapes Go.ChangeAt Go.RowKit Go.Joins
set_option linter.unusedVariables false

/-! ### Plain facts -/

/-- Two masks meet; one is in another; a number is of masks. -/
def meetB (c v c' v' : Nat → Bool) : Bool := all6 (fun i => !((v i ^^ v' i) && c i && c' i))
def inM (c v c' v' : Nat → Bool) : Bool := all6 (fun i => !(c' i && !c i)) && meetB c v c' v'
def hasM (c v b : Nat → Bool) : Bool := all6 (fun i => (b i && c i) == v i)
theorem meet_bits (c v c' v' : Nat → Bool) : (bits BinOp.and IntKind.u8 (bits BinOp.and IntKind.u8 (bits BinOp.xor IntKind.u8 (ofB v) (ofB v')) (ofB c)) (ofB c') == 0) = meetB c v c' v' := by
  rw [ofB_xor, ofB_and, ofB_and, ofB_isZero]; rfl
theorem in_bits (c c' : Nat → Bool) : (bits BinOp.andNot IntKind.u8 (ofB c') (ofB c) == 0) = all6 (fun i => !(c' i && !c i)) := by
  rw [ofB_andNot, ofB_isZero]
theorem has_bits (c v b : Nat → Bool) : (bits BinOp.and IntKind.u8 (ofB b) (ofB c) == ofB v) = hasM c v b := by
  rw [ofB_and, ofB_eq]; rfl

/-- How many of six. -/
def cnt6 (a b c d e f : Bool) : Nat := a.toNat + (b.toNat + (c.toNat + (d.toNat + (e.toNat + f.toNat))))
def manyB (c : Nat → Bool) : Int := 2 ^ (6 - cnt6 (c 0) (c 1) (c 2) (c 3) (c 4) (c 5))

theorem assert_yes (v : Value) (w : World) : (Instr.typeAssert (.iface 87 v) 71 87 true).run Try.prog w = .ok (.tuple #[v, .bool true]) w := by
  simp [Instr.typeAssert, run_underlying Try.underlying87, go_sem, Result.andThen]
theorem assert_no (v : Value) (w : World) : (Instr.typeAssert (.iface 110 v) 71 87 true).run Try.prog w = .ok (.tuple #[.agg #[.int .u8 0, .int .u8 0], .bool false]) w := by
  simp [Instr.typeAssert, run_underlying Try.underlying87, go_sem, Result.andThen]

set_option maxRecDepth 100000 in
set_option maxHeartbeats 1000000 in
theorem masksOf_yes (x y : Int) (w : World) :
    Calls Try.prog 76 #[.iface 87 (.agg #[.int .u8 x, .int .u8 y])] w fun e w' => e = .returned (.tuple #[.agg #[.int .u8 x, .int .u8 y], .bool true]) ∧ Below w.heap.size w w' := by
  have hta := assert_yes
  go_enter Try.func76, Try.ntmps76
  go_wp2
  exact bodyPost_ret (v := .tuple #[.agg #[.int .u8 x, .int .u8 y], .bool true]) (by simp [results, Try.results76, go_sem]) rfl
    ⟨rfl, by repeat (first | exact below_alloc2 _ _ _ | refine Below.setCell ?_ (by simp) _)⟩

set_option maxRecDepth 100000 in
set_option maxHeartbeats 1000000 in
theorem masksOf_no (w : World) :
    Calls Try.prog 76 #[.iface 110 (.agg #[])] w fun e w' => e = .returned (.tuple #[.agg #[.int .u8 0, .int .u8 0], .bool false]) ∧ Below w.heap.size w w' := by
  have hta := assert_no
  go_enter Try.func76, Try.ntmps76
  go_wp2
  exact bodyPost_ret (v := .tuple #[.agg #[.int .u8 0, .int .u8 0], .bool false]) (by simp [results, Try.results76, go_sem]) rfl
    ⟨rfl, by repeat (first | exact below_alloc1 _ _ | refine Below.setCell ?_ (by simp) _)⟩

set_option maxHeartbeats 400000 in
theorem meets_any (c v c' v' : Nat → Bool) (w : World) :
    Calls Try.prog 90 #[.agg #[.int .u8 (ofB c), .int .u8 (ofB v)], .agg #[.int .u8 (ofB c'), .int .u8 (ofB v')]] w fun e w' => e = .returned (.bool (meetB c v c' v')) ∧ Below w.heap.size w w' := by
  rw [← meet_bits]
  go_enter Try.func90, Try.ntmps90
  go_wp2
  go_ret
  exact ⟨rfl, below_alloc2 _ _ _⟩

set_option maxHeartbeats 400000 in
theorem in_any (c v c' v' : Nat → Bool) (w : World) :
    Calls Try.prog 77 #[.agg #[.int .u8 (ofB c), .int .u8 (ofB v)], .agg #[.int .u8 (ofB c'), .int .u8 (ofB v')]] w fun e w' => e = .returned (.bool (inM c v c' v')) ∧ Below w.heap.size w w' := by
  have hb := in_bits c c'
  cases hk : all6 (fun i => !(c' i && !c i))
  · rw [hk] at hb
    rw [show inM c v c' v' = false from by unfold inM; rw [hk]; rfl]
    go_enter Try.func77, Try.ntmps77
    go_wp2
    go_ret
    exact ⟨rfl, below_alloc2 _ _ _⟩
  · rw [hk] at hb
    rw [show inM c v c' v' = meetB c v c' v' from by unfold inM; rw [hk]; rfl]
    go_enter Try.func77, Try.ntmps77
    go_wp2_with (go_at_call 90; refine (meets_any _ _ _ _ _).mono ?_; rintro e w1 ⟨rfl, b1⟩)
    go_ret
    exact ⟨rfl, (below_alloc2 _ _ _).trans (b1.mono (by simp; omega))⟩

set_option maxHeartbeats 400000 in
theorem has_any (c v b : Nat → Bool) (w : World) :
    Calls Try.prog 135 #[.agg #[.int .u8 (ofB c), .int .u8 (ofB v)], .int .u8 (ofB b)] w fun e w' => e = .returned (.bool (hasM c v b)) ∧ Below w.heap.size w w' := by
  rw [← has_bits]
  go_enter Try.func135, Try.ntmps135
  go_wp2
  go_ret
  exact ⟨rfl, below_alloc1 _ _⟩

set_option maxHeartbeats 400000 in
theorem hasNone_any (x : Int) (w : World) :
    Calls Try.prog 137 #[.agg #[], .int .u8 x] w fun e w' => e = .returned (.bool false) ∧ Below w.heap.size w w' := by
  go_enter Try.func137, Try.ntmps137
  go_wp2
  go_ret
  exact ⟨rfl, below_alloc1 _ _⟩

set_option maxHeartbeats 400000 in
theorem manyNone_any (w : World) :
    Calls Try.prog 138 #[.agg #[]] w fun e w' => e = .returned (.int .i64 0) ∧ Below w.heap.size w w' := by
  go_enter Try.func138, Try.ntmps138
  go_wp2
  go_ret
  exact ⟨rfl, below_alloc1 _ _⟩

set_option maxHeartbeats 400000 in
theorem textNone_any (w : World) :
    Calls Try.prog 139 #[.agg #[]] w fun e w' => e = .returned (.string ⟨#[]⟩) ∧ Below w.heap.size w w' := by
  go_enter Try.func139, Try.ntmps139
  go_wp2
  go_ret
  exact ⟨rfl, below_alloc1 _ _⟩

set_option maxHeartbeats 400000 in
theorem andNone_any (v : Value) (w : World) :
    Calls Try.prog 136 #[.agg #[], v] w fun e w' => e = .returned (.iface 110 (.agg #[])) ∧ Below w.heap.size w w' := by
  go_enter Try.func136, Try.ntmps136
  go_wp2
  go_ret
  exact ⟨rfl, below_alloc1 _ _⟩

set_option maxHeartbeats 400000 in
theorem with_any (c v p u : Nat → Bool) (w : World) :
    Calls Try.prog 91 #[.agg #[.int .u8 (ofB c), .int .u8 (ofB v)], .int .u8 (ofB p), .int .u8 (ofB u)] w fun e w' => e = .returned (.agg #[.int .u8 (ofB (fun i => c i || p i)), .int .u8 (ofB (fun i => (v i && !p i) || (u i && p i)))]) ∧ Below w.heap.size w w' := by
  rw [show ofB (fun i => (v i && !p i) || (u i && p i)) = bits BinOp.or IntKind.u8 (bits BinOp.andNot IntKind.u8 (ofB v) (ofB p)) (bits BinOp.and IntKind.u8 (ofB u) (ofB p)) from by rw [ofB_andNot, ofB_and, ofB_or]]
  rw [← ofB_or]
  go_enter Try.func91, Try.ntmps91
  go_wp2
  exact bodyPost_ret (v := .agg #[.int .u8 (bits BinOp.or IntKind.u8 (ofB c) (ofB p)), .int .u8 (bits BinOp.or IntKind.u8 (bits BinOp.andNot IntKind.u8 (ofB v) (ofB p)) (bits BinOp.and IntKind.u8 (ofB u) (ofB p)))]) (by simp [results, Try.results91, go_sem]) rfl
    ⟨rfl, by repeat (first | exact below_alloc2 _ _ _ | refine Below.setCell ?_ (by simp) _)⟩

/-! ### How many -/

def cntB (c : Nat → Bool) : Nat := cnt6 (c 0) (c 1) (c 2) (c 3) (c 4) (c 5)
theorem cnt6_le : ∀ a b c d e f : Bool, cnt6 a b c d e f ≤ 6 := by decide
theorem cntB_le (c : Nat → Bool) : cntB c ≤ 6 := cnt6_le _ _ _ _ _ _

set_option maxRecDepth 100000 in
set_option maxHeartbeats 1000000 in
theorem onesCount_at (c : Nat → Bool) (w : World) :
    Calls Try.prog 99 #[.int .u8 (ofB c)] w fun e w' => e = .returned (.int .i64 (cntB c)) ∧ w = w' := by
  have h0 := (ofB_bound c).1
  have h1 := (ofB_bound c).2
  go_enter Try.func99, Try.ntmps99
  go_wp2
  go_ret
  refine ⟨ret_int ?_, rfl⟩
  rename_i h
  clear h1
  unfold cntB
  revert h0 h
  unfold ofB
  generalize c 0 = x0
  generalize c 1 = x1
  generalize c 2 = x2
  generalize c 3 = x3
  generalize c 4 = x4
  generalize c 5 = x5
  intro h0 h
  rw [ByteArray.getElem_eq_getElem_data]
  cases x0 <;> cases x1 <;> cases x2 <;> cases x3 <;> cases x4 <;> cases x5 <;> simp [of6, cnt6, wrap64]

set_option maxHeartbeats 1000000 in
theorem many_any (c v : Nat → Bool) (w : World) :
    Calls Try.prog 88 #[.agg #[.int .u8 (ofB c), .int .u8 (ofB v)]] w fun e w' => e = .returned (.int .i64 (manyB c)) ∧ Below w.heap.size w w' := by
  have hc := Lib.hid (onesCount_at c)
  have hm : manyB c = 2 ^ (6 - cntB c) := rfl
  have hl := cntB_le c
  rw [hm]
  clear hm
  generalize cntB c = m at *
  match m, hl with
  | 0, _ | 1, _ | 2, _ | 3, _ | 4, _ | 5, _ | 6, _ =>
    go_enter Try.func88, Try.ntmps88
    go_wp2_with (go_at_call 99; refine (hc.out _).mono ?_; rintro e w1 ⟨rfl, rfl⟩)
    go_ret
    exact ⟨rfl, below_alloc1 _ _⟩

/-! ### The text -/

/-- Six cells, of which the first k are written. -/
def sixV (k : Nat) (f : Nat → UInt8) (i : Nat) : Value := .int .u8 (if i < k then ((f i).toNat : Int) else 0)
def sixA (k : Nat) (f : Nat → UInt8) : Array Value := #[sixV k f 0, sixV k f 1, sixV k f 2, sixV k f 3, sixV k f 4, sixV k f 5]
theorem sixA_zero (f : Nat → UInt8) : sixA 0 f = #[.int .u8 0, .int .u8 0, .int .u8 0, .int .u8 0, .int .u8 0, .int .u8 0] := rfl
theorem sixV_ne {k i : Nat} (f : Nat → UInt8) (h : i ≠ k) : sixV (k + 1) f i = sixV k f i := by
  unfold sixV
  have : (i < k + 1) = (i < k) := by apply propext; omega
  simp only [this]
theorem sixV_eq (k : Nat) (f : Nat → UInt8) : sixV (k + 1) f k = .int .u8 ((f k).toNat : Int) := by simp [sixV]
theorem sixA_step {k : Nat} (hk : k < 6) (f : Nat → UInt8) : (sixA k f).setIfInBounds k (.int .u8 ((f k).toNat : Int)) = sixA (k + 1) f := by
  match k, hk with
  | 0, _ => simp [sixA, sixV]
  | 1, _ => simp [sixA, sixV]
  | 2, _ => simp [sixA, sixV]
  | 3, _ => simp [sixA, sixV]
  | 4, _ => simp [sixA, sixV]
  | 5, _ => simp [sixA, sixV]
theorem sixA_get {f : Nat → UInt8} {j : Nat} (hj : j < 6) : (sixA 6 f)[j]? = some (.int .u8 ((f j).toNat : Int)) := by
  match j, hj with
  | 0, _ => rfl
  | 1, _ => rfl
  | 2, _ => rfl
  | 3, _ => rfl
  | 4, _ => rfl
  | 5, _ => rfl

theorem convert_six (w : World) (g : Nat) (f : Nat → UInt8) (t : TypeId) (h : w.heap[g]? = some (.cells (sixA 6 f) t)) :
    (convert 22 9 (.slice (some ⟨g, 0, none⟩) 6 6)).run Try.prog w = .ok (.string (mk6 f)) w := by
  refine run_convert_bytes_back (P := Try.prog) w 22 9 5 ⟨g, 0, none⟩ 6 [f 0, f 1, f 2, f 3, f 4, f 5] Try.underlying22 Try.underlying5 Try.underlying9 ?_
  intro j hj
  have hj : j < 6 := hj
  have ha : (⟨g, 0, none⟩ : Addr).add j = ⟨g, j, none⟩ := by cases j <;> simp [Addr.add]
  rw [ha, cell_of_block h, sixA_get hj]
  match j, hj with
  | 0, _ => rfl
  | 1, _ => rfl
  | 2, _ => rfl
  | 3, _ => rfl
  | 4, _ => rfl
  | 5, _ => rfl

set_option maxHeartbeats 1000000 in
theorem text_any (c v : Nat → Bool) (w : World) :
    Calls Try.prog 73 #[.agg #[.int .u8 (ofB c), .int .u8 (ofB v)]] w fun e w' => e = .returned (.string (txt c v)) ∧ Below w.heap.size w w' := by
  unfold txt
  generalize hf : (fun i => chr (c i) (v i)) = f
  have HF : Hid (∀ i, f i = chr (c i) (v i)) := fun i => by rw [← hf]
  clear hf
  go_enter Try.func73, Try.ntmps73
  go_wp2
  go_loopw [6] (fun i wr => ∃ k : Nat, k ≤ 6 ∧ i = .int .i64 k ∧ wr.heap[w.heap.size]? = some (.cells #[.int .u8 (ofB c), .int .u8 (ofB v)] 87) ∧ wr.heap[w.heap.size + 1]? = some (.cells (sixA k f) 117) ∧ Below w.heap.size w wr) (fun i _ => 6 - (intOf i).toNat)
  case atStart =>
    refine ⟨0, Nat.zero_le _, rfl, ?_, ?_, below_alloc2 _ _ _⟩
    · rw [Below.heap_alloc _ _ _ (by simp)]; exact (MapKept.heap_alloc w _).1
    · have := (MapKept.heap_alloc (w.alloc (.cells #[.int .u8 (ofB c), .int .u8 (ofB v)] 87)) (.cells #[.int .u8 0, .int .u8 0, .int .u8 0, .int .u8 0, .int .u8 0, .int .u8 0] 117)).1
      rw [sixA_zero]
      simpa using this
  case round =>
    obtain ⟨k, hk, rfl, hm, hblk, hbel⟩ := hrel
    have c0 : wr.cell? ⟨w.heap.size, 0, none⟩ = some (.int .u8 (ofB c)) := by rw [cell_of_block hm]; rfl
    have c1 : wr.cell? ⟨w.heap.size, 1, none⟩ = some (.int .u8 (ofB v)) := by rw [cell_of_block hm]; rfl
    have f0 := unfrozen_of_block hblk
    by_cases hlt : k < 6
    · have ck : wr.cell? ⟨w.heap.size + 1, k, none⟩ = some (.int .u8 0) := by
        rw [cell_of_block hblk]
        match k, hlt with
        | 0, _ => rfl
        | 1, _ => rfl
        | 2, _ => rfl
        | 3, _ => rfl
        | 4, _ => rfl
        | 5, _ => rfl
      have bc := and_pw c hlt
      have bv := and_pw v hlt
      have S := Lib.hid (sixA_step hlt f)
      have E := Lib.hid (HF.out k)
      cases ec : c k
      · rw [ec] at bc
        have e : f k = 120 := by rw [E.out, ec]; rfl
        rw [e] at S
        go_wp2_with (go_at_call 82; refine (wildBit_at _ hlt _).mono ?_; rintro e wq ⟨rfl, rfl⟩)
        go_roundw
        case rel => exact ⟨k + 1, by omega, by go_num, (Below.heap_setCell _ _ _ _ (by simp)).trans hm, by rw [← S.out]; exact block_setCell hblk _, hbel.setCell (by simp) _⟩
        case measure => simp [intOf]; omega
      · rw [ec] at bc
        cases ev : v k
        · rw [ev] at bv
          have e : f k = 48 := by rw [E.out, ec, ev]; rfl
          rw [e] at S
          go_wp2_with (go_at_call 82; refine (wildBit_at _ hlt _).mono ?_; rintro e wq ⟨rfl, rfl⟩)
          go_roundw
          case rel => exact ⟨k + 1, by omega, by go_num, (Below.heap_setCell _ _ _ _ (by simp)).trans hm, by rw [← S.out]; exact block_setCell hblk _, hbel.setCell (by simp) _⟩
          case measure => simp [intOf]; omega
        · rw [ev] at bv
          have e : f k = 49 := by rw [E.out, ec, ev]; rfl
          rw [e] at S
          go_wp2_with (go_at_call 82; refine (wildBit_at _ hlt _).mono ?_; rintro e wq ⟨rfl, rfl⟩)
          go_roundw
          case rel => exact ⟨k + 1, by omega, by go_num, (Below.heap_setCell _ _ _ _ (by simp)).trans hm, by rw [← S.out]; exact block_setCell hblk _, hbel.setCell (by simp) _⟩
          case measure => simp [intOf]; omega
    · obtain rfl : k = 6 := by omega
      have hcv := convert_six wr _ f _ hblk
      go_wp2
      go_ret
      exact ⟨rfl, hbel⟩

/-! ### What two have in common -/

set_option maxRecDepth 100000 in
set_option maxHeartbeats 1000000 in
theorem and_no (c v : Nat → Bool) (w : World) :
    Calls Try.prog 134 #[.agg #[.int .u8 (ofB c), .int .u8 (ofB v)], .iface 110 (.agg #[])] w fun e w' => e = .returned (.iface 110 (.agg #[])) ∧ Below w.heap.size w w' := by
  have hta := assert_no
  go_enter Try.func134, Try.ntmps134
  go_wp2
  go_ret
  exact ⟨rfl, below_alloc1 _ _⟩

set_option maxRecDepth 100000 in
set_option maxHeartbeats 1000000 in
theorem and_apart (c v c' v' : Nat → Bool) (h : meetB c v c' v' = false) (w : World) :
    Calls Try.prog 134 #[.agg #[.int .u8 (ofB c), .int .u8 (ofB v)], .iface 87 (.agg #[.int .u8 (ofB c'), .int .u8 (ofB v')])] w fun e w' => e = .returned (.iface 110 (.agg #[])) ∧ Below w.heap.size w w' := by
  have hta := assert_yes
  go_enter Try.func134, Try.ntmps134
  go_wp2_with (go_at_call 90; refine (meets_any _ _ _ _ _).mono ?_; rintro e w1 ⟨rfl, b1⟩; rw [h])
  go_ret
  exact ⟨rfl, (below_alloc2 _ _ _).trans (b1.mono (by simp; omega))⟩

set_option maxRecDepth 100000 in
set_option maxHeartbeats 1000000 in
theorem and_meet (c v c' v' : Nat → Bool) (h : meetB c v c' v' = true) (w : World) :
    Calls Try.prog 134 #[.agg #[.int .u8 (ofB c), .int .u8 (ofB v)], .iface 87 (.agg #[.int .u8 (ofB c'), .int .u8 (ofB v')])] w fun e w' => e = .returned (.iface 87 (.agg #[.int .u8 (ofB (fun i => c i || c' i)), .int .u8 (ofB (fun i => v i || v' i))])) ∧ Below w.heap.size w w' := by
  have hta := assert_yes
  rw [← ofB_or, ← ofB_or]
  go_enter Try.func134, Try.ntmps134
  go_wp2_with (go_at_call 90; refine (meets_any _ _ _ _ _).mono ?_; rintro e w1 ⟨rfl, b1⟩; rw [h]; have k1 := belCell b1)
  go_ret
  exact ⟨rfl, (below_alloc2 _ _ _).trans (b1.mono (by simp; omega))⟩

/-! ### Which method is called through the interface -/

theorem meth_has (x y : Int) (w : World) : (method 269 87 (.agg #[.int .u8 x, .int .u8 y]) "loop.example/crossbuck/impl.has").run Try.prog w = .ok (135, .agg #[.int .u8 x, .int .u8 y]) w := by kernel_rfl

theorem methNone_has (w : World) : (method 269 110 (.agg #[]) "loop.example/crossbuck/impl.has").run Try.prog w = .ok (137, .agg #[]) w := by kernel_rfl

theorem meth_many (x y : Int) (w : World) : (method 269 87 (.agg #[.int .u8 x, .int .u8 y]) "loop.example/crossbuck/impl.many").run Try.prog w = .ok (88, .agg #[.int .u8 x, .int .u8 y]) w := by kernel_rfl

theorem methNone_many (w : World) : (method 269 110 (.agg #[]) "loop.example/crossbuck/impl.many").run Try.prog w = .ok (138, .agg #[]) w := by kernel_rfl

theorem meth_text (x y : Int) (w : World) : (method 269 87 (.agg #[.int .u8 x, .int .u8 y]) "loop.example/crossbuck/impl.text").run Try.prog w = .ok (73, .agg #[.int .u8 x, .int .u8 y]) w := by kernel_rfl

theorem methNone_text (w : World) : (method 269 110 (.agg #[]) "loop.example/crossbuck/impl.text").run Try.prog w = .ok (139, .agg #[]) w := by kernel_rfl

theorem meth_and (x y : Int) (w : World) : (method 269 87 (.agg #[.int .u8 x, .int .u8 y]) "loop.example/crossbuck/impl.and").run Try.prog w = .ok (134, .agg #[.int .u8 x, .int .u8 y]) w := by kernel_rfl

theorem methNone_and (w : World) : (method 269 110 (.agg #[]) "loop.example/crossbuck/impl.and").run Try.prog w = .ok (136, .agg #[]) w := by kernel_rfl

/- It calls function 134. -/
theorem ahead_and (x y : Int) (w : World) : (nilAhead 269 87 (.agg #[.int .u8 x, .int .u8 y]) "loop.example/crossbuck/impl.and").run Try.prog w = .ok (some false) w := by kernel_rfl

theorem aheadNone_and (w : World) : (nilAhead 269 110 (.agg #[]) "loop.example/crossbuck/impl.and").run Try.prog w = .ok (some false) w := by kernel_rfl

theorem newBlockM (w : World) (o : Obj) : (w.alloc o).heap[w.heap.size]? = some o := (MapKept.heap_alloc w o).1
theorem duoCells {w : World} {b : Nat} {x y : Value} {t : TypeId} (h : w.heap[b]? = some (.cells #[x, y] t)) : w.cell? ⟨b, 0, none⟩ = some x ∧ w.cell? ⟨b, 1, none⟩ = some y ∧ ∀ o, w.frozen? ⟨b, o, none⟩ = false :=
  ⟨by rw [cell_of_block h]; rfl, by rw [cell_of_block h]; rfl, fun o => unfrozen_of_block h o⟩

end Go.Proofs.Ytndmedkkecikoaa
