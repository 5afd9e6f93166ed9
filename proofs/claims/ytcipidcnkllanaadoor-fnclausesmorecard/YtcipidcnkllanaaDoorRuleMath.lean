/-
  Plain facts on rules: when the four fields of a rule are within bounds, the text of a rule, how a text is parted at its blanks, and how two texts are compared.
-/
import Derived.Test.YtcipidcnkllanaaDoorHeadB
import Derived.Test.YtcipidcnkllanaaDoorWildB
import Derived.Lib.Bytealg
namespace Go.Proofs.YtcipidcnkllanaaDoor
open Go.ChangeShapes Go.WideShapes Go.ChangeAt Go.RowKit Go.Joins
set_option linter.unusedVariables false

/-! ### Fields and texts -/

/-- The four fields of a rule are within bounds. -/
def rOk (p : Int) (s : ByteArray) (o t : Int) : Bool := inB p 0 9 && (okS s && (inB o 0 4 && inB t (-1) 3))
theorem rOk_true {p : Int} {s : ByteArray} {o t : Int} (h : rOk p s o t = true) : (0 ≤ p ∧ p ≤ 9) ∧ okS s = true ∧ (0 ≤ o ∧ o ≤ 4) ∧ (-1 ≤ t ∧ t ≤ 3) := by
  simp only [rOk, Bool.and_eq_true] at h
  exact ⟨inB_true h.1, h.2.1, inB_true h.2.2.1, inB_true h.2.2.2⟩
theorem rOk_mk {p : Int} {s : ByteArray} {o t : Int} (h0 : 0 ≤ p) (h1 : p ≤ 9) (hs : okS s = true) (o0 : 0 ≤ o) (o1 : o ≤ 4) (t0 : -1 ≤ t) (t1 : t ≤ 3) : rOk p s o t = true := by
  simp [rOk, inB_mk h0 h1, hs, inB_mk o0 o1, inB_mk t0 t1]

/-- The sign of a number below ten, and of a tag. -/
def dgt (n : Int) : UInt8 := UInt8.ofNat (48 + n).toNat
def tagC (t : Int) : UInt8 := bif decide (0 ≤ t) then dgt t else 45
theorem digB_dgt (n : Int) : digB n = ⟨#[dgt n]⟩ := rfl
/-- The text of a tag. -/
def tagS (t : Int) : ByteArray := bif decide (0 ≤ t) then digB t else ⟨#[45]⟩
theorem tagS_eq (t : Int) : tagS t = ⟨#[tagC t]⟩ := by
  unfold tagS tagC
  cases decide (0 ≤ t) <;> rfl
theorem tagS_size (t : Int) : (tagS t).size = 1 := by rw [tagS_eq]; rfl
/-- The text of a rule. -/
def rTxt (p : Int) (s : ByteArray) (o t : Int) : ByteArray := digB p ++ (⟨#[32]⟩ : ByteArray) ++ s ++ (⟨#[32]⟩ : ByteArray) ++ digB o ++ (⟨#[32]⟩ : ByteArray) ++ tagS t
theorem rTxt_list (p : Int) (s : ByteArray) (o t : Int) : (rTxt p s o t).data.toList = dgt p :: 32 :: (s.data.toList ++ [32, dgt o, 32, tagC t]) := by
  rw [rTxt, tagS_eq, digB_dgt, digB_dgt]
  simp
theorem sizeL (s : ByteArray) : s.size = s.data.toList.length := by rw [Array.length_toList]; rfl
theorem rTxt_size {p : Int} {s : ByteArray} {o t : Int} (h : okS s = true) : (rTxt p s o t).size = 12 := by
  have h6' : s.data.toList.length = 6 := by rw [← sizeL]; exact okS_size h
  rw [sizeL, rTxt_list]
  simp only [List.length_cons, List.length_append, List.length_nil, h6']

theorem dgt_toNat {n : Int} (h0 : 0 ≤ n) (h1 : n ≤ 9) : ((dgt n).toNat : Int) = 48 + n := by
  unfold dgt
  rw [UInt8.toNat_ofNat_of_lt' (by show (48 + n).toNat < 256; omega)]
  omega
theorem dgt_inj {n m : Int} (h0 : 0 ≤ n) (h1 : n ≤ 9) (k0 : 0 ≤ m) (k1 : m ≤ 9) (h : dgt n = dgt m) : n = m := by
  have a := dgt_toNat h0 h1
  have b := dgt_toNat k0 k1
  rw [h] at a
  omega
theorem tagC_toNat {n : Int} (h0 : -1 ≤ n) (h1 : n ≤ 3) : ((tagC n).toNat : Int) = if n < 0 then 45 else 48 + n := by
  unfold tagC
  by_cases h : 0 ≤ n
  · rw [decide_eq_true h, cond_true, if_neg (by omega)]
    exact dgt_toNat h (by omega)
  · rw [decide_eq_false h, cond_false, if_pos (by omega)]
    rfl
theorem tagC_inj {n m : Int} (h0 : -1 ≤ n) (h1 : n ≤ 3) (k0 : -1 ≤ m) (k1 : m ≤ 3) (h : tagC n = tagC m) : n = m := by
  have a := tagC_toNat h0 h1
  have b := tagC_toNat k0 k1
  rw [h] at a
  by_cases c : n < 0 <;> by_cases d : m < 0 <;> simp only [c, d, if_true, if_false] at a b <;> omega
theorem byteArray_ext {a b : ByteArray} (h : a.data.toList = b.data.toList) : a = b := by
  cases a
  cases b
  simp at h
  subst h
  rfl
/-- Two rules of one text are one. -/
theorem rTxt_inj {p : Int} {s : ByteArray} {o t p' : Int} {s' : ByteArray} {o' t' : Int} (h : rOk p s o t = true) (h' : rOk p' s' o' t' = true) (e : rTxt p s o t = rTxt p' s' o' t') : p = p' ∧ s = s' ∧ o = o' ∧ t = t' := by
  obtain ⟨⟨a0, a1⟩, a2, ⟨a3, a4⟩, a5, a6⟩ := rOk_true h
  obtain ⟨⟨b0, b1⟩, b2, ⟨b3, b4⟩, b5, b6⟩ := rOk_true h'
  have e1 : (rTxt p s o t).data.toList = (rTxt p' s' o' t').data.toList := by rw [e]
  rw [rTxt_list, rTxt_list] at e1
  injection e1 with e2 e3
  injection e3 with _ e4
  have l1 : s.data.toList.length = s'.data.toList.length := by rw [← sizeL, ← sizeL, okS_size a2, okS_size b2]
  obtain ⟨e5, e6⟩ := List.append_inj e4 l1
  injection e6 with _ e7
  injection e7 with e8 e9
  injection e9 with _ e10
  injection e10 with e11 _
  exact ⟨dgt_inj a0 a1 b0 b1 e2, byteArray_ext e5, dgt_inj a3 (by omega) b3 (by omega) e8, tagC_inj a5 a6 b5 b6 e11⟩

/-! ### Texts compared -/

def cmpB (a b : ByteArray) : Int := Lib.compareBytes a.data.toList b.data.toList
theorem u8_asymm {x y : UInt8} (h : x < y) : ¬ y < x := by
  rw [UInt8.lt_iff_toNat_lt] at *
  omega
theorem u8_trans {x y z : UInt8} (h : x < y) (k : y < z) : x < z := by
  rw [UInt8.lt_iff_toNat_lt] at *
  omega
theorem u8_same {x y : UInt8} (h : ¬ x < y) (k : ¬ y < x) : x = y := by
  rw [UInt8.lt_iff_toNat_lt] at *
  exact UInt8.toNat_inj.1 (by omega)
theorem cb_swap : ∀ a b : List UInt8, Lib.compareBytes b a = - Lib.compareBytes a b
  | [], [] => rfl
  | [], _ :: _ => rfl
  | _ :: _, [] => rfl
  | x :: a, y :: b => by
    have ih := cb_swap a b
    unfold Lib.compareBytes
    by_cases h : x < y
    · simp [h, u8_asymm h]
    · by_cases k : y < x
      · simp [h, k]
      · simp [h, k, ih]
theorem cb_self : ∀ a : List UInt8, Lib.compareBytes a a = 0
  | [] => rfl
  | x :: a => by
    have ih := cb_self a
    unfold Lib.compareBytes
    simp [ih]
theorem cb_zero : ∀ a b : List UInt8, Lib.compareBytes a b = 0 → a = b
  | [], [], _ => rfl
  | [], _ :: _, h => by cases h
  | _ :: _, [], h => by cases h
  | x :: a, y :: b, e => by
    have ih := cb_zero a b
    unfold Lib.compareBytes at e
    by_cases h : x < y
    · simp [h] at e
    · by_cases k : y < x
      · simp [h, k] at e
      · simp only [h, k, if_false] at e
        rw [ih e, u8_same h k]
theorem cb_three : ∀ a b : List UInt8, Lib.compareBytes a b = -1 ∨ Lib.compareBytes a b = 0 ∨ Lib.compareBytes a b = 1
  | [], [] => .inr (.inl rfl)
  | [], _ :: _ => .inl rfl
  | _ :: _, [] => .inr (.inr rfl)
  | x :: a, y :: b => by
    have ih := cb_three a b
    unfold Lib.compareBytes
    by_cases h : x < y
    · simp [h]
    · by_cases k : y < x
      · simp [h, k]
      · simpa [h, k] using ih
theorem cb_trans : ∀ a b c : List UInt8, Lib.compareBytes a b = -1 → Lib.compareBytes b c = -1 → Lib.compareBytes a c = -1
  | _, [], [], _, h => by cases h
  | [], [], _ :: _, h, _ => by cases h
  | _ :: _, [], _ :: _, h, _ => by cases h
  | [], _ :: _, [], _, h => by cases h
  | [], _ :: _, _ :: _, _, _ => rfl
  | _ :: _, _ :: _, [], _, h => by cases h
  | x :: a, y :: b, z :: c, h1, h2 => by
    have ih := cb_trans a b c
    unfold Lib.compareBytes at h1 h2 ⊢
    by_cases h : x < y
    · by_cases k : y < z
      · simp [u8_trans h k]
      · by_cases k2 : z < y
        · simp [k, k2] at h2
        · have := u8_same k k2
          subst this
          simp [h]
    · by_cases hh : y < x
      · simp [h, hh] at h1
      · have := u8_same h hh
        subst this
        by_cases k : x < z
        · simp [k]
        · by_cases k2 : z < x
          · simp [k, k2] at h2
          · simp only [h, k, k2, if_false] at h1 h2 ⊢
            exact ih h1 h2
theorem cb_less : ∀ a b : List UInt8, Op.bytesLess a b = decide (Lib.compareBytes a b = -1)
  | [], [] => rfl
  | [], _ :: _ => rfl
  | _ :: _, [] => rfl
  | x :: a, y :: b => by
    have ih := cb_less a b
    unfold Lib.compareBytes Op.bytesLess
    by_cases h : x < y
    · simp [h]
    · by_cases k : y < x
      · have : x ≠ y := fun e => by subst e; exact h k
        simp [h, k, this]
      · have := u8_same h k
        subst this
        simp [ih]

/-! ### Two rules compared -/

/-- Which of two rules stands ahead. -/
def rCmp (p : Int) (s : ByteArray) (o t p' : Int) (s' : ByteArray) (o' t' : Int) : Int :=
  if p' < p then -1 else if p < p' then 1 else cmpB (rTxt p s o t) (rTxt p' s' o' t')
theorem rCmp_three (p : Int) (s : ByteArray) (o t p' : Int) (s' : ByteArray) (o' t' : Int) : rCmp p s o t p' s' o' t' = -1 ∨ rCmp p s o t p' s' o' t' = 0 ∨ rCmp p s o t p' s' o' t' = 1 := by
  unfold rCmp
  by_cases h : p' < p
  · simp [h]
  · by_cases k : p < p'
    · simp [h, k]
    · simp only [h, k, if_false]
      exact cb_three _ _
theorem rCmp_swap (p : Int) (s : ByteArray) (o t p' : Int) (s' : ByteArray) (o' t' : Int) : rCmp p' s' o' t' p s o t = - rCmp p s o t p' s' o' t' := by
  unfold rCmp
  by_cases h : p' < p
  · have : ¬ p < p' := by omega
    simp [h, this]
  · by_cases k : p < p'
    · simp [h, k]
    · simp only [h, k, if_false]
      exact cb_swap _ _
theorem rCmp_zero {p : Int} {s : ByteArray} {o t p' : Int} {s' : ByteArray} {o' t' : Int} (h : rOk p s o t = true) (h' : rOk p' s' o' t' = true) : rCmp p s o t p' s' o' t' = 0 ↔ (p = p' ∧ s = s' ∧ o = o' ∧ t = t') := by
  constructor
  · intro e
    unfold rCmp at e
    by_cases a : p' < p
    · simp [a] at e
    · by_cases k : p < p'
      · simp [a, k] at e
      · simp only [a, k, if_false] at e
        exact rTxt_inj h h' (byteArray_ext (cb_zero _ _ e))
  · rintro ⟨rfl, rfl, rfl, rfl⟩
    unfold rCmp
    simp only [Int.lt_irrefl, if_false]
    exact cb_self _
theorem rCmp_trans {p : Int} {s : ByteArray} {o t p' : Int} {s' : ByteArray} {o' t' p'' : Int} {s'' : ByteArray} {o'' t'' : Int} (h : rCmp p s o t p' s' o' t' = -1) (k : rCmp p' s' o' t' p'' s'' o'' t'' = -1) : rCmp p s o t p'' s'' o'' t'' = -1 := by
  unfold rCmp at *
  by_cases a : p' < p
  · by_cases b : p'' < p'
    · have : p'' < p := by omega
      simp [this]
    · by_cases b2 : p' < p''
      · simp [b, b2] at k
      · have : p'' < p := by omega
        simp [this]
  · by_cases a2 : p < p'
    · simp [a, a2] at h
    · by_cases b : p'' < p'
      · have : p'' < p := by omega
        simp [this]
      · by_cases b2 : p' < p''
        · simp [b, b2] at k
        · have c1 : ¬ p'' < p := by omega
          have c2 : ¬ p < p'' := by omega
          simp only [a, a2, b, b2, c1, c2, if_false] at h k ⊢
          exact cb_trans _ _ _ h k

/-! ### A text parted at its blanks -/

def ixB (s : ByteArray) : Int := Lib.indexByte s.data.toList 32
theorem ix_cases : ∀ l : List UInt8, (Lib.indexByte l 32 = -1) ∨ ∃ i : Nat, Lib.indexByte l 32 = (i : Int) ∧ i < l.length ∧ l = l.take i ++ 32 :: l.drop (i + 1)
  | [] => .inl rfl
  | x :: l => by
    unfold Lib.indexByte
    by_cases h : x = 32
    · subst h
      exact .inr ⟨0, by simp, by simp, by simp⟩
    · have hx : (x == 32) = false := by simpa using h
      rcases ix_cases l with e | ⟨i, e, hi, hl⟩
      · exact .inl (by simp [hx, e])
      · refine .inr ⟨i + 1, ?_, by simpa using hi, ?_⟩
        · have : ¬ ((i : Int) = -1) := by omega
          simp [hx, e, this]
        · simpa using hl
theorem ix_none : ∀ l : List UInt8, (∀ x ∈ l, x ≠ 32) → Lib.indexByte l 32 = -1
  | [], _ => rfl
  | x :: l, h => by
    unfold Lib.indexByte
    have hx : (x == 32) = false := by simpa using h x (by simp)
    simp [hx, ix_none l fun y hy => h y (by simp [hy])]
theorem ix_at : ∀ (l r : List UInt8), (∀ x ∈ l, x ≠ 32) → Lib.indexByte (l ++ 32 :: r) 32 = (l.length : Int)
  | [], r, _ => by simp [Lib.indexByte]
  | x :: l, r, h => by
    have hx : (x == 32) = false := by simpa using h x (by simp)
    have ih := ix_at l r fun y hy => h y (by simp [hy])
    have : ¬ ((l.length : Int) = -1) := by omega
    rw [List.cons_append]
    unfold Lib.indexByte
    simp [hx, ih, this]
theorem ixB_cases (s : ByteArray) : ixB s = -1 ∨ ∃ i : Nat, ixB s = (i : Int) ∧ i < s.size ∧ s = s.extract 0 i ++ (⟨#[32]⟩ : ByteArray) ++ s.extract (i + 1) s.size := by
  rcases ix_cases s.data.toList with h | ⟨i, h, hi, hl⟩
  · exact .inl h
  · refine .inr ⟨i, h, by rw [sizeL]; exact hi, byteArray_ext ?_⟩
    have hs := sizeL s
    rw [ByteArray.data_append, ByteArray.data_append, Array.toList_append, Array.toList_append, ByteArray.data_extract, ByteArray.data_extract, Array.toList_extract, Array.toList_extract]
    simp only [List.extract_eq_take_drop, List.drop_zero, Nat.sub_zero, hs]
    have e : (List.drop (i + 1) s.data.toList).take (s.data.toList.length - (i + 1)) = List.drop (i + 1) s.data.toList := List.take_of_length_le (by simp)
    rw [e]
    simpa using hl

/-- The parts of a text, k cuts at most. -/
def cutK : Nat → ByteArray → List ByteArray
  | 0, s => [s]
  | k + 1, s => if ixB s < 0 then [s] else s.extract 0 (ixB s).toNat :: cutK k (s.extract ((ixB s).toNat + 1) s.size)
theorem cutK_miss {s : ByteArray} (k : Nat) (h : ixB s = -1) : cutK k s = [s] := by
  cases k with
  | zero => rfl
  | succ k => unfold cutK; rw [if_pos (by omega)]
theorem cutK_hit {s : ByteArray} (k i : Nat) (h : ixB s = (i : Int)) : cutK (k + 1) s = s.extract 0 i :: cutK k (s.extract (i + 1) s.size) := by
  rw [cutK, if_neg (by omega), h]
  rfl
theorem cutK_len : ∀ (k : Nat) (s : ByteArray), 1 ≤ (cutK k s).length ∧ (cutK k s).length ≤ k + 1
  | 0, s => ⟨Nat.le_refl _, Nat.le_refl _⟩
  | k + 1, s => by
    rcases ixB_cases s with h | ⟨i, h, _, _⟩
    · rw [cutK_miss _ h]
      simp
    · rw [cutK_hit k i h]
      have := cutK_len k (s.extract (i + 1) s.size)
      simp
      omega
/-- What is parted is put together again. -/
theorem cutK_join1 {k : Nat} {s a b : ByteArray} {l : List ByteArray} (h : cutK k s = a :: b :: l) : ∃ r : ByteArray, s = a ++ (⟨#[32]⟩ : ByteArray) ++ r ∧ cutK (k - 1) r = b :: l := by
  cases k with
  | zero => cases h
  | succ k =>
    rcases ixB_cases s with e | ⟨i, e, _, hs⟩
    · rw [cutK_miss _ e] at h
      cases h
    · rw [cutK_hit k i e] at h
      injection h with h1 h2
      exact ⟨_, by rw [← h1]; exact hs, h2⟩
theorem cutK_join0 {k : Nat} {s a : ByteArray} (h : cutK k s = [a]) : s = a := by
  cases k with
  | zero => injection h
  | succ k =>
    rcases ixB_cases s with e | ⟨i, e, _, hs⟩
    · rw [cutK_miss _ e] at h
      injection h
    · rw [cutK_hit k i e] at h
      injection h with h1 h2
      have := (cutK_len k (s.extract (i + 1) s.size)).1
      rw [h2] at this
      simp at this
theorem cutK_join {k : Nat} {s a b c d : ByteArray} (h : cutK k s = [a, b, c, d]) : s = a ++ (⟨#[32]⟩ : ByteArray) ++ b ++ (⟨#[32]⟩ : ByteArray) ++ c ++ (⟨#[32]⟩ : ByteArray) ++ d := by
  obtain ⟨r, rfl, h1⟩ := cutK_join1 h
  obtain ⟨r2, rfl, h2⟩ := cutK_join1 h1
  obtain ⟨r3, rfl, h3⟩ := cutK_join1 h2
  obtain rfl := cutK_join0 h3
  simp [ByteArray.append_assoc]
theorem cutK_one {k : Nat} {a r : ByteArray} (h : ∀ x ∈ a.data.toList, x ≠ 32) : cutK (k + 1) (a ++ (⟨#[32]⟩ : ByteArray) ++ r) = a :: cutK k r := by
  have e : ixB (a ++ (⟨#[32]⟩ : ByteArray) ++ r) = (a.size : Int) := by
    have := ix_at a.data.toList r.data.toList h
    unfold ixB
    rw [sizeL a, ← this, ByteArray.data_append, ByteArray.data_append, Array.toList_append, Array.toList_append]
    simp
  rw [cutK_hit k _ e]
  have hl : (a ++ (⟨#[32]⟩ : ByteArray) ++ r).data.toList = a.data.toList ++ (32 :: r.data.toList) := by
    rw [ByteArray.data_append, ByteArray.data_append, Array.toList_append, Array.toList_append]
    simp
  congr 1
  · apply byteArray_ext
    rw [ByteArray.data_extract, Array.toList_extract, hl, sizeL a]
    simp
  · congr 1
    apply byteArray_ext
    rw [ByteArray.data_extract, Array.toList_extract, sizeL (a ++ (⟨#[32]⟩ : ByteArray) ++ r), hl, sizeL a]
    simp only [List.extract_eq_take_drop]
    rw [List.take_of_length_le (by simp)]
    have e2 : a.data.toList ++ 32 :: r.data.toList = (a.data.toList ++ [32]) ++ r.data.toList := by simp
    rw [e2]
    exact List.drop_left' (List.length_append ..)
theorem cutK_end {k : Nat} {a : ByteArray} (h : ∀ x ∈ a.data.toList, x ≠ 32) : cutK k a = [a] := cutK_miss k (ix_none _ h)

/-! ### Numbers read -/

/-- The number of a text of one digit; -2, if it is none. -/
def dgF (x : ByteArray) : Int := bif (x.size == 1) && (decide (48 ≤ (byA x 0).toNat) && decide ((byA x 0).toNat ≤ 57)) then ((byA x 0).toNat : Int) - 48 else -2
def tgF (x : ByteArray) : Int := bif x.data.toList == [45] then -1 else dgF x
theorem one_byte {x : ByteArray} (h : x.size = 1) : x = ⟨#[byA x 0]⟩ := by
  obtain ⟨⟨l⟩⟩ := x
  have h1 : l.length = 1 := h
  match l, h1 with
  | [b], _ => rfl
theorem dgF_bound (x : ByteArray) : dgF x = -2 ∨ (0 ≤ dgF x ∧ dgF x ≤ 9 ∧ x = digB (dgF x)) := by
  unfold dgF
  cases h : (x.size == 1) && (decide (48 ≤ (byA x 0).toNat) && decide ((byA x 0).toNat ≤ 57))
  · exact .inl rfl
  · simp only [Bool.and_eq_true, beq_iff_eq, decide_eq_true_eq] at h
    obtain ⟨h1, h2, h3⟩ := h
    refine .inr ⟨by simp only [cond_true]; omega, by simp only [cond_true]; omega, ?_⟩
    simp only [cond_true]
    rw [digB_byte]
    exact one_byte h1
theorem dgF_digB {n : Int} (h0 : 0 ≤ n) (h1 : n ≤ 9) : dgF (digB n) = n := by
  have a := dgt_toNat h0 h1
  have e : byA (digB n) 0 = dgt n := rfl
  unfold dgF
  rw [e, digB_size]
  have b1 : 48 ≤ (dgt n).toNat := by omega
  have b2 : (dgt n).toNat ≤ 57 := by omega
  simp only [b1, b2, decide_true, Bool.and_self, beq_self_eq_true, cond_true]
  omega
theorem tgF_tagS {t : Int} (h0 : -1 ≤ t) (h1 : t ≤ 3) : tgF (tagS t) = t := by
  unfold tgF tagS
  by_cases h : 0 ≤ t
  · rw [decide_eq_true h, cond_true]
    have a := dgt_toNat h (by omega)
    have : ((digB t).data.toList == [45]) = false := by
      rw [digB_dgt]
      simp
      intro e
      rw [e] at a
      simp at a
      omega
    rw [this, cond_false]
    exact dgF_digB h (by omega)
  · rw [decide_eq_false h, cond_false]
    show (-1 : Int) = t
    omega
theorem tgF_bound (x : ByteArray) : tgF x = -2 ∨ (-1 ≤ tgF x ∧ x = tagS (tgF x)) := by
  unfold tgF
  cases h : x.data.toList == [45]
  · rw [cond_false]
    rcases dgF_bound x with e | ⟨e0, e1, e2⟩
    · exact .inl e
    · refine .inr ⟨by omega, ?_⟩
      unfold tagS
      rw [decide_eq_true e0, cond_true]
      exact e2
  · rw [cond_true]
    refine .inr ⟨Int.le_refl _, byteArray_ext ?_⟩
    rw [beq_iff_eq.1 h]
    rfl
/-- Four parts that are a rule's are its text. -/
theorem parts_rTxt {a b c d : ByteArray} (h : rOk (dgF a) b (dgF c) (tgF d) = true) : a ++ (⟨#[32]⟩ : ByteArray) ++ b ++ (⟨#[32]⟩ : ByteArray) ++ c ++ (⟨#[32]⟩ : ByteArray) ++ d = rTxt (dgF a) b (dgF c) (tgF d) := by
  obtain ⟨⟨a0, a1⟩, a2, ⟨a3, a4⟩, a5, a6⟩ := rOk_true h
  rcases dgF_bound a with e | ⟨_, _, e⟩
  · omega
  rcases dgF_bound c with f | ⟨_, _, f⟩
  · omega
  rcases tgF_bound d with g | ⟨_, g⟩
  · omega
  unfold rTxt
  rw [← e, ← f, ← g]
theorem okS_noBlank {s : ByteArray} (h : okS s = true) : ∀ x ∈ s.data.toList, x ≠ 32 := by
  intro x hx
  obtain ⟨i, hi, rfl⟩ := List.mem_iff_getElem.1 hx
  have hi' : i < 6 := by
    rw [← sizeL, okS_size h] at hi
    exact hi
  have := okS_sgn h i hi'
  have e : byA s i = s.data.toList[i] := by
    unfold byA
    have hd : i < s.size := by
      rw [sizeL]
      exact hi
    simp [Array.getD, hd]
  rw [← e]
  rcases this with k | k | k <;> rw [k] <;> decide
theorem dgt_noBlank {n : Int} (h0 : 0 ≤ n) (h1 : n ≤ 9) : ∀ x ∈ (digB n).data.toList, x ≠ 32 := by
  intro x hx
  have : x = dgt n := by simpa [digB_dgt] using hx
  subst this
  intro e
  have a := dgt_toNat h0 h1
  rw [e] at a
  simp at a
  omega
theorem tag_noBlank {n : Int} (h0 : -1 ≤ n) (h1 : n ≤ 3) : ∀ x ∈ (tagS n).data.toList, x ≠ 32 := by
  intro x hx
  have : x = tagC n := by simpa [tagS_eq] using hx
  subst this
  intro e
  have a := tagC_toNat h0 h1
  rw [e] at a
  simp at a
  by_cases c : n < 0 <;> simp [c] at a
  omega
theorem cut_rTxt {p : Int} {s : ByteArray} {o t : Int} (h : rOk p s o t = true) : cutK 4 (rTxt p s o t) = [digB p, s, digB o, tagS t] := by
  obtain ⟨⟨a0, a1⟩, a2, ⟨a3, a4⟩, a5, a6⟩ := rOk_true h
  have e : rTxt p s o t = digB p ++ (⟨#[32]⟩ : ByteArray) ++ (s ++ (⟨#[32]⟩ : ByteArray) ++ (digB o ++ (⟨#[32]⟩ : ByteArray) ++ tagS t)) := by
    unfold rTxt
    simp [ByteArray.append_assoc]
  rw [e, cutK_one (dgt_noBlank a0 a1), cutK_one (okS_noBlank a2), cutK_one (dgt_noBlank a3 (by omega)), cutK_end (tag_noBlank a5 a6)]

end Go.Proofs.YtcipidcnkllanaaDoor
