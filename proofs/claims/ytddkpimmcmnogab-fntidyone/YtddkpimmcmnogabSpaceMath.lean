/-
  Plain facts on sets of heads, for chapter 3: a set as a row of bools of the length 2^h, its halves, its canonical list of signs: no program is walked here.
-/
import Derived.Test.YtddkpimmcmnogabWildMath
import Derived.Test.YtddkpimmcmnogabWildMask
namespace Go.Proofs.Ytddkpimmcmnogab
open Go.ChangeShapes Go.WideShapes Go.ChangeAt Go.RowKit Go.Joins
set_option linter.unusedVariables false

/-! ### Tables -/

/-- The row of a test on lists of h bits, the first bit the greatest. -/
def tabF : Nat → (List Bool → Bool) → List Bool
  | 0, g => [g []]
  | h + 1, g => tabF h (fun l => g (false :: l)) ++ tabF h (fun l => g (true :: l))
theorem tabF_len : ∀ (h : Nat) (g : List Bool → Bool), (tabF h g).length = 2 ^ h
  | 0, g => rfl
  | h + 1, g => by
    rw [tabF, List.length_append, tabF_len h, tabF_len h, Nat.pow_succ]
    omega
theorem tabF_congr : ∀ (h : Nat) {g g' : List Bool → Bool}, (∀ l, l.length = h → g l = g' l) → tabF h g = tabF h g'
  | 0, g, g', H => by simp [tabF, H [] rfl]
  | h + 1, g, g', H => by
    rw [tabF, tabF, tabF_congr h (fun l hl => H (false :: l) (by simp [hl])), tabF_congr h (fun l hl => H (true :: l) (by simp [hl]))]
theorem tabF_inj : ∀ (h : Nat) {g g' : List Bool → Bool}, tabF h g = tabF h g' → ∀ l, l.length = h → g l = g' l
  | 0, g, g', H => fun l hl => by
    obtain rfl : l = [] := List.eq_nil_of_length_eq_zero hl
    simpa [tabF] using H
  | h + 1, g, g', H => fun l hl => by
    rw [tabF, tabF] at H
    obtain ⟨h1, h2⟩ := List.append_inj H (by rw [tabF_len, tabF_len])
    match l, hl with
    | false :: l, hl => exact tabF_inj h h1 l (by simpa using hl)
    | true :: l, hl => exact tabF_inj h h2 l (by simpa using hl)
theorem zipWith_app {f : Bool → Bool → Bool} : ∀ {a b c d : List Bool}, a.length = c.length → List.zipWith f (a ++ b) (c ++ d) = List.zipWith f a c ++ List.zipWith f b d
  | [], b, [], d, _ => rfl
  | x :: a, b, y :: c, d, h => by simp [zipWith_app (a := a) (c := c) (by simpa using h)]
theorem tabF_zip (f : Bool → Bool → Bool) : ∀ (h : Nat) (g g' : List Bool → Bool), List.zipWith f (tabF h g) (tabF h g') = tabF h (fun l => f (g l) (g' l))
  | 0, g, g' => rfl
  | h + 1, g, g' => by
    rw [tabF, tabF, tabF, zipWith_app (by rw [tabF_len, tabF_len]), tabF_zip f h, tabF_zip f h]
/-- Nothing. -/
def noL (h : Nat) : List Bool := List.replicate (2 ^ h) false
theorem noL_len (h : Nat) : (noL h).length = 2 ^ h := by simp [noL]
theorem noL_succ (h : Nat) : noL (h + 1) = noL h ++ noL h := by
  unfold noL
  rw [List.replicate_append_replicate, Nat.pow_succ]
  congr 1
  omega
theorem tabF_no : ∀ h : Nat, tabF h (fun _ => false) = noL h
  | 0 => rfl
  | h + 1 => by rw [tabF, tabF_no h, noL_succ]
theorem tabF_and (h : Nat) (q : Bool) (g : List Bool → Bool) : tabF h (fun l => q && g l) = bif q then tabF h g else noL h := by
  cases q
  · simp only [Bool.false_and, cond_false]; exact tabF_no h
  · simp
/-- Bits of a list. -/
def bitF (l : List Bool) (i : Nat) : Bool := l.getD i false
/-- Bits of a number below 64. -/
def kb6 (k : Nat) : List Bool := [Nat.testBit k 5, Nat.testBit k 4, Nat.testBit k 3, Nat.testBit k 2, Nat.testBit k 1, Nat.testBit k 0]
theorem kb6_len (k : Nat) : (kb6 k).length = 6 := rfl
theorem tab6 (g : List Bool → Bool) : tabF 6 g = (List.range 64).map (fun k => g (kb6 k)) := by
  have : List.range 64 = [0,1,2,3,4,5,6,7,8,9,10,11,12,13,14,15,16,17,18,19,20,21,22,23,24,25,26,27,28,29,30,31,32,33,34,35,36,37,38,39,40,41,42,43,44,45,46,47,48,49,50,51,52,53,54,55,56,57,58,59,60,61,62,63] := by decide
  rw [this]
  rfl
theorem tab6_get (g : List Bool → Bool) {k : Nat} (hk : k < 64) : (tabF 6 g)[k]? = some (g (kb6 k)) := by
  rw [tab6, List.getElem?_map, List.getElem?_range hk]
  rfl
theorem kb6_fin : ∀ k : Fin 64, ofB (bitF (kb6 k.val)) = (k.val : Int) := by decide +kernel
theorem kb6_num {k : Nat} (hk : k < 64) : ofB (bitF (kb6 k)) = (k : Int) := kb6_fin ⟨k, hk⟩
theorem kb6_back6 : ∀ a b c d e f : Bool, kb6 (of6 a b c d e f).toNat = [a, b, c, d, e, f] := by decide +kernel
theorem kb6_back (f : Nat → Bool) : kb6 (ofB f).toNat = [f 0, f 1, f 2, f 3, f 4, f 5] := kb6_back6 _ _ _ _ _ _
theorem list6 {α : Type} {l : List α} (h : l.length = 6) : ∃ a b c d e f, l = [a, b, c, d, e, f] := by
  match l, h with
  | [a, b, c, d, e, f], _ => exact ⟨a, b, c, d, e, f, rfl⟩

/-! ### The set of a pattern -/

def posM (c v : Nat → Bool) (i : Nat) (b : Bool) : Bool := (b && c i) == v i
def allP (c v : Nat → Bool) : Nat → List Bool → Bool
  | _, [] => true
  | i, b :: l => posM c v i b && allP c v (i + 1) l
theorem hasM_allP (c v : Nat → Bool) {l : List Bool} (h : l.length = 6) : hasM c v (bitF l) = allP c v 0 l := by
  obtain ⟨a, b, c', d, e, f, rfl⟩ := list6 h
  simp [hasM, all6, allP, posM, bitF]
/-- The set of a pattern's last h signs. -/
def sufL (c v : Nat → Bool) : Nat → List Bool
  | 0 => [true]
  | h + 1 => bif c (5 - h) then (bif v (5 - h) then noL h ++ sufL c v h else sufL c v h ++ noL h) else sufL c v h ++ sufL c v h
theorem sufL_tab {c v : Nat → Bool} (hv : ∀ i, v i = true → c i = true) : ∀ h, h ≤ 6 → sufL c v h = tabF h (allP c v (6 - h))
  | 0, _ => rfl
  | h + 1, hh => by
    have ih := sufL_tab hv h (by omega)
    have e : 6 - (h + 1) + 1 = 6 - h := by omega
    have e5 : 6 - (h + 1) = 5 - h := by omega
    rw [sufL, tabF]
    have a0 : ∀ q, (fun l => allP c v (6 - (h + 1)) (q :: l)) = fun l => posM c v (5 - h) q && allP c v (6 - h) l := fun q => by
      funext l
      rw [allP, e, e5]
    rw [a0, a0, tabF_and, tabF_and, ← ih]
    have hx := hv (5 - h)
    unfold posM
    generalize c (5 - h) = x at hx ⊢
    generalize v (5 - h) = y at hx ⊢
    cases x <;> cases y <;> simp at hx ⊢
theorem sufL_all {c v : Nat → Bool} (hv : ∀ i, v i = true → c i = true) : sufL c v 6 = tabF 6 (fun l => hasM c v (bitF l)) := by
  rw [sufL_tab hv 6 (by omega)]
  exact tabF_congr 6 fun l hl => (hasM_allP c v hl).symm

/-- The set of a space. -/
def inSp (ss : List ByteArray) (l : List Bool) : Bool := ss.any fun s => hasM (cf s) (vf s) (bitF l)
def spL (ss : List ByteArray) : List Bool := tabF 6 (inSp ss)
theorem spL_len (ss : List ByteArray) : (spL ss).length = 64 := tabF_len 6 _
theorem spL_nil : spL [] = noL 6 := tabF_no 6
theorem spL_snoc (ss : List ByteArray) (s : ByteArray) : spL (ss ++ [s]) = List.zipWith (fun x y => x || y) (spL ss) (tabF 6 (fun l => hasM (cf s) (vf s) (bitF l))) := by
  rw [spL, spL, tabF_zip]
  exact tabF_congr 6 fun l _ => by simp [inSp]
/-- Texts that are a space. -/
def okSp (ss : List ByteArray) : Bool := decide (ss.length ≤ 64) && ss.all okS

/-! ### What is kept of two sets -/

def keepF (f b s : Bool) (x y : Bool) : Bool := bif x then (bif y then b else f) else (bif y then s else false)
theorem zip_same (f : Bool → Bool → Bool) (b : Bool) (h1 : f true true = b) (h0 : f false false = false) : ∀ (m : List Bool), List.zipWith f m m = bif b then m else List.replicate m.length false
  | [] => by cases b <;> rfl
  | x :: m => by
    have := zip_same f b h1 h0 m
    cases b <;> cases x <;> simp_all [List.replicate_succ]
theorem zip_no (f : Bool → Bool → Bool) (b : Bool) (h1 : f true false = b) (h0 : f false false = false) : ∀ (m : List Bool), List.zipWith f m (List.replicate m.length false) = bif b then m else List.replicate m.length false
  | [] => by cases b <;> rfl
  | x :: m => by
    have := zip_no f b h1 h0 m
    cases b <;> cases x <;> simp_all [List.replicate_succ]
theorem no_zip (f : Bool → Bool → Bool) (b : Bool) (h1 : f false true = b) (h0 : f false false = false) : ∀ (m : List Bool), List.zipWith f (List.replicate m.length false) m = bif b then m else List.replicate m.length false
  | [] => by cases b <;> rfl
  | x :: m => by
    have := no_zip f b h1 h0 m
    cases b <;> cases x <;> simp_all [List.replicate_succ]

/-! ### The canonical list -/

def tidyB : Nat → List Bool → List (List UInt8)
  | 0, m => bif m.getD 0 false then [[]] else []
  | h + 1, m => bif m.take (2 ^ h) == m.drop (2 ^ h) then (tidyB h (m.take (2 ^ h))).map (fun l => 120 :: l)
    else (tidyB h (m.take (2 ^ h))).map (fun l => 48 :: l) ++ (tidyB h (m.drop (2 ^ h))).map (fun l => 49 :: l)
theorem take_app {a b : List Bool} {n : Nat} (h : a.length = n) : (a ++ b).take n = a ∧ (a ++ b).drop n = b := by
  subst h
  simp
theorem tidyB_app {h : Nat} {a b : List Bool} (ha : a.length = 2 ^ h) : tidyB (h + 1) (a ++ b) = bif a == b then (tidyB h a).map (fun l => 120 :: l) else (tidyB h a).map (fun l => 48 :: l) ++ (tidyB h b).map (fun l => 49 :: l) := by
  rw [tidyB, (take_app ha).1, (take_app ha).2]
theorem tidyB_no : ∀ h : Nat, tidyB h (noL h) = []
  | 0 => rfl
  | h + 1 => by
    rw [noL_succ, tidyB_app (noL_len h), tidyB_no h]
    simp
theorem tidyB_len : ∀ (h : Nat) (m : List Bool), ∀ l ∈ tidyB h m, l.length = h
  | 0, m, l, hl => by
    rw [tidyB] at hl
    cases hm : m.getD 0 false <;> rw [hm] at hl <;> simp at hl
    simp [hl]
  | h + 1, m, l, hl => by
    rw [tidyB] at hl
    cases hm : (m.take (2 ^ h) == m.drop (2 ^ h)) <;> rw [hm] at hl <;> simp only [cond_true, cond_false, List.mem_append, List.mem_map] at hl
    · rcases hl with ⟨l', h', rfl⟩ | ⟨l', h', rfl⟩ <;> simp [tidyB_len h _ l' h']
    · obtain ⟨l', h', rfl⟩ := hl
      simp [tidyB_len h _ l' h']
theorem tidyB_sgn : ∀ (h : Nat) (m : List Bool), ∀ l ∈ tidyB h m, ∀ b ∈ l, b = 48 ∨ b = 49 ∨ b = 120
  | 0, m, l, hl => by
    rw [tidyB] at hl
    cases hm : m.getD 0 false <;> rw [hm] at hl <;> simp at hl
    simp [hl]
  | h + 1, m, l, hl => by
    rw [tidyB] at hl
    cases hm : (m.take (2 ^ h) == m.drop (2 ^ h)) <;> rw [hm] at hl <;> simp only [cond_true, cond_false, List.mem_append, List.mem_map] at hl
    · rcases hl with ⟨l', h', rfl⟩ | ⟨l', h', rfl⟩
      all_goals
        intro b hb
        rcases List.mem_cons.1 hb with rfl | hb
        · simp
        · exact tidyB_sgn h _ l' h' b hb
    · obtain ⟨l', h', rfl⟩ := hl
      intro b hb
      rcases List.mem_cons.1 hb with rfl | hb
      · simp
      · exact tidyB_sgn h _ l' h' b hb
theorem tidyB_many : ∀ (h : Nat) (m : List Bool), (tidyB h m).length ≤ 2 ^ h
  | 0, m => by rw [tidyB]; cases m.getD 0 false <;> simp
  | h + 1, m => by
    have i1 := tidyB_many h (m.take (2 ^ h))
    have i2 := tidyB_many h (m.drop (2 ^ h))
    rw [tidyB, Nat.pow_succ]
    cases (m.take (2 ^ h) == m.drop (2 ^ h)) <;> simp <;> omega
/-- The text of signs. -/
def sText (l : List UInt8) : ByteArray := ⟨l.toArray⟩
/-- The tidied texts of a set of six bits. -/
def tidyT (m : List Bool) : List ByteArray := (tidyB 6 m).map sText
theorem tidyT_len (m : List Bool) : (tidyT m).length ≤ 64 := by
  have := tidyB_many 6 m
  simp [tidyT]
  omega

/-- Masks of signs; behind their end all are x. -/
def cL (l : List UInt8) (i : Nat) : Bool := !(l.getD i 120 == 120)
def vL (l : List UInt8) (i : Nat) : Bool := l.getD i 120 == 49
theorem txt_L {l : List UInt8} (h : l.length = 6) (hs : ∀ b ∈ l, b = 48 ∨ b = 49 ∨ b = 120) : txt (cL l) (vL l) = sText l := by
  obtain ⟨a, b, c, d, e, f, rfl⟩ := list6 h
  have k : ∀ x : UInt8, (x = 48 ∨ x = 49 ∨ x = 120) → chr (!(x == 120)) (x == 49) = x := by
    rintro x (rfl | rfl | rfl) <;> rfl
  simp only [txt, mk6, cL, vL, sText]
  have e0 : ∀ i, (List.getD [a, b, c, d, e, f] i 120) ∈ [a, b, c, d, e, f] ∨ (List.getD [a, b, c, d, e, f] i 120) = 120 := fun i => by
    match i with
    | 0 => simp
    | 1 => simp
    | 2 => simp
    | 3 => simp
    | 4 => simp
    | 5 => simp
    | i + 6 => simp
  have e1 : ∀ i, chr (!(List.getD [a, b, c, d, e, f] i 120 == 120)) (List.getD [a, b, c, d, e, f] i 120 == 49) = List.getD [a, b, c, d, e, f] i 120 := fun i => k _ (by
    rcases e0 i with h | h
    · exact hs _ h
    · exact .inr (.inr h))
  rw [e1, e1, e1, e1, e1, e1]
  rfl
theorem okS_L {l : List UInt8} (h : l.length = 6) (hs : ∀ b ∈ l, b = 48 ∨ b = 49 ∨ b = 120) : okS (sText l) = true := by rw [← txt_L h hs]; exact okS_txt _ _

end Go.Proofs.Ytddkpimmcmnogab
