/-
  SpaceMath: Plain facts on sets of heads, for chapter 3: a set as a row of bools of the length 2^h, its halves, its canonical list of signs: no program is walked here.
  SpaceRep: The nodes of chapter 3's sets, as plain data: which set a node is; equal sets are one node. No program is walked here.
  SpaceMap: The diagram of chapter 3 in memory: its map, its nodes; what a look-up and a store do.
  SpaceNode: Chapter 3, the program's nodes: a node is made once for its parts; the set of a pattern; what is kept of two sets.
  SpaceComb: Chapter 3, the program: what is kept of two sets, node by node.
  SpaceOfMasks: Chapter 3, the program: a new diagram; the set of a pattern.
-/
import Derived.Test.YtndmedkkecikoaaWildB
import Derived.LaidEqlPtr
import Derived.Laws.StructEq
import Derived.Maps.Own
import Derived.Maps.OwnOps
import Derived.Deep.RegionHeld3
namespace Go.Proofs.Ytndmedkkecikoaa
open Go.ChangeShapes Go.WideShapes Go.ChangeAt Go.RowKit Go.Joins
set_option linter.unusedVariables false

/-! ### Tables -/

/-- The row of a test on lists of h bits, the first bit the greatest. -/
def tabF : Nat → (List Bool → Bool) → List Bool
  | 0, g => [g []]
  | h + 1, g => tabF h (fun l => g (false :: l)) ++ tabF h (fun l => g (true :: l))
theorem tabF_len : ∀ (h : Nat) (g : List Bool → Bool), (tabF h g).length = 2 ^ h
  | 0, g => rfl
  | h + 1, g => by
    rw [tabF, List.length_append, tabF_len h, tabF_len h, Nat.pow_succ]
    omega
theorem tabF_congr : ∀ (h : Nat) {g g' : List Bool → Bool}, (∀ l, l.length = h → g l = g' l) → tabF h g = tabF h g'
  | 0, g, g', H => by simp [tabF, H [] rfl]
  | h + 1, g, g', H => by
    rw [tabF, tabF, tabF_congr h (fun l hl => H (false :: l) (by simp [hl])), tabF_congr h (fun l hl => H (true :: l) (by simp [hl]))]
theorem tabF_inj : ∀ (h : Nat) {g g' : List Bool → Bool}, tabF h g = tabF h g' → ∀ l, l.length = h → g l = g' l
  | 0, g, g', H => fun l hl => by
    obtain rfl : l = [] := List.eq_nil_of_length_eq_zero hl
    simpa [tabF] using H
  | h + 1, g, g', H => fun l hl => by
    rw [tabF, tabF] at H
    obtain ⟨h1, h2⟩ := List.append_inj H (by rw [tabF_len, tabF_len])
    match l, hl with
    | false :: l, hl => exact tabF_inj h h1 l (by simpa using hl)
    | true :: l, hl => exact tabF_inj h h2 l (by simpa using hl)
theorem zipWith_app {f : Bool → Bool → Bool} : ∀ {a b c d : List Bool}, a.length = c.length → List.zipWith f (a ++ b) (c ++ d) = List.zipWith f a c ++ List.zipWith f b d
  | [], b, [], d, _ => rfl
  | x :: a, b, y :: c, d, h => by simp [zipWith_app (a := a) (c := c) (by simpa using h)]
theorem tabF_zip (f : Bool → Bool → Bool) : ∀ (h : Nat) (g g' : List Bool → Bool), List.zipWith f (tabF h g) (tabF h g') = tabF h (fun l => f (g l) (g' l))
  | 0, g, g' => rfl
  | h + 1, g, g' => by
    rw [tabF, tabF, tabF, zipWith_app (by rw [tabF_len, tabF_len]), tabF_zip f h, tabF_zip f h]
/-- Nothing. -/
def noL (h : Nat) : List Bool := List.replicate (2 ^ h) false
theorem noL_len (h : Nat) : (noL h).length = 2 ^ h := by simp [noL]
theorem noL_succ (h : Nat) : noL (h + 1) = noL h ++ noL h := by
  unfold noL
  rw [List.replicate_append_replicate, Nat.pow_succ]
  congr 1
  omega
theorem tabF_no : ∀ h : Nat, tabF h (fun _ => false) = noL h
  | 0 => rfl
  | h + 1 => by rw [tabF, tabF_no h, noL_succ]
theorem tabF_and (h : Nat) (q : Bool) (g : List Bool → Bool) : tabF h (fun l => q && g l) = bif q then tabF h g else noL h := by
  cases q
  · simp only [Bool.false_and, cond_false]; exact tabF_no h
  · simp
/-- Bits of a list. -/
def bitF (l : List Bool) (i : Nat) : Bool := l.getD i false
/-- Bits of a number below 64. -/
def kb6 (k : Nat) : List Bool := [Nat.testBit k 5, Nat.testBit k 4, Nat.testBit k 3, Nat.testBit k 2, Nat.testBit k 1, Nat.testBit k 0]
theorem kb6_len (k : Nat) : (kb6 k).length = 6 := rfl
theorem tab6 (g : List Bool → Bool) : tabF 6 g = (List.range 64).map (fun k => g (kb6 k)) := by
  have : List.range 64 = [0,1,2,3,4,5,6,7,8,9,10,11,12,13,14,15,16,17,18,19,20,21,22,23,24,25,26,27,28,29,30,31,32,33,34,35,36,37,38,39,40,41,42,43,44,45,46,47,48,49,50,51,52,53,54,55,56,57,58,59,60,61,62,63] := by decide
  rw [this]
  rfl
theorem tab6_get (g : List Bool → Bool) {k : Nat} (hk : k < 64) : (tabF 6 g)[k]? = some (g (kb6 k)) := by
  rw [tab6, List.getElem?_map, List.getElem?_range hk]
  rfl
theorem kb6_fin : ∀ k : Fin 64, ofB (bitF (kb6 k.val)) = (k.val : Int) := by decide +kernel
theorem kb6_num {k : Nat} (hk : k < 64) : ofB (bitF (kb6 k)) = (k : Int) := kb6_fin ⟨k, hk⟩
theorem kb6_back6 : ∀ a b c d e f : Bool, kb6 (of6 a b c d e f).toNat = [a, b, c, d, e, f] := by decide +kernel
theorem kb6_back (f : Nat → Bool) : kb6 (ofB f).toNat = [f 0, f 1, f 2, f 3, f 4, f 5] := kb6_back6 _ _ _ _ _ _
theorem list6 {α : Type} {l : List α} (h : l.length = 6) : ∃ a b c d e f, l = [a, b, c, d, e, f] := by
  match l, h with
  | [a, b, c, d, e, f], _ => exact ⟨a, b, c, d, e, f, rfl⟩

/-! ### The set of a pattern -/

def posM (c v : Nat → Bool) (i : Nat) (b : Bool) : Bool := (b && c i) == v i
def allP (c v : Nat → Bool) : Nat → List Bool → Bool
  | _, [] => true
  | i, b :: l => posM c v i b && allP c v (i + 1) l
theorem hasM_allP (c v : Nat → Bool) {l : List Bool} (h : l.length = 6) : hasM c v (bitF l) = allP c v 0 l := by
  obtain ⟨a, b, c', d, e, f, rfl⟩ := list6 h
  simp [hasM, all6, allP, posM, bitF]
/-- The set of a pattern's last h signs. -/
def sufL (c v : Nat → Bool) : Nat → List Bool
  | 0 => [true]
  | h + 1 => bif c (5 - h) then (bif v (5 - h) then noL h ++ sufL c v h else sufL c v h ++ noL h) else sufL c v h ++ sufL c v h
theorem sufL_tab {c v : Nat → Bool} (hv : ∀ i, v i = true → c i = true) : ∀ h, h ≤ 6 → sufL c v h = tabF h (allP c v (6 - h))
  | 0, _ => rfl
  | h + 1, hh => by
    have ih := sufL_tab hv h (by omega)
    have e : 6 - (h + 1) + 1 = 6 - h := by omega
    have e5 : 6 - (h + 1) = 5 - h := by omega
    rw [sufL, tabF]
    have a0 : ∀ q, (fun l => allP c v (6 - (h + 1)) (q :: l)) = fun l => posM c v (5 - h) q && allP c v (6 - h) l := fun q => by
      funext l
      rw [allP, e, e5]
    rw [a0, a0, tabF_and, tabF_and, ← ih]
    have hx := hv (5 - h)
    unfold posM
    generalize c (5 - h) = x at hx ⊢
    generalize v (5 - h) = y at hx ⊢
    cases x <;> cases y <;> simp at hx ⊢
theorem sufL_all {c v : Nat → Bool} (hv : ∀ i, v i = true → c i = true) : sufL c v 6 = tabF 6 (fun l => hasM c v (bitF l)) := by
  rw [sufL_tab hv 6 (by omega)]
  exact tabF_congr 6 fun l hl => (hasM_allP c v hl).symm

/-- The set of a space. -/
def inSp (ss : List ByteArray) (l : List Bool) : Bool := ss.any fun s => hasM (cf s) (vf s) (bitF l)
def spL (ss : List ByteArray) : List Bool := tabF 6 (inSp ss)
theorem spL_len (ss : List ByteArray) : (spL ss).length = 64 := tabF_len 6 _
theorem spL_nil : spL [] = noL 6 := tabF_no 6
theorem spL_snoc (ss : List ByteArray) (s : ByteArray) : spL (ss ++ [s]) = List.zipWith (fun x y => x || y) (spL ss) (tabF 6 (fun l => hasM (cf s) (vf s) (bitF l))) := by
  rw [spL, spL, tabF_zip]
  exact tabF_congr 6 fun l _ => by simp [inSp]
/-- Texts that are a space. -/
def okSp (ss : List ByteArray) : Bool := decide (ss.length ≤ 64) && ss.all okS

/-! ### What is kept of two sets -/

def keepF (f b s : Bool) (x y : Bool) : Bool := bif x then (bif y then b else f) else (bif y then s else false)
theorem zip_same (f : Bool → Bool → Bool) (b : Bool) (h1 : f true true = b) (h0 : f false false = false) : ∀ (m : List Bool), List.zipWith f m m = bif b then m else List.replicate m.length false
  | [] => by cases b <;> rfl
  | x :: m => by
    have := zip_same f b h1 h0 m
    cases b <;> cases x <;> simp_all [List.replicate_succ]
theorem zip_no (f : Bool → Bool → Bool) (b : Bool) (h1 : f true false = b) (h0 : f false false = false) : ∀ (m : List Bool), List.zipWith f m (List.replicate m.length false) = bif b then m else List.replicate m.length false
  | [] => by cases b <;> rfl
  | x :: m => by
    have := zip_no f b h1 h0 m
    cases b <;> cases x <;> simp_all [List.replicate_succ]
theorem no_zip (f : Bool → Bool → Bool) (b : Bool) (h1 : f false true = b) (h0 : f false false = false) : ∀ (m : List Bool), List.zipWith f (List.replicate m.length false) m = bif b then m else List.replicate m.length false
  | [] => by cases b <;> rfl
  | x :: m => by
    have := no_zip f b h1 h0 m
    cases b <;> cases x <;> simp_all [List.replicate_succ]

/-! ### The canonical list -/

def tidyB : Nat → List Bool → List (List UInt8)
  | 0, m => bif m.getD 0 false then [[]] else []
  | h + 1, m => bif m.take (2 ^ h) == m.drop (2 ^ h) then (tidyB h (m.take (2 ^ h))).map (fun l => 120 :: l)
    else (tidyB h (m.take (2 ^ h))).map (fun l => 48 :: l) ++ (tidyB h (m.drop (2 ^ h))).map (fun l => 49 :: l)
theorem take_app {a b : List Bool} {n : Nat} (h : a.length = n) : (a ++ b).take n = a ∧ (a ++ b).drop n = b := by
  subst h
  simp
theorem tidyB_app {h : Nat} {a b : List Bool} (ha : a.length = 2 ^ h) : tidyB (h + 1) (a ++ b) = bif a == b then (tidyB h a).map (fun l => 120 :: l) else (tidyB h a).map (fun l => 48 :: l) ++ (tidyB h b).map (fun l => 49 :: l) := by
  rw [tidyB, (take_app ha).1, (take_app ha).2]
theorem tidyB_no : ∀ h : Nat, tidyB h (noL h) = []
  | 0 => rfl
  | h + 1 => by
    rw [noL_succ, tidyB_app (noL_len h), tidyB_no h]
    simp
theorem tidyB_len : ∀ (h : Nat) (m : List Bool), ∀ l ∈ tidyB h m, l.length = h
  | 0, m, l, hl => by
    rw [tidyB] at hl
    cases hm : m.getD 0 false <;> rw [hm] at hl <;> simp at hl
    simp [hl]
  | h + 1, m, l, hl => by
    rw [tidyB] at hl
    cases hm : (m.take (2 ^ h) == m.drop (2 ^ h)) <;> rw [hm] at hl <;> simp only [cond_true, cond_false, List.mem_append, List.mem_map] at hl
    · rcases hl with ⟨l', h', rfl⟩ | ⟨l', h', rfl⟩ <;> simp [tidyB_len h _ l' h']
    · obtain ⟨l', h', rfl⟩ := hl
      simp [tidyB_len h _ l' h']
theorem tidyB_sgn : ∀ (h : Nat) (m : List Bool), ∀ l ∈ tidyB h m, ∀ b ∈ l, b = 48 ∨ b = 49 ∨ b = 120
  | 0, m, l, hl => by
    rw [tidyB] at hl
    cases hm : m.getD 0 false <;> rw [hm] at hl <;> simp at hl
    simp [hl]
  | h + 1, m, l, hl => by
    rw [tidyB] at hl
    cases hm : (m.take (2 ^ h) == m.drop (2 ^ h)) <;> rw [hm] at hl <;> simp only [cond_true, cond_false, List.mem_append, List.mem_map] at hl
    · rcases hl with ⟨l', h', rfl⟩ | ⟨l', h', rfl⟩
      all_goals
        intro b hb
        rcases List.mem_cons.1 hb with rfl | hb
        · simp
        · exact tidyB_sgn h _ l' h' b hb
    · obtain ⟨l', h', rfl⟩ := hl
      intro b hb
      rcases List.mem_cons.1 hb with rfl | hb
      · simp
      · exact tidyB_sgn h _ l' h' b hb
theorem tidyB_many : ∀ (h : Nat) (m : List Bool), (tidyB h m).length ≤ 2 ^ h
  | 0, m => by rw [tidyB]; cases m.getD 0 false <;> simp
  | h + 1, m => by
    have i1 := tidyB_many h (m.take (2 ^ h))
    have i2 := tidyB_many h (m.drop (2 ^ h))
    rw [tidyB, Nat.pow_succ]
    cases (m.take (2 ^ h) == m.drop (2 ^ h)) <;> simp <;> omega
/-- The text of signs. -/
def sText (l : List UInt8) : ByteArray := ⟨l.toArray⟩
/-- The tidied texts of a set of six bits. -/
def tidyT (m : List Bool) : List ByteArray := (tidyB 6 m).map sText
theorem tidyT_len (m : List Bool) : (tidyT m).length ≤ 64 := by
  have := tidyB_many 6 m
  simp [tidyT]
  omega

/-- Masks of signs; behind their end all are x. -/
def cL (l : List UInt8) (i : Nat) : Bool := !(l.getD i 120 == 120)
def vL (l : List UInt8) (i : Nat) : Bool := l.getD i 120 == 49
theorem txt_L {l : List UInt8} (h : l.length = 6) (hs : ∀ b ∈ l, b = 48 ∨ b = 49 ∨ b = 120) : txt (cL l) (vL l) = sText l := by
  obtain ⟨a, b, c, d, e, f, rfl⟩ := list6 h
  have k : ∀ x : UInt8, (x = 48 ∨ x = 49 ∨ x = 120) → chr (!(x == 120)) (x == 49) = x := by
    rintro x (rfl | rfl | rfl) <;> rfl
  simp only [txt, mk6, cL, vL, sText]
  have e0 : ∀ i, (List.getD [a, b, c, d, e, f] i 120) ∈ [a, b, c, d, e, f] ∨ (List.getD [a, b, c, d, e, f] i 120) = 120 := fun i => by
    match i with
    | 0 => simp
    | 1 => simp
    | 2 => simp
    | 3 => simp
    | 4 => simp
    | 5 => simp
    | i + 6 => simp
  have e1 : ∀ i, chr (!(List.getD [a, b, c, d, e, f] i 120 == 120)) (List.getD [a, b, c, d, e, f] i 120 == 49) = List.getD [a, b, c, d, e, f] i 120 := fun i => k _ (by
    rcases e0 i with h | h
    · exact hs _ h
    · exact .inr (.inr h))
  rw [e1, e1, e1, e1, e1, e1]
  rfl
theorem okS_L {l : List UInt8} (h : l.length = 6) (hs : ∀ b ∈ l, b = 48 ∨ b = 49 ∨ b = 120) : okS (sText l) = true := by rw [← txt_L h hs]; exact okS_txt _ _

end Go.Proofs.Ytndmedkkecikoaa

namespace Go.Proofs.Ytndmedkkecikoaa
open Go.ChangeShapes Go.WideShapes Go.ChangeAt Go.RowKit Go.Joins
set_option linter.unusedVariables false

/-- A node's two parts, and its block. -/
abbrev Nd := Option Addr × Option Addr × Nat
def adr (b : Nat) : Addr := ⟨b, 0, none⟩

/-- Which set of h bits a pointer is, by the nodes that there are. -/
def Rep (E : List Nd) (e : Nat) : Nat → Option Addr → List Bool → Prop
  | h, none, m => m = noL h
  | 0, some a, m => a = adr e ∧ m = [true]
  | h + 1, some a, m => ∃ z o b m0 m1, a = adr b ∧ (z, o, b) ∈ E ∧ (z ≠ none ∨ o ≠ none) ∧ m = m0 ++ m1 ∧ Rep E e h z m0 ∧ Rep E e h o m1

theorem Rep.none_iff {E : List Nd} {e h : Nat} {m : List Bool} : Rep E e h none m ↔ m = noL h := by
  cases h <;> exact Iff.rfl
theorem Rep.len {E : List Nd} {e : Nat} : ∀ {h : Nat} {p : Option Addr} {m : List Bool}, Rep E e h p m → m.length = 2 ^ h
  | h, none, m, hr => by rw [Rep.none_iff.1 hr, noL_len]
  | 0, some a, m, hr => by rw [hr.2]; rfl
  | h + 1, some a, m, ⟨z, o, b, m0, m1, _, _, _, hm, h0, h1⟩ => by
    rw [hm, List.length_append, h0.len, h1.len, Nat.pow_succ]
    omega
theorem Rep.mono {E E' : List Nd} {e : Nat} (hE : ∀ x, x ∈ E → x ∈ E') : ∀ {h : Nat} {p : Option Addr} {m : List Bool}, Rep E e h p m → Rep E' e h p m
  | h, none, m, hr => Rep.none_iff.2 (Rep.none_iff.1 hr)
  | 0, some a, m, hr => hr
  | h + 1, some a, m, ⟨z, o, b, m0, m1, ha, hb, hn, hm, h0, h1⟩ => ⟨z, o, b, m0, m1, ha, hE _ hb, hn, hm, h0.mono hE, h1.mono hE⟩

theorem app_no {h : Nat} {m0 m1 : List Bool} (h0 : m0.length = 2 ^ h) : m0 ++ m1 = noL (h + 1) → m0 = noL h ∧ m1 = noL h := by
  intro e
  rw [noL_succ] at e
  exact List.append_inj e (by rw [h0, noL_len])
/-- A node is not the empty set. -/
theorem Rep.some_ne {E : List Nd} {e : Nat} : ∀ {h : Nat} {a : Addr} {m : List Bool}, Rep E e h (some a) m → m ≠ noL h
  | 0, a, m, hr => by rw [hr.2]; decide
  | h + 1, a, m, ⟨z, o, b, m0, m1, ha, hb, hn, hm, h0, h1⟩ => by
    intro em
    rw [hm] at em
    obtain ⟨e0, e1⟩ := app_no h0.len em
    subst e0 e1
    cases z with
    | some z => exact h0.some_ne rfl
    | none =>
      cases o with
      | some o => exact h1.some_ne rfl
      | none => simp at hn

/-- No two nodes of the same parts, no two of the same block. -/
def Uniq (E : List Nd) : Prop := (∀ z o b b', (z, o, b) ∈ E → (z, o, b') ∈ E → b = b') ∧ ∀ z o z' o' b, (z, o, b) ∈ E → (z', o', b) ∈ E → z = z' ∧ o = o'

/-- A pointer is one set alone. -/
theorem Rep.same_set {E : List Nd} {e : Nat} (hu : Uniq E) : ∀ {h : Nat} {p : Option Addr} {m m' : List Bool}, Rep E e h p m → Rep E e h p m' → m = m'
  | h, none, m, m', hr, hr' => by rw [Rep.none_iff.1 hr, Rep.none_iff.1 hr']
  | 0, some a, m, m', hr, hr' => by rw [hr.2, hr'.2]
  | h + 1, some a, m, m', ⟨z, o, b, m0, m1, ha, hb, hn, hm, h0, h1⟩, ⟨z', o', b', m0', m1', ha', hb', hn', hm', h0', h1'⟩ => by
    subst ha
    obtain rfl : b = b' := by unfold adr at ha'; injection ha'
    obtain ⟨rfl, rfl⟩ := hu.2 _ _ _ _ _ hb hb'
    rw [hm, hm', h0.same_set hu h0', h1.same_set hu h1']
/-- A set is one pointer alone. -/
theorem Rep.same_ptr {E : List Nd} {e : Nat} (hu : Uniq E) : ∀ {h : Nat} {p p' : Option Addr} {m : List Bool}, Rep E e h p m → Rep E e h p' m → p = p'
  | h, none, none, m, _, _ => rfl
  | h, none, some a, m, hr, hr' => absurd (Rep.none_iff.1 hr) hr'.some_ne
  | h, some a, none, m, hr, hr' => absurd (Rep.none_iff.1 hr') hr.some_ne
  | 0, some a, some a', m, hr, hr' => by rw [hr.1, hr'.1]
  | h + 1, some a, some a', m, ⟨z, o, b, m0, m1, ha, hb, hn, hm, h0, h1⟩, ⟨z', o', b', m0', m1', ha', hb', hn', hm', h0', h1'⟩ => by
    rw [hm] at hm'
    obtain ⟨rfl, rfl⟩ := List.append_inj hm' (by rw [h0.len, h0'.len])
    have ez := h0.same_ptr hu h0'
    have eo := h1.same_ptr hu h1'
    subst ez eo
    rw [ha, ha', hu.1 _ _ _ _ hb hb']

/-- A pointer that may be compared: nil, the last one, or a node. -/
def Vp (E : List Nd) (e : Nat) (p : Option Addr) : Prop := p = none ∨ p = some (adr e) ∨ ∃ z o b, (z, o, b) ∈ E ∧ p = some (adr b)
theorem Rep.vp {E : List Nd} {e : Nat} : ∀ {h : Nat} {p : Option Addr} {m : List Bool}, Rep E e h p m → Vp E e p
  | h, none, m, hr => .inl rfl
  | 0, some a, m, hr => .inr (.inl (by rw [hr.1]))
  | h + 1, some a, m, ⟨z, o, b, m0, m1, ha, hb, hn, hm, h0, h1⟩ => .inr (.inr ⟨z, o, b, hb, by rw [ha]⟩)
theorem Vp.mono {E E' : List Nd} {e : Nat} (hE : ∀ x, x ∈ E → x ∈ E') {p : Option Addr} (h : Vp E e p) : Vp E' e p := by
  rcases h with h | h | ⟨z, o, b, hb, h⟩
  · exact .inl h
  · exact .inr (.inl h)
  · exact .inr (.inr ⟨z, o, b, hE _ hb, h⟩)

/-- The parts of a node, its canonical list by theirs. -/
theorem Rep.parts {E : List Nd} {e h b : Nat} {m : List Bool} (hr : Rep E e (h + 1) (some (adr b)) m) : ∃ z o m0 m1, (z, o, b) ∈ E ∧ (z ≠ none ∨ o ≠ none) ∧ m = m0 ++ m1 ∧ Rep E e h z m0 ∧ Rep E e h o m1 := by
  obtain ⟨z, o, b', m0, m1, ha, hb, hn, hm, h0, h1⟩ := hr
  obtain rfl : b = b' := by unfold adr at ha; injection ha
  exact ⟨z, o, m0, m1, hb, hn, hm, h0, h1⟩
theorem Rep.adr_of {E : List Nd} {e : Nat} : ∀ {h : Nat} {a : Addr} {m : List Bool}, Rep E e h (some a) m → ∃ b, a = adr b
  | 0, a, m, hr => ⟨e, hr.1⟩
  | h + 1, a, m, ⟨z, o, b, m0, m1, ha, _⟩ => ⟨b, ha⟩
theorem Rep.tidy {E : List Nd} {e h : Nat} (hu : Uniq E) {z o : Option Addr} {m0 m1 : List Bool} (h0 : Rep E e h z m0) (h1 : Rep E e h o m1) :
    tidyB (h + 1) (m0 ++ m1) = if z = o then (tidyB h m0).map (fun l => 120 :: l) else (tidyB h m0).map (fun l => 48 :: l) ++ (tidyB h m1).map (fun l => 49 :: l) := by
  rw [tidyB_app h0.len]
  by_cases hz : z = o
  · subst hz
    obtain rfl := h0.same_set hu h1
    simp
  · have : (m0 == m1) = false := by
      cases hm : (m0 == m1)
      · rfl
      · rw [beq_iff_eq] at hm
        subst hm
        exact absurd (h0.same_ptr hu h1) hz
    rw [this, if_neg hz]
    rfl

end Go.Proofs.Ytndmedkkecikoaa

namespace Go.Proofs.Ytndmedkkecikoaa
open Go.ChangeShapes Go.WideShapes Go.ChangeAt Go.RowKit Go.Joins
set_option linter.unusedVariables false

theorem infoNode : (Try.prog.info? 103).map (fun i => (i.zero, i.size, i.bytes)) = some (some (.agg #[.pointer none, .pointer none]), 2, 16) := by kernel_rfl

/-- A pointer that may be compared in a world. -/
def Pk (w : World) (p : Option Addr) : Prop := p = none ∨ ∃ b cs t, p = some (adr b) ∧ w.heap[b]? = some (.cells cs t (0, 0))

theorem eqlIn_ptr (w : World) (d : Nat) {p q : Option Addr} (hp : Pk w p) (hq : Pk w q) : (Op.equalIn (d + 1) 58 (.pointer p) (.pointer q)).run Try.prog w = .ok (decide (p = q)) w := by
  obtain ⟨i0, hi, hz0, hz1, hz2⟩ := info_parts infoNode
  rcases hp with rfl | ⟨b, cs, t, rfl, hb⟩
  · rcases hq with rfl | ⟨b', cs', t', rfl, hb'⟩
    · simp [Op.equalIn, run_underlying Try.underlying58]
    · simp [Op.equalIn, run_underlying Try.underlying58]
  · rcases hq with rfl | ⟨b', cs', t', rfl, hb'⟩
    · simp [Op.equalIn, run_underlying Try.underlying58]
    · by_cases hne : adr b = adr b'
      · rw [hne]
        simp [Op.equalIn, run_underlying Try.underlying58, sizeOf, typeInfo, hi, run_sameAddr_same]
      · simp [Op.equalIn, run_underlying Try.underlying58, sizeOf, typeInfo, hi, hz1, run_sameAddr_other w hne hb hb', hne]
theorem eql_ptr (w : World) {p q : Option Addr} (hp : Pk w p) (hq : Pk w q) : (binOp .eql 58 (.pointer p) (.pointer q)).run Try.prog w = .ok (.bool (decide (p = q))) w := by
  simp only [binOp]
  simp [Op.equal, Op.maxDepth, eqlIn_ptr w 9999 hp hq]

def keyV (z o : Option Addr) : Value := .agg #[.pointer z, .pointer o]
theorem key_eq (w : World) {z o z' o' : Option Addr} (hz : Pk w z) (ho : Pk w o) (hz' : Pk w z') (ho' : Pk w o') :
    (Op.equal 103 (keyV z o) (keyV z' o')).run Try.prog w = .ok (decide (z = z') && decide (o = o')) w := by
  have e0 := eqlIn_ptr w 9998 hz hz'
  have e1 := eqlIn_ptr w 9998 ho ho'
  unfold Op.equal Op.maxDepth keyV
  rw [run_equalIn_struct w 9999 103 _ _ (by kernel_rfl) (by kernel_rfl)]
  have hf : (Try.prog.fieldsOf 103).toList.map (fun f => (f.name, f.type, f.offset)) = [("zero", 58, 0), ("one", 58, 1)] := by kernel_rfl
  generalize (Try.prog.fieldsOf 103).toList = fs at hf
  have hl : fs.length = 2 := by simpa using congrArg List.length hf
  match fs, hl, hf with
  | [f0, f1], _, hf =>
    simp only [List.map_cons, List.map_nil, List.cons.injEq, Prod.mk.injEq, and_true] at hf
    obtain ⟨⟨n0, t0, o0⟩, n1, t1, o1⟩ := hf
    have p0 : ∀ a b : Option Addr, (part 58 #[.pointer a, .pointer b] 0).run Try.prog w = .ok (.pointer a) w := fun a b => by kernel_rfl
    have p1 : ∀ a b : Option Addr, (part 58 #[.pointer a, .pointer b] 1).run Try.prog w = .ok (.pointer b) w := fun a b => by kernel_rfl
    simp only [Op.eqFields, n0, n1, t0, t1, o0, o1, Sem.run_bind, Sem.run_ite, p0, p1, Result.andThen_ok, e0, e1]
    by_cases h0 : z = z' <;> by_cases h1 : o = o' <;> simp [h0, h1]

theorem key_check (w : World) (em : Bool) (z o : Option Addr) : (Instr.checkKey em 10000 103 (keyV z o)).run Try.prog w = .ok () w := by
  have c : ∀ (n : Nat) (a : Option Addr), (Instr.checkKey em (n + 1) 58 (.pointer a)).run Try.prog w = .ok () w := fun n a => by
    unfold Instr.checkKey
    simp [run_underlying Try.underlying58]
  have p0 : ∀ a b : Option Addr, (part 58 #[.pointer a, .pointer b] 0).run Try.prog w = .ok (.pointer a) w := fun a b => by kernel_rfl
  have p1 : ∀ a b : Option Addr, (part 58 #[.pointer a, .pointer b] 1).run Try.prog w = .ok (.pointer b) w := fun a b => by kernel_rfl
  have c9 := c 9998
  unfold Instr.checkKey keyV
  simp [run_underlying Try.underlying103, p0, p1, c9]

/-- Entries of a map that are nodes. -/
def entL (E : List Nd) : List (Value × Value) := E.map fun n => (keyV n.1 n.2.1, Value.pointer (some (adr n.2.2)))

theorem find_at (w : World) {z o : Option Addr} (hz : Pk w z) (ho : Pk w o) : ∀ (es : List MapEntry) (E : List Nd) (i : Nat), es.map (fun x => (x.key, x.val)) = entL E → (∀ n ∈ E, Pk w n.1 ∧ Pk w n.2.1) →
    ∃ r, (Instr.findAsking 103 (keyV z o) es i).run Try.prog w = .ok r w ∧ ((r = none ∧ ∀ k, (z, o, k) ∉ E) ∨ ∃ j k, r = some (j, .pointer (some (adr k))) ∧ (z, o, k) ∈ E)
  | [], E, i, h, _ => by
    cases E with
    | cons n E => simp [entL] at h
    | nil => exact ⟨none, by simp [Instr.findAsking], .inl ⟨rfl, by simp⟩⟩
  | x :: es, E, i, h, hE => by
    cases E with
    | nil => simp [entL] at h
    | cons n E =>
      obtain ⟨z', o', k'⟩ := n
      simp only [entL, List.map_cons, List.cons.injEq, Prod.mk.injEq] at h
      obtain ⟨⟨hk, hv⟩, ht⟩ := h
      have he := key_eq w hz ho (hE _ (List.mem_cons_self ..)).1 (hE _ (List.mem_cons_self ..)).2
      by_cases hzz : z = z' ∧ o = o'
      · obtain ⟨rfl, rfl⟩ := hzz
        refine ⟨some (i, x.val), ?_, .inr ⟨i, k', by rw [hv], by simp⟩⟩
        simp [Instr.findAsking, hk, he, Result.andThen]
      · have hf : (decide (z = z') && decide (o = o')) = false := by
          simp only [Bool.and_eq_false_iff, decide_eq_false_iff_not]
          by_cases e : z = z'
          · exact .inr fun e' => hzz ⟨e, e'⟩
          · exact .inl e
        obtain ⟨r, hr, hh⟩ := find_at w hz ho es E (i + 1) ht (fun n hn => hE n (List.mem_cons_of_mem _ hn))
        refine ⟨r, ?_, ?_⟩
        · simp only [hf] at he
          simp [Instr.findAsking, hk, he, Result.andThen, hr]
        · rcases hh with ⟨h1, h2⟩ | ⟨j, k, h1, h2⟩
          · refine .inl ⟨h1, fun k hk' => ?_⟩
            rcases List.mem_cons.1 hk' with e | e
            · simp only [Prod.mk.injEq] at e
              exact hzz ⟨e.1, e.2.1⟩
            · exact h2 k e
          · exact .inr ⟨j, k, h1, List.mem_cons_of_mem _ h2⟩

theorem findKey_at (w : World) {z o : Option Addr} (hz : Pk w z) (ho : Pk w o) (es : List MapEntry) (E : List Nd) (h : es.map (fun x => (x.key, x.val)) = entL E) (hE : ∀ n ∈ E, Pk w n.1 ∧ Pk w n.2.1) :
    ∃ r, (Instr.findKey 103 (keyV z o) es).run Try.prog w = .ok r w ∧ ((r = none ∧ ∀ k, (z, o, k) ∉ E) ∨ ∃ j k, r = some (j, .pointer (some (adr k))) ∧ (z, o, k) ∈ E) := by
  cases es with
  | nil =>
    cases E with
    | cons n E => simp [entL] at h
    | nil => exact ⟨none, by simp [Instr.findKey, run_underlying Try.underlying103, Instr.findNow], .inl ⟨rfl, by simp⟩⟩
  | cons x es =>
    obtain ⟨r, hr, hh⟩ := find_at w hz ho (x :: es) E 0 h hE
    refine ⟨r, ?_, hh⟩
    simp [Instr.findKey, run_underlying Try.underlying103, Instr.findNow, Instr.sameNow, Result.andThen, hr]

/-- The diagram in memory: block b its map, block e its last node, E the other nodes. -/
structure Dg (w : World) (b e : Nat) (E : List Nd) : Prop where
  last : w.heap[e]? = some (.cells #[.pointer none, .pointer none] 103)
  map : ∃ es clock, w.heap[b]? = some (.map es clock) ∧ es.toList.map (fun x => (x.key, x.val)) = entL E
  node : ∀ z o k, (z, o, k) ∈ E → w.heap[k]? = some (.cells #[.pointer z, .pointer o] 103) ∧ Vp E e z ∧ Vp E e o
  uniq : Uniq E

theorem Dg.pk {w : World} {b e : Nat} {E : List Nd} (h : Dg w b e E) {p : Option Addr} (hp : Vp E e p) : Pk w p := by
  rcases hp with rfl | rfl | ⟨z, o, k, hk, rfl⟩
  · exact .inl rfl
  · exact .inr ⟨e, _, _, rfl, h.last⟩
  · exact .inr ⟨k, _, _, rfl, (h.node z o k hk).1⟩
theorem Dg.ne_b {w : World} {b e : Nat} {E : List Nd} (h : Dg w b e E) {k : Nat} {cs : Array Value} {t : TypeId} {fr : Nat × Nat} (hk : w.heap[k]? = some (.cells cs t fr)) : k ≠ b := by
  rintro rfl
  obtain ⟨es, clock, hb, _⟩ := h.map
  rw [hk] at hb
  cases hb
theorem Dg.lt_b {w : World} {b e : Nat} {E : List Nd} (h : Dg w b e E) : b < w.heap.size := by
  obtain ⟨es, clock, hb, _⟩ := h.map
  exact (Array.getElem?_eq_some_iff.1 hb).1
/-- Blocks of the diagram as they were. -/
theorem Dg.below {w w' : World} {b e : Nat} {E : List Nd} (h : Dg w b e E) (hb : Below w.heap.size w w') : Dg w' b e E := by
  have k : ∀ j o, w.heap[j]? = some o → w'.heap[j]? = some o := fun j o hj => (hb.block j (Array.getElem?_eq_some_iff.1 hj).1).trans hj
  obtain ⟨es, clock, hm, he⟩ := h.map
  exact ⟨k _ _ h.last, ⟨es, clock, k _ _ hm, he⟩, fun z o j hj => ⟨k _ _ (h.node z o j hj).1, (h.node z o j hj).2⟩, h.uniq⟩
theorem Dg.alloc {w : World} {b e : Nat} {E : List Nd} (h : Dg w b e E) (o : Obj) : Dg (w.alloc o) b e E := h.below ((Below.refl _ _).alloc (Nat.le_refl _) _)
/-- A store into a block that is none of the diagram's. -/
theorem Dg.setCell {w : World} {b e : Nat} {E : List Nd} (h : Dg w b e E) {p : Addr} (v : Value) (hp : p.block ≠ b ∧ p.block ≠ e ∧ ∀ z o, (z, o, p.block) ∉ E) : Dg (w.setCell p v) b e E := by
  have k : ∀ j o, j ≠ p.block → w.heap[j]? = some o → (w.setCell p v).heap[j]? = some o := fun j o hne hj => (Below.heap_setCell _ _ _ _ (fun e => hne e)).trans hj
  obtain ⟨es, clock, hm, he⟩ := h.map
  exact ⟨k _ _ hp.2.1.symm h.last, ⟨es, clock, k _ _ hp.1.symm hm, he⟩, fun z o j hj => ⟨k _ _ (fun e => hp.2.2 z o (e ▸ hj)) (h.node z o j hj).1, (h.node z o j hj).2⟩, h.uniq⟩

theorem zeroPtr (w : World) : (zeroValue 58).run Try.prog w = .ok (.pointer none) w := by kernel_rfl

theorem Dg.look {w : World} {b e : Nat} {E : List Nd} (h : Dg w b e E) {z o : Option Addr} (hz : Vp E e z) (ho : Vp E e o) :
    ∃ p ok, (Instr.lookup 60 (.map (some b)) (keyV z o) true).run Try.prog w = .ok (.tuple #[.pointer p, .bool ok]) w ∧
      ((ok = true ∧ ∃ k, p = some (adr k) ∧ (z, o, k) ∈ E) ∨ (ok = false ∧ p = none ∧ ∀ k, (z, o, k) ∉ E)) := by
  obtain ⟨es, clock, hm, he⟩ := h.map
  obtain ⟨r, hr, hh⟩ := findKey_at w (h.pk hz) (h.pk ho) es.toList E he (fun n hn => ⟨h.pk (h.node n.1 n.2.1 n.2.2 hn).2.1, h.pk (h.node n.1 n.2.1 n.2.2 hn).2.2⟩)
  have hc := key_check w es.isEmpty z o
  rcases hh with ⟨rfl, hn⟩ | ⟨j, k, rfl, hk⟩
  · exact ⟨none, false, by simp [Instr.lookup, run_underlying Try.underlying60, MapKept.run_getObj_map hm, hc, hr, Result.andThen], .inr ⟨rfl, rfl, hn⟩⟩
  · exact ⟨some (adr k), true, by simp [Instr.lookup, run_underlying Try.underlying60, MapKept.run_getObj_map hm, hc, hr, Result.andThen], .inl ⟨rfl, k, rfl, hk⟩⟩

theorem Dg.put {w : World} {b e : Nat} {E : List Nd} (h : Dg w b e E) {z o : Option Addr} (hz : Vp E e z) (ho : Vp E e o) (hno : ∀ k, (z, o, k) ∉ E) {k : Nat} (hk : w.heap[k]? = some (.cells #[.pointer z, .pointer o] 103))
    (hnew : ∀ z' o', (z', o', k) ∉ E) :
    ∃ w', (Instr.mapUpdate 60 (.map (some b)) (keyV z o) (.pointer (some (adr k)))).run Try.prog w = .ok () w' ∧ Dg w' b e (E ++ [(z, o, k)]) ∧ w.grownBy w' (some b) := by
  obtain ⟨es, clock, hm, he⟩ := h.map
  obtain ⟨r, hr, hh⟩ := findKey_at w (h.pk hz) (h.pk ho) es.toList E he (fun n hn => ⟨h.pk (h.node n.1 n.2.1 n.2.2 hn).2.1, h.pk (h.node n.1 n.2.1 n.2.2 hn).2.2⟩)
  have hc := key_check w false z o
  rcases hh with ⟨rfl, hn⟩ | ⟨j, k', rfl, hk'⟩
  · have hset := MapKept.heap_set (o' := Obj.map (es.push { key := keyV z o, val := .pointer (some (adr k)), born := clock }) (clock + 1)) hm
    have sub : ∀ x, x ∈ E → x ∈ E ++ [(z, o, k)] := fun x hx => List.mem_append_left _ hx
    refine ⟨{ w with heap := w.heap.setIfInBounds b (Obj.map (es.push { key := keyV z o, val := .pointer (some (adr k)), born := clock }) (clock + 1)) }, by simp [Instr.mapUpdate, run_underlying Try.underlying60, MapKept.run_getObj_map hm, hc, hr, MapKept.run_setObj_map _ hm, Result.andThen], ⟨?_, ⟨_, _, hset.1, ?_⟩, ?_, ?_⟩, ⟨rfl, rfl, rfl, by simp, fun i _ hi => hset.2 i (fun e => hi (by rw [e]))⟩⟩
    · exact (hset.2 _ (h.ne_b h.last)).trans h.last
    · simp [entL, he]
    · intro z' o' k' hk'
      rcases List.mem_append.1 hk' with h' | h'
      · have := h.node z' o' k' h'
        exact ⟨(hset.2 _ (h.ne_b this.1)).trans this.1, this.2.1.mono sub, this.2.2.mono sub⟩
      · simp only [List.mem_singleton, Prod.mk.injEq] at h'
        obtain ⟨rfl, rfl, rfl⟩ := h'
        exact ⟨(hset.2 _ (h.ne_b hk)).trans hk, hz.mono sub, ho.mono sub⟩
    · constructor
      · intro z' o' k1 k2 h1 h2
        replace h1 := List.mem_append.1 h1
        replace h2 := List.mem_append.1 h2
        rcases h1 with h1 | h1 <;> rcases h2 with h2 | h2
        · exact h.uniq.1 _ _ _ _ h1 h2
        · simp only [List.mem_singleton, Prod.mk.injEq] at h2
          obtain ⟨rfl, rfl, rfl⟩ := h2
          exact absurd h1 (hno _)
        · simp only [List.mem_singleton, Prod.mk.injEq] at h1
          obtain ⟨rfl, rfl, rfl⟩ := h1
          exact absurd h2 (hno _)
        · simp only [List.mem_singleton, Prod.mk.injEq] at h1 h2
          rw [h1.2.2, h2.2.2]
      · intro z1 o1 z2 o2 k' h1 h2
        replace h1 := List.mem_append.1 h1
        replace h2 := List.mem_append.1 h2
        rcases h1 with h1 | h1 <;> rcases h2 with h2 | h2
        · exact h.uniq.2 _ _ _ _ _ h1 h2
        · simp only [List.mem_singleton, Prod.mk.injEq] at h2
          obtain ⟨rfl, rfl, rfl⟩ := h2
          exact absurd h1 (hnew _ _)
        · simp only [List.mem_singleton, Prod.mk.injEq] at h1
          obtain ⟨rfl, rfl, rfl⟩ := h1
          exact absurd h2 (hnew _ _)
        · simp only [List.mem_singleton, Prod.mk.injEq] at h1 h2
          exact ⟨h1.1.trans h2.1.symm, h1.2.1.trans h2.2.1.symm⟩
  · exact absurd hk' (hno k')

/-- The look-up, for a walk. -/
theorem wpList_look {w : World} {ops : Array Oper} {rest : List Oper} {op : Oper} {a : Act} {Q : Exit → Act → World → Prop} (hg : op.guard = none) (m x : Operand) (hop : op.op = Op.lookup 60 m x true)
    {b e : Nat} {E : List Nd} {z o : Option Addr} (hd : Dg w b e E) (hz : Vp E e z) (ho : Vp E e o) (hm : a.eval m = .map (some b)) (hx : a.eval x = keyV z o)
    (hK : ∀ p ok, ((ok = true ∧ ∃ k, p = some (adr k) ∧ (z, o, k) ∈ E) ∨ (ok = false ∧ p = none ∧ ∀ k, (z, o, k) ∉ E)) → wpList Try.prog ops Q rest (a.put op.dst (.tuple #[.pointer p, .bool ok])) w) :
    wpList Try.prog ops Q (op :: rest) a w := by
  refine wpList_plain hg fun K' hK' => ?_
  obtain ⟨p, ok, hrun, hh⟩ := hd.look hz ho
  unfold Oper.wp
  simp [execOp, hop, hm, hx, hrun, Result.andThen]
  exact hK' _ _ (hK p ok hh)
theorem wpList_put {w : World} {ops : Array Oper} {rest : List Oper} {op : Oper} {a : Act} {Q : Exit → Act → World → Prop} (hg : op.guard = none) (m x v : Operand) (hop : op.op = Op.mapUpdate 60 m x v)
    {b e : Nat} {E : List Nd} {z o : Option Addr} {k : Nat} (hd : Dg w b e E) (hz : Vp E e z) (ho : Vp E e o) (hno : ∀ k, (z, o, k) ∉ E) (hk : w.heap[k]? = some (.cells #[.pointer z, .pointer o] 103)) (hnew : ∀ z' o', (z', o', k) ∉ E)
    (hm : a.eval m = .map (some b)) (hx : a.eval x = keyV z o) (hv : a.eval v = .pointer (some (adr k)))
    (hK : ∀ w', Dg w' b e (E ++ [(z, o, k)]) → w.grownBy w' (some b) → wpList Try.prog ops Q rest (a.put op.dst undef) w') :
    wpList Try.prog ops Q (op :: rest) a w := by
  refine wpList_plain hg fun K' hK' => ?_
  obtain ⟨w', hrun, h1, h2⟩ := hd.put hz ho hno hk hnew
  unfold Oper.wp
  simp [execOp, hop, hm, hx, hv, hrun, Result.andThen]
  exact hK' _ _ (hK w' h1 h2)

end Go.Proofs.Ytndmedkkecikoaa

namespace Go.Proofs.Ytndmedkkecikoaa
open Go.ChangeShapes Go.WideShapes Go.ChangeAt Go.RowKit Go.Joins
set_option linter.unusedVariables false

theorem sTrans {a b c : World} {row : Option Nat} (h : a.grownBy b row) (k : b.grownBy c row) : a.grownBy c row :=
  ⟨k.os.trans h.os, k.tape.trans h.tape, k.output.trans h.output, Nat.le_trans h.size k.size, fun i hi hne => (k.block i (Nat.lt_of_lt_of_le hi h.size) hne).trans (h.block i hi hne)⟩
theorem sCell {a w : World} {g : Nat} (h : a.grownBy w (some g)) {b : Nat} (o : Nat) (hb : b < a.heap.size) (hne : b ≠ g) : w.cell? ⟨b, o, none⟩ = a.cell? ⟨b, o, none⟩ :=
  World.cell?_of_block (w := a) (h.block b hb (by intro e; cases e; exact hne rfl))
theorem sBel {a w : World} {g N : Nat} (h : a.grownBy w (some g)) (hN : N ≤ g) (hs : N ≤ a.heap.size) : Below N a w :=
  ⟨h.os, h.tape, h.output, h.size, fun k hk => h.block k (by omega) (by intro e; cases e; omega)⟩
theorem sOf {a w : World} (g : Option Nat) (h : Below a.heap.size a w) : a.grownBy w g := ⟨h.os, h.tape, h.output, h.size, fun k hk _ => h.block k hk⟩
theorem Dg.drew {w : World} {b e : Nat} {E : List Nd} (h : Dg w b e E) : Dg w.drew b e E := ⟨h.last, h.map, h.node, h.uniq⟩

def dV (b e : Nat) : Value := .agg #[.map (some b), .pointer (some (adr e))]
/-- What a call on a diagram leaves: a pointer that is the set m; the nodes that were there are there. -/
def Good (w w' : World) (b e : Nat) (E : List Nd) (h : Nat) (p : Option Addr) (m : List Bool) : Prop :=
  ∃ E', (∀ x, x ∈ E → x ∈ E') ∧ Dg w' b e E' ∧ Rep E' e h p m ∧ w.grownBy w' (some b)

set_option maxRecDepth 100000 in
set_option maxHeartbeats 2000000 in
theorem node_go (w : World) (b e h : Nat) (E : List Nd) (z o : Option Addr) (m0 m1 : List Bool) (hd : Dg w b e E) (h0 : Rep E e h z m0) (h1 : Rep E e h o m1) (hn : z ≠ none ∨ o ≠ none) :
    Calls Try.prog 94 #[.agg #[.map (some b), .pointer (some ⟨e, 0, none⟩)], .pointer z, .pointer o] w fun ex w' => ∃ p, ex = .returned (.pointer p) ∧ Good w w' b e E (h + 1) p (m0 ++ m1) := by
  have HN := Lib.hid hn
  have hdW : Dg ((w.alloc (.cells #[.map (some b), .pointer (some ⟨e, 0, none⟩)] 62)).alloc (.cells #[.pointer z, .pointer o] 103)) b e E := (hd.alloc _).alloc _
  have hsz : (w.alloc (.cells #[.map (some b), .pointer (some ⟨e, 0, none⟩)] 62)).heap.size = w.heap.size + 1 := by simp
  have hgW : w.grownBy ((w.alloc (.cells #[.map (some b), .pointer (some ⟨e, 0, none⟩)] 62)).alloc (.cells #[.pointer z, .pointer o] 103)) (some b) := sTrans (World.grownBy_alloc _ _ _) (World.grownBy_alloc _ _ _)
  have hk : ((w.alloc (.cells #[.map (some b), .pointer (some ⟨e, 0, none⟩)] 62)).alloc (.cells #[.pointer z, .pointer o] 103)).heap[w.heap.size + 1]? = some (.cells #[.pointer z, .pointer o] 103) := by
    have := newBlockM (w.alloc (.cells #[.map (some b), .pointer (some ⟨e, 0, none⟩)] 62)) (.cells #[.pointer z, .pointer o] 103)
    rw [hsz] at this
    exact this
  have hnew : ∀ z' o', (z', o', w.heap.size + 1) ∉ E := fun z' o' hm => by
    have := (Array.getElem?_eq_some_iff.1 (hd.node _ _ _ hm).1).1
    omega
  obtain ⟨p, ok, hrun, hh⟩ := hdW.look h0.vp h1.vp
  have HG := Lib.hid hgW
  have HD := Lib.hid hdW
  have H0 := Lib.hid h0
  have H1 := Lib.hid h1
  rcases hh with ⟨rfl, k, rfl, hkE⟩ | ⟨rfl, rfl, hno⟩
  · have HK := Lib.hid hkE
    unfold keyV at hrun
    clear hd hgW hdW h0 h1 hsz hk hnew hkE
    cases z <;> cases o
    · simp at hn
    all_goals
      clear hn
      go_enter Try.func94, Try.ntmps94
      go_wp2
      go_ret
      exact ⟨some (adr k), rfl, E, fun x hx => hx, HD.out, ⟨_, _, k, m0, m1, rfl, HK.out, HN.out, rfl, H0.out, H1.out⟩, HG.out⟩
  · obtain ⟨w', hput, hd', hg'⟩ := hdW.put h0.vp h1.vp hno hk hnew
    have HD' := Lib.hid hd'
    have HG' := Lib.hid hg'
    unfold keyV at hrun
    unfold keyV adr at hput
    clear hd hgW hdW h0 h1 hsz hk hnew hno hd' hg'
    cases z <;> cases o
    · simp at hn
    all_goals
      clear hn
      go_enter Try.func94, Try.ntmps94
      go_wp2
      go_ret
      exact ⟨some (adr (w.heap.size + 1)), rfl, _, fun x hx => List.mem_append_left _ hx, HD'.out, ⟨_, _, w.heap.size + 1, m0, m1, rfl, List.mem_append_right _ (List.mem_singleton.2 rfl), HN.out, rfl, H0.out.mono (fun x hx => List.mem_append_left _ hx), H1.out.mono (fun x hx => List.mem_append_left _ hx)⟩, sTrans HG.out HG'.out⟩

set_option maxHeartbeats 2000000 in
theorem node_any (w : World) (b e h : Nat) (E : List Nd) (z o : Option Addr) (m0 m1 : List Bool) (hd : Dg w b e E) (h0 : Rep E e h z m0) (h1 : Rep E e h o m1) :
    Calls Try.prog 94 #[.agg #[.map (some b), .pointer (some ⟨e, 0, none⟩)], .pointer z, .pointer o] w fun ex w' => ∃ p, ex = .returned (.pointer p) ∧ Good w w' b e E (h + 1) p (m0 ++ m1) := by
  by_cases hn : z = none ∧ o = none
  · obtain ⟨rfl, rfl⟩ := hn
    have HD := Lib.hid hd
    have H0 := Lib.hid h0
    have H1 := Lib.hid h1
    clear hd h0 h1
    go_enter Try.func94, Try.ntmps94
    go_wp2
    go_ret
    exact ⟨none, rfl, E, fun x hx => hx, HD.out.alloc _, Rep.none_iff.2 (by rw [Rep.none_iff.1 H0.out, Rep.none_iff.1 H1.out, noL_succ]), World.grownBy_alloc _ _ _⟩
  · exact node_go w b e h E z o m0 m1 hd h0 h1 (by
      by_cases hz : z = none
      · exact .inr fun ho => hn ⟨hz, ho⟩
      · exact .inl hz)

theorem keptNode_any (w : World) (p : Option Addr) (k : Bool) :
    Calls Try.prog 98 #[.pointer p, .bool k] w fun ex w' => ex = .returned (.pointer (bif k then p else none)) ∧ w' = w := by
  cases k <;>
  · go_enter Try.func98, Try.ntmps98
    go_wp2
    go_ret
    exact ⟨rfl, rfl⟩

/-- Where nothing is to be put together. -/
theorem kept_same {E : List Nd} {e h : Nat} {p : Option Addr} {m : List Bool} (f t s : Bool) (hr : Rep E e h p m) : Rep E e h (bif t then p else none) (List.zipWith (keepF f t s) m m) := by
  rw [zip_same (keepF f t s) t rfl rfl m, hr.len]
  cases t
  · exact Rep.none_iff.2 rfl
  · exact hr
theorem kept_first {E : List Nd} {e h : Nat} {p : Option Addr} {m m' : List Bool} (f t s : Bool) (hr : Rep E e h p m) (hq : Rep E e h none m') : Rep E e h (bif f then p else none) (List.zipWith (keepF f t s) m m') := by
  have := zip_no (keepF f t s) f rfl rfl m
  rw [hr.len] at this
  rw [Rep.none_iff.1 hq]
  unfold noL
  rw [this]
  cases f
  · exact Rep.none_iff.2 rfl
  · exact hr
theorem kept_second {E : List Nd} {e h : Nat} {p : Option Addr} {m m' : List Bool} (f t s : Bool) (hr : Rep E e h p m') (hq : Rep E e h none m) : Rep E e h (bif s then p else none) (List.zipWith (keepF f t s) m m') := by
  have := no_zip (keepF f t s) s rfl rfl m'
  rw [hr.len] at this
  rw [Rep.none_iff.1 hq]
  unfold noL
  rw [this]
  cases s
  · exact Rep.none_iff.2 rfl
  · exact hr

set_option maxRecDepth 100000 in
set_option maxHeartbeats 4000000 in
theorem combine_plain (b e h : Nat) (f t s : Bool) (E : List Nd) (p q : Option Addr) (m m' : List Bool) (w : World) (hd : Dg w b e E) (hp : Rep E e h p m) (hq : Rep E e h q m') (hc : p = q ∨ q = none ∨ p = none) :
    Calls Try.prog 87 #[.agg #[.map (some b), .pointer (some ⟨e, 0, none⟩)], .pointer p, .pointer q, .agg #[.bool f, .bool t, .bool s]] w fun ex w' => ∃ r, ex = .returned (.pointer r) ∧ Good w w' b e E h r (List.zipWith (keepF f t s) m m') := by
  have hdW : Dg ((w.alloc (.cells #[.map (some b), .pointer (some ⟨e, 0, none⟩)] 62)).alloc (.cells #[.bool f, .bool t, .bool s] 81)) b e E := (hd.alloc _).alloc _
  have hgW : w.grownBy ((w.alloc (.cells #[.map (some b), .pointer (some ⟨e, 0, none⟩)] 62)).alloc (.cells #[.bool f, .bool t, .bool s] 81)) (some b) := sTrans (World.grownBy_alloc _ _ _) (World.grownBy_alloc _ _ _)
  have heq := eql_ptr _ (hdW.pk hp.vp) (hdW.pk hq.vp)
  have HG := Lib.hid hgW
  have HD := Lib.hid hdW
  by_cases hpq : p = q
  · subst hpq
    obtain rfl := hp.same_set hd.uniq hq
    have HR := Lib.hid (kept_same f t s hp)
    simp only [decide_true] at heq
    clear hd hp hq hdW hgW hc
    go_enter Try.func87, Try.ntmps87
    go_wp2_with (go_at_call 98; refine (keptNode_any _ _ _).mono ?_; rintro ex wq ⟨rfl, rfl⟩)
    go_ret
    exact ⟨_, rfl, E, fun x hx => hx, HD.out, HR.out, HG.out⟩
  · simp only [hpq, decide_false] at heq
    cases q with
    | none =>
      have HR := Lib.hid (kept_first f t s hp hq)
      clear hd hp hq hdW hgW hc hpq
      go_enter Try.func87, Try.ntmps87
      go_wp2_with (go_at_call 98; refine (keptNode_any _ _ _).mono ?_; rintro ex wq ⟨rfl, rfl⟩)
      go_ret
      exact ⟨_, rfl, E, fun x hx => hx, HD.out, HR.out, HG.out⟩
    | some q =>
      cases p with
      | some p => simp [hpq] at hc
      | none =>
        have HR := Lib.hid (kept_second f t s hq hp)
        clear hd hp hq hdW hgW hc hpq
        go_enter Try.func87, Try.ntmps87
        go_wp2_with (go_at_call 98; refine (keptNode_any _ _ _).mono ?_; rintro ex wq ⟨rfl, rfl⟩)
        go_ret
        exact ⟨_, rfl, E, fun x hx => hx, HD.out, HR.out, HG.out⟩

end Go.Proofs.Ytndmedkkecikoaa

namespace Go.Proofs.Ytndmedkkecikoaa
open Go.ChangeShapes Go.WideShapes Go.ChangeAt Go.RowKit Go.Joins
set_option linter.unusedVariables false

theorem Dg.cells {w : World} {b e : Nat} {E : List Nd} (h : Dg w b e E) {z o : Option Addr} {k : Nat} (hk : (z, o, k) ∈ E) :
    w.cell? ⟨k, 0, none⟩ = some (.pointer z) ∧ w.cell? ⟨k, 1, none⟩ = some (.pointer o) ∧ k < w.heap.size ∧ k ≠ b := by
  have hn := (h.node z o k hk).1
  have := duoCells hn
  exact ⟨this.1, this.2.1, (Array.getElem?_eq_some_iff.1 hn).1, h.ne_b hn⟩
theorem trioCells {w : World} {b : Nat} {x y z : Value} {t : TypeId} (h : w.heap[b]? = some (.cells #[x, y, z] t)) : w.cell? ⟨b, 0, none⟩ = some x ∧ w.cell? ⟨b, 1, none⟩ = some y ∧ w.cell? ⟨b, 2, none⟩ = some z := by
  simp [World.cell?, h]

set_option maxRecDepth 100000 in
set_option maxHeartbeats 4000000 in
theorem combine_deep (b e h : Nat) (f t s : Bool) (ih : ∀ (E : List Nd) (p q : Option Addr) (m m' : List Bool) (w : World), Dg w b e E → Rep E e h p m → Rep E e h q m' →
      Calls Try.prog 87 #[.agg #[.map (some b), .pointer (some ⟨e, 0, none⟩)], .pointer p, .pointer q, .agg #[.bool f, .bool t, .bool s]] w fun ex w' => ∃ r, ex = .returned (.pointer r) ∧ Good w w' b e E h r (List.zipWith (keepF f t s) m m'))
    (E : List Nd) (a a' : Nat) (m m' : List Bool) (w : World) (hd : Dg w b e E) (hp : Rep E e (h + 1) (some (adr a)) m) (hq : Rep E e (h + 1) (some (adr a')) m') (hne : a ≠ a') :
    Calls Try.prog 87 #[.agg #[.map (some b), .pointer (some ⟨e, 0, none⟩)], .pointer (some ⟨a, 0, none⟩), .pointer (some ⟨a', 0, none⟩), .agg #[.bool f, .bool t, .bool s]] w fun ex w' => ∃ r, ex = .returned (.pointer r) ∧ Good w w' b e E (h + 1) r (List.zipWith (keepF f t s) m m') := by
  have hdW : Dg ((w.alloc (.cells #[.map (some b), .pointer (some ⟨e, 0, none⟩)] 62)).alloc (.cells #[.bool f, .bool t, .bool s] 81)) b e E := (hd.alloc _).alloc _
  have hgW : w.grownBy ((w.alloc (.cells #[.map (some b), .pointer (some ⟨e, 0, none⟩)] 62)).alloc (.cells #[.bool f, .bool t, .bool s] 81)) (some b) := sTrans (World.grownBy_alloc _ _ _) (World.grownBy_alloc _ _ _)
  have heq := eql_ptr _ (hdW.pk hp.vp) (hdW.pk hq.vp)
  have hnn : ¬ (some (adr a) = some (adr a')) := by
    intro e
    simp only [adr, Option.some.injEq, Addr.mk.injEq, and_true] at e
    exact hne e
  simp only [hnn, decide_false] at heq
  unfold adr at heq
  obtain ⟨z, o, m0, m1, hk, hn, rfl, h0, h1⟩ := hp.parts
  obtain ⟨z', o', m0', m1', hk', hn', rfl, h0', h1'⟩ := hq.parts
  have C := hdW.cells hk
  have C' := hdW.cells hk'
  have hbn : b < w.heap.size := hd.lt_b
  have K1 : ((w.alloc (.cells #[.map (some b), .pointer (some ⟨e, 0, none⟩)] 62)).alloc (.cells #[.bool f, .bool t, .bool s] 81)).heap[w.heap.size]? = some (.cells #[.map (some b), .pointer (some ⟨e, 0, none⟩)] 62) :=
    (Below.heap_alloc _ _ _ (by simp)).trans (newBlockM w _)
  have K2 : ((w.alloc (.cells #[.map (some b), .pointer (some ⟨e, 0, none⟩)] 62)).alloc (.cells #[.bool f, .bool t, .bool s] 81)).heap[w.heap.size + 1]? = some (.cells #[.bool f, .bool t, .bool s] 81) := by
    have := newBlockM (w.alloc (.cells #[.map (some b), .pointer (some ⟨e, 0, none⟩)] 62)) (.cells #[.bool f, .bool t, .bool s] 81)
    simpa using this
  have D1 := duoCells K1
  have D2 := trioCells K2
  have sz : ((w.alloc (.cells #[.map (some b), .pointer (some ⟨e, 0, none⟩)] 62)).alloc (.cells #[.bool f, .bool t, .bool s] 81)).heap.size = w.heap.size + 2 := by simp
  have HA : Hid (∀ W' : World, World.grownBy ((w.alloc (.cells #[.map (some b), .pointer (some ⟨e, 0, none⟩)] 62)).alloc (.cells #[.bool f, .bool t, .bool s] 81)) W' (some b) →
      W'.cell? ⟨a, 0, none⟩ = some (.pointer z) ∧ W'.cell? ⟨a, 1, none⟩ = some (.pointer o) ∧ W'.cell? ⟨a', 0, none⟩ = some (.pointer z') ∧ W'.cell? ⟨a', 1, none⟩ = some (.pointer o') ∧
      W'.cell? ⟨w.heap.size, 0, none⟩ = some (.map (some b)) ∧ W'.cell? ⟨w.heap.size, 1, none⟩ = some (.pointer (some ⟨e, 0, none⟩)) ∧
      W'.cell? ⟨w.heap.size + 1, 0, none⟩ = some (.bool f) ∧ W'.cell? ⟨w.heap.size + 1, 1, none⟩ = some (.bool t) ∧ W'.cell? ⟨w.heap.size + 1, 2, none⟩ = some (.bool s)) := fun W' hg =>
    ⟨(sCell hg 0 C.2.2.1 C.2.2.2).trans C.1, (sCell hg 1 C.2.2.1 C.2.2.2).trans C.2.1, (sCell hg 0 C'.2.2.1 C'.2.2.2).trans C'.1, (sCell hg 1 C'.2.2.1 C'.2.2.2).trans C'.2.1,
      (sCell hg 0 (by omega) (by omega)).trans D1.1, (sCell hg 1 (by omega) (by omega)).trans D1.2.1,
      (sCell hg 0 (by omega) (by omega)).trans D2.1, (sCell hg 1 (by omega) (by omega)).trans D2.2.1, (sCell hg 2 (by omega) (by omega)).trans D2.2.2⟩
  have HC0 : Hid (∀ W, Dg W b e E → Calls Try.prog 87 #[.agg #[.map (some b), .pointer (some ⟨e, 0, none⟩)], .pointer z, .pointer z', .agg #[.bool f, .bool t, .bool s]] W fun ex w' => ∃ r, ex = .returned (.pointer r) ∧ Good W w' b e E h r (List.zipWith (keepF f t s) m0 m0')) := fun W hW => ih E z z' m0 m0' W hW h0 h0'
  have HC1 : Hid (∀ W E1, (∀ x, x ∈ E → x ∈ E1) → Dg W b e E1 → Calls Try.prog 87 #[.agg #[.map (some b), .pointer (some ⟨e, 0, none⟩)], .pointer o, .pointer o', .agg #[.bool f, .bool t, .bool s]] W fun ex w' => ∃ r, ex = .returned (.pointer r) ∧ Good W w' b e E1 h r (List.zipWith (keepF f t s) m1 m1')) := fun W E1 hs hW => ih E1 o o' m1 m1' W hW (h1.mono hs) (h1'.mono hs)
  have HDW := Lib.hid hdW.drew
  have HG := Lib.hid hgW
  have HZ : Hid (List.zipWith (keepF f t s) (m0 ++ m1) (m0' ++ m1') = List.zipWith (keepF f t s) m0 m0' ++ List.zipWith (keepF f t s) m1 m1') := zipWith_app (by rw [h0.len, h0'.len])
  clear hd hp hq hdW hgW hne hnn hk hn h0 h1 hk' hn' h0' h1' C C' hbn K1 K2 D1 D2 sz ih
  go_enter Try.func87, Try.ntmps87
  go_wp2_with fail
  clear heq
  generalize ((w.alloc (.cells #[.map (some b), .pointer (some ⟨e, 0, none⟩)] 62)).alloc (.cells #[.bool f, .bool t, .bool s] 81)) = W at *
  go_region_held3 (fun W' => W'.cell? ⟨a, 0, none⟩ = some (.pointer z) ∧ W'.cell? ⟨a, 1, none⟩ = some (.pointer o) ∧ W'.cell? ⟨a', 0, none⟩ = some (.pointer z') ∧ W'.cell? ⟨a', 1, none⟩ = some (.pointer o') ∧
      W'.cell? ⟨w.heap.size, 0, none⟩ = some (.map (some b)) ∧ W'.cell? ⟨w.heap.size, 1, none⟩ = some (.pointer (some ⟨e, 0, none⟩)) ∧
      W'.cell? ⟨w.heap.size + 1, 0, none⟩ = some (.bool f) ∧ W'.cell? ⟨w.heap.size + 1, 1, none⟩ = some (.bool t) ∧ W'.cell? ⟨w.heap.size + 1, 2, none⟩ = some (.bool s))
    (first | exact HA.out _ (sOf _ (Below.refl _ W).drew) | exact HA.out _ G3.out | exact HA.out _ G2.out | exact HA.out _ G1.out)
    (first
      | (go_at_call 87; ((with_reducible refine (HC0.out _ HDW.out).mono ?_); rintro ex w1 ⟨r0, rfl, E1, s1, d1, R1, g1⟩; have S1 := Lib.hid s1; have DD1 := Lib.hid d1; have RR1 := Lib.hid R1; have G1 : Hid (World.grownBy W w1 (some b)) := sTrans (sOf _ (Below.refl _ W).drew) g1; clear s1 d1 R1 g1))
      | (go_at_call 87; ((with_reducible refine (HC1.out _ _ S1.out DD1.out).mono ?_); rintro ex w2 ⟨r1, rfl, E2, s2, d2, R2, g2⟩; have S2 := Lib.hid s2; have DD2 := Lib.hid d2; have RR2 := Lib.hid R2; have G2 : Hid (World.grownBy W w2 (some b)) := sTrans G1.out g2; clear s2 d2 R2 g2))
      | (go_at_call 94; ((with_reducible refine (node_any _ _ _ _ _ _ _ _ _ DD2.out (RR1.out.mono S2.out) RR2.out).mono ?_); rintro ex w3 ⟨r2, rfl, E3, s3, d3, R3, g3⟩; have S3 := Lib.hid s3; have DD3 := Lib.hid d3; have RR3 := Lib.hid R3; have G3 : Hid (World.grownBy W w3 (some b)) := sTrans G2.out g3; clear s3 d3 R3 g3)))
  go_wp2
  go_ret
  exact ⟨_, rfl, E3, fun x hx => S3.out x (S2.out x (S1.out x hx)), DD3.out, by rw [HZ.out]; exact RR3.out, sTrans HG.out G3.out⟩

theorem combine_any (b e : Nat) (f t s : Bool) : ∀ (h : Nat) (E : List Nd) (p q : Option Addr) (m m' : List Bool) (w : World), Dg w b e E → Rep E e h p m → Rep E e h q m' →
      Calls Try.prog 87 #[.agg #[.map (some b), .pointer (some ⟨e, 0, none⟩)], .pointer p, .pointer q, .agg #[.bool f, .bool t, .bool s]] w fun ex w' => ∃ r, ex = .returned (.pointer r) ∧ Good w w' b e E h r (List.zipWith (keepF f t s) m m')
  | h, E, p, none, m, m', w, hd, hp, hq => combine_plain b e h f t s E p none m m' w hd hp hq (.inr (.inl rfl))
  | h, E, none, some q, m, m', w, hd, hp, hq => combine_plain b e h f t s E none (some q) m m' w hd hp hq (.inr (.inr rfl))
  | 0, E, some p, some q, m, m', w, hd, hp, hq => combine_plain b e 0 f t s E (some p) (some q) m m' w hd hp hq (.inl (by rw [hp.1, hq.1]))
  | h + 1, E, some p, some q, m, m', w, hd, hp, hq => by
    obtain ⟨a, rfl⟩ := hp.adr_of
    obtain ⟨a', rfl⟩ := hq.adr_of
    by_cases hne : a = a'
    · subst hne
      exact combine_plain b e (h + 1) f t s E _ _ m m' w hd hp hq (.inl rfl)
    · exact combine_deep b e h f t s (fun E p q m m' w hd hp hq => combine_any b e f t s h E p q m m' w hd hp hq) E a a' m m' w hd hp hq hne

end Go.Proofs.Ytndmedkkecikoaa

namespace Go.Proofs.Ytndmedkkecikoaa
open Go.ChangeShapes Go.WideShapes Go.ChangeAt Go.RowKit Go.Joins
set_option linter.unusedVariables false

theorem Uniq.nil : Uniq [] := ⟨(fun _ _ _ _ h => by cases h), (fun _ _ _ _ _ h => by cases h)⟩

set_option maxHeartbeats 2000000 in
theorem newDiagram_any (w : World) :
    Calls Try.prog 55 #[] w fun ex w' => ∃ b e, ex = .returned (.agg #[.map (some b), .pointer (some ⟨e, 0, none⟩)]) ∧ w.heap.size ≤ b ∧ Dg w' b e [] ∧ Below w.heap.size w w' := by
  have hmm := @run_makeMap Try.prog
  go_enter Try.func55, Try.ntmps55
  go_wp2
  refine bodyPost_ret (v := .agg #[.map (some (w.heap.size + 1)), .pointer (some ⟨w.heap.size + 1 + 1, 0, none⟩)]) (by simp [results, Try.results55, go_sem]) rfl ⟨w.heap.size + 1, w.heap.size + 1 + 1, rfl, by omega, ⟨?_, ⟨#[], 0, ?_, rfl⟩, (fun _ _ _ h => by cases h), Uniq.nil⟩, ?_⟩
  · have := newBlockM ((w.alloc (.cells #[.map (some (w.heap.size + 1)), .pointer (some ⟨w.heap.size + 1 + 1, 0, none⟩)] 62)).alloc (.map #[] 0)) (.cells #[.pointer none, .pointer none] 103)
    simpa using this
  · refine (Below.heap_alloc _ _ _ (by simp)).trans ?_
    have := newBlockM (w.alloc (.cells #[.map (some (w.heap.size + 1)), .pointer (some ⟨w.heap.size + 1 + 1, 0, none⟩)] 62)) (.map #[] 0)
    simpa using this
  · exact (((Below.refl _ _).alloc (Nat.le_refl _) _).alloc (by simp) _).alloc (by simp; omega) _

set_option maxRecDepth 100000 in
set_option maxHeartbeats 4000000 in
theorem ofMasks_any (w : World) (b e : Nat) (E : List Nd) (c v : Nat → Bool) (hd : Dg w b e E) :
    Calls Try.prog 81 #[.agg #[.map (some b), .pointer (some ⟨e, 0, none⟩)], .agg #[.int .u8 (ofB c), .int .u8 (ofB v)]] w fun ex w' => ∃ p, ex = .returned (.pointer p) ∧ Good w w' b e E 6 p (sufL c v 6) := by
  have K1 : ((w.alloc (.cells #[.map (some b), .pointer (some ⟨e, 0, none⟩)] 62)).alloc (.cells #[.int .u8 (ofB c), .int .u8 (ofB v)] 87)).heap[w.heap.size]? = some (.cells #[.map (some b), .pointer (some ⟨e, 0, none⟩)] 62) :=
    (Below.heap_alloc _ _ _ (by simp)).trans (newBlockM w _)
  have K2 : ((w.alloc (.cells #[.map (some b), .pointer (some ⟨e, 0, none⟩)] 62)).alloc (.cells #[.int .u8 (ofB c), .int .u8 (ofB v)] 87)).heap[w.heap.size + 1]? = some (.cells #[.int .u8 (ofB c), .int .u8 (ofB v)] 87) := by
    have := newBlockM (w.alloc (.cells #[.map (some b), .pointer (some ⟨e, 0, none⟩)] 62)) (.cells #[.int .u8 (ofB c), .int .u8 (ofB v)] 87)
    simpa using this
  have HS : Hid (Good w ((w.alloc (.cells #[.map (some b), .pointer (some ⟨e, 0, none⟩)] 62)).alloc (.cells #[.int .u8 (ofB c), .int .u8 (ofB v)] 87)) b e E 0 (some ⟨e, 0, none⟩) (sufL c v 0)) :=
    ⟨E, fun x hx => hx, (hd.alloc _).alloc _, ⟨rfl, rfl⟩, sTrans (World.grownBy_alloc _ _ _) (World.grownBy_alloc _ _ _)⟩
  have HB : Hid (b < w.heap.size) := hd.lt_b
  have HK1 := Lib.hid K1
  have HK2 := Lib.hid K2
  clear hd K1 K2
  go_enter Try.func81, Try.ntmps81
  go_wp2
  go_loopw [5, 6] (fun n i wr => ∃ (h j : Nat) (p : Option Addr), h + j = 6 ∧ i = .int .i64 ((j : Int) - 1) ∧ n = .pointer p ∧ Good w wr b e E h p (sufL c v h) ∧
      wr.heap[w.heap.size]? = some (.cells #[.map (some b), .pointer (some ⟨e, 0, none⟩)] 62) ∧ wr.heap[w.heap.size + 1]? = some (.cells #[.int .u8 (ofB c), .int .u8 (ofB v)] 87)) (fun _ i _ => (intOf i + 1).toNat)
  case atStart => exact ⟨0, 6, _, rfl, rfl, rfl, HS.out, HK1.out, HK2.out⟩
  case round =>
    obtain ⟨h, j, p, hj, rfl, rfl, hg, k1, k2⟩ := hrel
    obtain ⟨E1, s1, d1, R1, g1⟩ := hg
    have S1 := Lib.hid s1
    have DD1 := Lib.hid d1
    have RR1 := Lib.hid R1
    have G1 := Lib.hid g1
    have HL1 := Lib.hid k1
    have HL2 := Lib.hid k2
    have c1 := duoCells k1
    have c2 := duoCells k2
    have hl1 := (Array.getElem?_eq_some_iff.1 k1).1
    have hl2 := (Array.getElem?_eq_some_iff.1 k2).1
    clear s1 d1 R1 g1 k1 k2
    obtain ⟨c10, c11, c1f⟩ := c1
    obtain ⟨c20, c21, c2f⟩ := c2
    cases j with
    | zero =>
      have hh : h = 6 := by omega
      subst hh
      go_wp2
      go_ret
      exact ⟨_, rfl, E1, S1.out, DD1.out, RR1.out, G1.out⟩
    | succ j =>
      have e0 : (((j + 1 : Nat) : Int) - 1) = (j : Int) := by omega
      rw [e0]
      have hj6 : j < 6 := by omega
      have e5 : 5 - h = j := by omega
      have tc := and_pw c hj6
      have tv := and_pw v hj6
      have hpos : (0 : Int) ≤ (j : Int) := Int.natCast_nonneg _
      have HX : Hid (∀ (w1 : World) (q : Option Addr) (m : List Bool), Good wr w1 b e E1 (h + 1) q m → m = sufL c v (h + 1) → Good w w1 b e E (h + 1) q (sufL c v (h + 1)) ∧
          w1.heap[w.heap.size]? = some (.cells #[.map (some b), .pointer (some ⟨e, 0, none⟩)] 62) ∧ w1.heap[w.heap.size + 1]? = some (.cells #[.int .u8 (ofB c), .int .u8 (ofB v)] 87)) := by
        intro w1 q m hG hm
        obtain ⟨E2, s2, d2, R2, g2⟩ := hG
        subst hm
        have hb := HB.out
        exact ⟨⟨E2, fun x hx => s2 x (S1.out x hx), d2, R2, sTrans G1.out g2⟩, (g2.block _ hl1 (by intro e; cases e; omega)).trans HL1.out, (g2.block _ hl2 (by intro e; cases e; omega)).trans HL2.out⟩
      have HNO : Hid (Rep E1 e h none (noL h)) := Rep.none_iff.2 rfl
      cases hc : c j
      · rw [hc] at tc
        go_wp2_with (first
          | (go_at_call 82; refine (wildBit_at _ hj6 _).mono ?_; rintro e wq ⟨rfl, rfl⟩)
          | (go_at_call 94; refine (node_any _ _ _ h _ _ _ _ _ DD1.out RR1.out RR1.out).mono ?_; rintro ex w1 ⟨q, rfl, hG⟩; have HG := Lib.hid hG; clear hG))
        go_roundw
        case rel => exact ⟨h + 1, j, q, by omega, by simp, rfl, HX.out _ _ _ HG.out (by simp [sufL, e5, hc])⟩
        case measure => simp [intOf]
      · rw [hc] at tc
        cases hv : v j
        · rw [hv] at tv
          go_wp2_with (first
            | (go_at_call 82; refine (wildBit_at _ hj6 _).mono ?_; rintro e wq ⟨rfl, rfl⟩)
            | (go_at_call 94; refine (node_any _ _ _ h _ _ _ _ _ DD1.out RR1.out HNO.out).mono ?_; rintro ex w1 ⟨q, rfl, hG⟩; have HG := Lib.hid hG; clear hG))
          go_roundw
          case rel => exact ⟨h + 1, j, q, by omega, by simp, rfl, HX.out _ _ _ HG.out (by simp [sufL, e5, hc, hv])⟩
          case measure => simp [intOf]
        · rw [hv] at tv
          go_wp2_with (first
            | (go_at_call 82; refine (wildBit_at _ hj6 _).mono ?_; rintro e wq ⟨rfl, rfl⟩)
            | (go_at_call 94; refine (node_any _ _ _ h _ _ _ _ _ DD1.out HNO.out RR1.out).mono ?_; rintro ex w1 ⟨q, rfl, hG⟩; have HG := Lib.hid hG; clear hG))
          go_roundw
          case rel => exact ⟨h + 1, j, q, by omega, by simp, rfl, HX.out _ _ _ HG.out (by simp [sufL, e5, hc, hv])⟩
          case measure => simp [intOf]

/-! ### Whether a head is in a set -/

def f6 (f : Nat → Bool) : List Bool := [f 0, f 1, f 2, f 3, f 4, f 5]
theorem f6_take (f : Nat → Bool) {k : Nat} (hk : k < 6) (l : List Bool) : (f6 f).take k ++ f k :: l = (f6 f).take (k + 1) ++ l := by
  match k, hk with
  | 0, _ => rfl
  | 1, _ => rfl
  | 2, _ => rfl
  | 3, _ => rfl
  | 4, _ => rfl
  | 5, _ => rfl

set_option maxRecDepth 100000 in
set_option maxHeartbeats 4000000 in
theorem has_node (w : World) (b e : Nat) (E : List Nd) (p : Option Addr) (g : List Bool → Bool) (f : Nat → Bool) (hd : Dg w b e E) (hr : Rep E e 6 p (tabF 6 g)) :
    Calls Try.prog 57 #[.pointer p, .int .u8 (ofB f)] w fun ex w' => ex = .returned (.bool (g (f6 f))) ∧ w' = w := by
  have HD := Lib.hid hd
  have HR := Lib.hid hr
  clear hd hr
  go_enter Try.func57, Try.ntmps57
  go_wp2
  go_loop [0, 5] (fun n i => ∃ (h k : Nat) (q : Option Addr), h + k = 6 ∧ n = .pointer q ∧ i = .int .i64 k ∧ Rep E e h q (tabF h (fun l => g ((f6 f).take k ++ l)))) (fun _ i => 6 - (intOf i).toNat)
  case atStart => exact ⟨6, 0, p, rfl, rfl, rfl, HR.out⟩
  case round =>
    obtain ⟨h, k, q, hk, rfl, rfl, hq⟩ := hrel
    have HQ := Lib.hid hq
    cases q with
    | none =>
      have hz : g (f6 f) = false := by
        have h1 := Rep.none_iff.1 hq
        rw [← tabF_no h] at h1
        have := tabF_inj h h1 ((f6 f).drop k) (by simp [f6]; omega)
        simpa [List.take_append_drop] using this
      clear hq
      have HZ := Lib.hid hz
      clear hz
      by_cases hlt : k < 6
      · have hkz : (k : Int) < 6 := by omega
        go_wp2
        go_ret
        exact ⟨congrArg (fun x => Ending.returned (Value.bool x)) HZ.out.symm, rfl⟩
      · have hkz : ¬ (k : Int) < 6 := by omega
        have hd6 : decide ((k : Int) < 6) = false := by simp; omega
        go_wp2
        go_ret
        exact ⟨congrArg (fun x => Ending.returned (Value.bool x)) HZ.out.symm, rfl⟩
    | some a =>
      obtain ⟨a, rfl⟩ := hq.adr_of
      unfold adr at *
      by_cases hlt : k < 6
      · have hkz : (k : Int) < 6 := by omega
        obtain ⟨h', rfl⟩ : ∃ h', h = h' + 1 := ⟨h - 1, by omega⟩
        obtain ⟨z, o, m0, m1, hkE, hn, hm, h0, h1⟩ := Rep.parts hq
        rw [tabF] at hm
        obtain ⟨rfl, rfl⟩ := List.append_inj hm.symm (by rw [h0.len, tabF_len])
        obtain ⟨c0, c1, hlk, hkb⟩ := HD.out.cells hkE
        have H0 := Lib.hid h0
        have H1 := Lib.hid h1
        clear hq HQ h0 h1 hkE hn hm
        have tf := and_pw f hlt
        cases hf : f k
        · rw [hf] at tf
          go_wp2_with (go_at_call 82; refine (wildBit_at _ hlt _).mono ?_; rintro e wq ⟨rfl, rfl⟩)
          go_round
          case rel =>
            refine ⟨h', k + 1, z, by omega, rfl, by go_num, ?_⟩
            have := H0.out
            rw [show (fun l => g ((f6 f).take k ++ false :: l)) = fun l => g ((f6 f).take (k + 1) ++ l) from funext fun l => by rw [← f6_take f hlt, hf]] at this
            exact this
          case measure => simp [intOf]; omega
        · rw [hf] at tf
          go_wp2_with (go_at_call 82; refine (wildBit_at _ hlt _).mono ?_; rintro e wq ⟨rfl, rfl⟩)
          go_round
          case rel =>
            refine ⟨h', k + 1, o, by omega, rfl, by go_num, ?_⟩
            have := H1.out
            rw [show (fun l => g ((f6 f).take k ++ true :: l)) = fun l => g ((f6 f).take (k + 1) ++ l) from funext fun l => by rw [← f6_take f hlt, hf]] at this
            exact this
          case measure => simp [intOf]; omega
      · have hkz : ¬ (k : Int) < 6 := by omega
        have hd6 : decide ((k : Int) < 6) = false := by simp; omega
        obtain rfl : k = 6 := by omega
        obtain rfl : h = 0 := by omega
        have hz : g (f6 f) = true := by
          have := hq.2
          simpa [tabF, f6] using this
        have HZ := Lib.hid hz
        clear hq HQ hz
        go_wp2
        go_ret
        exact ⟨congrArg (fun x => Ending.returned (Value.bool x)) HZ.out.symm, rfl⟩

end Go.Proofs.Ytndmedkkecikoaa
