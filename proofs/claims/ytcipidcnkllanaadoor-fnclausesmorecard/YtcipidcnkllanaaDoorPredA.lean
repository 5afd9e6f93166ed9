/-
  PredMath: Conditions, as plain trees: their texts, how a text is read, for which heads they hold, how deep they are.
  PredIs: What the library's errors.Is answers where the target is the program's own error value: true of that value, false of none. Memory stays as it was. And the library's copy of a text: the same bytes.
  PredClone: What the library's copy of a text returns: the same bytes, in memory of its own.
  PredRep: A condition of the program in memory: its text, the conditions of which it is made, and a function that says for which heads it holds.
  PredFn: The functions of conditions that are made of others; what the program's reading of a field and of a constant returns.
  PredField: What the program's reading of a field returns; the functions of conditions that are made of others.
  PredComp: What the program's reading of a condition that is made of others returns.
  PredCompB: What the program's reading of a condition that is made of two others returns, and of one that has a part that is none.
  PredFirst: What the program's reading of the condition with which a text begins returns.
  PredFirstB: What the program's reading of the condition with which a text begins returns: every case.
  PredRead: What the program's reading of conditions returns: at every text.
  PredImpl: What the program reads of a whole text: the condition that it is, or none.
-/
import Derived.Test.YtcipidcnkllanaaDoorHeadB
import Derived.LaidEql
import Derived.Stop.Asserts
import Derived.RowKitTokens
import Derived.Lib.Strings
import Derived.Lib.BufferWrite
import Derived.Lib.UnsafeStr
import Derived.Laws.MakeOwn
import Derived.Deep.RegionHeld3
import Derived.Laws.EntriesVeiled
import Derived.LoopN
import Derived.OwnWalk
import Derived.Deep.Onto
namespace Go.Proofs.YtcipidcnkllanaaDoor
set_option linter.unusedVariables false

/-- A condition, as a tree: of no part, of a field, of one part, of two. -/
inductive Cnd where
  | one (b : Bool)
  | fld (k d : UInt8)
  | neg (a : Cnd)
  | two (k : UInt8) (a b : Cnd)

def isF (k : UInt8) : Bool := k == 115 || (k == 100 || k == 116)
def isT (k : UInt8) : Bool := k == 38 || k == 124
def isD (d : UInt8) : Bool := decide (48 ≤ d.toNat) && decide (d.toNat ≤ 51)

def Cnd.txt : Cnd → List UInt8
  | .one b => [if b then 49 else 48]
  | .fld k d => [k, d]
  | .neg a => 33 :: a.txt
  | .two k a b => k :: (a.txt ++ b.txt)

def Cnd.ok : Cnd → Bool
  | .one _ => true
  | .fld k d => isF k && isD d
  | .neg a => a.ok
  | .two k a b => isT k && (a.ok && b.ok)

/-- How deep. -/
def Cnd.deep : Cnd → Nat
  | .one _ => 1
  | .fld _ _ => 1
  | .neg a => a.deep + 1
  | .two _ a b => max a.deep b.deep + 1

/-- Whether it holds for the head of three fields. -/
def Cnd.ev (x y z : Int) : Cnd → Bool
  | .one b => b
  | .fld k d => (if k = 115 then x else if k = 100 then y else z) == ((d.toNat : Int) - 48)
  | .neg a => !a.ev x y z
  | .two k a b => if k = 38 then a.ev x y z && b.ev x y z else a.ev x y z || b.ev x y z

theorem Cnd.txt_pos (c : Cnd) : 1 ≤ c.txt.length := by cases c <;> simp [Cnd.txt]
theorem Cnd.txt_ne (c : Cnd) : c.txt ≠ [] := by cases c <;> simp [Cnd.txt]
theorem Cnd.deep_pos (c : Cnd) : 1 ≤ c.deep := by cases c <;> simp [Cnd.deep]
theorem Cnd.deep_le : ∀ c : Cnd, c.deep ≤ c.txt.length
  | .one b => by simp [Cnd.deep, Cnd.txt]
  | .fld k d => by simp [Cnd.deep, Cnd.txt]
  | .neg a => by have := Cnd.deep_le a; simp [Cnd.deep, Cnd.txt]; omega
  | .two k a b => by
    have := Cnd.deep_le a
    have := Cnd.deep_le b
    simp [Cnd.deep, Cnd.txt]
    omega

theorem isF_cases {k : UInt8} (h : isF k = true) : k = 115 ∨ k = 100 ∨ k = 116 := by simpa [isF] using h
theorem isT_cases {k : UInt8} (h : isT k = true) : k = 38 ∨ k = 124 := by simpa [isT] using h
theorem isD_cases {d : UInt8} (h : isD d = true) : 48 ≤ d.toNat ∧ d.toNat ≤ 51 := by simpa [isD] using h

/-- The value of a field is read. -/
def fldR (c : UInt8) : List UInt8 → Option (Cnd × List UInt8)
  | [] => none
  | d :: r => if isD d = true then some (.fld c d, r) else none

/-- A text is read from its beginning on: the condition, and what comes behind it. -/
def prs : Nat → List UInt8 → Option (Cnd × List UInt8)
  | 0, _ => none
  | _ + 1, [] => none
  | n + 1, c :: l =>
    if c = 48 then some (.one false, l)
    else if c = 49 then some (.one true, l)
    else if isF c = true then fldR c l
    else if c = 33 then (match prs n l with
      | none => none
      | some (a, r) => some (.neg a, r))
    else if isT c = true then (match prs n l with
      | none => none
      | some (a, r) => match prs n r with
        | none => none
        | some (b, q) => some (.two c a b, q))
    else none

theorem prs_sound : ∀ (n : Nat) (l : List UInt8) (c : Cnd) (r : List UInt8), prs n l = some (c, r) → l = c.txt ++ r ∧ c.ok = true
  | 0, l, c, r, h => by simp [prs] at h
  | n + 1, [], c, r, h => by simp [prs] at h
  | n + 1, x :: l, c, r, h => by
    rw [prs] at h
    by_cases h1 : x = 48
    · rw [if_pos h1] at h
      cases h
      subst h1
      exact ⟨rfl, rfl⟩
    rw [if_neg h1] at h
    by_cases h2 : x = 49
    · rw [if_pos h2] at h
      cases h
      subst h2
      exact ⟨rfl, rfl⟩
    rw [if_neg h2] at h
    by_cases h3 : isF x = true
    · rw [if_pos h3] at h
      match l, h with
      | [], h => cases h
      | d :: q, h =>
        by_cases h4 : isD d = true
        · simp only [fldR, h4, if_true] at h
          cases h
          exact ⟨rfl, by simp [Cnd.ok, h3, h4]⟩
        · simp [fldR, h4] at h
    rw [if_neg h3] at h
    by_cases h4 : x = 33
    · rw [if_pos h4] at h
      cases hp : prs n l with
      | none => rw [hp] at h; cases h
      | some p =>
        obtain ⟨a, q⟩ := p
        rw [hp] at h
        cases h
        obtain ⟨e1, e2⟩ := prs_sound n l a r hp
        subst h4
        exact ⟨by rw [e1]; rfl, e2⟩
    rw [if_neg h4] at h
    by_cases h5 : isT x = true
    · rw [if_pos h5] at h
      cases hp : prs n l with
      | none => rw [hp] at h; cases h
      | some p =>
        obtain ⟨a, q⟩ := p
        rw [hp] at h
        simp only at h
        cases hq : prs n q with
        | none => rw [hq] at h; cases h
        | some p' =>
          obtain ⟨b, q'⟩ := p'
          rw [hq] at h
          cases h
          obtain ⟨e1, e2⟩ := prs_sound n l a q hp
          obtain ⟨e3, e4⟩ := prs_sound n q b r hq
          exact ⟨by rw [e1, e3]; simp [Cnd.txt], by simp [Cnd.ok, h5, e2, e4]⟩
    · rw [if_neg h5] at h
      cases h

theorem prs_full : ∀ (c : Cnd) (n : Nat) (r : List UInt8), c.ok = true → c.txt.length ≤ n → prs n (c.txt ++ r) = some (c, r)
  | .one b, 0, r, _, h => by simp [Cnd.txt] at h
  | .one b, n + 1, r, _, _ => by cases b <;> simp [Cnd.txt, prs]
  | .fld k d, 0, r, _, h => by simp [Cnd.txt] at h
  | .fld k d, n + 1, r, hk, _ => by
    simp only [Cnd.ok, Bool.and_eq_true] at hk
    have : k ≠ 48 ∧ k ≠ 49 := by rcases isF_cases hk.1 with rfl | rfl | rfl <;> decide
    simp [Cnd.txt, prs, fldR, this.1, this.2, hk.1, hk.2]
  | .neg a, 0, r, _, h => by simp [Cnd.txt] at h
  | .neg a, n + 1, r, hk, h => by
    have ih := prs_full a n r hk (by simp [Cnd.txt] at h; omega)
    have e : isF 33 = false := by decide
    simp [Cnd.txt, prs, e, ih]
  | .two k a b, 0, r, _, h => by simp [Cnd.txt] at h
  | .two k a b, n + 1, r, hk, h => by
    simp only [Cnd.ok, Bool.and_eq_true] at hk
    simp [Cnd.txt] at h
    have ih1 := prs_full a n (b.txt ++ r) hk.2.1 (by omega)
    have ih2 := prs_full b n r hk.2.2 (by omega)
    have : k ≠ 48 ∧ k ≠ 49 ∧ isF k = false ∧ k ≠ 33 := by rcases isT_cases hk.1 with rfl | rfl <;> decide
    simp [Cnd.txt, prs, this.1, this.2.1, this.2.2.1, this.2.2.2, hk.1, ih1, ih2]

/-- What a text begins with. -/
def rd (l : List UInt8) : Option (Cnd × List UInt8) := prs l.length l

theorem rd_of {c : Cnd} {r : List UInt8} (hk : c.ok = true) : rd (c.txt ++ r) = some (c, r) := prs_full c _ r hk (by simp)
theorem rd_some {l : List UInt8} {c : Cnd} {r : List UInt8} (h : rd l = some (c, r)) : l = c.txt ++ r ∧ c.ok = true := prs_sound _ _ _ _ h
theorem txt_free {c c' : Cnd} {r r' : List UInt8} (hk : c.ok = true) (hk' : c'.ok = true) (h : c.txt ++ r = c'.txt ++ r') : c = c' ∧ r = r' := by
  have e1 := rd_of (r := r) hk
  rw [h, rd_of hk'] at e1
  cases e1
  exact ⟨rfl, rfl⟩

theorem rd_nil : rd [] = none := rfl
theorem rd_neg {l : List UInt8} (h : rd (33 :: l) = none) : rd l = none := by
  cases hp : rd l with
  | none => rfl
  | some p =>
    obtain ⟨a, r⟩ := p
    obtain ⟨e1, e2⟩ := rd_some hp
    have := rd_of (c := .neg a) (r := r) e2
    rw [show (Cnd.neg a).txt ++ r = 33 :: l from by rw [e1]; rfl, h] at this
    cases this
theorem rd_two {k : UInt8} {l : List UInt8} (hk : isT k = true) (h : rd (k :: l) = none) : rd l = none ∨ ∃ (a : Cnd) (r : List UInt8), l = a.txt ++ r ∧ a.ok = true ∧ rd r = none := by
  cases hp : rd l with
  | none => exact .inl rfl
  | some p =>
    obtain ⟨a, r⟩ := p
    obtain ⟨e1, e2⟩ := rd_some hp
    refine .inr ⟨a, r, e1, e2, ?_⟩
    cases hq : rd r with
    | none => rfl
    | some p' =>
      obtain ⟨b, q⟩ := p'
      obtain ⟨e3, e4⟩ := rd_some hq
      have := rd_of (c := .two k a b) (r := q) (by simp [Cnd.ok, hk, e2, e4])
      rw [show (Cnd.two k a b).txt ++ q = k :: l from by rw [e1, e3]; simp [Cnd.txt], h] at this
      cases this
theorem rd_fld {k : UInt8} {l : List UInt8} (hk : isF k = true) (h : rd (k :: l) = none) : l = [] ∨ ∃ (d : UInt8) (r : List UInt8), l = d :: r ∧ isD d = false := by
  match l, h with
  | [], _ => exact .inl rfl
  | d :: r, h =>
    refine .inr ⟨d, r, rfl, ?_⟩
    cases hd : isD d
    · rfl
    · have := rd_of (c := .fld k d) (r := r) (by simp [Cnd.ok, hk, hd])
      rw [show (Cnd.fld k d).txt ++ r = k :: d :: r from rfl, h] at this
      cases this
theorem rd_one {k : UInt8} {l : List UInt8} (hk : k = 48 ∨ k = 49) (h : rd (k :: l) = none) : False := by
  rcases hk with rfl | rfl
  · have := rd_of (c := .one false) (r := l) rfl
    rw [show (Cnd.one false).txt ++ l = 48 :: l from rfl, h] at this
    cases this
  · have := rd_of (c := .one true) (r := l) rfl
    rw [show (Cnd.one true).txt ++ l = 49 :: l from rfl, h] at this
    cases this

/-- The condition that a whole text is. -/
def whole (l : List UInt8) : Option Cnd := if l.length ≤ 16 then (match rd l with
  | some (c, []) => some c
  | _ => none) else none
theorem whole_some {l : List UInt8} {c : Cnd} (h : whole l = some c) : l = c.txt ∧ c.ok = true ∧ l.length ≤ 16 := by
  unfold whole at h
  split at h
  · rename_i h16
    split at h
    · rename_i c' hr
      cases h
      obtain ⟨e1, e2⟩ := rd_some hr
      exact ⟨by simpa using e1, e2, h16⟩
    · cases h
  · cases h
theorem whole_of {c : Cnd} (hk : c.ok = true) (h16 : c.txt.length ≤ 16) : whole c.txt = some c := by
  have := rd_of (r := []) hk
  rw [List.append_nil] at this
  unfold whole
  rw [if_pos h16, this]
theorem whole_none {l : List UInt8} (h : whole l = none) : 16 < l.length ∨ (l.length ≤ 16 ∧ rd l = none) ∨ (l.length ≤ 16 ∧ ∃ (c : Cnd) (r : List UInt8), l = c.txt ++ r ∧ c.ok = true ∧ r ≠ []) := by
  by_cases h16 : l.length ≤ 16
  · cases hr : rd l with
    | none => exact .inr (.inl ⟨h16, rfl⟩)
    | some p =>
      obtain ⟨c, r⟩ := p
      obtain ⟨e1, e2⟩ := rd_some hr
      refine .inr (.inr ⟨h16, c, r, e1, e2, ?_⟩)
      rintro rfl
      rw [List.append_nil] at e1
      subst e1
      rw [whole_of e2 h16] at h
      cases h
  · exact .inl (by omega)

/-- A text of bytes. -/
def bs (l : List UInt8) : ByteArray := ⟨l.toArray⟩
theorem bs_size (l : List UInt8) : (bs l).size = l.length := by simp [bs, ByteArray.size]
theorem bs_list (s : ByteArray) : bs s.data.toList = s := by
  apply ByteArray.ext
  simp [bs]
theorem bs_inj {l m : List UInt8} (h : bs l = bs m) : l = m := by
  have := congrArg (fun s : ByteArray => s.data.toList) h
  simpa [bs] using this
theorem bs_toList (l : List UInt8) : (bs l).toList = l := by
  rw [ByteArray.toList_eq]
  simp [bs]
theorem bs_append (l m : List UInt8) : bs l ++ bs m = bs (l ++ m) := by
  apply ByteArray.ext
  simp [bs]
theorem bs_extract (l : List UInt8) (a b : Nat) : (bs l).extract a b = bs ((l.take b).drop a) := by
  apply ByteArray.ext
  rw [ByteArray.data_extract]
  apply Array.toList_inj.1
  simp [bs, List.drop_take]

end Go.Proofs.YtcipidcnkllanaaDoor

namespace Go.Proofs.YtcipidcnkllanaaDoor
open Go.ChangeShapes Go.WideShapes Go.ChangeAt Go.RowKit Go.Joins Go.Extern Go.Extern.Rtype
set_option linter.unusedVariables false

theorem isTypeOf (v : Value) (w : World) : (Extern.ReflectliteType.typeOf #[.iface 103 v]).run Tryd.prog w = .ok (.iface 91 (.agg #[.pointer (some ⟨1, 103, none⟩)])) w := by kernel_rfl
/-- The library's question whether values of a type can be compared. -/
def cmpE : Array Value → Sem Value := Extern.ReflectliteType.method fun t => do noPackHeld "Comparable" t; pure (.bool (← typeInfo t).comparable)
theorem isComparable (w : World) : (cmpE #[.agg #[.pointer (some ⟨1, 103, none⟩)]]).run Tryd.prog w = .ok (.bool true) w := by kernel_rfl
theorem isMethodComparable (v : Value) (w : World) : (Go.method 240 91 v "Comparable").run Tryd.prog w = .ok (72, v) w := by kernel_rfl
theorem isComp : (Tryd.prog.info? 103).map (·.comparable) = some true := by kernel_rfl
theorem isSize : (Tryd.prog.info? 128).map (·.size) = some 1 := by kernel_rfl

/-- The error value itself is it. -/
theorem is_same (a : Addr) (w : World) :
    Calls Tryd.prog 21 #[.iface 103 (.pointer (some a)), .iface 103 (.pointer (some a))] w fun e w' => e = .returned (.bool true) ∧ w = w' := by
  obtain ⟨i, hi, hcmp⟩ := Option.map_eq_some_iff.1 isComp
  obtain ⟨j, hj, hjs⟩ := Option.map_eq_some_iff.1 isSize
  have h8 := @run_callFunc_extern Tryd.prog 34 _ Extern.ReflectliteType.typeOf Tryd.func34 (by kernel_rfl) (by kernel_rfl) (by kernel_rfl) (by kernel_rfl)
  have h32 := @run_callFunc_extern Tryd.prog 72 _ cmpE Tryd.func72 (by kernel_rfl) (by kernel_rfl) (by kernel_rfl) (by kernel_rfl)
  have tT := isTypeOf
  have cT := isComparable
  have mR := isMethodComparable
  have heq := run_eql_iface_ptr_same (P := Tryd.prog) w a Tryd.underlying56 Tryd.underlying103 hi hcmp hj
  go_enter Tryd.func21, Tryd.ntmps21
  go_wp2
  refine wp_loop_rounds 1 ?_
  rw [rounds_succ]
  go_wp2
  go_ret
  exact ⟨rfl, rfl⟩

/-- No error is not it. -/
theorem is_nil (b : Addr) (w : World) :
    Calls Tryd.prog 21 #[.nilIface, .iface 103 (.pointer (some b))] w fun e w' => e = .returned (.bool false) ∧ w = w' := by
  have hn := run_eql_iface_nil_left (P := Tryd.prog) w 103 (.pointer (some b)) Tryd.underlying56
  go_enter Tryd.func21, Tryd.ntmps21
  go_wp2
  go_ret
  exact ⟨rfl, rfl⟩

end Go.Proofs.YtcipidcnkllanaaDoor

namespace Go.Proofs.YtcipidcnkllanaaDoor
open Go.ChangeShapes Go.WideShapes Go.ChangeAt Go.RowKit Go.Joins
set_option linter.unusedVariables false

theorem infoByte : (Tryd.prog.info? 5).map (fun i => (i.zero, i.size, i.bytes)) = some (some (Value.int IntKind.u8 0), 1, 1) := by kernel_rfl

end Go.Proofs.YtcipidcnkllanaaDoor

namespace Go.Proofs.YtcipidcnkllanaaDoor
open Go.ChangeShapes Go.WideShapes Go.ChangeAt Go.RowKit Go.Joins
set_option linter.unusedVariables false

theorem makeF (fn : Fn) (first cap : Array Value) (w : World) : (Instr.makeFunc fn first cap).run Tryd.prog w = .ok (.func fn first cap) w := rfl

/-- Whether a condition holds for the head of a number. -/
def evn (c : Cnd) (n : Int) : Bool := c.ev (n / 16) (n / 4 % 4) (n % 4)

/-- Blocks from base on that were there are as they were. -/
def Ag (base : Nat) (w w' : World) : Prop := w.heap.size ≤ w'.heap.size ∧ ∀ b, base ≤ b → b < w.heap.size → w'.heap[b]? = w.heap[b]?
theorem Ag.refl (base : Nat) (w : World) : Ag base w w := ⟨Nat.le_refl _, fun _ _ _ => rfl⟩
theorem Ag.trans {base : Nat} {a b c : World} (h : Ag base a b) (k : Ag base b c) : Ag base a c :=
  ⟨Nat.le_trans h.1 k.1, fun i h0 h1 => (k.2 i h0 (Nat.lt_of_lt_of_le h1 h.1)).trans (h.2 i h0 h1)⟩
theorem Ag.of {base n : Nat} {a b : World} (h : Below n a b) (hn : a.heap.size ≤ n) : Ag base a b := ⟨h.size, fun i _ h1 => h.block i (by omega)⟩
theorem Ag.mono {base base' : Nat} {a b : World} (h : Ag base' a b) (hb : base' ≤ base) : Ag base a b := ⟨h.1, fun i h0 h1 => h.2 i (by omega) h1⟩
theorem Ag.set {base : Nat} {a b : World} (h : Ag base a b) {p : Addr} (hp : p.block < base) (v : Value) : Ag base a (b.setCell p v) :=
  ⟨by simpa [World.setCell] using h.1, fun i h0 h1 => (Below.heap_setCell _ _ _ _ (by omega)).trans (h.2 i h0 h1)⟩
theorem Ag.drew {base : Nat} {a b : World} (h : Ag base a b) : Ag base a b.drew := h
theorem Ag.alloc {base : Nat} {a b : World} (h : Ag base a b) (o : Obj) : Ag base a (b.alloc o) :=
  h.trans (Ag.of (Below.refl b.heap.size b |>.alloc (Nat.le_refl _) o) (Nat.le_refl _))

/-- A function value that says of each head's number what h says, in whatever memory comes. -/
def FnOk (w : World) (base : Nat) (f : Value) (h : Int → Bool) : Prop :=
  ∃ (k : Nat) (caps : Array Value), f = .func (.func k) #[] caps ∧ (∀ (args : Array Value) (W : World), (callFunc k args).run Tryd.prog W = .ok (.enter k args) W) ∧
    ∀ W : World, Ag base w W → ∀ n : Int, 0 ≤ n → n ≤ 63 → Calls Tryd.prog k (#[.int .u8 n] ++ caps) W fun e W' => e = .returned (.bool (h n)) ∧ Below W.heap.size W W'

theorem FnOk.later {w w' : World} {base : Nat} {f : Value} {h : Int → Bool} (hf : FnOk w base f h) (hb : Ag base w w') : FnOk w' base f h := by
  obtain ⟨k, caps, hk, he, hc⟩ := hf
  exact ⟨k, caps, hk, he, fun W hW n h0 h1 => hc W (hb.trans hW) n h0 h1⟩
theorem FnOk.mono {w : World} {base base' : Nat} {f : Value} {h : Int → Bool} (hf : FnOk w base f h) (hb : base' ≤ base) : FnOk w base' f h := by
  obtain ⟨k, caps, hk, he, hc⟩ := hf
  exact ⟨k, caps, hk, he, fun W hW n h0 h1 => hc W (hW.mono hb) n h0 h1⟩

theorem cellLater {w w' : World} {b o : Nat} {x : Value} (h : w.cell? ⟨b, o, none⟩ = some x) (hb : Below w.heap.size w w') : w'.cell? ⟨b, o, none⟩ = some x :=
  (belCell hb b o (World.block_lt_of_cell? _ _ h)).trans h
theorem cellAg {w w' : World} {base b o : Nat} {x : Value} (h : w.cell? ⟨b, o, none⟩ = some x) (hl : base ≤ b) (hb : Ag base w w') : w'.cell? ⟨b, o, none⟩ = some x :=
  (World.cell?_of_block (w := w) (hb.2 b hl (World.block_lt_of_cell? _ _ h))).trans h

def CRep (w : World) (base : Nat) : Cnd → Value → Value → Value → Prop
  | .one b, x0, x1, x2 => x0 = .string (bs (Cnd.one b).txt) ∧ x1 = .slice none 0 0 ∧ FnOk w base x2 (evn (.one b))
  | .fld k d, x0, x1, x2 => x0 = .string (bs (Cnd.fld k d).txt) ∧ x1 = .slice none 0 0 ∧ FnOk w base x2 (evn (.fld k d))
  | .neg a, x0, x1, x2 => x0 = .string (bs (Cnd.neg a).txt) ∧ (∃ r cap : Nat, x1 = .slice (some ⟨r, 0, none⟩) 1 cap ∧ base ≤ r ∧ ∃ y0 y1 y2, w.cell? ⟨r, 0, none⟩ = some y0 ∧ w.cell? ⟨r, 1, none⟩ = some y1 ∧ w.cell? ⟨r, 2, none⟩ = some y2 ∧ CRep w base a y0 y1 y2) ∧ FnOk w base x2 (evn (.neg a))
  | .two k a b, x0, x1, x2 => x0 = .string (bs (Cnd.two k a b).txt) ∧ (∃ r cap : Nat, x1 = .slice (some ⟨r, 0, none⟩) 2 cap ∧ base ≤ r ∧ (∃ y0 y1 y2, w.cell? ⟨r, 0, none⟩ = some y0 ∧ w.cell? ⟨r, 1, none⟩ = some y1 ∧ w.cell? ⟨r, 2, none⟩ = some y2 ∧ CRep w base a y0 y1 y2) ∧ ∃ z0 z1 z2, w.cell? ⟨r, 3, none⟩ = some z0 ∧ w.cell? ⟨r, 4, none⟩ = some z1 ∧ w.cell? ⟨r, 5, none⟩ = some z2 ∧ CRep w base b z0 z1 z2) ∧ FnOk w base x2 (evn (.two k a b))

theorem CRep.text {w : World} {base : Nat} {c : Cnd} {x0 x1 x2 : Value} (h : CRep w base c x0 x1 x2) : x0 = .string (bs c.txt) := by cases c <;> exact h.1
theorem CRep.fn {w : World} {base : Nat} {c : Cnd} {x0 x1 x2 : Value} (h : CRep w base c x0 x1 x2) : FnOk w base x2 (evn c) := by cases c <;> exact h.2.2

theorem CRep.later {w w' : World} {base : Nat} (hb : Ag base w w') : ∀ {c : Cnd} {x0 x1 x2 : Value}, CRep w base c x0 x1 x2 → CRep w' base c x0 x1 x2
  | .one b, _, _, _, h => ⟨h.1, h.2.1, h.2.2.later hb⟩
  | .fld k d, _, _, _, h => ⟨h.1, h.2.1, h.2.2.later hb⟩
  | .neg a, _, _, _, h => by
    obtain ⟨h0, ⟨r, cap, h1, hl, y0, y1, y2, c0, c1, c2, hr⟩, h2⟩ := h
    exact ⟨h0, ⟨r, cap, h1, hl, y0, y1, y2, cellAg c0 hl hb, cellAg c1 hl hb, cellAg c2 hl hb, CRep.later hb hr⟩, h2.later hb⟩
  | .two k a b, _, _, _, h => by
    obtain ⟨h0, ⟨r, cap, h1, hl, ⟨y0, y1, y2, c0, c1, c2, hr⟩, z0, z1, z2, d0, d1, d2, hs⟩, h2⟩ := h
    exact ⟨h0, ⟨r, cap, h1, hl, ⟨y0, y1, y2, cellAg c0 hl hb, cellAg c1 hl hb, cellAg c2 hl hb, CRep.later hb hr⟩, z0, z1, z2, cellAg d0 hl hb, cellAg d1 hl hb, cellAg d2 hl hb, CRep.later hb hs⟩, h2.later hb⟩
theorem CRep.mono {w : World} {base base' : Nat} (hb : base' ≤ base) : ∀ {c : Cnd} {x0 x1 x2 : Value}, CRep w base c x0 x1 x2 → CRep w base' c x0 x1 x2
  | .one b, _, _, _, h => ⟨h.1, h.2.1, h.2.2.mono hb⟩
  | .fld k d, _, _, _, h => ⟨h.1, h.2.1, h.2.2.mono hb⟩
  | .neg a, _, _, _, h => by
    obtain ⟨h0, ⟨r, cap, h1, hl, y0, y1, y2, c0, c1, c2, hr⟩, h2⟩ := h
    exact ⟨h0, ⟨r, cap, h1, by omega, y0, y1, y2, c0, c1, c2, CRep.mono hb hr⟩, h2.mono hb⟩
  | .two k a b, _, _, _, h => by
    obtain ⟨h0, ⟨r, cap, h1, hl, ⟨y0, y1, y2, c0, c1, c2, hr⟩, z0, z1, z2, d0, d1, d2, hs⟩, h2⟩ := h
    exact ⟨h0, ⟨r, cap, h1, by omega, ⟨y0, y1, y2, c0, c1, c2, CRep.mono hb hr⟩, z0, z1, z2, d0, d1, d2, CRep.mono hb hs⟩, h2.mono hb⟩

theorem enterP {f : FuncId} {fn : Func} (hf : Tryd.prog.funcs[f]? = some fn) (hname : (fn.name == "runtime.NumGoroutine") = false) (hb : fn.body.isSome = true) (args : Array Value) (w : World) :
    (callFunc f args).run Tryd.prog w = .ok (.enter f args) w := by
  have h1 : fn.name ≠ "runtime.NumGoroutine" := by simpa using hname
  obtain ⟨c, hc⟩ := Option.isSome_iff_exists.1 hb
  simp [callFunc, hf, h1, hc]

/-! ### Functions of no part, and of a field -/

set_option maxHeartbeats 400000 in
theorem constFn_any (b : Bool) (n : Int) (p : Nat) (w : World) (hp : w.cell? ⟨p, 0, none⟩ = some (.bool b)) :
    Calls Tryd.prog 47 #[.int .u8 n, .pointer (some ⟨p, 0, none⟩)] w fun e w' => e = .returned (.bool b) ∧ Below w.heap.size w w' := by
  go_enter Tryd.func47, Tryd.ntmps47
  go_wp2
  go_ret
  exact ⟨rfl, Below.refl _ _⟩

theorem constFn_ok (b : Bool) (base p : Nat) (w : World) (hl : base ≤ p) (hp : w.cell? ⟨p, 0, none⟩ = some (.bool b)) :
    FnOk w base (.func (.func 47) #[] #[.pointer (some ⟨p, 0, none⟩)]) (fun _ => b) :=
  ⟨_, _, rfl, enterP Tryd.func47 (by kernel_rfl) (by kernel_rfl), fun W hW n _ _ => constFn_any b n p W (cellAg hp hl hW)⟩

/-- The three fields' functions. -/
def fieldF (k : UInt8) : Nat := if k = 115 then 40 else if k = 100 then 41 else 42

set_option maxHeartbeats 400000 in
theorem fieldFn_any (k d : UInt8) (hk : isF k = true) (n : Int) (h0 : 0 ≤ n) (h1 : n ≤ 63) (p q : Nat) (w : World) (hp : w.cell? ⟨p, 0, none⟩ = some (.func (.func (fieldF k)) #[] #[])) (hq : w.cell? ⟨q, 0, none⟩ = some (.int .i64 ((d.toNat : Int) - 48))) :
    Calls Tryd.prog 48 #[.int .u8 n, .pointer (some ⟨p, 0, none⟩), .pointer (some ⟨q, 0, none⟩)] w fun e w' => e = .returned (.bool (evn (.fld k d) n)) ∧ Below w.heap.size w w' := by
  rcases isF_cases hk with rfl | rfl | rfl
  · rw [show fieldF 115 = 40 from rfl] at hp
    rw [show evn (.fld 115 d) n = (n / 16 == ((d.toNat : Int) - 48)) from rfl]
    generalize (d.toNat : Int) - 48 = v at *
    go_enter Tryd.func48, Tryd.ntmps48
    go_wp2_with fail
    go_region_with (go_at_call 40; refine (src_any _ h0 h1 _).mono ?_; rintro e wq ⟨rfl, rfl⟩)
    all_goals
      go_wp2
      go_ret
      exact ⟨rfl, (Below.refl _ _).drew⟩
  · rw [show fieldF 100 = 41 from rfl] at hp
    rw [show evn (.fld 100 d) n = (n / 4 % 4 == ((d.toNat : Int) - 48)) from rfl]
    generalize (d.toNat : Int) - 48 = v at *
    go_enter Tryd.func48, Tryd.ntmps48
    go_wp2_with fail
    go_region_with (go_at_call 41; refine (dst_any _ h0 h1 _).mono ?_; rintro e wq ⟨rfl, rfl⟩)
    all_goals
      go_wp2
      go_ret
      exact ⟨rfl, (Below.refl _ _).drew⟩
  · rw [show fieldF 116 = 42 from rfl] at hp
    rw [show evn (.fld 116 d) n = (n % 4 == ((d.toNat : Int) - 48)) from rfl]
    generalize (d.toNat : Int) - 48 = v at *
    go_enter Tryd.func48, Tryd.ntmps48
    go_wp2_with fail
    go_region_with (go_at_call 42; refine (tag_any _ h0 h1 _).mono ?_; rintro e wq ⟨rfl, rfl⟩)
    all_goals
      go_wp2
      go_ret
      exact ⟨rfl, (Below.refl _ _).drew⟩

theorem fieldFn_ok (k d : UInt8) (hk : isF k = true) (base p q : Nat) (w : World) (hlp : base ≤ p) (hlq : base ≤ q) (hp : w.cell? ⟨p, 0, none⟩ = some (.func (.func (fieldF k)) #[] #[])) (hq : w.cell? ⟨q, 0, none⟩ = some (.int .i64 ((d.toNat : Int) - 48))) :
    FnOk w base (.func (.func 48) #[] #[.pointer (some ⟨p, 0, none⟩), .pointer (some ⟨q, 0, none⟩)]) (evn (.fld k d)) :=
  ⟨_, _, rfl, enterP Tryd.func48 (by kernel_rfl) (by kernel_rfl), fun W hW n h0 h1 => fieldFn_any k d hk n h0 h1 p q W (cellAg hp hlp hW) (cellAg hq hlq hW)⟩

end Go.Proofs.YtcipidcnkllanaaDoor

namespace Go.Proofs.YtcipidcnkllanaaDoor
open Go.ChangeShapes Go.WideShapes Go.ChangeAt Go.RowKit Go.Joins
set_option linter.unusedVariables false

set_option maxHeartbeats 1000000 in
theorem negFn_any (x : Bool) (n : Int) (p r k cap : Nat) (caps : Array Value) (w : World) (hp : w.cell? ⟨p, 0, none⟩ = some (.slice (some ⟨r, 0, none⟩) 1 cap))
    (c2 : w.cell? ⟨r, 2, none⟩ = some (.func (.func k) #[] caps))
    (he : ∀ (args : Array Value) (W : World), (callFunc k args).run Tryd.prog W = .ok (.enter k args) W)
    (hc : ∀ W : World, Below w.heap.size w W → Calls Tryd.prog k (#[.int .u8 n] ++ caps) W fun e W' => e = .returned (.bool x) ∧ Below W.heap.size W W') :
    Calls Tryd.prog 50 #[.int .u8 n, .pointer (some ⟨p, 0, none⟩)] w fun e w' => e = .returned (.bool (!x)) ∧ Below w.heap.size w w' := by
  have HC := Lib.hid hc
  clear hc
  go_enter Tryd.func50, Tryd.ntmps50
  go_wp2_with fail
  refine (HC.out _ (Below.refl _ _)).mono ?_
  rintro e w1 ⟨rfl, b1⟩
  go_wp2
  go_ret
  exact ⟨rfl, b1⟩

theorem negFn_ok (a : Cnd) (base p r cap : Nat) (y2 : Value) (w : World) (hlp : base ≤ p) (hlr : base ≤ r) (hp : w.cell? ⟨p, 0, none⟩ = some (.slice (some ⟨r, 0, none⟩) 1 cap)) (c2 : w.cell? ⟨r, 2, none⟩ = some y2) (hf : FnOk w base y2 (evn a)) :
    FnOk w base (.func (.func 50) #[] #[.pointer (some ⟨p, 0, none⟩)]) (evn (.neg a)) := by
  obtain ⟨k, caps, rfl, he, hc⟩ := hf
  exact ⟨_, _, rfl, enterP Tryd.func50 (by kernel_rfl) (by kernel_rfl), fun W hW n h0 h1 =>
    negFn_any (evn a n) n p r k cap caps W (cellAg hp hlp hW) (cellAg c2 hlr hW) he fun W' hb => hc W' (hW.trans (Ag.of hb (Nat.le_refl _))) n h0 h1⟩

set_option maxHeartbeats 2000000 in
theorem andFn_any (x y : Bool) (n : Int) (p r k j cap : Nat) (caps daps : Array Value) (w : World) (hp : w.cell? ⟨p, 0, none⟩ = some (.slice (some ⟨r, 0, none⟩) 2 cap))
    (c2 : w.cell? ⟨r, 2, none⟩ = some (.func (.func k) #[] caps)) (d2 : w.cell? ⟨r, 5, none⟩ = some (.func (.func j) #[] daps))
    (he : ∀ (args : Array Value) (W : World), (callFunc k args).run Tryd.prog W = .ok (.enter k args) W)
    (hd : ∀ (args : Array Value) (W : World), (callFunc j args).run Tryd.prog W = .ok (.enter j args) W)
    (hc : ∀ W : World, Below w.heap.size w W → Calls Tryd.prog k (#[.int .u8 n] ++ caps) W fun e W' => e = .returned (.bool x) ∧ Below W.heap.size W W')
    (hc' : ∀ W : World, Below w.heap.size w W → Calls Tryd.prog j (#[.int .u8 n] ++ daps) W fun e W' => e = .returned (.bool y) ∧ Below W.heap.size W W') :
    Calls Tryd.prog 51 #[.int .u8 n, .pointer (some ⟨p, 0, none⟩)] w fun e w' => e = .returned (.bool (x && y)) ∧ Below w.heap.size w w' := by
  have HC := Lib.hid hc
  have HD := Lib.hid hc'
  clear hc hc'
  have pl := World.block_lt_of_cell? _ _ hp
  have rl := World.block_lt_of_cell? _ _ c2
  cases x
  · go_enter Tryd.func51, Tryd.ntmps51
    go_wp2_with fail
    refine (HC.out _ (Below.refl _ _)).mono ?_
    rintro e w1 ⟨rfl, b1⟩
    go_wp2
    go_ret
    exact ⟨rfl, b1⟩
  · go_enter Tryd.func51, Tryd.ntmps51
    go_wp2_with fail
    refine (HC.out _ (Below.refl _ _)).mono ?_
    rintro e w1 ⟨rfl, b1⟩
    have kp := (belCell b1 p 0 pl).trans hp
    have kr := (belCell b1 r 5 rl).trans d2
    have hm := Lib.hid (HD.out w1 b1)
    clear HD HC hp c2 d2
    go_wp2_with fail
    refine hm.out.mono ?_
    rintro e w2 ⟨rfl, b2⟩
    go_wp2
    go_ret
    exact ⟨rfl, belStep b1 b2⟩

set_option maxHeartbeats 2000000 in
theorem orFn_any (x y : Bool) (n : Int) (p r k j cap : Nat) (caps daps : Array Value) (w : World) (hp : w.cell? ⟨p, 0, none⟩ = some (.slice (some ⟨r, 0, none⟩) 2 cap))
    (c2 : w.cell? ⟨r, 2, none⟩ = some (.func (.func k) #[] caps)) (d2 : w.cell? ⟨r, 5, none⟩ = some (.func (.func j) #[] daps))
    (he : ∀ (args : Array Value) (W : World), (callFunc k args).run Tryd.prog W = .ok (.enter k args) W)
    (hd : ∀ (args : Array Value) (W : World), (callFunc j args).run Tryd.prog W = .ok (.enter j args) W)
    (hc : ∀ W : World, Below w.heap.size w W → Calls Tryd.prog k (#[.int .u8 n] ++ caps) W fun e W' => e = .returned (.bool x) ∧ Below W.heap.size W W')
    (hc' : ∀ W : World, Below w.heap.size w W → Calls Tryd.prog j (#[.int .u8 n] ++ daps) W fun e W' => e = .returned (.bool y) ∧ Below W.heap.size W W') :
    Calls Tryd.prog 52 #[.int .u8 n, .pointer (some ⟨p, 0, none⟩)] w fun e w' => e = .returned (.bool (x || y)) ∧ Below w.heap.size w w' := by
  have HC := Lib.hid hc
  have HD := Lib.hid hc'
  clear hc hc'
  have pl := World.block_lt_of_cell? _ _ hp
  have rl := World.block_lt_of_cell? _ _ c2
  cases x
  · go_enter Tryd.func52, Tryd.ntmps52
    go_wp2_with fail
    refine (HC.out _ (Below.refl _ _)).mono ?_
    rintro e w1 ⟨rfl, b1⟩
    have kp := (belCell b1 p 0 pl).trans hp
    have kr := (belCell b1 r 5 rl).trans d2
    have hm := Lib.hid (HD.out w1 b1)
    clear HD HC hp c2 d2
    go_wp2_with fail
    refine hm.out.mono ?_
    rintro e w2 ⟨rfl, b2⟩
    go_wp2
    go_ret
    exact ⟨rfl, belStep b1 b2⟩
  · go_enter Tryd.func52, Tryd.ntmps52
    go_wp2_with fail
    refine (HC.out _ (Below.refl _ _)).mono ?_
    rintro e w1 ⟨rfl, b1⟩
    go_wp2
    go_ret
    exact ⟨rfl, b1⟩

theorem twoFn_ok (k : UInt8) (hk : isT k = true) (a b : Cnd) (base p r cap : Nat) (y2 z2 : Value) (w : World) (hlp : base ≤ p) (hlr : base ≤ r) (hp : w.cell? ⟨p, 0, none⟩ = some (.slice (some ⟨r, 0, none⟩) 2 cap)) (c2 : w.cell? ⟨r, 2, none⟩ = some y2) (d2 : w.cell? ⟨r, 5, none⟩ = some z2) (hf : FnOk w base y2 (evn a)) (hg : FnOk w base z2 (evn b)) :
    FnOk w base (.func (.func (if k = 38 then 51 else 52)) #[] #[.pointer (some ⟨p, 0, none⟩)]) (evn (.two k a b)) := by
  obtain ⟨k1, caps, rfl, he, hc⟩ := hf
  obtain ⟨k2, daps, rfl, he2, hc2⟩ := hg
  rcases isT_cases hk with rfl | rfl
  · exact ⟨_, _, rfl, enterP Tryd.func51 (by kernel_rfl) (by kernel_rfl), fun W hW n h0 h1 =>
      andFn_any (evn a n) (evn b n) n p r k1 k2 cap caps daps W (cellAg hp hlp hW) (cellAg c2 hlr hW) (cellAg d2 hlr hW) he he2 (fun W' hb => hc W' (hW.trans (Ag.of hb (Nat.le_refl _))) n h0 h1) fun W' hb => hc2 W' (hW.trans (Ag.of hb (Nat.le_refl _))) n h0 h1⟩
  · exact ⟨_, _, rfl, enterP Tryd.func52 (by kernel_rfl) (by kernel_rfl), fun W hW n h0 h1 =>
      orFn_any (evn a n) (evn b n) n p r k1 k2 cap caps daps W (cellAg hp hlp hW) (cellAg c2 hlr hW) (cellAg d2 hlr hW) he he2 (fun W' hb => hc W' (hW.trans (Ag.of hb (Nat.le_refl _))) n h0 h1) fun W' hb => hc2 W' (hW.trans (Ag.of hb (Nat.le_refl _))) n h0 h1⟩

/-- What a reading leaves: the condition, and what comes behind it. -/
def Read (c : Cnd) (r : List UInt8) (w : World) (e : Ending) (w' : World) : Prop :=
  ∃ x0 x1 x2, e = .returned (.tuple #[.agg #[x0, x1, x2], .string (bs r), .nilIface]) ∧ CRep w' w.heap.size c x0 x1 x2 ∧ Below w.heap.size w w'

set_option maxHeartbeats 400000 in
theorem constantPred_any (b : Bool) (w : World) :
    Calls Tryd.prog 43 #[.string (bs (Cnd.one b).txt)] w fun e w' => ∃ x0 x1 x2, e = .returned (.agg #[x0, x1, x2]) ∧ CRep w' w.heap.size (.one b) x0 x1 x2 ∧ Below w.heap.size w w' := by
  have hmf := makeF
  have hq : ((bs (Cnd.one b).txt).toList == [49]) = b := by rw [bs_toList]; cases b <;> rfl
  obtain ⟨s, hs⟩ : ∃ s, s = bs (Cnd.one b).txt := ⟨_, rfl⟩
  have HS := Lib.hid hs
  rw [← hs] at hq ⊢
  clear hs
  go_enter Tryd.func43, Tryd.ntmps43
  go_wp2
  refine bodyPost_ret (v := .agg #[.string s, .slice none 0 0, .func (.func 47) #[] #[.pointer (some ⟨w.heap.size + 1, 0, none⟩)]]) (by simp [results, Tryd.results43, go_sem]) rfl ?_
  exact ⟨_, _, _, rfl, ⟨by rw [HS.out], rfl, constFn_ok b _ _ _ (by omega) (by simp [go_sem])⟩, below_alloc2 _ _ _⟩

end Go.Proofs.YtcipidcnkllanaaDoor

namespace Go.Proofs.YtcipidcnkllanaaDoor
open Go.ChangeShapes Go.WideShapes Go.ChangeAt Go.RowKit Go.Joins
set_option linter.unusedVariables false

set_option maxHeartbeats 1000000 in
theorem readFieldPred_yes (k d : UInt8) (hk : isF k = true) (hd : isD d = true) (r : List UInt8) (hl : r.length ≤ 1048576) (w : World) :
    Calls Tryd.prog 44 #[.string (bs (k :: d :: r)), .func (.func (fieldF k)) #[] #[]] w (Read (.fld k d) r w) := by
  have hmf := makeF
  have hsz : (bs (k :: d :: r)).size = r.length + 2 := by simp [bs_size]
  have hb : ∀ h, (bs (k :: d :: r))[1]'h = d := fun h => rfl
  obtain ⟨e0, e3⟩ := isD_cases hd
  have hv : fldB ((d.toNat : Int) - 48) = true := fldB_mk (by omega) (by omega)
  have f1 : ∀ W : World, (Instr.slice 9 (.string (bs (k :: d :: r))) none (some (.int .i64 2)) none).run Tryd.prog W = .ok (.string (bs [k, d])) W := fun W => by
    rw [run_slice_string_to_if (P := Tryd.prog) W 9 _ .i64 2 Tryd.underlying9, bs_extract, hsz, if_pos (by omega)]
    simp
  have f2 : ∀ W : World, (Instr.slice 9 (.string (bs (k :: d :: r))) (some (.int .i64 2)) none none).run Tryd.prog W = .ok (.string (bs r)) W := fun W => by
    rw [run_slice_string_from_if (P := Tryd.prog) W 9 _ .i64 2 Tryd.underlying9, bs_extract, hsz, if_pos (by omega)]
    simp
  have hsz1 : 1 < (bs (k :: d :: r)).size := by omega
  have hb1 : (bs (k :: d :: r))[1]'hsz1 = d := hb _
  have hL : (bs (k :: d :: r)).size ≤ 2000000 := by omega
  have hG : ∀ W : World, W.cell? ⟨w.heap.size, 0, none⟩ = some (.func (.func (fieldF k)) #[] #[]) → W.cell? ⟨w.heap.size + 1 + 1, 0, none⟩ = some (.int .i64 ((d.toNat : Int) - 48)) →
      CRep W w.heap.size (.fld k d) (.string (bs [k, d])) (.slice none 0 0) (.func (.func 48) #[] #[.pointer (some ⟨w.heap.size, 0, none⟩), .pointer (some ⟨w.heap.size + 1 + 1, 0, none⟩)]) := fun W h1 h2 =>
    ⟨rfl, rfl, fieldFn_ok k d hk _ _ _ W (Nat.le_refl _) (by omega) h1 h2⟩
  have HG := Lib.hid hG
  clear hG hb hd hk
  generalize fieldF k = F at *
  generalize bs (k :: d :: r) = s at *
  have hs2 : decide ((s.size : Int) < 2) = false := by simp; omega
  clear hsz
  go_enter Tryd.func44, Tryd.ntmps44
  go_wp2_with (go_at_call 39; refine (fieldOk_any _ _).mono ?_; rintro e w' ⟨rfl, rfl⟩; rw [hv])
  go_region
  go_wp2
  refine bodyPost_ret (v := .tuple #[.agg #[.string (bs [k, d]), .slice none 0 0, .func (.func 48) #[] #[.pointer (some ⟨w.heap.size, 0, none⟩), .pointer (some ⟨w.heap.size + 1 + 1, 0, none⟩)]], .string (bs r), .nilIface]) (by simp [results, Tryd.results44, go_sem]) rfl ?_
  exact ⟨_, _, _, rfl, HG.out _ (by simp [go_sem]) (by simp [go_sem]), ((below_alloc2 _ _ _).alloc (by simp; omega) _).drew⟩

/-- The program's error value. -/
def errV (ep : Addr) : Value := .iface 103 (.pointer (some ep))
/-- What a reading leaves that finds none. -/
def Fails (ep : Addr) (w : World) (e : Ending) (w' : World) : Prop :=
  e = .returned (.tuple #[.agg #[.string ⟨#[]⟩, .slice none 0 0, .nilFunc], .string ⟨#[]⟩, errV ep]) ∧ Below w.heap.size w w'

set_option maxHeartbeats 1000000 in
theorem readFieldPred_short (k : UInt8) (F : Nat) (ep : Addr) (w : World) (hE : w.cell? ⟨0, 0, none⟩ = some (errV ep)) :
    Calls Tryd.prog 44 #[.string (bs [k]), .func (.func F) #[] #[]] w (Fails ep w) := by
  have hmf := makeF
  have hg := World.block_lt_of_cell? _ _ hE
  unfold errV at hE
  have hsz : (bs [k]).size = 1 := by simp [bs_size]
  generalize bs [k] = s at *
  have hs2 : decide ((s.size : Int) < 2) = true := by simp; omega
  go_enter Tryd.func44, Tryd.ntmps44
  go_wp2_with fail
  go_region
  go_wp2
  refine bodyPost_ret (v := .tuple #[.agg #[.string ⟨#[]⟩, .slice none 0 0, .nilFunc], .string ⟨#[]⟩, errV ep]) (by simp [results, Tryd.results44, go_sem, errV]) rfl ?_
  exact ⟨rfl, (below_alloc2 _ _ _).drew⟩

set_option maxHeartbeats 1000000 in
theorem readFieldPred_bad (k d : UInt8) (hd : isD d = false) (r : List UInt8) (hl : r.length ≤ 1048576) (F : Nat) (ep : Addr) (w : World) (hE : w.cell? ⟨0, 0, none⟩ = some (errV ep)) :
    Calls Tryd.prog 44 #[.string (bs (k :: d :: r)), .func (.func F) #[] #[]] w (Fails ep w) := by
  have hmf := makeF
  have hg := World.block_lt_of_cell? _ _ hE
  unfold errV at hE
  have hsz : (bs (k :: d :: r)).size = r.length + 2 := by simp [bs_size]
  have hsz1 : 1 < (bs (k :: d :: r)).size := by omega
  have hb1 : (bs (k :: d :: r))[1]'hsz1 = d := rfl
  have hL : (bs (k :: d :: r)).size ≤ 2000000 := by omega
  have hd8 : d.toNat < 256 := d.toNat_lt
  have hv : fldB ((d.toNat : Int) - 48) = false := by
    have : ¬ (48 ≤ d.toNat ∧ d.toNat ≤ 51) := by
      intro h
      rw [show isD d = true from by simp [isD, h.1, h.2]] at hd
      cases hd
    cases hq : fldB ((d.toNat : Int) - 48)
    · rfl
    · exact absurd (fldB_true hq) (by omega)
  generalize bs (k :: d :: r) = s at *
  have hs2 : decide ((s.size : Int) < 2) = false := by simp; omega
  clear hsz hd
  go_enter Tryd.func44, Tryd.ntmps44
  go_wp2_with (go_at_call 39; refine (fieldOk_any _ _).mono ?_; rintro e w' ⟨rfl, rfl⟩; rw [hv])
  go_region
  go_wp2
  refine bodyPost_ret (v := .tuple #[.agg #[.string ⟨#[]⟩, .slice none 0 0, .nilFunc], .string ⟨#[]⟩, errV ep]) (by simp [results, Tryd.results44, go_sem, errV]) rfl ?_
  exact ⟨rfl, ((below_alloc2 _ _ _).alloc (by simp; omega) _).drew⟩

/-! ### Functions of parts -/

set_option maxHeartbeats 400000 in
theorem compoundHolds_any (k : UInt8) (hk : k = 33 ∨ isT k = true) (x : Value) (a : Option Addr) (n c : Nat) (hx : x = .slice a n c) (w : World) :
    Calls Tryd.prog 49 #[.int .u8 (k.toNat : Int), x] w fun e w' => e = .returned (.func (.func (if k = 33 then 50 else if k = 38 then 51 else 52)) #[] #[.pointer (some ⟨w.heap.size, 0, none⟩)]) ∧
      w'.cell? ⟨w.heap.size, 0, none⟩ = some x ∧ Below w.heap.size w w' := by
  have hmf := makeF
  subst hx
  have hk' : k = 33 ∨ k = 38 ∨ k = 124 := hk.imp id isT_cases
  clear hk
  rcases hk' with rfl | rfl | rfl
  all_goals
    go_enter Tryd.func49, Tryd.ntmps49
    go_wp2
    go_ret
    exact ⟨rfl, by simp [go_sem], below_alloc1 _ _⟩

/-- A text without its first byte, and its beginning. -/
theorem slice1 (k : UInt8) (l : List UInt8) (W : World) : (Instr.slice 9 (.string (bs (k :: l))) (some (.int .i64 1)) none none).run Tryd.prog W = .ok (.string (bs l)) W := by
  rw [run_slice_string_from_if (P := Tryd.prog) W 9 _ .i64 1 Tryd.underlying9, bs_extract, bs_size, if_pos (by simp; omega), List.take_length]
  rfl
theorem sliceTo (l m : List UInt8) (W : World) : (Instr.slice 9 (.string (bs (l ++ m))) none (some (.int .i64 (l.length : Int))) none).run Tryd.prog W = .ok (.string (bs l)) W := by
  rw [run_slice_string_to_if (P := Tryd.prog) W 9 _ .i64 _ Tryd.underlying9, bs_extract, bs_size, if_pos (by simp; omega)]
  simp

theorem CRep.form {w : World} {base : Nat} {c : Cnd} {x0 x1 x2 : Value} (h : CRep w base c x0 x1 x2) : ∃ (a : Option Addr) (n cap k : Nat) (caps : Array Value), x0 = .string (bs c.txt) ∧ x1 = .slice a n cap ∧ x2 = .func (.func k) #[] caps := by
  obtain ⟨k, caps, hk, _⟩ := h.fn
  have h0 := h.text
  cases c with
  | one b => exact ⟨_, _, _, _, _, h0, h.2.1, hk⟩
  | fld k d => exact ⟨_, _, _, _, _, h0, h.2.1, hk⟩
  | neg a => obtain ⟨r, cap, h1, _⟩ := h.2.1; exact ⟨_, _, _, _, _, h0, h1, hk⟩
  | two k a b => obtain ⟨r, cap, h1, _⟩ := h.2.1; exact ⟨_, _, _, _, _, h0, h1, hk⟩

theorem infoPred : (Tryd.prog.info? 54).map (fun i => (i.zero, i.size, i.bytes)) = some (some (Value.agg #[.string ⟨#[]⟩, .slice none 0 0, .nilFunc]), 3, 48) := by kernel_rfl

end Go.Proofs.YtcipidcnkllanaaDoor

namespace Go.Proofs.YtcipidcnkllanaaDoor
open Go.ChangeShapes Go.WideShapes Go.ChangeAt Go.RowKit Go.Joins
set_option linter.unusedVariables false

/-- A row of one condition, and of two. -/
theorem rowOne {w : World} {base : Nat} {v x0 x1 x2 : Value} (h : w.ownsRow base 54 3 v 1 [x0, x1, x2]) :
    ∃ g cap : Nat, v = .slice (some ⟨g, 0, none⟩) 1 cap ∧ base ≤ g ∧ g < w.heap.size ∧ w.cell? ⟨g, 0, none⟩ = some x0 ∧ w.cell? ⟨g, 1, none⟩ = some x1 ∧ w.cell? ⟨g, 2, none⟩ = some x2 := by
  have h0 := h
  obtain ⟨hl, h1 | ⟨g, cap, cur, rfl, hb, hg, hc, hm, hs, ht⟩⟩ := h
  · exact absurd h1.2 (by omega)
  · exact ⟨g, cap, rfl, hb, (World.ownsRow.lt h0 g rfl).2, World.ownsRow.cellAt h0 0 (by simp), World.ownsRow.cellAt h0 1 (by simp), World.ownsRow.cellAt h0 2 (by simp)⟩
theorem rowTwo {w : World} {base : Nat} {v x0 x1 x2 y0 y1 y2 : Value} (h : w.ownsRow base 54 3 v 2 [x0, x1, x2, y0, y1, y2]) :
    ∃ g cap : Nat, v = .slice (some ⟨g, 0, none⟩) 2 cap ∧ base ≤ g ∧ g < w.heap.size ∧ (w.cell? ⟨g, 0, none⟩ = some x0 ∧ w.cell? ⟨g, 1, none⟩ = some x1 ∧ w.cell? ⟨g, 2, none⟩ = some x2) ∧ w.cell? ⟨g, 3, none⟩ = some y0 ∧ w.cell? ⟨g, 4, none⟩ = some y1 ∧ w.cell? ⟨g, 5, none⟩ = some y2 := by
  have h0 := h
  obtain ⟨hl, h1 | ⟨g, cap, cur, rfl, hb, hg, hc, hm, hs, ht⟩⟩ := h
  · exact absurd h1.2 (by omega)
  · exact ⟨g, cap, rfl, hb, (World.ownsRow.lt h0 g rfl).2, ⟨World.ownsRow.cellAt h0 0 (by simp), World.ownsRow.cellAt h0 1 (by simp), World.ownsRow.cellAt h0 2 (by simp)⟩, World.ownsRow.cellAt h0 3 (by simp), World.ownsRow.cellAt h0 4 (by simp), World.ownsRow.cellAt h0 5 (by simp)⟩
/-- The three cells of a result's block. -/
theorem trioCellsP {w : World} {b : Nat} {t : TypeId} {x y z : Value} (h : w.heap[b]? = some (.cells #[x, y, z] t)) :
    w.cell? ⟨b, 0, none⟩ = some x ∧ w.cell? ⟨b, 1, none⟩ = some y ∧ w.cell? ⟨b, 2, none⟩ = some z ∧ ∀ j, w.frozen? ⟨b, j, none⟩ = false :=
  ⟨by rw [cell_of_block h]; rfl, by rw [cell_of_block h]; rfl, by rw [cell_of_block h]; rfl, fun j => unfrozen_of_block h j⟩

set_option maxRecDepth 100000 in
set_option maxHeartbeats 4000000 in
theorem readComp_neg (a : Cnd) (r : List UInt8) (hl : a.txt.length + r.length ≤ 1048576) (ep : Addr) (w : World) (hE : w.cell? ⟨0, 0, none⟩ = some (errV ep))
    (hA : ∀ W : World, W.cell? ⟨0, 0, none⟩ = some (errV ep) → Calls Tryd.prog 33 #[.string (bs (a.txt ++ r))] W (Read a r W)) :
    Calls Tryd.prog 45 #[.string (bs (33 :: (a.txt ++ r))), .int .i64 1] w (Read (.neg a) r w) := by
  have hg := World.block_lt_of_cell? _ _ hE
  have f2 := slice1 33 (a.txt ++ r)
  have hsz : (bs (33 :: (a.txt ++ r))).size = a.txt.length + r.length + 1 := by simp [bs_size]
  have hsr : (bs r).size = r.length := bs_size _
  have f3 : ∀ W : World, (Instr.slice 9 (.string (bs (33 :: (a.txt ++ r)))) none (some (.int .i64 (((bs (33 :: (a.txt ++ r))).size : Int) - ((bs r).size : Int)))) none).run Tryd.prog W = .ok (.string (bs (Cnd.neg a).txt)) W := fun W => by
    rw [hsz, hsr, show ((a.txt.length + r.length + 1 : Nat) : Int) - (r.length : Int) = ((33 :: a.txt).length : Int) from by simp; omega]
    exact sliceTo (33 :: a.txt) r W
  have hs0 : 0 < (bs (33 :: (a.txt ++ r))).size := by omega
  have hb1 : (bs (33 :: (a.txt ++ r)))[0]'hs0 = 33 := rfl
  have hL : (bs (33 :: (a.txt ++ r))).size ≤ 2000000 := by omega
  have hu : (bs r).size ≤ (bs (33 :: (a.txt ++ r))).size := by omega
  have HA : Hid (∀ W : World, Below w.heap.size w W → Calls Tryd.prog 33 #[.string (bs (a.txt ++ r))] W (Read a r W)) := fun W hb => hA W (cellLater hE hb)
  obtain ⟨i0, hi, hz0, hz1, hz2⟩ := info_parts infoPred
  have HI := Lib.hid hi
  have HZ0 := Lib.hid hz0
  have HZ1 := Lib.hid hz1
  have HZ2 := Lib.hid hz2
  clear hA hi hz0 hz1 hz2 hsz hsr hE
  have HG : Hid (∀ (W : World) (q : Addr) (x1 x2 : Value), (∃ r cap : Nat, x1 = .slice (some ⟨r, 0, none⟩) 1 cap ∧ w.heap.size ≤ r ∧ ∃ y0 y1 y2, W.cell? ⟨r, 0, none⟩ = some y0 ∧ W.cell? ⟨r, 1, none⟩ = some y1 ∧ W.cell? ⟨r, 2, none⟩ = some y2 ∧ CRep W w.heap.size a y0 y1 y2) → FnOk W w.heap.size x2 (evn (.neg a)) → CRep W w.heap.size (.neg a) (.string (bs (Cnd.neg a).txt)) x1 x2) :=
    fun W q x1 x2 h1 h2 => ⟨rfl, h1, h2⟩
  generalize bs (Cnd.neg a).txt = tw at *
  generalize bs (33 :: (a.txt ++ r)) = s at *
  generalize bs (a.txt ++ r) = t at *
  unfold Read at HA ⊢
  generalize bs r = u at *
  go_enter Tryd.func45, Tryd.ntmps45
  go_wp2_with fail
  refine wp_loop_rounds 2 ?_
  rw [rounds_succ]
  go_wp2_with fail
  refine (HA.out _ (below_alloc1 _ _)).mono ?_
  rintro e w1 ⟨x0, x1, x2, rfl, hR, b1⟩
  have HR : Hid (CRep w1 (w.heap.size + 1) a x0 x1 x2) := by
    show CRep w1 (w.heap.size + 1) a x0 x1 x2
    simpa using hR
  obtain ⟨ad, n1, c1, k1, caps, rfl, rfl, rfl⟩ := hR.form
  have s1 := b1.size
  simp at s1
  have R1 : Hid (w1.heap[w.heap.size]? = some (.cells #[.string ⟨#[]⟩, .slice none 0 0, .nilFunc] 54)) := (b1.block _ (by simp)).trans (heap_alloc_new w _)
  have B1 : Hid (Below w.heap.size w w1) := (below_alloc1 _ _).trans (b1.mono (by simp))
  clear hR b1 HA
  generalize bs a.txt = ta at *
  go_wp2_with (at_builtin; refine wpList_append_own _ rfl _ _ 51 rfl w1.heap.size 54 i0 (.agg #[.string ⟨#[]⟩, .slice none 0 0, .nilFunc]) 3 48 Tryd.underlying51 HI.out HZ0.out HZ1.out HZ2.out rfl (by decide) _ _ _ rfl (World.ownsRow_nil _ _ _ _) ⟨w1.heap.size + 1, 0, none⟩ 1 1 [.string ta, .slice ad n1 c1, .func (.func k1) #[] caps] rfl rfl ?c1 ?c2 ?c3 ?c4 ?c5 ?_)
  case c1 =>
    intro j u hj
    match j, hj with
    | 0, hj => simp at hj; subst hj; simp [Addr.add]
    | 1, hj => simp at hj; subst hj; simp [Addr.add]
    | 2, hj => simp at hj; subst hj; simp [Addr.add]
  case c2 => intro u hu; simp at hu; rcases hu with rfl | rfl | rfl <;> rfl
  case c3 => unfold maxLen; omega
  case c4 => omega
  case c5 => simp; omega
  intro v' w5 hown5 hg5 hnil5
  clear hnil5
  have s5 := hg5.size
  simp at s5
  have B5 : Hid (Below w1.heap.size w1 w5) := (below_alloc2 _ _ _).trans ⟨hg5.os, hg5.tape, hg5.output, hg5.size, fun i hi => hg5.block i (by simp; omega) (by simp [Value.ownBlock])⟩
  obtain ⟨g, cap, rfl, hgb, hgl, e0, e1, e2⟩ := rowOne hown5
  have E0 := Lib.hid e0
  have E1 := Lib.hid e1
  have E2 := Lib.hid e2
  clear hown5 hg5 e0 e1 e2
  go_wp2_with fail
  rw [rounds_succ]
  go_wp2_with fail
  refine (compoundHolds_any 33 (.inl rfl) _ _ _ _ rfl _).mono ?_
  rintro e w6 ⟨rfl, hc6, b6⟩
  have s6 := b6.size
  have R6 : Hid (w6.heap[w.heap.size]? = some (.cells #[.string ⟨#[]⟩, .slice none 0 0, .nilFunc] 54)) := (b6.block _ (by omega)).trans ((B5.out.block _ (by omega)).trans R1.out)
  have hlt := World.block_lt_of_cell? _ _ hc6
  simp at hlt
  have HC6 := Lib.hid hc6
  have A6 : Hid (Ag (w.heap.size + 1) w1 w6) := (Ag.of B5.out (Nat.le_refl _)).trans (Ag.of b6 (Nat.le_refl _))
  have HB6 : Hid (Below w.heap.size w w6) := B1.out.trans ((B5.out.mono (by omega)).trans (b6.mono (by omega)))
  have K0 : Hid (w6.cell? ⟨g, 0, none⟩ = some (.string ta)) := cellLater E0.out b6
  have K1 : Hid (w6.cell? ⟨g, 1, none⟩ = some (.slice ad n1 c1)) := cellLater E1.out b6
  have K2 : Hid (w6.cell? ⟨g, 2, none⟩ = some (.func (.func k1) #[] caps)) := cellLater E2.out b6
  obtain ⟨ra, rb, rc, rf⟩ := trioCellsP R6.out
  have z0 : w.heap.size < w6.heap.size := by omega
  have hng : g ≠ w.heap.size := by omega
  have hnb : w5.heap.size ≠ w.heap.size := by omega
  clear hc6 b6 B5 B1 R1 E0 E1 E2 R6
  go_wp2
  have AF : Ag (w.heap.size + 1) w6 (((w6.setCell ⟨w.heap.size, 0, none⟩ (.string tw)).setCell ⟨w.heap.size, 1, none⟩ (.slice (some ⟨g, 0, none⟩) 1 cap)).setCell ⟨w.heap.size, 2, none⟩ (.func (.func 50) #[] #[.pointer (some ⟨w5.heap.size, 0, none⟩)])) :=
    (((Ag.refl _ _).set (by show w.heap.size < _; omega) _).set (by show w.heap.size < _; omega) _).set (by show w.heap.size < _; omega) _
  refine bodyPost_ret (v := .tuple #[.agg #[.string tw, .slice (some ⟨g, 0, none⟩) 1 cap, .func (.func 50) #[] #[.pointer (some ⟨w5.heap.size, 0, none⟩)]], .string u, .nilIface]) (by simp [results, Tryd.results45, go_sem, ra, rb, rc]) rfl ?_
  have hRf := CRep.mono (base' := w.heap.size) (by omega) (CRep.later (A6.out.trans AF) HR.out)
  have k0 := cellAg K0.out (by omega) AF
  have k1 := cellAg K1.out (by omega) AF
  have k2 := cellAg K2.out (by omega) AF
  have k6 := cellAg HC6.out (by omega) AF
  exact ⟨_, _, _, rfl, HG.out _ ⟨0, 0, none⟩ _ _ ⟨g, cap, rfl, by omega, _, _, _, k0, k1, k2, hRf⟩ (negFn_ok a _ _ g cap _ _ (by omega) (by omega) k6 k2 hRf.fn),
    ((HB6.out.setCell (Nat.le_refl _) _).setCell (Nat.le_refl _) _).setCell (Nat.le_refl _) _⟩

end Go.Proofs.YtcipidcnkllanaaDoor

namespace Go.Proofs.YtcipidcnkllanaaDoor
open Go.ChangeShapes Go.WideShapes Go.ChangeAt Go.RowKit Go.Joins
set_option linter.unusedVariables false

theorem rowBelow {w w' : World} {base n : Nat} {v : Value} {xs : List Value} (h : w.ownsRow base 54 3 v n xs) (hb : Below w.heap.size w w') : w'.ownsRow base 54 3 v n xs :=
  World.ownsRow.kept h (row := none) ⟨hb.os, hb.tape, hb.output, hb.size, fun k hk _ => hb.block k hk⟩ (by cases v.ownBlock <;> simp)

set_option maxRecDepth 100000 in
set_option maxHeartbeats 8000000 in
theorem readComp_two (k : UInt8) (hk : isT k = true) (a b : Cnd) (r : List UInt8) (hl : a.txt.length + (b.txt.length + r.length) ≤ 1048576) (ep : Addr) (w : World) (hE : w.cell? ⟨0, 0, none⟩ = some (errV ep))
    (hA : ∀ W : World, W.cell? ⟨0, 0, none⟩ = some (errV ep) → Calls Tryd.prog 33 #[.string (bs (a.txt ++ (b.txt ++ r)))] W (Read a (b.txt ++ r) W))
    (hB : ∀ W : World, W.cell? ⟨0, 0, none⟩ = some (errV ep) → Calls Tryd.prog 33 #[.string (bs (b.txt ++ r))] W (Read b r W)) :
    Calls Tryd.prog 45 #[.string (bs (k :: (a.txt ++ (b.txt ++ r)))), .int .i64 2] w (Read (.two k a b) r w) := by
  have hg := World.block_lt_of_cell? _ _ hE
  have f2 := slice1 k (a.txt ++ (b.txt ++ r))
  have hsz : (bs (k :: (a.txt ++ (b.txt ++ r)))).size = a.txt.length + (b.txt.length + r.length) + 1 := by simp [bs_size]
  have hsr : (bs r).size = r.length := bs_size _
  have f3 : ∀ W : World, (Instr.slice 9 (.string (bs (k :: (a.txt ++ (b.txt ++ r))))) none (some (.int .i64 (((bs (k :: (a.txt ++ (b.txt ++ r)))).size : Int) - ((bs r).size : Int)))) none).run Tryd.prog W = .ok (.string (bs (Cnd.two k a b).txt)) W := fun W => by
    rw [hsz, hsr, show ((a.txt.length + (b.txt.length + r.length) + 1 : Nat) : Int) - (r.length : Int) = ((k :: (a.txt ++ b.txt)).length : Int) from by simp; omega, show k :: (a.txt ++ (b.txt ++ r)) = k :: (a.txt ++ b.txt) ++ r from by simp]
    exact sliceTo (k :: (a.txt ++ b.txt)) r W
  have hs0 : 0 < (bs (k :: (a.txt ++ (b.txt ++ r)))).size := by omega
  have hb1 : (bs (k :: (a.txt ++ (b.txt ++ r))))[0]'hs0 = k := rfl
  have hL : (bs (k :: (a.txt ++ (b.txt ++ r)))).size ≤ 2000000 := by omega
  have hu : (bs r).size ≤ (bs (k :: (a.txt ++ (b.txt ++ r)))).size := by omega
  have HA : Hid (∀ W : World, Below w.heap.size w W → Calls Tryd.prog 33 #[.string (bs (a.txt ++ (b.txt ++ r)))] W (Read a (b.txt ++ r) W)) := fun W hb => hA W (cellLater hE hb)
  have HB : Hid (∀ W : World, Below w.heap.size w W → Calls Tryd.prog 33 #[.string (bs (b.txt ++ r))] W (Read b r W)) := fun W hb => hB W (cellLater hE hb)
  obtain ⟨i0, hi, hz0, hz1, hz2⟩ := info_parts infoPred
  have HI := Lib.hid hi
  have HZ0 := Lib.hid hz0
  have HZ1 := Lib.hid hz1
  have HZ2 := Lib.hid hz2
  have hn33 : k ≠ 33 := by rcases isT_cases hk with rfl | rfl <;> decide
  have HF : Hid (∀ (p r cap : Nat) (y2 z2 : Value) (W : World), w.heap.size ≤ p → w.heap.size ≤ r → W.cell? ⟨p, 0, none⟩ = some (.slice (some ⟨r, 0, none⟩) 2 cap) → W.cell? ⟨r, 2, none⟩ = some y2 → W.cell? ⟨r, 5, none⟩ = some z2 → FnOk W w.heap.size y2 (evn a) → FnOk W w.heap.size z2 (evn b) →
      FnOk W w.heap.size (.func (.func (if k = 38 then 51 else 52)) #[] #[.pointer (some ⟨p, 0, none⟩)]) (evn (.two k a b))) :=
    fun p r cap y2 z2 W h1 h2 h3 h4 h5 h6 h7 => twoFn_ok k hk a b _ p r cap y2 z2 W h1 h2 h3 h4 h5 h6 h7
  have HC : Hid (∀ (x : Value) (ad : Option Addr) (n c : Nat) (_ : x = .slice ad n c) (W : World), Calls Tryd.prog 49 #[.int .u8 (k.toNat : Int), x] W fun e w' => e = .returned (.func (.func (if k = 38 then 51 else 52)) #[] #[.pointer (some ⟨W.heap.size, 0, none⟩)]) ∧
      w'.cell? ⟨W.heap.size, 0, none⟩ = some x ∧ Below W.heap.size W w') := fun x ad n c hx W => by
    have := compoundHolds_any k (.inr hk) x ad n c hx W
    rw [if_neg hn33] at this
    exact this
  clear hA hB hi hz0 hz1 hz2 hsz hsr hE hk hn33
  have HG : Hid (∀ (W : World) (x1 x2 : Value), (∃ r cap : Nat, x1 = .slice (some ⟨r, 0, none⟩) 2 cap ∧ w.heap.size ≤ r ∧ (∃ y0 y1 y2, W.cell? ⟨r, 0, none⟩ = some y0 ∧ W.cell? ⟨r, 1, none⟩ = some y1 ∧ W.cell? ⟨r, 2, none⟩ = some y2 ∧ CRep W w.heap.size a y0 y1 y2) ∧ ∃ z0 z1 z2, W.cell? ⟨r, 3, none⟩ = some z0 ∧ W.cell? ⟨r, 4, none⟩ = some z1 ∧ W.cell? ⟨r, 5, none⟩ = some z2 ∧ CRep W w.heap.size b z0 z1 z2) → FnOk W w.heap.size x2 (evn (.two k a b)) → CRep W w.heap.size (.two k a b) (.string (bs (Cnd.two k a b).txt)) x1 x2) :=
    fun W x1 x2 h1 h2 => ⟨rfl, h1, h2⟩
  generalize (if k = 38 then 51 else 52) = F at *
  generalize bs (Cnd.two k a b).txt = tw at *
  generalize bs (k :: (a.txt ++ (b.txt ++ r))) = s at *
  generalize bs (a.txt ++ (b.txt ++ r)) = t at *
  unfold Read at HA HB ⊢
  generalize bs (b.txt ++ r) = t2 at *
  generalize bs r = u at *
  have hk8 : k.toNat < 256 := k.toNat_lt
  go_enter Tryd.func45, Tryd.ntmps45
  go_wp2_with fail
  refine wp_loop_rounds 3 ?_
  rw [rounds_succ]
  go_wp2_with fail
  refine (HA.out _ (below_alloc1 _ _)).mono ?_
  rintro e w1 ⟨x0, x1, x2, rfl, hR, b1⟩
  have HR : Hid (CRep w1 (w.heap.size + 1) a x0 x1 x2) := by
    show CRep w1 (w.heap.size + 1) a x0 x1 x2
    simpa using hR
  obtain ⟨ad, n1, c1, k1, caps, rfl, rfl, rfl⟩ := hR.form
  have s1 := b1.size
  simp at s1
  have R1 : Hid (w1.heap[w.heap.size]? = some (.cells #[.string ⟨#[]⟩, .slice none 0 0, .nilFunc] 54)) := (b1.block _ (by simp)).trans (heap_alloc_new w _)
  have B1 : Hid (Below w.heap.size w w1) := (below_alloc1 _ _).trans (b1.mono (by simp))
  clear hR b1 HA
  generalize bs a.txt = ta at *
  go_wp2_with (at_builtin; refine wpList_append_own _ rfl _ _ 51 rfl w1.heap.size 54 i0 (.agg #[.string ⟨#[]⟩, .slice none 0 0, .nilFunc]) 3 48 Tryd.underlying51 HI.out HZ0.out HZ1.out HZ2.out rfl (by decide) _ _ _ rfl (World.ownsRow_nil _ _ _ _) ⟨w1.heap.size + 1, 0, none⟩ 1 1 [.string ta, .slice ad n1 c1, .func (.func k1) #[] caps] rfl rfl ?c1 ?c2 ?c3 ?c4 ?c5 ?_)
  case c1 =>
    intro j u hj
    match j, hj with
    | 0, hj => simp at hj; subst hj; simp [Addr.add]
    | 1, hj => simp at hj; subst hj; simp [Addr.add]
    | 2, hj => simp at hj; subst hj; simp [Addr.add]
  case c2 => intro u hu; simp at hu; rcases hu with rfl | rfl | rfl <;> rfl
  case c3 => unfold maxLen; omega
  case c4 => omega
  case c5 => simp; omega
  intro v' w5 hown5 hg5 hnil5
  clear hnil5
  have s5 := hg5.size
  simp at s5
  have B5 : Hid (Below w1.heap.size w1 w5) := (below_alloc2 _ _ _).trans ⟨hg5.os, hg5.tape, hg5.output, hg5.size, fun i hi => hg5.block i (by simp; omega) (by simp [Value.ownBlock])⟩
  obtain ⟨g, cap, rfl, hgb, hgl, -⟩ := rowOne hown5
  have HO5 := Lib.hid hown5
  clear hown5 hg5
  go_wp2_with fail
  rw [rounds_succ]
  go_wp2_with fail
  refine (HB.out _ (B1.out.trans (B5.out.mono (by omega)))).mono ?_
  rintro e w7 ⟨y0, y1, y2, rfl, hR2, b7⟩
  have HR2 := Lib.hid hR2
  obtain ⟨ad2, n2, c2, k2, caps2, rfl, rfl, rfl⟩ := hR2.form
  have s7 := b7.size
  have B7 := Lib.hid b7
  have HO7 : Hid (w7.ownsRow w1.heap.size 54 3 (.slice (some ⟨g, 0, none⟩) 1 cap) 1 [.string ta, .slice ad n1 c1, .func (.func k1) #[] caps]) := rowBelow HO5.out b7
  clear hR2 b7 HB HO5
  generalize bs b.txt = tb at *
  go_wp2_with (at_builtin; refine wpList_append_own _ rfl _ _ 51 rfl w1.heap.size 54 i0 (.agg #[.string ⟨#[]⟩, .slice none 0 0, .nilFunc]) 3 48 Tryd.underlying51 HI.out HZ0.out HZ1.out HZ2.out rfl (by decide) _ _ _ rfl ((HO7.out.alloc _).alloc _) ⟨w7.heap.size + 1, 0, none⟩ 1 1 [.string tb, .slice ad2 n2 c2, .func (.func k2) #[] caps2] rfl rfl ?c1 ?c2 ?c3 ?c4 ?c5 ?_)
  case c1 =>
    intro j u hj
    match j, hj with
    | 0, hj => simp at hj; subst hj; simp [Addr.add]
    | 1, hj => simp at hj; subst hj; simp [Addr.add]
    | 2, hj => simp at hj; subst hj; simp [Addr.add]
  case c2 => intro u hu; simp at hu; rcases hu with rfl | rfl | rfl <;> rfl
  case c3 => unfold maxLen; omega
  case c4 => omega
  case c5 => simp; omega
  intro v'' w9 hown9 hg9 hnil9
  clear hnil9
  have s9 := hg9.size
  simp at s9
  have O9 : Hid (∀ i, i < w7.heap.size → i ≠ g → w9.heap[i]? = w7.heap[i]?) := fun i hi hne =>
    (hg9.block i (by simp; omega) (by intro e; cases e; exact hne rfl)).trans ((Below.heap_alloc _ _ _ (by simp; omega)).trans (Below.heap_alloc _ _ _ hi))
  have B9 : Hid (Below w.heap.size w w9) := ⟨hg9.os.trans (B7.out.os.trans (B5.out.os.trans B1.out.os)), hg9.tape.trans (B7.out.tape.trans (B5.out.tape.trans B1.out.tape)), hg9.output.trans (B7.out.output.trans (B5.out.output.trans B1.out.output)), by omega,
    fun i hi => (O9.out i (by omega) (by omega)).trans ((B7.out.block i (by omega)).trans ((B5.out.block i (by omega)).trans (B1.out.block i hi)))⟩
  have A9 : Hid (Ag (w.heap.size + 1) w1 w9) := ⟨by omega, fun i h0 h1 => (O9.out i (by omega) (by omega)).trans ((B7.out.block i (by omega)).trans (B5.out.block i h1))⟩
  have A9' : Hid (Ag w5.heap.size w7 w9) := ⟨by omega, fun i h0 h1 => O9.out i h1 (by omega)⟩
  have R9 : Hid (w9.heap[w.heap.size]? = some (.cells #[.string ⟨#[]⟩, .slice none 0 0, .nilFunc] 54)) := (O9.out _ (by omega) (by omega)).trans ((B7.out.block _ (by omega)).trans ((B5.out.block _ (by omega)).trans R1.out))
  obtain ⟨g2, cap2, rfl, hgb2, hgl2, ⟨e0, e1, e2⟩, d0, d1, d2⟩ := rowTwo hown9
  have E0 := Lib.hid e0
  have E1 := Lib.hid e1
  have E2 := Lib.hid e2
  have D0 := Lib.hid d0
  have D1 := Lib.hid d1
  have D2 := Lib.hid d2
  clear hown9 hg9 e0 e1 e2 d0 d1 d2 O9 HO7 B7 B5 B1 R1
  go_wp2_with fail
  rw [rounds_succ]
  go_wp2_with fail
  refine (HC.out _ _ _ _ rfl _).mono ?_
  rintro e w6 ⟨rfl, hc6, b6⟩
  have s6 := b6.size
  have R6 : Hid (w6.heap[w.heap.size]? = some (.cells #[.string ⟨#[]⟩, .slice none 0 0, .nilFunc] 54)) := (b6.block _ (by omega)).trans R9.out
  have hlt := World.block_lt_of_cell? _ _ hc6
  simp at hlt
  have HC6 := Lib.hid hc6
  have A6 : Hid (Ag (w.heap.size + 1) w1 w6) := A9.out.trans (Ag.of b6 (Nat.le_refl _))
  have A6' : Hid (Ag w5.heap.size w7 w6) := A9'.out.trans (Ag.of b6 (Nat.le_refl _))
  have HB6 : Hid (Below w.heap.size w w6) := B9.out.trans (b6.mono (by omega))
  have K0 : Hid (w6.cell? ⟨g2, 0, none⟩ = some (.string ta)) := cellLater E0.out b6
  have K1 : Hid (w6.cell? ⟨g2, 1, none⟩ = some (.slice ad n1 c1)) := cellLater E1.out b6
  have K2 : Hid (w6.cell? ⟨g2, 2, none⟩ = some (.func (.func k1) #[] caps)) := cellLater E2.out b6
  have J0 : Hid (w6.cell? ⟨g2, 3, none⟩ = some (.string tb)) := cellLater D0.out b6
  have J1 : Hid (w6.cell? ⟨g2, 4, none⟩ = some (.slice ad2 n2 c2)) := cellLater D1.out b6
  have J2 : Hid (w6.cell? ⟨g2, 5, none⟩ = some (.func (.func k2) #[] caps2)) := cellLater D2.out b6
  obtain ⟨ra, rb, rc, rf⟩ := trioCellsP R6.out
  have hng : g2 ≠ w.heap.size := by omega
  have hnb : w9.heap.size ≠ w.heap.size := by omega
  clear hc6 b6 E0 E1 E2 D0 D1 D2 R6 R9 A9 A9' B9 HC
  go_wp2
  have AF : Ag (w.heap.size + 1) w6 (((w6.setCell ⟨w.heap.size, 0, none⟩ (.string tw)).setCell ⟨w.heap.size, 1, none⟩ (.slice (some ⟨g2, 0, none⟩) 2 cap2)).setCell ⟨w.heap.size, 2, none⟩ (.func (.func F) #[] #[.pointer (some ⟨w9.heap.size, 0, none⟩)])) :=
    (((Ag.refl _ _).set (by show w.heap.size < _; omega) _).set (by show w.heap.size < _; omega) _).set (by show w.heap.size < _; omega) _
  refine bodyPost_ret (v := .tuple #[.agg #[.string tw, .slice (some ⟨g2, 0, none⟩) 2 cap2, .func (.func F) #[] #[.pointer (some ⟨w9.heap.size, 0, none⟩)]], .string u, .nilIface]) (by simp [results, Tryd.results45, go_sem, ra, rb, rc]) rfl ?_
  have hRa := CRep.mono (base' := w.heap.size) (by omega) (CRep.later (A6.out.trans AF) HR.out)
  have hRb := CRep.mono (base' := w.heap.size) (by omega) (CRep.later (A6'.out.trans (AF.mono (by omega))) HR2.out)
  have k0 := cellAg K0.out (by omega) AF
  have k1' := cellAg K1.out (by omega) AF
  have k2' := cellAg K2.out (by omega) AF
  have j0 := cellAg J0.out (by omega) AF
  have j1 := cellAg J1.out (by omega) AF
  have j2 := cellAg J2.out (by omega) AF
  have k6 := cellAg HC6.out (by omega) AF
  exact ⟨_, _, _, rfl, HG.out _ _ _ ⟨g2, cap2, rfl, by omega, ⟨_, _, _, k0, k1', k2', hRa⟩, _, _, _, j0, j1, j2, hRb⟩ (HF.out _ g2 cap2 _ _ _ (by omega) (by omega) k6 k2' j2 hRa.fn hRb.fn),
    ((HB6.out.setCell (Nat.le_refl _) _).setCell (Nat.le_refl _) _).setCell (Nat.le_refl _) _⟩

end Go.Proofs.YtcipidcnkllanaaDoor

namespace Go.Proofs.YtcipidcnkllanaaDoor
open Go.ChangeShapes Go.WideShapes Go.ChangeAt Go.RowKit Go.Joins
set_option linter.unusedVariables false

set_option maxRecDepth 100000 in
set_option maxHeartbeats 4000000 in
theorem readComp_fail1 (k : UInt8) (l : List UInt8) (hl : l.length ≤ 1048576) (n : Int) (hn : 0 < n) (ep : Addr) (w : World) (hE : w.cell? ⟨0, 0, none⟩ = some (errV ep))
    (hA : ∀ W : World, W.cell? ⟨0, 0, none⟩ = some (errV ep) → Calls Tryd.prog 33 #[.string (bs l)] W (Fails ep W)) :
    Calls Tryd.prog 45 #[.string (bs (k :: l)), .int .i64 n] w (Fails ep w) := by
  have hg := World.block_lt_of_cell? _ _ hE
  have f2 := slice1 k l
  have HA : Hid (∀ W : World, Below w.heap.size w W → Calls Tryd.prog 33 #[.string (bs l)] W (Fails ep W)) := fun W hb => hA W (cellLater hE hb)
  have hL : (bs (k :: l)).size ≤ 2000000 := by rw [bs_size]; simp; omega
  clear hA hE hl
  unfold Fails errV at *
  generalize bs (k :: l) = s at *
  generalize bs l = t at *
  go_enter Tryd.func45, Tryd.ntmps45
  go_wp2_with fail
  refine wp_loop_rounds 1 ?_
  rw [rounds_succ]
  go_wp2_with fail
  refine (HA.out _ (below_alloc1 _ _)).mono ?_
  rintro e w1 ⟨rfl, b1⟩
  have s1 := b1.size
  simp at s1
  have R1 : Hid (w1.heap[w.heap.size]? = some (.cells #[.string ⟨#[]⟩, .slice none 0 0, .nilFunc] 54)) := (b1.block _ (by simp)).trans (heap_alloc_new w _)
  have B1 : Hid (Below w.heap.size w w1) := (below_alloc1 _ _).trans (b1.mono (by simp))
  obtain ⟨ra, rb, rc, rf⟩ := trioCellsP R1.out
  have z0 : w.heap.size < w1.heap.size := by omega
  have n0 : w.heap.size ≠ w1.heap.size := by omega
  clear b1 HA R1
  go_wp2
  refine bodyPost_ret (v := .tuple #[.agg #[.string ⟨#[]⟩, .slice none 0 0, .nilFunc], .string ⟨#[]⟩, .iface 103 (.pointer (some ep))]) (by simp [results, Tryd.results45, go_sem, ra, rb, rc, z0]) rfl ?_
  exact ⟨rfl, by repeat (first | exact B1.out | refine Below.drew ?_ | refine Below.setCell ?_ (by first | exact Nat.le_refl _ | (simp; omega)) _ | refine Below.alloc ?_ (by first | omega | (simp; omega)) _)⟩

set_option maxHeartbeats 1000000 in
theorem first_one (x : UInt8) (b : Bool) (hx : x = 48 ∧ b = false ∨ x = 49 ∧ b = true) (r : List UInt8) (hl : r.length ≤ 1048576) (w : World) :
    Calls Tryd.prog 33 #[.string (bs (x :: r))] w (Read (.one b) r w) := by
  have f2 := slice1 x r
  have f3 : ∀ W : World, (Instr.slice 9 (.string (bs (x :: r))) none (some (.int .i64 1)) none).run Tryd.prog W = .ok (.string (bs [x])) W := sliceTo [x] r
  have hs0 : 0 < (bs (x :: r)).size := by simp [bs_size]
  have hb1 : (bs (x :: r))[0]'hs0 = x := rfl
  have hq : ((bs (x :: r)).toList == []) = false := by rw [bs_toList]; rfl
  have hL : (bs (x :: r)).size ≤ 2000000 := by rw [bs_size]; simp; omega
  have HC : Hid (∀ W : World, Calls Tryd.prog 43 #[.string (bs [x])] W fun e w' => ∃ x0 x1 x2, e = .returned (.agg #[x0, x1, x2]) ∧ CRep w' W.heap.size (.one b) x0 x1 x2 ∧ Below W.heap.size W w') := by
    have h := constantPred_any b
    rcases hx with ⟨rfl, rfl⟩ | ⟨rfl, rfl⟩
    · exact h
    · exact h
  have HC2 : Hid (Calls Tryd.prog 43 #[.string (bs [x])] (w.alloc (.cells #[.string ⟨#[]⟩, .slice none 0 0, .nilFunc] 54)).drew fun e w1 => ∃ (ad : Option Addr) (n1 c1 k1 : Nat) (caps : Array Value),
      e = .returned (.agg #[.string (bs (Cnd.one b).txt), .slice ad n1 c1, .func (.func k1) #[] caps]) ∧ Hid (CRep w1 (w.heap.size + 1) (.one b) (.string (bs (Cnd.one b).txt)) (.slice ad n1 c1) (.func (.func k1) #[] caps)) ∧ Hid (Below w.heap.size w w1) ∧
      w1.cell? ⟨w.heap.size, 0, none⟩ = some (.string ⟨#[]⟩) ∧ w1.cell? ⟨w.heap.size, 1, none⟩ = some (.slice none 0 0) ∧ w1.cell? ⟨w.heap.size, 2, none⟩ = some .nilFunc ∧ (∀ j, w1.frozen? ⟨w.heap.size, j, none⟩ = false) ∧ w.heap.size < w1.heap.size) := by
    refine (HC.out _).mono ?_
    rintro e w1 ⟨x0, x1, x2, rfl, hR, b1⟩
    obtain ⟨ad, n1, c1, k1, caps, rfl, rfl, rfl⟩ := hR.form
    have s1 := b1.size
    obtain ⟨ra, rb, rc, rf⟩ := trioCellsP ((b1.block w.heap.size (by simp [World.drew])).trans (heap_alloc_new w _))
    have hs : ((w.alloc (.cells #[.string ⟨#[]⟩, .slice none 0 0, .nilFunc] 54)).drew).heap.size = w.heap.size + 1 := by simp [World.drew]
    rw [hs] at hR b1 s1
    exact ⟨ad, n1, c1, k1, caps, rfl, hR, (below_alloc1 _ _).drew.trans (b1.mono (by omega)), ra, rb, rc, rf, by omega⟩
  have HG : Hid (∀ (W : World) (x1 x2 : Value), CRep W w.heap.size (.one b) (.string (bs (Cnd.one b).txt)) x1 x2 → CRep W w.heap.size (.one b) (.string (bs (Cnd.one b).txt)) x1 x2) := fun W x1 x2 h => h
  unfold Read
  clear HC hl
  generalize bs (x :: r) = s at *
  generalize bs [x] = s1 at *
  generalize bs (Cnd.one b).txt = tw at *
  generalize bs r = u at *
  rcases hx with ⟨rfl, rfl⟩ | ⟨rfl, rfl⟩
  all_goals
    go_enter Tryd.func33, Tryd.ntmps33
    go_wp2_with fail
    go_region_with (go_at_call 43; (with_reducible refine HC2.out.mono ?_); rintro e w1 ⟨ad, n1, c1, k1, caps, rfl, HR, B1, ra, rb, rc, rf, z0⟩)
    go_wp2
    refine bodyPost_ret (v := .tuple #[.agg #[.string tw, .slice ad n1 c1, .func (.func k1) #[] caps], .string u, .nilIface]) (by simp [results, Tryd.results33, go_sem, ra, rb, rc]) rfl ?_
    refine ⟨_, _, _, rfl, CRep.mono (base := w.heap.size + 1) (by omega) (CRep.later (w := w1) ?_ HR.out), ?_⟩
    · repeat (first | exact Ag.refl _ _ | refine Ag.set ?_ (by show w.heap.size < _; omega) _ | refine Ag.drew ?_)
    · repeat (first | exact B1.out | refine Below.drew ?_ | refine Below.setCell ?_ (by first | exact Nat.le_refl _ | (simp; omega)) _ | refine Below.alloc ?_ (by first | omega | (simp; omega)) _)

end Go.Proofs.YtcipidcnkllanaaDoor

namespace Go.Proofs.YtcipidcnkllanaaDoor
open Go.ChangeShapes Go.WideShapes Go.ChangeAt Go.RowKit Go.Joins
set_option linter.unusedVariables false

/-- What a call leaves that reads a condition, told where the caller's result has a block of its own. -/
def ReadIn (c : Cnd) (u : ByteArray) (w : World) (e : Ending) (w1 : World) : Prop := ∃ (tw : ByteArray) (ad : Option Addr) (n1 c1 k1 : Nat) (caps : Array Value),
  e = .returned (.tuple #[.agg #[.string tw, .slice ad n1 c1, .func (.func k1) #[] caps], .string u, .nilIface]) ∧ Hid (CRep w1 (w.heap.size + 1) c (.string tw) (.slice ad n1 c1) (.func (.func k1) #[] caps)) ∧ Hid (Below w.heap.size w w1) ∧
  w1.cell? ⟨w.heap.size, 0, none⟩ = some (.string ⟨#[]⟩) ∧ w1.cell? ⟨w.heap.size, 1, none⟩ = some (.slice none 0 0) ∧ w1.cell? ⟨w.heap.size, 2, none⟩ = some .nilFunc ∧ (∀ j, w1.frozen? ⟨w.heap.size, j, none⟩ = false) ∧ w.heap.size < w1.heap.size
def FailIn (ep : Addr) (w : World) (e : Ending) (w1 : World) : Prop :=
  e = .returned (.tuple #[.agg #[.string ⟨#[]⟩, .slice none 0 0, .nilFunc], .string ⟨#[]⟩, .iface 103 (.pointer (some ep))]) ∧ Hid (Below w.heap.size w w1) ∧
  w1.cell? ⟨w.heap.size, 0, none⟩ = some (.string ⟨#[]⟩) ∧ w1.cell? ⟨w.heap.size, 1, none⟩ = some (.slice none 0 0) ∧ w1.cell? ⟨w.heap.size, 2, none⟩ = some .nilFunc ∧ (∀ j, w1.frozen? ⟨w.heap.size, j, none⟩ = false) ∧ w.heap.size < w1.heap.size

theorem readIn {G : Nat} {args : Array Value} {c : Cnd} {r : List UInt8} {w : World} (h : ∀ W : World, Below w.heap.size w W → Calls Tryd.prog G args W (Read c r W)) :
    Calls Tryd.prog G args (w.alloc (.cells #[.string ⟨#[]⟩, .slice none 0 0, .nilFunc] 54)) (ReadIn c (bs r) w) := by
  refine (h _ (below_alloc1 _ _)).mono ?_
  rintro e w1 ⟨x0, x1, x2, rfl, hR, b1⟩
  obtain ⟨ad, n1, c1, k1, caps, rfl, rfl, rfl⟩ := hR.form
  have s1 := b1.size
  obtain ⟨ra, rb, rc, rf⟩ := trioCellsP ((b1.block w.heap.size (by simp)).trans (heap_alloc_new w _))
  have hs : (w.alloc (.cells #[.string ⟨#[]⟩, .slice none 0 0, .nilFunc] 54)).heap.size = w.heap.size + 1 := by simp
  rw [hs] at hR b1 s1
  exact ⟨_, ad, n1, c1, k1, caps, rfl, hR, (below_alloc1 _ _).trans (b1.mono (by omega)), ra, rb, rc, rf, by omega⟩
theorem failIn {G : Nat} {args : Array Value} {ep : Addr} {w : World} (h : ∀ W : World, Below w.heap.size w W → Calls Tryd.prog G args W (Fails ep W)) :
    Calls Tryd.prog G args (w.alloc (.cells #[.string ⟨#[]⟩, .slice none 0 0, .nilFunc] 54)) (FailIn ep w) := by
  refine (h _ (below_alloc1 _ _)).mono ?_
  rintro e w1 ⟨rfl, b1⟩
  have s1 := b1.size
  obtain ⟨ra, rb, rc, rf⟩ := trioCellsP ((b1.block w.heap.size (by simp)).trans (heap_alloc_new w _))
  have hs : (w.alloc (.cells #[.string ⟨#[]⟩, .slice none 0 0, .nilFunc] 54)).heap.size = w.heap.size + 1 := by simp
  rw [hs] at b1 s1
  exact ⟨rfl, (below_alloc1 _ _).trans (b1.mono (by omega)), ra, rb, rc, rf, by omega⟩

set_option maxHeartbeats 4000000 in
theorem first_fld_yes (k : UInt8) (l : List UInt8) (hl : l.length ≤ 1048576) (hk : isF k = true) (c : Cnd) (r : List UInt8) (w : World) (h : ∀ W : World, Below w.heap.size w W → Calls Tryd.prog 44 #[.string (bs (k :: l)), .func (.func (fieldF k)) #[] #[]] W (Read c r W)) :
    Calls Tryd.prog 33 #[.string (bs (k :: l))] w (Read c r w) := by
  have hs0 : 0 < (bs (k :: l)).size := by simp [bs_size]
  have hb1 : (bs (k :: l))[0]'hs0 = k := rfl
  have hq : ((bs (k :: l)).toList == []) = false := by rw [bs_toList]; rfl
  have hL : (bs (k :: l)).size ≤ 2000000 := by rw [bs_size]; simp; omega
  have HC := Lib.hid (readIn h)
  unfold Read ReadIn at *
  generalize bs r = u at *
  clear h hl
  generalize bs (k :: l) = s at *
  rcases isF_cases hk with rfl | rfl | rfl
  all_goals
    simp only [show fieldF 115 = 40 from rfl, show fieldF 100 = 41 from rfl, show fieldF 116 = 42 from rfl] at HC
    clear hk
    go_enter Tryd.func33, Tryd.ntmps33
    go_wp2_with fail
    refine HC.out.mono ?_
    rintro e w1 ⟨tw, ad, n1, c1, k1, caps, rfl, HR, B1, ra, rb, rc, rf, z0⟩
    go_wp2
    refine bodyPost_ret (v := .tuple #[.agg #[.string tw, .slice ad n1 c1, .func (.func k1) #[] caps], .string u, .nilIface]) (by simp [results, Tryd.results33, go_sem, ra, rb, rc]) rfl ?_
    refine ⟨_, _, _, rfl, CRep.mono (base := w.heap.size + 1) (by omega) (CRep.later (w := w1) ?_ HR.out), ?_⟩
    · repeat (first | exact Ag.refl _ _ | refine Ag.set ?_ (by show w.heap.size < _; omega) _ | refine Ag.drew ?_)
    · repeat (first | exact B1.out | refine Below.drew ?_ | refine Below.setCell ?_ (by first | exact Nat.le_refl _ | (simp; omega)) _ | refine Below.alloc ?_ (by first | omega | (simp; omega)) _)

set_option maxHeartbeats 4000000 in
theorem first_fld_no (k : UInt8) (l : List UInt8) (hl : l.length ≤ 1048576) (hk : isF k = true) (ep : Addr) (w : World) (h : ∀ W : World, Below w.heap.size w W → Calls Tryd.prog 44 #[.string (bs (k :: l)), .func (.func (fieldF k)) #[] #[]] W (Fails ep W)) :
    Calls Tryd.prog 33 #[.string (bs (k :: l))] w (Fails ep w) := by
  have hs0 : 0 < (bs (k :: l)).size := by simp [bs_size]
  have hb1 : (bs (k :: l))[0]'hs0 = k := rfl
  have hq : ((bs (k :: l)).toList == []) = false := by rw [bs_toList]; rfl
  have hL : (bs (k :: l)).size ≤ 2000000 := by rw [bs_size]; simp; omega
  have HC := Lib.hid (failIn h)
  unfold Fails FailIn errV at *
  clear h hl
  generalize bs (k :: l) = s at *
  rcases isF_cases hk with rfl | rfl | rfl
  all_goals
    simp only [show fieldF 115 = 40 from rfl, show fieldF 100 = 41 from rfl, show fieldF 116 = 42 from rfl] at HC
    clear hk
    go_enter Tryd.func33, Tryd.ntmps33
    go_wp2_with fail
    refine HC.out.mono ?_
    rintro e w1 ⟨rfl, B1, ra, rb, rc, rf, z0⟩
    go_wp2
    refine bodyPost_ret (v := .tuple #[.agg #[.string ⟨#[]⟩, .slice none 0 0, .nilFunc], .string ⟨#[]⟩, .iface 103 (.pointer (some ep))]) (by simp [results, Tryd.results33, go_sem, ra, rb, rc]) rfl ?_
    refine ⟨rfl, ?_⟩
    repeat (first | exact B1.out | refine Below.drew ?_ | refine Below.setCell ?_ (by first | exact Nat.le_refl _ | (simp; omega)) _ | refine Below.alloc ?_ (by first | omega | (simp; omega)) _)

set_option maxHeartbeats 4000000 in
theorem first_neg_yes (k : UInt8) (l : List UInt8) (hl : l.length ≤ 1048576) (hk : k = 33) (c : Cnd) (r : List UInt8) (w : World) (h : ∀ W : World, Below w.heap.size w W → Calls Tryd.prog 45 #[.string (bs (k :: l)), .int .i64 1] W (Read c r W)) :
    Calls Tryd.prog 33 #[.string (bs (k :: l))] w (Read c r w) := by
  have hs0 : 0 < (bs (k :: l)).size := by simp [bs_size]
  have hb1 : (bs (k :: l))[0]'hs0 = k := rfl
  have hq : ((bs (k :: l)).toList == []) = false := by rw [bs_toList]; rfl
  have hL : (bs (k :: l)).size ≤ 2000000 := by rw [bs_size]; simp; omega
  have HC := Lib.hid (readIn h)
  unfold Read ReadIn at *
  generalize bs r = u at *
  clear h hl
  generalize bs (k :: l) = s at *
  subst hk
  all_goals
    go_enter Tryd.func33, Tryd.ntmps33
    go_wp2_with fail
    refine HC.out.mono ?_
    rintro e w1 ⟨tw, ad, n1, c1, k1, caps, rfl, HR, B1, ra, rb, rc, rf, z0⟩
    go_wp2
    refine bodyPost_ret (v := .tuple #[.agg #[.string tw, .slice ad n1 c1, .func (.func k1) #[] caps], .string u, .nilIface]) (by simp [results, Tryd.results33, go_sem, ra, rb, rc]) rfl ?_
    refine ⟨_, _, _, rfl, CRep.mono (base := w.heap.size + 1) (by omega) (CRep.later (w := w1) ?_ HR.out), ?_⟩
    · repeat (first | exact Ag.refl _ _ | refine Ag.set ?_ (by show w.heap.size < _; omega) _ | refine Ag.drew ?_)
    · repeat (first | exact B1.out | refine Below.drew ?_ | refine Below.setCell ?_ (by first | exact Nat.le_refl _ | (simp; omega)) _ | refine Below.alloc ?_ (by first | omega | (simp; omega)) _)

set_option maxHeartbeats 4000000 in
theorem first_neg_no (k : UInt8) (l : List UInt8) (hl : l.length ≤ 1048576) (hk : k = 33) (ep : Addr) (w : World) (h : ∀ W : World, Below w.heap.size w W → Calls Tryd.prog 45 #[.string (bs (k :: l)), .int .i64 1] W (Fails ep W)) :
    Calls Tryd.prog 33 #[.string (bs (k :: l))] w (Fails ep w) := by
  have hs0 : 0 < (bs (k :: l)).size := by simp [bs_size]
  have hb1 : (bs (k :: l))[0]'hs0 = k := rfl
  have hq : ((bs (k :: l)).toList == []) = false := by rw [bs_toList]; rfl
  have hL : (bs (k :: l)).size ≤ 2000000 := by rw [bs_size]; simp; omega
  have HC := Lib.hid (failIn h)
  unfold Fails FailIn errV at *
  clear h hl
  generalize bs (k :: l) = s at *
  subst hk
  all_goals
    go_enter Tryd.func33, Tryd.ntmps33
    go_wp2_with fail
    refine HC.out.mono ?_
    rintro e w1 ⟨rfl, B1, ra, rb, rc, rf, z0⟩
    go_wp2
    refine bodyPost_ret (v := .tuple #[.agg #[.string ⟨#[]⟩, .slice none 0 0, .nilFunc], .string ⟨#[]⟩, .iface 103 (.pointer (some ep))]) (by simp [results, Tryd.results33, go_sem, ra, rb, rc]) rfl ?_
    refine ⟨rfl, ?_⟩
    repeat (first | exact B1.out | refine Below.drew ?_ | refine Below.setCell ?_ (by first | exact Nat.le_refl _ | (simp; omega)) _ | refine Below.alloc ?_ (by first | omega | (simp; omega)) _)

set_option maxHeartbeats 4000000 in
theorem first_two_yes (k : UInt8) (l : List UInt8) (hl : l.length ≤ 1048576) (hk : isT k = true) (c : Cnd) (r : List UInt8) (w : World) (h : ∀ W : World, Below w.heap.size w W → Calls Tryd.prog 45 #[.string (bs (k :: l)), .int .i64 2] W (Read c r W)) :
    Calls Tryd.prog 33 #[.string (bs (k :: l))] w (Read c r w) := by
  have hs0 : 0 < (bs (k :: l)).size := by simp [bs_size]
  have hb1 : (bs (k :: l))[0]'hs0 = k := rfl
  have hq : ((bs (k :: l)).toList == []) = false := by rw [bs_toList]; rfl
  have hL : (bs (k :: l)).size ≤ 2000000 := by rw [bs_size]; simp; omega
  have HC := Lib.hid (readIn h)
  unfold Read ReadIn at *
  generalize bs r = u at *
  clear h hl
  generalize bs (k :: l) = s at *
  rcases isT_cases hk with rfl | rfl
  all_goals
    clear hk
    go_enter Tryd.func33, Tryd.ntmps33
    go_wp2_with fail
    refine HC.out.mono ?_
    rintro e w1 ⟨tw, ad, n1, c1, k1, caps, rfl, HR, B1, ra, rb, rc, rf, z0⟩
    go_wp2
    refine bodyPost_ret (v := .tuple #[.agg #[.string tw, .slice ad n1 c1, .func (.func k1) #[] caps], .string u, .nilIface]) (by simp [results, Tryd.results33, go_sem, ra, rb, rc]) rfl ?_
    refine ⟨_, _, _, rfl, CRep.mono (base := w.heap.size + 1) (by omega) (CRep.later (w := w1) ?_ HR.out), ?_⟩
    · repeat (first | exact Ag.refl _ _ | refine Ag.set ?_ (by show w.heap.size < _; omega) _ | refine Ag.drew ?_)
    · repeat (first | exact B1.out | refine Below.drew ?_ | refine Below.setCell ?_ (by first | exact Nat.le_refl _ | (simp; omega)) _ | refine Below.alloc ?_ (by first | omega | (simp; omega)) _)

set_option maxHeartbeats 4000000 in
theorem first_two_no (k : UInt8) (l : List UInt8) (hl : l.length ≤ 1048576) (hk : isT k = true) (ep : Addr) (w : World) (h : ∀ W : World, Below w.heap.size w W → Calls Tryd.prog 45 #[.string (bs (k :: l)), .int .i64 2] W (Fails ep W)) :
    Calls Tryd.prog 33 #[.string (bs (k :: l))] w (Fails ep w) := by
  have hs0 : 0 < (bs (k :: l)).size := by simp [bs_size]
  have hb1 : (bs (k :: l))[0]'hs0 = k := rfl
  have hq : ((bs (k :: l)).toList == []) = false := by rw [bs_toList]; rfl
  have hL : (bs (k :: l)).size ≤ 2000000 := by rw [bs_size]; simp; omega
  have HC := Lib.hid (failIn h)
  unfold Fails FailIn errV at *
  clear h hl
  generalize bs (k :: l) = s at *
  rcases isT_cases hk with rfl | rfl
  all_goals
    clear hk
    go_enter Tryd.func33, Tryd.ntmps33
    go_wp2_with fail
    refine HC.out.mono ?_
    rintro e w1 ⟨rfl, B1, ra, rb, rc, rf, z0⟩
    go_wp2
    refine bodyPost_ret (v := .tuple #[.agg #[.string ⟨#[]⟩, .slice none 0 0, .nilFunc], .string ⟨#[]⟩, .iface 103 (.pointer (some ep))]) (by simp [results, Tryd.results33, go_sem, ra, rb, rc]) rfl ?_
    refine ⟨rfl, ?_⟩
    repeat (first | exact B1.out | refine Below.drew ?_ | refine Below.setCell ?_ (by first | exact Nat.le_refl _ | (simp; omega)) _ | refine Below.alloc ?_ (by first | omega | (simp; omega)) _)

end Go.Proofs.YtcipidcnkllanaaDoor

namespace Go.Proofs.YtcipidcnkllanaaDoor
open Go.ChangeShapes Go.WideShapes Go.ChangeAt Go.RowKit Go.Joins
set_option linter.unusedVariables false

set_option maxRecDepth 100000 in
set_option maxHeartbeats 8000000 in
theorem readComp_fail2 (k : UInt8) (a : Cnd) (r : List UInt8) (hl : a.txt.length + r.length ≤ 1048576) (ep : Addr) (w : World) (hE : w.cell? ⟨0, 0, none⟩ = some (errV ep))
    (hA : ∀ W : World, W.cell? ⟨0, 0, none⟩ = some (errV ep) → Calls Tryd.prog 33 #[.string (bs (a.txt ++ r))] W (Read a r W))
    (hB : ∀ W : World, W.cell? ⟨0, 0, none⟩ = some (errV ep) → Calls Tryd.prog 33 #[.string (bs r)] W (Fails ep W)) :
    Calls Tryd.prog 45 #[.string (bs (k :: (a.txt ++ r))), .int .i64 2] w (Fails ep w) := by
  have hg := World.block_lt_of_cell? _ _ hE
  have f2 := slice1 k (a.txt ++ r)
  have hs0 : 0 < (bs (k :: (a.txt ++ r))).size := by simp [bs_size]
  have hL : (bs (k :: (a.txt ++ r))).size ≤ 2000000 := by rw [bs_size]; simp; omega
  have HA : Hid (∀ W : World, Below w.heap.size w W → Calls Tryd.prog 33 #[.string (bs (a.txt ++ r))] W (Read a r W)) := fun W hb => hA W (cellLater hE hb)
  have HB : Hid (∀ W : World, Below w.heap.size w W → Calls Tryd.prog 33 #[.string (bs r)] W (Fails ep W)) := fun W hb => hB W (cellLater hE hb)
  obtain ⟨i0, hi, hz0, hz1, hz2⟩ := info_parts infoPred
  have HI := Lib.hid hi
  have HZ0 := Lib.hid hz0
  have HZ1 := Lib.hid hz1
  have HZ2 := Lib.hid hz2
  clear hA hB hi hz0 hz1 hz2 hE
  generalize bs (k :: (a.txt ++ r)) = s at *
  generalize bs (a.txt ++ r) = t at *
  unfold Read at HA
  unfold Fails errV at *
  generalize bs r = t2 at *
  go_enter Tryd.func45, Tryd.ntmps45
  go_wp2_with fail
  refine wp_loop_rounds 2 ?_
  rw [rounds_succ]
  go_wp2_with fail
  refine (HA.out _ (below_alloc1 _ _)).mono ?_
  rintro e w1 ⟨x0, x1, x2, rfl, hR, b1⟩
  have HR : Hid (CRep w1 (w.heap.size + 1) a x0 x1 x2) := by
    show CRep w1 (w.heap.size + 1) a x0 x1 x2
    simpa using hR
  obtain ⟨ad, n1, c1, k1, caps, rfl, rfl, rfl⟩ := hR.form
  have s1 := b1.size
  simp at s1
  have R1 : Hid (w1.heap[w.heap.size]? = some (.cells #[.string ⟨#[]⟩, .slice none 0 0, .nilFunc] 54)) := (b1.block _ (by simp)).trans (heap_alloc_new w _)
  have B1 : Hid (Below w.heap.size w w1) := (below_alloc1 _ _).trans (b1.mono (by simp))
  clear hR b1 HA
  generalize bs a.txt = ta at *
  go_wp2_with (at_builtin; refine wpList_append_own _ rfl _ _ 51 rfl w1.heap.size 54 i0 (.agg #[.string ⟨#[]⟩, .slice none 0 0, .nilFunc]) 3 48 Tryd.underlying51 HI.out HZ0.out HZ1.out HZ2.out rfl (by decide) _ _ _ rfl (World.ownsRow_nil _ _ _ _) ⟨w1.heap.size + 1, 0, none⟩ 1 1 [.string ta, .slice ad n1 c1, .func (.func k1) #[] caps] rfl rfl ?c1 ?c2 ?c3 ?c4 ?c5 ?_)
  case c1 =>
    intro j u hj
    match j, hj with
    | 0, hj => simp at hj; subst hj; simp [Addr.add]
    | 1, hj => simp at hj; subst hj; simp [Addr.add]
    | 2, hj => simp at hj; subst hj; simp [Addr.add]
  case c2 => intro u hu; simp at hu; rcases hu with rfl | rfl | rfl <;> rfl
  case c3 => unfold maxLen; omega
  case c4 => omega
  case c5 => simp; omega
  intro v' w5 hown5 hg5 hnil5
  clear hnil5
  have s5 := hg5.size
  simp at s5
  have B5 : Hid (Below w1.heap.size w1 w5) := (below_alloc2 _ _ _).trans ⟨hg5.os, hg5.tape, hg5.output, hg5.size, fun i hi => hg5.block i (by simp; omega) (by simp [Value.ownBlock])⟩
  obtain ⟨g, cap, rfl, hgb, hgl, -⟩ := rowOne hown5
  have HO5 := Lib.hid hown5
  clear hown5 hg5
  go_wp2_with fail
  rw [rounds_succ]
  go_wp2_with fail
  refine (HB.out _ (B1.out.trans (B5.out.mono (by omega)))).mono ?_
  rintro e w7 ⟨rfl, b7⟩
  have s7 := b7.size
  have R7 : Hid (w7.heap[w.heap.size]? = some (.cells #[.string ⟨#[]⟩, .slice none 0 0, .nilFunc] 54)) := (b7.block _ (by omega)).trans ((B5.out.block _ (by omega)).trans R1.out)
  have B7 : Hid (Below w.heap.size w w7) := B1.out.trans ((B5.out.mono (by omega)).trans (b7.mono (by omega)))
  obtain ⟨ra, rb, rc, rf⟩ := trioCellsP R7.out
  have z0 : w.heap.size < w7.heap.size := by omega
  have n0 : w.heap.size ≠ w7.heap.size := by omega
  clear b7 HB HO5 R7 R1 B1 B5
  go_wp2
  refine bodyPost_ret (v := .tuple #[.agg #[.string ⟨#[]⟩, .slice none 0 0, .nilFunc], .string ⟨#[]⟩, .iface 103 (.pointer (some ep))]) (by simp [results, Tryd.results45, go_sem, ra, rb, rc, z0]) rfl ?_
  exact ⟨rfl, by repeat (first | exact B7.out | refine Below.drew ?_ | refine Below.setCell ?_ (by first | exact Nat.le_refl _ | (simp; omega)) _ | refine Below.alloc ?_ (by first | omega | (simp; omega)) _)⟩

theorem byteNe {k : UInt8} {n : Nat} (hn : n < 256) (h : k ≠ UInt8.ofNat n) : ((k.toNat : Int) == (n : Int)) = false := by
  have : k.toNat ≠ n := fun e => h (by apply UInt8.toNat_inj.1; rw [e]; simp; omega)
  simp
  omega

set_option maxHeartbeats 1000000 in
theorem first_other (k : UInt8) (l : List UInt8) (hl : l.length ≤ 1048576) (h0 : k ≠ 48) (h1 : k ≠ 49) (hF : isF k = false) (h3 : k ≠ 33) (hT : isT k = false) (ep : Addr) (w : World) (hE : w.cell? ⟨0, 0, none⟩ = some (errV ep)) :
    Calls Tryd.prog 33 #[.string (bs (k :: l))] w (Fails ep w) := by
  have hg := World.block_lt_of_cell? _ _ hE
  have hs0 : 0 < (bs (k :: l)).size := by simp [bs_size]
  have hb1 : (bs (k :: l))[0]'hs0 = k := rfl
  have hq : ((bs (k :: l)).toList == []) = false := by rw [bs_toList]; rfl
  have hL : (bs (k :: l)).size ≤ 2000000 := by rw [bs_size]; simp; omega
  have n0 : ((k.toNat : Int) == 48) = false := byteNe (n := 48) (by omega) h0
  have n1 : ((k.toNat : Int) == 49) = false := byteNe (n := 49) (by omega) h1
  have n2 : ((k.toNat : Int) == 115) = false := byteNe (n := 115) (by omega) (by rintro rfl; cases hF)
  have n3 : ((k.toNat : Int) == 100) = false := byteNe (n := 100) (by omega) (by rintro rfl; cases hF)
  have n4 : ((k.toNat : Int) == 116) = false := byteNe (n := 116) (by omega) (by rintro rfl; cases hF)
  have n5 : ((k.toNat : Int) == 33) = false := byteNe (n := 33) (by omega) h3
  have n6 : ((k.toNat : Int) == 38) = false := byteNe (n := 38) (by omega) (by rintro rfl; cases hT)
  have n7 : ((k.toNat : Int) == 124) = false := byteNe (n := 124) (by omega) (by rintro rfl; cases hT)
  clear h0 h1 hF h3 hT hl
  unfold Fails errV at *
  generalize bs (k :: l) = s at *
  go_enter Tryd.func33, Tryd.ntmps33
  go_wp2_with fail
  go_region
  go_wp2
  refine bodyPost_ret (v := .tuple #[.agg #[.string ⟨#[]⟩, .slice none 0 0, .nilFunc], .string ⟨#[]⟩, .iface 103 (.pointer (some ep))]) (by simp [results, Tryd.results33, go_sem]) rfl ?_
  exact ⟨rfl, (below_alloc1 _ _).drew⟩

set_option maxHeartbeats 1000000 in
theorem first_nil (ep : Addr) (w : World) (hE : w.cell? ⟨0, 0, none⟩ = some (errV ep)) :
    Calls Tryd.prog 33 #[.string (bs [])] w (Fails ep w) := by
  have hg := World.block_lt_of_cell? _ _ hE
  have hq : ((bs []).toList == []) = true := by rw [bs_toList]; rfl
  unfold Fails errV at *
  generalize bs [] = s at *
  go_enter Tryd.func33, Tryd.ntmps33
  go_wp2_with fail
  go_region
  go_wp2
  refine bodyPost_ret (v := .tuple #[.agg #[.string ⟨#[]⟩, .slice none 0 0, .nilFunc], .string ⟨#[]⟩, .iface 103 (.pointer (some ep))]) (by simp [results, Tryd.results33, go_sem]) rfl ?_
  exact ⟨rfl, (below_alloc1 _ _).drew⟩

/-- Every condition is read. -/
theorem first_yes (ep : Addr) : ∀ (c : Cnd) (hk : c.ok = true) (r : List UInt8) (hl : c.txt.length + r.length ≤ 1048576) (w : World) (hE : w.cell? ⟨0, 0, none⟩ = some (errV ep)),
    Calls Tryd.prog 33 #[.string (bs (c.txt ++ r))] w (Read c r w)
  | .one b, hk, r, hl, w, hE => by
    simp [Cnd.txt] at hl
    cases b
    · exact first_one 48 false (.inl ⟨rfl, rfl⟩) r (by omega) w
    · exact first_one 49 true (.inr ⟨rfl, rfl⟩) r (by omega) w
  | .fld k d, hk, r, hl, w, hE => by
    simp [Cnd.ok] at hk
    simp [Cnd.txt] at hl
    exact first_fld_yes k (d :: r) (by simp; omega) hk.1 _ _ w fun W hb => readFieldPred_yes k d hk.1 hk.2 r (by omega) W
  | .neg a, hk, r, hl, w, hE => by
    simp [Cnd.txt] at hl
    refine first_neg_yes 33 (a.txt ++ r) (by simp; omega) rfl _ _ w fun W hb => readComp_neg a r (by omega) ep W (cellLater hE hb) fun W' hE' => first_yes ep a hk r (by omega) W' hE'
  | .two k a b, hk, r, hl, w, hE => by
    simp [Cnd.ok] at hk
    simp [Cnd.txt] at hl
    rw [show (Cnd.two k a b).txt ++ r = k :: (a.txt ++ (b.txt ++ r)) from by simp [Cnd.txt]]
    refine first_two_yes k (a.txt ++ (b.txt ++ r)) (by simp; omega) hk.1 _ _ w fun W hb => readComp_two k hk.1 a b r (by omega) ep W (cellLater hE hb) (fun W' hE' => first_yes ep a hk.2.1 (b.txt ++ r) (by simp; omega) W' hE') fun W' hE' => first_yes ep b hk.2.2 r (by omega) W' hE'

/-- What begins with none is told. -/
theorem first_no (ep : Addr) : ∀ (n : Nat) (l : List UInt8) (hn : l.length ≤ n) (h : rd l = none) (hl : l.length ≤ 1048576) (w : World) (hE : w.cell? ⟨0, 0, none⟩ = some (errV ep)),
    Calls Tryd.prog 33 #[.string (bs l)] w (Fails ep w)
  | n, [], hn, h, hl, w, hE => first_nil ep w hE
  | 0, k :: l, hn, h, hl, w, hE => by simp at hn
  | n + 1, k :: l, hn, h, hl, w, hE => by
    simp at hn hl
    by_cases h0 : k = 48
    · exact (rd_one (.inl h0) h).elim
    by_cases h1 : k = 49
    · exact (rd_one (.inr h1) h).elim
    cases hF : isF k
    · by_cases h3 : k = 33
      · subst h3
        exact first_neg_no 33 l (by omega) rfl ep w fun W hb => readComp_fail1 33 l (by omega) 1 (by omega) ep W (cellLater hE hb) fun W' hE' => first_no ep n l hn (rd_neg h) (by omega) W' hE'
      · cases hT : isT k
        · exact first_other k l (by omega) h0 h1 hF h3 hT ep w hE
        · rcases rd_two hT h with h2 | ⟨a, r, rfl, hka, h2⟩
          · exact first_two_no k l (by omega) hT ep w fun W hb => readComp_fail1 k l (by omega) 2 (by omega) ep W (cellLater hE hb) fun W' hE' => first_no ep n l hn h2 (by omega) W' hE'
          · have hal : a.txt.length + r.length ≤ 1048576 := by simpa using (by omega : (a.txt ++ r).length ≤ 1048576)
            have har : r.length ≤ n := by have := a.txt_pos; simp at hn; omega
            exact first_two_no k (a.txt ++ r) (by simp; omega) hT ep w fun W hb => readComp_fail2 k a r hal ep W (cellLater hE hb) (fun W' hE' => first_yes ep a hka r hal W' hE') fun W' hE' => first_no ep n r har h2 (by omega) W' hE'
    · rcases rd_fld hF h with rfl | ⟨d, r, rfl, hd⟩
      · exact first_fld_no k [] (by simp) hF ep w fun W hb => readFieldPred_short k _ ep W (cellLater hE hb)
      · exact first_fld_no k (d :: r) (by omega) hF ep w fun W hb => readFieldPred_bad k d hd r (by simp at hl; omega) _ ep W (cellLater hE hb)

end Go.Proofs.YtcipidcnkllanaaDoor

namespace Go.Proofs.YtcipidcnkllanaaDoor
open Go.ChangeShapes Go.WideShapes Go.ChangeAt Go.RowKit Go.Joins
set_option linter.unusedVariables false

/-- What a reading of a whole text leaves. -/
def Whole (c : Cnd) (w : World) (e : Ending) (w' : World) : Prop := ∃ (ad : Option Addr) (n1 c1 k1 : Nat) (caps : Array Value),
  e = .returned (.tuple #[.agg #[.string (bs c.txt), .slice ad n1 c1, .func (.func k1) #[] caps], .nilIface]) ∧ CRep w' w.heap.size c (.string (bs c.txt)) (.slice ad n1 c1) (.func (.func k1) #[] caps) ∧ Below w.heap.size w w'
def NoWhole (ep : Addr) (w : World) (e : Ending) (w' : World) : Prop :=
  e = .returned (.tuple #[.agg #[.string ⟨#[]⟩, .slice none 0 0, .nilFunc], errV ep]) ∧ Below w.heap.size w w'

set_option maxHeartbeats 1000000 in
theorem readPred_yes (c : Cnd) (hk : c.ok = true) (h16 : c.txt.length ≤ 16) (ep : Addr) (w : World) (hE : w.cell? ⟨0, 0, none⟩ = some (errV ep)) :
    Calls Tryd.prog 20 #[.string (bs c.txt)] w (Whole c w) := by
  have HC := Lib.hid (readIn (c := c) (r := []) (G := 33) (args := #[.string (bs (c.txt ++ []))]) (w := w) fun W hb => first_yes ep c hk [] (by simp; omega) W (cellLater hE hb))
  rw [List.append_nil] at HC
  have hL : (bs c.txt).size ≤ 16 := by rw [bs_size]; exact h16
  have hq : ((bs []).toList == []) = true := by rw [bs_toList]; rfl
  have HT : Hid (∀ (W : World) (b : Nat) (tw : ByteArray) (x1 x2 : Value), CRep W b c (.string tw) x1 x2 → tw = bs c.txt) := fun W b tw x1 x2 h => by
    have := h.text
    cases this
    rfl
  unfold ReadIn at HC
  unfold Whole
  generalize bs c.txt = s at *
  generalize bs [] = u at *
  clear hE h16 hk
  go_enter Tryd.func20, Tryd.ntmps20
  go_wp2_with fail
  refine HC.out.mono ?_
  rintro e w1 ⟨tw, ad, n1, c1, k1, caps, rfl, HR, B1, ra, rb, rc, rf, z0⟩
  obtain rfl := HT.out _ _ _ _ _ HR.out
  have n0 : w.heap.size ≠ w1.heap.size := by omega
  go_wp2
  refine bodyPost_ret (v := .tuple #[.agg #[.string tw, .slice ad n1 c1, .func (.func k1) #[] caps], .nilIface]) (by simp [results, Tryd.results20, go_sem, ra, rb, rc, z0]) rfl ?_
  refine ⟨ad, n1, c1, k1, caps, rfl, CRep.mono (base := w.heap.size + 1) (by omega) (CRep.later (w := w1) ?_ HR.out), ?_⟩
  · repeat (first | exact Ag.refl _ _ | refine Ag.set ?_ (by show w.heap.size < _; omega) _ | refine Ag.drew ?_ | refine Ag.alloc ?_ _)
  · repeat (first | exact B1.out | refine Below.drew ?_ | refine Below.setCell ?_ (by first | exact Nat.le_refl _ | (simp; omega)) _ | refine Below.alloc ?_ (by first | omega | (simp; omega)) _)

set_option maxHeartbeats 1000000 in
theorem readPred_long (s : ByteArray) (h16 : 16 < s.size) (hL : s.size ≤ 1048576) (ep : Addr) (w : World) (hE : w.cell? ⟨0, 0, none⟩ = some (errV ep)) :
    Calls Tryd.prog 20 #[.string s] w (NoWhole ep w) := by
  have hg := World.block_lt_of_cell? _ _ hE
  unfold NoWhole errV at *
  go_enter Tryd.func20, Tryd.ntmps20
  go_wp2_with fail
  go_region
  go_wp2
  refine bodyPost_ret (v := .tuple #[.agg #[.string ⟨#[]⟩, .slice none 0 0, .nilFunc], .iface 103 (.pointer (some ep))]) (by simp [results, Tryd.results20, go_sem]) rfl ?_
  exact ⟨rfl, (below_alloc1 _ _).drew⟩

set_option maxHeartbeats 1000000 in
theorem readPred_none (l : List UInt8) (h : rd l = none) (h16 : l.length ≤ 16) (ep : Addr) (w : World) (hE : w.cell? ⟨0, 0, none⟩ = some (errV ep)) :
    Calls Tryd.prog 20 #[.string (bs l)] w (NoWhole ep w) := by
  have HC := Lib.hid (failIn (ep := ep) (G := 33) (args := #[.string (bs l)]) (w := w) fun W hb => first_no ep _ l (Nat.le_refl _) h (by omega) W (cellLater hE hb))
  have hL : (bs l).size ≤ 16 := by rw [bs_size]; exact h16
  unfold FailIn at HC
  unfold NoWhole errV at *
  generalize bs l = s at *
  clear hE h16 h
  go_enter Tryd.func20, Tryd.ntmps20
  go_wp2_with fail
  refine HC.out.mono ?_
  rintro e w1 ⟨rfl, B1, ra, rb, rc, rf, z0⟩
  have n0 : w.heap.size ≠ w1.heap.size := by omega
  go_wp2
  refine bodyPost_ret (v := .tuple #[.agg #[.string ⟨#[]⟩, .slice none 0 0, .nilFunc], .iface 103 (.pointer (some ep))]) (by simp [results, Tryd.results20, go_sem, ra, rb, rc, z0]) rfl ?_
  refine ⟨rfl, ?_⟩
  repeat (first | exact B1.out | refine Below.drew ?_ | refine Below.setCell ?_ (by first | exact Nat.le_refl _ | (simp; omega)) _ | refine Below.alloc ?_ (by first | omega | (simp; omega)) _)

set_option maxHeartbeats 1000000 in
theorem readPred_rest (c : Cnd) (hk : c.ok = true) (r : List UInt8) (hr : r ≠ []) (h16 : c.txt.length + r.length ≤ 16) (ep : Addr) (w : World) (hE : w.cell? ⟨0, 0, none⟩ = some (errV ep)) :
    Calls Tryd.prog 20 #[.string (bs (c.txt ++ r))] w (NoWhole ep w) := by
  have hg := World.block_lt_of_cell? _ _ hE
  have HC := Lib.hid (readIn (c := c) (r := r) (G := 33) (args := #[.string (bs (c.txt ++ r))]) (w := w) fun W hb => first_yes ep c hk r (by omega) W (cellLater hE hb))
  have HE : Hid (∀ W : World, Below w.heap.size w W → W.cell? ⟨0, 0, none⟩ = some (errV ep)) := fun W hb => cellLater hE hb
  have hL : (bs (c.txt ++ r)).size ≤ 16 := by rw [bs_size]; simpa using h16
  have hq : ((bs r).toList == []) = false := by
    rw [bs_toList]
    cases r with
    | nil => exact absurd rfl hr
    | cons a b => rfl
  unfold ReadIn at HC
  unfold NoWhole errV at *
  generalize bs (c.txt ++ r) = s at *
  generalize bs r = u at *
  clear hE h16 hk hr
  go_enter Tryd.func20, Tryd.ntmps20
  go_wp2_with fail
  refine HC.out.mono ?_
  rintro e w1 ⟨tw, ad, n1, c1, k1, caps, rfl, HR, B1, ra, rb, rc, rf, z0⟩
  have n0 : w.heap.size ≠ w1.heap.size := by omega
  have hE1 := HE.out _ B1.out
  have hg1 : 0 < w1.heap.size := by omega
  clear HR HC
  go_wp2_with fail
  go_region
  go_wp2
  refine bodyPost_ret (v := .tuple #[.agg #[.string ⟨#[]⟩, .slice none 0 0, .nilFunc], .iface 103 (.pointer (some ep))]) (by simp [results, Tryd.results20, go_sem, ra, rb, rc, z0]) rfl ?_
  refine ⟨rfl, ?_⟩
  repeat (first | exact B1.out | refine Below.drew ?_ | refine Below.setCell ?_ (by first | exact Nat.le_refl _ | (simp; omega)) _ | refine Below.alloc ?_ (by first | omega | (simp; omega)) _)

theorem readPred_no (l : List UInt8) (h : whole l = none) (hl : l.length ≤ 1048576) (ep : Addr) (w : World) (hE : w.cell? ⟨0, 0, none⟩ = some (errV ep)) :
    Calls Tryd.prog 20 #[.string (bs l)] w (NoWhole ep w) := by
  rcases whole_none h with h1 | ⟨h1, h2⟩ | ⟨h1, c, r, rfl, hk, hr⟩
  · exact readPred_long _ (by rw [bs_size]; exact h1) (by rw [bs_size]; exact hl) ep w hE
  · exact readPred_none l h2 h1 ep w hE
  · exact readPred_rest c hk r hr (by simpa using h1) ep w hE

end Go.Proofs.YtcipidcnkllanaaDoor
