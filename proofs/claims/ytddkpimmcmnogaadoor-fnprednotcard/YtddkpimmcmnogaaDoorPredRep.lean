/-
  A condition of the program in memory: its text, the conditions of which it is made, and a function that says for which heads it holds.
-/
import Derived.Test.YtddkpimmcmnogaaDoorPredClone
import Derived.Test.YtddkpimmcmnogaaDoorHeadMore
import Derived.Deep.RegionHeld3
import Derived.Laws.EntriesVeiled
namespace Go.Proofs.YtddkpimmcmnogaaDoor
open Go.ChangeShapes Go.WideShapes Go.ChangeAt Go.RowKit Go.Joins
set_option linter.unusedVariables false

theorem makeF (fn : Fn) (first cap : Array Value) (w : World) : (Instr.makeFunc fn first cap).run Tryd.prog w = .ok (.func fn first cap) w := rfl

/-- Whether a condition holds for the head of a number. -/
def evn (c : Cnd) (n : Int) : Bool := c.ev (n / 16) (n / 4 % 4) (n % 4)

/-- Blocks from base on that were there are as they were. -/
def Ag (base : Nat) (w w' : World) : Prop := w.heap.size ≤ w'.heap.size ∧ ∀ b, base ≤ b → b < w.heap.size → w'.heap[b]? = w.heap[b]?
theorem Ag.refl (base : Nat) (w : World) : Ag base w w := ⟨Nat.le_refl _, fun _ _ _ => rfl⟩
theorem Ag.trans {base : Nat} {a b c : World} (h : Ag base a b) (k : Ag base b c) : Ag base a c :=
  ⟨Nat.le_trans h.1 k.1, fun i h0 h1 => (k.2 i h0 (Nat.lt_of_lt_of_le h1 h.1)).trans (h.2 i h0 h1)⟩
theorem Ag.of {base n : Nat} {a b : World} (h : Below n a b) (hn : a.heap.size ≤ n) : Ag base a b := ⟨h.size, fun i _ h1 => h.block i (by omega)⟩
theorem Ag.mono {base base' : Nat} {a b : World} (h : Ag base' a b) (hb : base' ≤ base) : Ag base a b := ⟨h.1, fun i h0 h1 => h.2 i (by omega) h1⟩
theorem Ag.set {base : Nat} {a b : World} (h : Ag base a b) {p : Addr} (hp : p.block < base) (v : Value) : Ag base a (b.setCell p v) :=
  ⟨by simpa [World.setCell] using h.1, fun i h0 h1 => (Below.heap_setCell _ _ _ _ (by omega)).trans (h.2 i h0 h1)⟩
theorem Ag.drew {base : Nat} {a b : World} (h : Ag base a b) : Ag base a b.drew := h
theorem Ag.alloc {base : Nat} {a b : World} (h : Ag base a b) (o : Obj) : Ag base a (b.alloc o) :=
  h.trans (Ag.of (Below.refl b.heap.size b |>.alloc (Nat.le_refl _) o) (Nat.le_refl _))

/-- A function value that says of each head's number what h says, in whatever memory comes. -/
def FnOk (w : World) (base : Nat) (f : Value) (h : Int → Bool) : Prop :=
  ∃ (k : Nat) (caps : Array Value), f = .func (.func k) #[] caps ∧ (∀ (args : Array Value) (W : World), (callFunc k args).run Tryd.prog W = .ok (.enter k args) W) ∧
    ∀ W : World, Ag base w W → ∀ n : Int, 0 ≤ n → n ≤ 63 → Calls Tryd.prog k (#[.int .u8 n] ++ caps) W fun e W' => e = .returned (.bool (h n)) ∧ Below W.heap.size W W'

theorem FnOk.later {w w' : World} {base : Nat} {f : Value} {h : Int → Bool} (hf : FnOk w base f h) (hb : Ag base w w') : FnOk w' base f h := by
  obtain ⟨k, caps, hk, he, hc⟩ := hf
  exact ⟨k, caps, hk, he, fun W hW n h0 h1 => hc W (hb.trans hW) n h0 h1⟩
theorem FnOk.mono {w : World} {base base' : Nat} {f : Value} {h : Int → Bool} (hf : FnOk w base f h) (hb : base' ≤ base) : FnOk w base' f h := by
  obtain ⟨k, caps, hk, he, hc⟩ := hf
  exact ⟨k, caps, hk, he, fun W hW n h0 h1 => hc W (hW.mono hb) n h0 h1⟩

theorem cellLater {w w' : World} {b o : Nat} {x : Value} (h : w.cell? ⟨b, o, none⟩ = some x) (hb : Below w.heap.size w w') : w'.cell? ⟨b, o, none⟩ = some x :=
  (belCell hb b o (World.block_lt_of_cell? _ _ h)).trans h
theorem cellAg {w w' : World} {base b o : Nat} {x : Value} (h : w.cell? ⟨b, o, none⟩ = some x) (hl : base ≤ b) (hb : Ag base w w') : w'.cell? ⟨b, o, none⟩ = some x :=
  (World.cell?_of_block (w := w) (hb.2 b hl (World.block_lt_of_cell? _ _ h))).trans h

def CRep (w : World) (base : Nat) : Cnd → Value → Value → Value → Prop
  | .one b, x0, x1, x2 => x0 = .string (bs (Cnd.one b).txt) ∧ x1 = .slice none 0 0 ∧ FnOk w base x2 (evn (.one b))
  | .fld k d, x0, x1, x2 => x0 = .string (bs (Cnd.fld k d).txt) ∧ x1 = .slice none 0 0 ∧ FnOk w base x2 (evn (.fld k d))
  | .neg a, x0, x1, x2 => x0 = .string (bs (Cnd.neg a).txt) ∧ (∃ r cap : Nat, x1 = .slice (some ⟨r, 0, none⟩) 1 cap ∧ base ≤ r ∧ ∃ y0 y1 y2, w.cell? ⟨r, 0, none⟩ = some y0 ∧ w.cell? ⟨r, 1, none⟩ = some y1 ∧ w.cell? ⟨r, 2, none⟩ = some y2 ∧ CRep w base a y0 y1 y2) ∧ FnOk w base x2 (evn (.neg a))
  | .two k a b, x0, x1, x2 => x0 = .string (bs (Cnd.two k a b).txt) ∧ (∃ r cap : Nat, x1 = .slice (some ⟨r, 0, none⟩) 2 cap ∧ base ≤ r ∧ (∃ y0 y1 y2, w.cell? ⟨r, 0, none⟩ = some y0 ∧ w.cell? ⟨r, 1, none⟩ = some y1 ∧ w.cell? ⟨r, 2, none⟩ = some y2 ∧ CRep w base a y0 y1 y2) ∧ ∃ z0 z1 z2, w.cell? ⟨r, 3, none⟩ = some z0 ∧ w.cell? ⟨r, 4, none⟩ = some z1 ∧ w.cell? ⟨r, 5, none⟩ = some z2 ∧ CRep w base b z0 z1 z2) ∧ FnOk w base x2 (evn (.two k a b))

theorem CRep.text {w : World} {base : Nat} {c : Cnd} {x0 x1 x2 : Value} (h : CRep w base c x0 x1 x2) : x0 = .string (bs c.txt) := by cases c <;> exact h.1
theorem CRep.fn {w : World} {base : Nat} {c : Cnd} {x0 x1 x2 : Value} (h : CRep w base c x0 x1 x2) : FnOk w base x2 (evn c) := by cases c <;> exact h.2.2

theorem CRep.later {w w' : World} {base : Nat} (hb : Ag base w w') : ∀ {c : Cnd} {x0 x1 x2 : Value}, CRep w base c x0 x1 x2 → CRep w' base c x0 x1 x2
  | .one b, _, _, _, h => ⟨h.1, h.2.1, h.2.2.later hb⟩
  | .fld k d, _, _, _, h => ⟨h.1, h.2.1, h.2.2.later hb⟩
  | .neg a, _, _, _, h => by
    obtain ⟨h0, ⟨r, cap, h1, hl, y0, y1, y2, c0, c1, c2, hr⟩, h2⟩ := h
    exact ⟨h0, ⟨r, cap, h1, hl, y0, y1, y2, cellAg c0 hl hb, cellAg c1 hl hb, cellAg c2 hl hb, CRep.later hb hr⟩, h2.later hb⟩
  | .two k a b, _, _, _, h => by
    obtain ⟨h0, ⟨r, cap, h1, hl, ⟨y0, y1, y2, c0, c1, c2, hr⟩, z0, z1, z2, d0, d1, d2, hs⟩, h2⟩ := h
    exact ⟨h0, ⟨r, cap, h1, hl, ⟨y0, y1, y2, cellAg c0 hl hb, cellAg c1 hl hb, cellAg c2 hl hb, CRep.later hb hr⟩, z0, z1, z2, cellAg d0 hl hb, cellAg d1 hl hb, cellAg d2 hl hb, CRep.later hb hs⟩, h2.later hb⟩
theorem CRep.mono {w : World} {base base' : Nat} (hb : base' ≤ base) : ∀ {c : Cnd} {x0 x1 x2 : Value}, CRep w base c x0 x1 x2 → CRep w base' c x0 x1 x2
  | .one b, _, _, _, h => ⟨h.1, h.2.1, h.2.2.mono hb⟩
  | .fld k d, _, _, _, h => ⟨h.1, h.2.1, h.2.2.mono hb⟩
  | .neg a, _, _, _, h => by
    obtain ⟨h0, ⟨r, cap, h1, hl, y0, y1, y2, c0, c1, c2, hr⟩, h2⟩ := h
    exact ⟨h0, ⟨r, cap, h1, by omega, y0, y1, y2, c0, c1, c2, CRep.mono hb hr⟩, h2.mono hb⟩
  | .two k a b, _, _, _, h => by
    obtain ⟨h0, ⟨r, cap, h1, hl, ⟨y0, y1, y2, c0, c1, c2, hr⟩, z0, z1, z2, d0, d1, d2, hs⟩, h2⟩ := h
    exact ⟨h0, ⟨r, cap, h1, by omega, ⟨y0, y1, y2, c0, c1, c2, CRep.mono hb hr⟩, z0, z1, z2, d0, d1, d2, CRep.mono hb hs⟩, h2.mono hb⟩

theorem enterP {f : FuncId} {fn : Func} (hf : Tryd.prog.funcs[f]? = some fn) (hname : (fn.name == "runtime.NumGoroutine") = false) (hb : fn.body.isSome = true) (args : Array Value) (w : World) :
    (callFunc f args).run Tryd.prog w = .ok (.enter f args) w := by
  have h1 : fn.name ≠ "runtime.NumGoroutine" := by simpa using hname
  obtain ⟨c, hc⟩ := Option.isSome_iff_exists.1 hb
  simp [callFunc, hf, h1, hc]

/-! ### Functions of no part, and of a field -/

set_option maxHeartbeats 400000 in
theorem constFn_any (b : Bool) (n : Int) (p : Nat) (w : World) (hp : w.cell? ⟨p, 0, none⟩ = some (.bool b)) :
    Calls Tryd.prog 86 #[.int .u8 n, .pointer (some ⟨p, 0, none⟩)] w fun e w' => e = .returned (.bool b) ∧ Below w.heap.size w w' := by
  go_enter Tryd.func86, Tryd.ntmps86
  go_wp2
  go_ret
  exact ⟨rfl, Below.refl _ _⟩

theorem constFn_ok (b : Bool) (base p : Nat) (w : World) (hl : base ≤ p) (hp : w.cell? ⟨p, 0, none⟩ = some (.bool b)) :
    FnOk w base (.func (.func 86) #[] #[.pointer (some ⟨p, 0, none⟩)]) (fun _ => b) :=
  ⟨_, _, rfl, enterP Tryd.func86 (by kernel_rfl) (by kernel_rfl), fun W hW n _ _ => constFn_any b n p W (cellAg hp hl hW)⟩

/-- The three fields' functions. -/
def fieldF (k : UInt8) : Nat := if k = 115 then 77 else if k = 100 then 78 else 79

set_option maxHeartbeats 400000 in
theorem fieldFn_any (k d : UInt8) (hk : isF k = true) (n : Int) (h0 : 0 ≤ n) (h1 : n ≤ 63) (p q : Nat) (w : World) (hp : w.cell? ⟨p, 0, none⟩ = some (.func (.func (fieldF k)) #[] #[])) (hq : w.cell? ⟨q, 0, none⟩ = some (.int .i64 ((d.toNat : Int) - 48))) :
    Calls Tryd.prog 87 #[.int .u8 n, .pointer (some ⟨p, 0, none⟩), .pointer (some ⟨q, 0, none⟩)] w fun e w' => e = .returned (.bool (evn (.fld k d) n)) ∧ Below w.heap.size w w' := by
  rcases isF_cases hk with rfl | rfl | rfl
  · rw [show fieldF 115 = 77 from rfl] at hp
    rw [show evn (.fld 115 d) n = (n / 16 == ((d.toNat : Int) - 48)) from rfl]
    generalize (d.toNat : Int) - 48 = v at *
    go_enter Tryd.func87, Tryd.ntmps87
    go_wp2_with fail
    go_region_with (go_at_call 77; refine (src_any _ h0 h1 _).mono ?_; rintro e wq ⟨rfl, rfl⟩)
    all_goals
      go_wp2
      go_ret
      exact ⟨rfl, (Below.refl _ _).drew⟩
  · rw [show fieldF 100 = 78 from rfl] at hp
    rw [show evn (.fld 100 d) n = (n / 4 % 4 == ((d.toNat : Int) - 48)) from rfl]
    generalize (d.toNat : Int) - 48 = v at *
    go_enter Tryd.func87, Tryd.ntmps87
    go_wp2_with fail
    go_region_with (go_at_call 78; refine (dst_any _ h0 h1 _).mono ?_; rintro e wq ⟨rfl, rfl⟩)
    all_goals
      go_wp2
      go_ret
      exact ⟨rfl, (Below.refl _ _).drew⟩
  · rw [show fieldF 116 = 79 from rfl] at hp
    rw [show evn (.fld 116 d) n = (n % 4 == ((d.toNat : Int) - 48)) from rfl]
    generalize (d.toNat : Int) - 48 = v at *
    go_enter Tryd.func87, Tryd.ntmps87
    go_wp2_with fail
    go_region_with (go_at_call 79; refine (tag_any _ h0 h1 _).mono ?_; rintro e wq ⟨rfl, rfl⟩)
    all_goals
      go_wp2
      go_ret
      exact ⟨rfl, (Below.refl _ _).drew⟩

theorem fieldFn_ok (k d : UInt8) (hk : isF k = true) (base p q : Nat) (w : World) (hlp : base ≤ p) (hlq : base ≤ q) (hp : w.cell? ⟨p, 0, none⟩ = some (.func (.func (fieldF k)) #[] #[])) (hq : w.cell? ⟨q, 0, none⟩ = some (.int .i64 ((d.toNat : Int) - 48))) :
    FnOk w base (.func (.func 87) #[] #[.pointer (some ⟨p, 0, none⟩), .pointer (some ⟨q, 0, none⟩)]) (evn (.fld k d)) :=
  ⟨_, _, rfl, enterP Tryd.func87 (by kernel_rfl) (by kernel_rfl), fun W hW n h0 h1 => fieldFn_any k d hk n h0 h1 p q W (cellAg hp hlp hW) (cellAg hq hlq hW)⟩

end Go.Proofs.YtddkpimmcmnogaaDoor
