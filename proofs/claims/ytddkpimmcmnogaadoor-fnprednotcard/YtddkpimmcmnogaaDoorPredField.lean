/-
  What the program's reading of a field returns; the functions of conditions that are made of others.
-/
import Derived.Test.YtddkpimmcmnogaaDoorPredFn
namespace Go.Proofs.YtddkpimmcmnogaaDoor
open Go.ChangeShapes Go.WideShapes Go.ChangeAt Go.RowKit Go.Joins
set_option linter.unusedVariables false

set_option maxHeartbeats 1000000 in
theorem readFieldPred_yes (k d : UInt8) (hk : isF k = true) (hd : isD d = true) (r : List UInt8) (hl : r.length ≤ 1048576) (w : World) :
    Calls Tryd.prog 76 #[.string (bs (k :: d :: r)), .func (.func (fieldF k)) #[] #[]] w (Read (.fld k d) r w) := by
  have hmf := makeF
  have hsz : (bs (k :: d :: r)).size = r.length + 2 := by simp [bs_size]
  have hb : ∀ h, (bs (k :: d :: r))[1]'h = d := fun h => rfl
  obtain ⟨e0, e3⟩ := isD_cases hd
  have hv : fldB ((d.toNat : Int) - 48) = true := fldB_mk (by omega) (by omega)
  have f1 : ∀ W : World, (Instr.slice 9 (.string (bs (k :: d :: r))) none (some (.int .i64 2)) none).run Tryd.prog W = .ok (.string (bs [k, d])) W := fun W => by
    rw [run_slice_string_to_if (P := Tryd.prog) W 9 _ .i64 2 Tryd.underlying9, bs_extract, hsz, if_pos (by omega)]
    simp
  have f2 : ∀ W : World, (Instr.slice 9 (.string (bs (k :: d :: r))) (some (.int .i64 2)) none none).run Tryd.prog W = .ok (.string (bs r)) W := fun W => by
    rw [run_slice_string_from_if (P := Tryd.prog) W 9 _ .i64 2 Tryd.underlying9, bs_extract, hsz, if_pos (by omega)]
    simp
  have hsz1 : 1 < (bs (k :: d :: r)).size := by omega
  have hb1 : (bs (k :: d :: r))[1]'hsz1 = d := hb _
  have hL : (bs (k :: d :: r)).size ≤ 2000000 := by omega
  have hG : ∀ W : World, W.cell? ⟨w.heap.size, 0, none⟩ = some (.func (.func (fieldF k)) #[] #[]) → W.cell? ⟨w.heap.size + 1 + 1, 0, none⟩ = some (.int .i64 ((d.toNat : Int) - 48)) →
      CRep W w.heap.size (.fld k d) (.string (bs [k, d])) (.slice none 0 0) (.func (.func 87) #[] #[.pointer (some ⟨w.heap.size, 0, none⟩), .pointer (some ⟨w.heap.size + 1 + 1, 0, none⟩)]) := fun W h1 h2 =>
    ⟨rfl, rfl, fieldFn_ok k d hk _ _ _ W (Nat.le_refl _) (by omega) h1 h2⟩
  have HG := Lib.hid hG
  clear hG hb hd hk
  generalize fieldF k = F at *
  generalize bs (k :: d :: r) = s at *
  have hs2 : decide ((s.size : Int) < 2) = false := by simp; omega
  clear hsz
  go_enter Tryd.func76, Tryd.ntmps76
  go_wp2_with (go_at_call 82; refine (fieldOk_any _ _).mono ?_; rintro e w' ⟨rfl, rfl⟩; rw [hv])
  go_region
  go_wp2
  refine bodyPost_ret (v := .tuple #[.agg #[.string (bs [k, d]), .slice none 0 0, .func (.func 87) #[] #[.pointer (some ⟨w.heap.size, 0, none⟩), .pointer (some ⟨w.heap.size + 1 + 1, 0, none⟩)]], .string (bs r), .nilIface]) (by simp [results, Tryd.results76, go_sem]) rfl ?_
  exact ⟨_, _, _, rfl, HG.out _ (by simp [go_sem]) (by simp [go_sem]), ((below_alloc2 _ _ _).alloc (by simp; omega) _).drew⟩

/-- The program's error value. -/
def errV (ep : Addr) : Value := .iface 126 (.pointer (some ep))
/-- What a reading leaves that finds none. -/
def Fails (ep : Addr) (w : World) (e : Ending) (w' : World) : Prop :=
  e = .returned (.tuple #[.agg #[.string ⟨#[]⟩, .slice none 0 0, .nilFunc], .string ⟨#[]⟩, errV ep]) ∧ Below w.heap.size w w'

set_option maxHeartbeats 1000000 in
theorem readFieldPred_short (k : UInt8) (F : Nat) (ep : Addr) (w : World) (hE : w.cell? ⟨0, 0, none⟩ = some (errV ep)) :
    Calls Tryd.prog 76 #[.string (bs [k]), .func (.func F) #[] #[]] w (Fails ep w) := by
  have hmf := makeF
  have hg := World.block_lt_of_cell? _ _ hE
  unfold errV at hE
  have hsz : (bs [k]).size = 1 := by simp [bs_size]
  generalize bs [k] = s at *
  have hs2 : decide ((s.size : Int) < 2) = true := by simp; omega
  go_enter Tryd.func76, Tryd.ntmps76
  go_wp2_with fail
  go_region
  go_wp2
  refine bodyPost_ret (v := .tuple #[.agg #[.string ⟨#[]⟩, .slice none 0 0, .nilFunc], .string ⟨#[]⟩, errV ep]) (by simp [results, Tryd.results76, go_sem, errV]) rfl ?_
  exact ⟨rfl, (below_alloc2 _ _ _).drew⟩

set_option maxHeartbeats 1000000 in
theorem readFieldPred_bad (k d : UInt8) (hd : isD d = false) (r : List UInt8) (hl : r.length ≤ 1048576) (F : Nat) (ep : Addr) (w : World) (hE : w.cell? ⟨0, 0, none⟩ = some (errV ep)) :
    Calls Tryd.prog 76 #[.string (bs (k :: d :: r)), .func (.func F) #[] #[]] w (Fails ep w) := by
  have hmf := makeF
  have hg := World.block_lt_of_cell? _ _ hE
  unfold errV at hE
  have hsz : (bs (k :: d :: r)).size = r.length + 2 := by simp [bs_size]
  have hsz1 : 1 < (bs (k :: d :: r)).size := by omega
  have hb1 : (bs (k :: d :: r))[1]'hsz1 = d := rfl
  have hL : (bs (k :: d :: r)).size ≤ 2000000 := by omega
  have hd8 : d.toNat < 256 := d.toNat_lt
  have hv : fldB ((d.toNat : Int) - 48) = false := by
    have : ¬ (48 ≤ d.toNat ∧ d.toNat ≤ 51) := by
      intro h
      rw [show isD d = true from by simp [isD, h.1, h.2]] at hd
      cases hd
    cases hq : fldB ((d.toNat : Int) - 48)
    · rfl
    · exact absurd (fldB_true hq) (by omega)
  generalize bs (k :: d :: r) = s at *
  have hs2 : decide ((s.size : Int) < 2) = false := by simp; omega
  clear hsz hd
  go_enter Tryd.func76, Tryd.ntmps76
  go_wp2_with (go_at_call 82; refine (fieldOk_any _ _).mono ?_; rintro e w' ⟨rfl, rfl⟩; rw [hv])
  go_region
  go_wp2
  refine bodyPost_ret (v := .tuple #[.agg #[.string ⟨#[]⟩, .slice none 0 0, .nilFunc], .string ⟨#[]⟩, errV ep]) (by simp [results, Tryd.results76, go_sem, errV]) rfl ?_
  exact ⟨rfl, ((below_alloc2 _ _ _).alloc (by simp; omega) _).drew⟩

/-! ### Functions of parts -/

set_option maxHeartbeats 400000 in
theorem compoundHolds_any (k : UInt8) (hk : k = 33 ∨ isT k = true) (x : Value) (a : Option Addr) (n c : Nat) (hx : x = .slice a n c) (w : World) :
    Calls Tryd.prog 88 #[.int .u8 (k.toNat : Int), x] w fun e w' => e = .returned (.func (.func (if k = 33 then 90 else if k = 38 then 91 else 92)) #[] #[.pointer (some ⟨w.heap.size, 0, none⟩)]) ∧
      w'.cell? ⟨w.heap.size, 0, none⟩ = some x ∧ Below w.heap.size w w' := by
  have hmf := makeF
  subst hx
  have hk' : k = 33 ∨ k = 38 ∨ k = 124 := hk.imp id isT_cases
  clear hk
  rcases hk' with rfl | rfl | rfl
  all_goals
    go_enter Tryd.func88, Tryd.ntmps88
    go_wp2
    go_ret
    exact ⟨rfl, by simp [go_sem], below_alloc1 _ _⟩

/-- A text without its first byte, and its beginning. -/
theorem slice1 (k : UInt8) (l : List UInt8) (W : World) : (Instr.slice 9 (.string (bs (k :: l))) (some (.int .i64 1)) none none).run Tryd.prog W = .ok (.string (bs l)) W := by
  rw [run_slice_string_from_if (P := Tryd.prog) W 9 _ .i64 1 Tryd.underlying9, bs_extract, bs_size, if_pos (by simp; omega), List.take_length]
  rfl
theorem sliceTo (l m : List UInt8) (W : World) : (Instr.slice 9 (.string (bs (l ++ m))) none (some (.int .i64 (l.length : Int))) none).run Tryd.prog W = .ok (.string (bs l)) W := by
  rw [run_slice_string_to_if (P := Tryd.prog) W 9 _ .i64 _ Tryd.underlying9, bs_extract, bs_size, if_pos (by simp; omega)]
  simp

theorem CRep.form {w : World} {base : Nat} {c : Cnd} {x0 x1 x2 : Value} (h : CRep w base c x0 x1 x2) : ∃ (a : Option Addr) (n cap k : Nat) (caps : Array Value), x0 = .string (bs c.txt) ∧ x1 = .slice a n cap ∧ x2 = .func (.func k) #[] caps := by
  obtain ⟨k, caps, hk, _⟩ := h.fn
  have h0 := h.text
  cases c with
  | one b => exact ⟨_, _, _, _, _, h0, h.2.1, hk⟩
  | fld k d => exact ⟨_, _, _, _, _, h0, h.2.1, hk⟩
  | neg a => obtain ⟨r, cap, h1, _⟩ := h.2.1; exact ⟨_, _, _, _, _, h0, h1, hk⟩
  | two k a b => obtain ⟨r, cap, h1, _⟩ := h.2.1; exact ⟨_, _, _, _, _, h0, h1, hk⟩

theorem infoPred : (Tryd.prog.info? 47).map (fun i => (i.zero, i.size, i.bytes)) = some (some (Value.agg #[.string ⟨#[]⟩, .slice none 0 0, .nilFunc]), 3, 48) := by kernel_rfl

end Go.Proofs.YtddkpimmcmnogaaDoor
