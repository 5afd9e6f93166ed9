/-
  What the program's WildLess returns: a slice of its own, with the texts of what is left.
  What the program's WildLess returns: a slice of its own, with the texts of what is left.
-/
import Derived.Test.YtndmedkkecikoaaWildImpl
import Derived.Deep.Onto
import Derived.OwnWalk
import Derived.Test.YtndmedkkecikoaaStrB

namespace Go.Proofs.Ytndmedkkecikoaa
open Go.ChangeShapes Go.WideShapes Go.ChangeAt Go.RowKit Go.Joins
set_option linter.unusedVariables false

/-! ### What is left, place by place -/

def ckB (ca cb : Nat → Bool) (k : Nat) (j : Nat) : Bool := ca j || (decide (j < k) && cb j)
def vkB (ca va vb : Nat → Bool) (k : Nat) (j : Nat) : Bool := bif ca j then va j else (decide (j < k) && vb j)
def pcB (ca cb : Nat → Bool) (k : Nat) (j : Nat) : Bool := ckB ca cb k j || j == k
def pvB (ca va vb : Nat → Bool) (k : Nat) (j : Nat) : Bool := (vkB ca va vb k j && !(j == k)) || (!vb k && j == k)
def selB (ca cb : Nat → Bool) (k : Nat) : Bool := cb k && !ca k
/-- The pieces of the first k places. -/
def piecesTo (ca va cb vb : Nat → Bool) : Nat → List ((Nat → Bool) × (Nat → Bool))
  | 0 => []
  | k + 1 => bif selB ca cb k then piecesTo ca va cb vb k ++ [(pcB ca cb k, pvB ca va vb k)] else piecesTo ca va cb vb k
theorem pieces_len (ca va cb vb : Nat → Bool) : ∀ k, (piecesTo ca va cb vb k).length ≤ k
  | 0 => Nat.le_refl _
  | k + 1 => by
    have := pieces_len ca va cb vb k
    simp only [piecesTo]
    cases selB ca cb k <;> simp <;> omega
def flatM (l : List ((Nat → Bool) × (Nat → Bool))) : List Value := l.flatMap fun p => [.int .u8 (ofB p.1), .int .u8 (ofB p.2)]
theorem flatM_append (l m : List ((Nat → Bool) × (Nat → Bool))) : flatM (l ++ m) = flatM l ++ flatM m := by simp [flatM]
theorem flatM_len (l : List ((Nat → Bool) × (Nat → Bool))) : (flatM l).length = l.length * 2 := by
  induction l with
  | nil => rfl
  | cons p l ih => simp [flatM] at ih ⊢; omega

theorem less_test (ca cb : Nat → Bool) {k : Nat} (hk : k < 6) : (bits BinOp.andNot IntKind.u8 (bits BinOp.and IntKind.u8 (pw k) (ofB cb)) (ofB (ckB ca cb k)) == 0) = !selB ca cb k := by
  rw [pw_ofB hk, ofB_and, ofB_andNot, ofB_isZero]
  cases hs : selB ca cb k
  · refine all6_iff.2 fun i hi => ?_
    by_cases h : i = k
    · subst h
      unfold selB at hs
      simp only [ckB]
      revert hs
      cases ca i <;> cases cb i <;> simp
    · simp [h]
  · refine all6_not.2 ⟨k, hk, ?_⟩
    unfold selB at hs
    simp only [ckB]
    revert hs
    cases ca k <;> cases cb k <;> simp
theorem ck_step {ca cb : Nat → Bool} {k : Nat} (h : selB ca cb k = true) : ofB (pcB ca cb k) = ofB (ckB ca cb (k + 1)) := ofB_congr fun i _ => by
  by_cases e : i = k
  · subst e
    unfold selB at h
    revert h
    simp only [pcB, ckB]
    cases ca i <;> cases cb i <;> simp
  · have : (i < k + 1) = (i < k) := by apply propext; omega
    simp [pcB, ckB, e, this]
theorem ck_stay {ca cb : Nat → Bool} {k : Nat} (h : selB ca cb k = false) : ofB (ckB ca cb (k + 1)) = ofB (ckB ca cb k) := ofB_congr fun i _ => by
  by_cases e : i = k
  · subst e
    unfold selB at h
    revert h
    simp only [ckB]
    cases ca i <;> cases cb i <;> simp
  · have : (i < k + 1) = (i < k) := by apply propext; omega
    simp [ckB, this]
theorem vk_stay {ca va cb vb : Nat → Bool} (hv : ∀ i, vb i = true → cb i = true) {k : Nat} (h : selB ca cb k = false) : ofB (vkB ca va vb (k + 1)) = ofB (vkB ca va vb k) := ofB_congr fun i _ => by
  by_cases e : i = k
  · subst e
    have hv := hv i
    unfold selB at h
    revert h hv
    simp only [vkB]
    cases ca i <;> cases cb i <;> cases vb i <;> simp
  · have : (i < k + 1) = (i < k) := by apply propext; omega
    simp [vkB, this]
theorem vk_step {ca va cb vb : Nat → Bool} {k : Nat} (h : selB ca cb k = true) : ofB (fun i => (vkB ca va vb k i && !(i == k)) || (vb k && i == k)) = ofB (vkB ca va vb (k + 1)) := ofB_congr fun i _ => by
  by_cases e : i = k
  · subst e
    unfold selB at h
    revert h
    simp only [vkB]
    cases ca i <;> cases cb i <;> cases vb i <;> simp
  · have : (i < k + 1) = (i < k) := by apply propext; omega
    have e' : (i == k) = false := by simpa using e
    simp [vkB, this, e']

/-- A bit is set, to what a number has there. -/
theorem with_bits (v : Nat → Bool) {k : Nat} (hk : k < 6) (x : Int) (q : Bool) (hx : bits BinOp.and IntKind.u8 x (pw k) = ofB (fun i => q && i == k)) :
    bits BinOp.or IntKind.u8 (bits BinOp.andNot IntKind.u8 (ofB v) (pw k)) (bits BinOp.and IntKind.u8 x (pw k)) = ofB (fun i => (v i && !(i == k)) || (q && i == k)) := by
  rw [hx, pw_ofB hk, ofB_andNot, ofB_or]

set_option maxHeartbeats 400000 in
theorem with_at (c v : Nat → Bool) (k : Nat) (hk : k < 6) (x : Int) (q : Bool) (hx : bits BinOp.and IntKind.u8 x (pw k) = ofB (fun i => q && i == k)) (w : World) :
    Calls Try.prog 91 #[.agg #[.int .u8 (ofB c), .int .u8 (ofB v)], .int .u8 (pw k), .int .u8 x] w fun e w' => e = .returned (.agg #[.int .u8 (ofB (fun i => c i || i == k)), .int .u8 (ofB (fun i => (v i && !(i == k)) || (q && i == k)))]) ∧ Below w.heap.size w w' := by
  rw [← with_bits v hk x q hx, ← or_pw c hk]
  clear hx
  go_enter Try.func91, Try.ntmps91
  go_wp2
  exact bodyPost_ret (v := .agg #[.int .u8 (bits BinOp.or IntKind.u8 (ofB c) (pw k)), .int .u8 (bits BinOp.or IntKind.u8 (bits BinOp.andNot IntKind.u8 (ofB v) (pw k)) (bits BinOp.and IntKind.u8 x (pw k)))]) (by simp [results, Try.results91, go_sem]) rfl
    ⟨rfl, by repeat (first | exact below_alloc2 _ _ _ | refine Below.setCell ?_ (by simp) _)⟩

theorem not_fin : ∀ a b c d e f : Bool, bits BinOp.and IntKind.u8 (bits BinOp.xor IntKind.u8 IntKind.u8.max (of6 a b c d e f)) 32 = (bif a then 0 else 32) ∧ bits BinOp.and IntKind.u8 (bits BinOp.xor IntKind.u8 IntKind.u8.max (of6 a b c d e f)) 16 = (bif b then 0 else 16)
    ∧ bits BinOp.and IntKind.u8 (bits BinOp.xor IntKind.u8 IntKind.u8.max (of6 a b c d e f)) 8 = (bif c then 0 else 8) ∧ bits BinOp.and IntKind.u8 (bits BinOp.xor IntKind.u8 IntKind.u8.max (of6 a b c d e f)) 4 = (bif d then 0 else 4)
    ∧ bits BinOp.and IntKind.u8 (bits BinOp.xor IntKind.u8 IntKind.u8.max (of6 a b c d e f)) 2 = (bif e then 0 else 2) ∧ bits BinOp.and IntKind.u8 (bits BinOp.xor IntKind.u8 IntKind.u8.max (of6 a b c d e f)) 1 = (bif f then 0 else 1) := by decide +kernel
theorem one_bit (q : Bool) {k : Nat} (hk : k < 6) : ofB (fun i => q && i == k) = (bif q then pw k else 0) := by
  cases q
  · exact ofB_zero
  · rw [pw_ofB hk]; rfl
theorem not_bits (u : Nat → Bool) {k : Nat} (hk : k < 6) : bits BinOp.and IntKind.u8 (bits BinOp.xor IntKind.u8 IntKind.u8.max (ofB u)) (pw k) = ofB (fun i => !u k && i == k) := by
  rw [one_bit _ hk]
  obtain ⟨h0, h1, h2, h3, h4, h5⟩ := not_fin (u 0) (u 1) (u 2) (u 3) (u 4) (u 5)
  have e : ∀ (q : Bool) (x : Int), (bif q then 0 else x) = (bif !q then x else 0) := fun q x => by cases q <;> rfl
  match k, hk with
  | 0, _ => exact h0.trans (e _ _)
  | 1, _ => exact h1.trans (e _ _)
  | 2, _ => exact h2.trans (e _ _)
  | 3, _ => exact h3.trans (e _ _)
  | 4, _ => exact h4.trans (e _ _)
  | 5, _ => exact h5.trans (e _ _)
theorem yes_bits (u : Nat → Bool) {k : Nat} (hk : k < 6) : bits BinOp.and IntKind.u8 (ofB u) (pw k) = ofB (fun i => u k && i == k) := by
  rw [pw_ofB hk, ofB_and]
  refine ofB_congr fun i _ => ?_
  by_cases h : i = k
  · subst h; rfl
  · have h' : (i == k) = false := by simpa using h
    simp [h']

/-- A row of the call's own, behind a call that leaves what was there, and behind a store below it. -/
theorem ownsBelow {w w' : World} {base : Nat} {e : TypeId} {size : Nat} {v : Value} {n : Nat} {xs : List Value} (h : w.ownsRow base e size v n xs) (hb : Below w.heap.size w w') : w'.ownsRow base e size v n xs :=
  h.kept (row := none) ⟨hb.os, hb.tape, hb.output, hb.size, fun k hk _ => hb.block k hk⟩ (by cases v.ownBlock <;> simp)
theorem ownsSet {w : World} {base : Nat} {e : TypeId} {size : Nat} {v : Value} {n : Nat} {xs : List Value} (h : w.ownsRow base e size v n xs) {p : Addr} (hp : p.block < base) (u : Value) : (w.setCell p u).ownsRow base e size v n xs :=
  h.kept (row := some p.block) ⟨rfl, rfl, rfl, by simp [World.setCell], fun k hk hne => Below.heap_setCell _ _ _ _ (fun e => hne (by rw [e]))⟩ (by
    cases hv : v.ownBlock with
    | none => exact .inl rfl
    | some j => exact .inr (fun e => by have := (h.lt j hv).1; injection e; omega))
/-- Behind an append other blocks are as they were. -/
theorem grownOther {w w' : World} {base : Nat} {e : TypeId} {size : Nat} {v : Value} {n : Nat} {xs : List Value} (h : w.ownsRow base e size v n xs) (hg : w.grownBy w' v.ownBlock) {j : Nat} (hj : j < base) (hs : base ≤ w.heap.size) : w'.heap[j]? = w.heap[j]? :=
  hg.block j (by omega) (fun e => by have := (h.lt j e.symm).1; omega)
theorem grownBelow {w w' : World} {base : Nat} {e : TypeId} {size : Nat} {v : Value} {n : Nat} {xs : List Value} (h : w.ownsRow base e size v n xs) (hg : w.grownBy w' v.ownBlock) (hs : base ≤ w.heap.size) : Below base w w' :=
  ⟨hg.os, hg.tape, hg.output, hg.size, fun j hj => grownOther h hg hj hs⟩

theorem infoMasks : (Try.prog.info? 87).map (fun i => (i.zero, i.size, i.bytes)) = some (some (.agg #[.int .u8 0, .int .u8 0]), 2, 2) := by kernel_rfl
theorem infoStr : (Try.prog.info? 9).map (fun i => (i.zero, i.size, i.bytes)) = some (some (.string ⟨#[]⟩), 1, 16) := by kernel_rfl

set_option maxRecDepth 100000 in
set_option maxHeartbeats 4000000 in
theorem less_meet (ca va cb vb : Nat → Bool) (hm : meetB ca va cb vb = true) (hva : ∀ i, va i = true → ca i = true) (hv : ∀ i, vb i = true → cb i = true) (w : World) :
    Calls Try.prog 72 #[.agg #[.int .u8 (ofB ca), .int .u8 (ofB va)], .agg #[.int .u8 (ofB cb), .int .u8 (ofB vb)]] w fun e w' => ∃ v, e = .returned v ∧ w'.ownsRow w.heap.size 87 2 v (piecesTo ca va cb vb 6).length (flatM (piecesTo ca va cb vb 6)) ∧ Below w.heap.size w w' := by
  have HV := Lib.hid hv
  have HVA := Lib.hid hva
  clear hv hva
  obtain ⟨i0, hi, hz0, hz1, hz2⟩ := info_parts infoMasks
  have HI := Lib.hid hi
  have HZ0 := Lib.hid hz0
  have HZ1 := Lib.hid hz1
  have HZ2 := Lib.hid hz2
  clear hi hz0 hz1 hz2
  go_enter Try.func72, Try.ntmps72
  go_wp2_with fail
  refine (meets_any _ _ _ _ _).mono ?_
  rintro e w1 ⟨rfl, b1⟩
  rw [hm]
  have s1 := b1.size
  simp at s1
  have HM : Hid (w1.heap[w.heap.size]? = some (.cells #[.int .u8 (ofB ca), .int .u8 (ofB va)] 87)) := (b1.block _ (by simp; omega)).trans ((Below.heap_alloc _ _ _ (by simp)).trans (newBlockM w _))
  have HN : Hid (w1.heap[w.heap.size + 1]? = some (.cells #[.int .u8 (ofB cb), .int .u8 (ofB vb)] 87)) := (b1.block _ (by simp)).trans (by have := newBlockM (w.alloc (.cells #[.int .u8 (ofB ca), .int .u8 (ofB va)] 87)) (.cells #[.int .u8 (ofB cb), .int .u8 (ofB vb)] 87); simpa using this)
  have B1 : Hid (Below w.heap.size w w1) := (below_alloc2 _ _ _).trans (b1.mono (by simp; omega))
  clear b1 hm
  go_wp2
  go_loopw [5, 14] (fun v i wr => ∃ k : Nat, k ≤ 6 ∧ i = .int .i64 k ∧ wr.ownsRow (w.heap.size + 2) 87 2 v (piecesTo ca va cb vb k).length (flatM (piecesTo ca va cb vb k)) ∧ wr.heap[w.heap.size]? = some (.cells #[.int .u8 (ofB (ckB ca cb k)), .int .u8 (ofB (vkB ca va vb k))] 87)
      ∧ wr.heap[w.heap.size + 1]? = some (.cells #[.int .u8 (ofB cb), .int .u8 (ofB vb)] 87) ∧ w.heap.size + 2 ≤ wr.heap.size ∧ Below w.heap.size w wr) (fun _ i _ => 6 - (intOf i).toNat)
  case atStart =>
    refine ⟨0, Nat.zero_le _, rfl, World.ownsRow_nil _ _ _ _, ?_, HN.out, by omega, B1.out⟩
    rw [show ofB (ckB ca cb 0) = ofB ca from ofB_congr fun i _ => by simp [ckB], show ofB (vkB ca va vb 0) = ofB va from ofB_congr fun i _ => by
      have := HVA.out i
      unfold vkB
      revert this
      cases ca i <;> cases va i <;> simp]
    exact HM.out
  case round =>
    obtain ⟨k, hk, rfl, hown, hmb, hnb, hsz, hbel⟩ := hrel
    have HO := Lib.hid hown
    have HMB := Lib.hid hmb
    have HNB := Lib.hid hnb
    obtain ⟨m0, m1, mf⟩ := duoCells hmb
    obtain ⟨n0, n1, nf⟩ := duoCells hnb
    clear hown hmb hnb
    by_cases hlt : k < 6
    · have ht := less_test ca cb hlt
      cases hs : selB ca cb k
      · rw [hs] at ht
        go_wp2_with (go_at_call 82; refine (wildBit_at _ hlt _).mono ?_; rintro e wq ⟨rfl, rfl⟩)
        go_roundw
        case rel => exact ⟨k + 1, by omega, by go_num, by simpa [piecesTo, hs] using HO.out, by rw [ck_stay hs, vk_stay HV.out hs]; exact HMB.out, HNB.out, hsz, hbel⟩
        case measure => simp [intOf]; omega
      · rw [hs] at ht
        have hsg : IntKind.u8.signed = false := rfl
        go_wp2_with (go_at_call 82; refine (wildBit_at _ hlt _).mono ?_; rintro e wq ⟨rfl, rfl⟩)
        refine (with_at _ _ k hlt _ _ (not_bits vb hlt) _).mono ?_
        rintro e w2 ⟨rfl, b2⟩
        have s2 := b2.size
        have HO2 : Hid (w2.ownsRow (w.heap.size + 2) 87 2 u5 (piecesTo ca va cb vb k).length (flatM (piecesTo ca va cb vb k))) := ownsBelow HO.out b2
        have HMB2 : Hid (w2.heap[w.heap.size]? = some (.cells #[.int .u8 (ofB (ckB ca cb k)), .int .u8 (ofB (vkB ca va vb k))] 87)) := (b2.block _ (by omega)).trans HMB.out
        have HNB2 : Hid (w2.heap[w.heap.size + 1]? = some (.cells #[.int .u8 (ofB cb), .int .u8 (ofB vb)] 87)) := (b2.block _ (by omega)).trans HNB.out
        have B2 : Hid (Below w.heap.size w w2) := belStep hbel b2
        have hpl := pieces_len ca va cb vb k
        clear HO HMB HNB b2 hbel m0 m1 mf n0 n1 nf
        go_wp2_with (at_builtin; refine wpList_append_own _ rfl _ _ 82 rfl (w.heap.size + 2) 87 i0 (.agg #[.int .u8 0, .int .u8 0]) 2 2 Try.underlying82 HI.out HZ0.out HZ1.out HZ2.out rfl (by decide) _ _ _ rfl (HO2.out.alloc _) ⟨w2.heap.size, 0, none⟩ 1 1 [.int .u8 (ofB (fun i => ckB ca cb k i || i == k)), .int .u8 (ofB (fun i => (vkB ca va vb k i && !(i == k)) || (!vb k && i == k)))] rfl rfl ?c1 ?c2 ?c3 ?c4 ?c5 ?_)
        case c1 =>
          intro j u hj
          match j, hj with
          | 0, hj => simp at hj; subst hj; simp [Addr.add]
          | 1, hj => simp at hj; subst hj; simp [Addr.add]
        case c2 => intro u hu; simp at hu; rcases hu with rfl | rfl <;> rfl
        case c3 => unfold maxLen; omega
        case c4 => omega
        case c5 => simp; omega
        intro v' w3 hown3 hg3 _
        have s3 := hg3.size
        simp at s3
        have HO3 : Hid (w3.ownsRow (w.heap.size + 2) 87 2 v' (piecesTo ca va cb vb (k + 1)).length (flatM (piecesTo ca va cb vb (k + 1)))) := by
          show w3.ownsRow _ _ _ _ _ _
          simp only [piecesTo, hs, cond_true]
          rw [List.length_append, flatM_append]
          exact hown3
        have HMB3 : Hid (w3.heap[w.heap.size]? = some (.cells #[.int .u8 (ofB (ckB ca cb k)), .int .u8 (ofB (vkB ca va vb k))] 87)) := (grownOther (HO2.out.alloc _) hg3 (by omega) (by simp; omega)).trans ((Below.heap_alloc _ _ _ (by omega)).trans HMB2.out)
        have HNB3 : Hid (w3.heap[w.heap.size + 1]? = some (.cells #[.int .u8 (ofB cb), .int .u8 (ofB vb)] 87)) := (grownOther (HO2.out.alloc _) hg3 (by omega) (by simp; omega)).trans ((Below.heap_alloc _ _ _ (by omega)).trans HNB2.out)
        have B3 : Hid (Below w.heap.size w w3) := (B2.out.alloc (by omega) _).trans ((grownBelow (HO2.out.alloc _) hg3 (by simp; omega)).mono (by omega))
        clear hown3 hg3 HO2 HMB2 HNB2 B2 ht hsg
        obtain ⟨m0, m1, mf⟩ := duoCells HMB3.out
        obtain ⟨n0, n1, nf⟩ := duoCells HNB3.out
        go_wp2_with fail
        refine (with_at _ _ k hlt _ _ (yes_bits vb hlt) _).mono ?_
        rintro e w4 ⟨rfl, b4⟩
        have s4 := b4.size
        have HO4 : Hid (w4.ownsRow (w.heap.size + 2) 87 2 v' (piecesTo ca va cb vb (k + 1)).length (flatM (piecesTo ca va cb vb (k + 1)))) := ownsBelow HO3.out b4
        have HMB4 : Hid (w4.heap[w.heap.size]? = some (.cells #[.int .u8 (ofB (ckB ca cb k)), .int .u8 (ofB (vkB ca va vb k))] 87)) := (b4.block _ (by omega)).trans HMB3.out
        have HNB4 : Hid (w4.heap[w.heap.size + 1]? = some (.cells #[.int .u8 (ofB cb), .int .u8 (ofB vb)] 87)) := (b4.block _ (by omega)).trans HNB3.out
        have B4 : Hid (Below w.heap.size w w4) := belStep B3.out b4
        have CK : Hid (ofB (fun i => ckB ca cb k i || i == k) = ofB (ckB ca cb (k + 1))) := ck_step hs
        have VK : Hid (ofB (fun i => (vkB ca va vb k i && !(i == k)) || (vb k && i == k)) = ofB (vkB ca va vb (k + 1))) := vk_step hs
        clear HO3 HMB3 HNB3 B3 b4 m0 m1 mf n0 n1 nf hs
        rw [CK.out, VK.out]
        obtain ⟨m0, m1, mf⟩ := duoCells HMB4.out
        go_wp2
        go_roundw
        case rel =>
          refine ⟨k + 1, by omega, by go_num, ownsSet (ownsSet HO4.out (by dsimp only; omega) _) (by dsimp only; omega) _, ?_, ?_, by simp [World.setCell]; omega, (B4.out.setCell (Nat.le_refl _) _).setCell (Nat.le_refl _) _⟩
          · exact block_setCell (block_setCell HMB4.out _) _
          · rw [Below.heap_setCell _ _ _ _ (by dsimp only; omega), Below.heap_setCell _ _ _ _ (by dsimp only; omega)]
            exact HNB4.out
        case measure => simp [intOf]; omega
    · obtain rfl : k = 6 := by omega
      go_wp2
      go_ret
      exact ⟨_, rfl, HO.out.mono (by omega), hbel⟩

set_option maxRecDepth 100000 in
set_option maxHeartbeats 4000000 in
theorem less_apart (ca va cb vb : Nat → Bool) (hm : meetB ca va cb vb = false) (w : World) :
    Calls Try.prog 72 #[.agg #[.int .u8 (ofB ca), .int .u8 (ofB va)], .agg #[.int .u8 (ofB cb), .int .u8 (ofB vb)]] w fun e w' => ∃ v, e = .returned v ∧ w'.ownsRow w.heap.size 87 2 v 1 [.int .u8 (ofB ca), .int .u8 (ofB va)] ∧ Below w.heap.size w w' := by
  go_enter Try.func72, Try.ntmps72
  go_wp2_with fail
  refine (meets_any _ _ _ _ _).mono ?_
  rintro e w1 ⟨rfl, b1⟩
  rw [hm]
  have s1 := b1.size
  simp at s1
  have HM : Hid (w1.heap[w.heap.size]? = some (.cells #[.int .u8 (ofB ca), .int .u8 (ofB va)] 87)) := (b1.block _ (by simp; omega)).trans ((Below.heap_alloc _ _ _ (by simp)).trans (newBlockM w _))
  have B1 : Hid (Below w.heap.size w w1) := (below_alloc2 _ _ _).trans (b1.mono (by simp; omega))
  clear b1 hm
  obtain ⟨m0, m1, mf⟩ := duoCells HM.out
  go_wp2
  go_ret
  exact ⟨_, rfl, World.ownsRow_lit w1 #[.int .u8 (ofB ca), .int .u8 (ofB va)] 1 (by omega) (by unfold maxLen; omega) rfl, B1.out.alloc (by omega) _⟩

end Go.Proofs.Ytndmedkkecikoaa

namespace Go.Proofs.Ytndmedkkecikoaa
open Go.ChangeShapes Go.WideShapes Go.ChangeAt Go.RowKit Go.Joins
set_option linter.unusedVariables false

def pAt (ps : List ((Nat → Bool) × (Nat → Bool))) (k : Nat) : (Nat → Bool) × (Nat → Bool) := ps.getD k (fun _ => false, fun _ => false)
theorem flatM_get : ∀ (ps : List ((Nat → Bool) × (Nat → Bool))) (k : Nat), k < ps.length → (flatM ps)[k * 2]? = some (.int .u8 (ofB (pAt ps k).1)) ∧ (flatM ps)[k * 2 + 1]? = some (.int .u8 (ofB (pAt ps k).2))
  | [], k, h => by simp at h
  | p :: ps, 0, _ => ⟨rfl, rfl⟩
  | p :: ps, k + 1, h => by
    have := flatM_get ps k (by simpa using h)
    have e : flatM (p :: ps) = .int .u8 (ofB p.1) :: .int .u8 (ofB p.2) :: flatM ps := rfl
    rw [e, show (k + 1) * 2 = k * 2 + 1 + 1 from by omega]
    exact this
def textsOf (ps : List ((Nat → Bool) × (Nat → Bool))) : List ByteArray := ps.map fun p => txt p.1 p.2
theorem take_texts (ps : List ((Nat → Bool) × (Nat → Bool))) {k : Nat} (h : k < ps.length) : textsOf (ps.take (k + 1)) = textsOf (ps.take k) ++ [txt (pAt ps k).1 (pAt ps k).2] := by
  unfold textsOf pAt
  rw [List.take_succ_eq_append_getElem h, List.map_append]
  simp [h]

set_option maxRecDepth 100000 in
set_option maxHeartbeats 4000000 in
theorem iWildLess_go (a b : ByteArray) (ps : List ((Nat → Bool) × (Nat → Bool))) (hka : okS a = true) (hkb : okS b = true) (hn : ps.length ≤ 6)
    (hless : ∀ W : World, Calls Try.prog 72 #[.agg #[.int .u8 (ofB (cf a)), .int .u8 (ofB (vf a))], .agg #[.int .u8 (ofB (cf b)), .int .u8 (ofB (vf b))]] W fun e w' => ∃ v, e = .returned v ∧ w'.ownsRow W.heap.size 87 2 v ps.length (flatM ps) ∧ Below W.heap.size W w') (w : World) :
    Calls Try.prog 44 #[.string a, .string b] w fun e w' => ∃ v, e = .returned v ∧ StrRow w' w.heap.size v (textsOf ps) ∧ Below w.heap.size w w' := by
  have HL := Lib.hid hless
  have HR := Lib.hid (readMasks_yes a b hka hkb)
  obtain ⟨i0, hi, hz0, hz1, hz2⟩ := info_parts infoStr
  have HI := Lib.hid hi
  have HZ0 := Lib.hid hz0
  have HZ1 := Lib.hid hz1
  have HZ2 := Lib.hid hz2
  clear hless hka hkb hi hz0 hz1 hz2
  generalize ofB (cf a) = x at *
  generalize ofB (vf a) = y at *
  generalize ofB (cf b) = x' at *
  generalize ofB (vf b) = y' at *
  go_enter Try.func44, Try.ntmps44
  go_wp2_with fail
  refine (HR.out _).mono ?_
  rintro e w1 ⟨rfl, b1⟩
  have s1 := b1.size
  go_wp2_with fail
  refine (HL.out _).mono ?_
  rintro e w3 ⟨v, rfl, hv, b3⟩
  have s3 := b3.size
  simp at s3
  have B3 : Hid (Below w.heap.size w w3) := ((b1.alloc s1 _).alloc (by simp; omega) _).trans (b3.mono (by simp; omega))
  have hv0 := hv
  obtain ⟨hl, hv1 | ⟨g, cap, cur, hve, hgb, hgc, hcap, hcm, hcs, hct⟩⟩ := hv
  · obtain ⟨rfl, hl0⟩ := hv1
    obtain rfl : ps = [] := List.eq_nil_of_length_eq_zero hl0
    clear hv0 b3 b1
    go_wp2
    go_loop [8, 24] (fun o i => o = .slice none 0 0 ∧ i = .int .i64 0) (fun _ i => (intOf i).toNat)
    case atStart => exact ⟨rfl, rfl⟩
    case round =>
      obtain ⟨rfl, rfl⟩ := hrel
      go_wp2
      go_ret
      exact ⟨_, rfl, World.ownsRow_nil _ _ _ _, B3.out⟩
  · subst hve
    have HC : Hid (∀ k, k < ps.length → w3.cell? ⟨g, k * 2, none⟩ = some (.int .u8 (ofB (pAt ps k).1)) ∧ w3.cell? ⟨g, k * 2 + 1, none⟩ = some (.int .u8 (ofB (pAt ps k).2))) := fun k hk => by
      have := flatM_get ps k hk
      exact ⟨(World.ownsRow.cellAt hv0 _ (by omega)).trans this.1, (World.ownsRow.cellAt hv0 _ (by omega)).trans this.2⟩
    have hgl : g < w3.heap.size := (World.ownsRow.lt hv0 g rfl).2
    have HTK := Lib.hid (fun k (hk : k < ps.length) => take_texts ps hk)
    have HE : Hid (textsOf (ps.take ps.length) = textsOf ps) := by show _ = _; rw [List.take_length]
    have HTL : Hid (∀ k, k ≤ ps.length → (textsOf (ps.take k)).length = k) := fun k hk => by simp [textsOf]; omega
    clear hv0 b3 b1 hct hcs hgc hl
    unfold maxLen at hcm
    generalize ps.length = n at *
    go_wp2
    go_loopw [8, 24] (fun o i wr => ∃ k : Nat, k ≤ n ∧ i = .int .i64 k ∧ wr.ownsRow w3.heap.size 9 1 o k ((textsOf (ps.take k)).map Value.string) ∧ Below w3.heap.size w3 wr) (fun _ i _ => n - (intOf i).toNat)
    case atStart => exact ⟨0, Nat.zero_le _, rfl, World.ownsRow_nil _ _ _ _, Below.refl _ _⟩
    case round =>
      obtain ⟨k, hk, rfl, hown, hbel⟩ := hrel
      have HO := Lib.hid hown
      clear hown
      have s4 := hbel.size
      by_cases hlt : k < n
      · have hz : (k : Int) < (n : Int) := by omega
        have hcc := belCell hbel
        have c0 : wr.cell? ⟨g, k * 2, none⟩ = some (.int .u8 (ofB (pAt ps k).1)) := (hcc _ _ hgl).trans (HC.out k hlt).1
        have c1 : wr.cell? ⟨g, k * 2 + 1, none⟩ = some (.int .u8 (ofB (pAt ps k).2)) := (hcc _ _ hgl).trans (HC.out k hlt).2
        clear hcc
        go_wp2_with fail
        refine (text_any _ _ _).mono ?_
        rintro e w4 ⟨rfl, b4⟩
        have s5 := b4.size
        simp at s5
        have HO4 : Hid (w4.ownsRow w3.heap.size 9 1 u8 k ((textsOf (ps.take k)).map Value.string)) := ownsBelow (HO.out.alloc _) b4
        have B4 : Hid (Below w3.heap.size w3 w4) := (hbel.alloc s4 _).trans (b4.mono (by simp; omega))
        have hst := HTK.out k hlt
        generalize txt (pAt ps k).1 (pAt ps k).2 = t at *
        have HST := Lib.hid hst
        clear hst b4 hbel HO c0 c1
        go_wp2_with (at_builtin; refine wpList_append_own _ rfl _ _ 23 rfl w3.heap.size 9 i0 (.string ⟨#[]⟩) 1 16 Try.underlying23 HI.out HZ0.out HZ1.out HZ2.out rfl (by decide) _ _ _ rfl (HO4.out.alloc _) ⟨w4.heap.size, 0, none⟩ 1 1 [.string t] rfl rfl ?c1 ?c2 ?c3 ?c4 ?c5 ?_)
        case c1 =>
          intro j u hj
          match j, hj with
          | 0, hj => simp at hj; subst hj; simp [Addr.add]
        case c2 => intro u hu; simp at hu; subst hu; rfl
        case c3 => unfold maxLen; omega
        case c4 => omega
        case c5 => simp; omega
        intro v' w5 hown5 hg5 _
        have B5 : Hid (Below w3.heap.size w3 w5) := (B4.out.alloc (by omega) _).trans (grownBelow (HO4.out.alloc _) hg5 (by simp; omega))
        have HO5 : Hid (w5.ownsRow w3.heap.size 9 1 v' (k + 1) ((textsOf (ps.take (k + 1))).map Value.string)) := by
          show w5.ownsRow _ _ _ _ _ _
          rw [HST.out, List.map_append]
          exact hown5
        clear hown5 hg5 HO4 B4
        go_wp2
        go_roundw
        case rel => exact ⟨k + 1, by omega, by go_num, HO5.out, B5.out⟩
        case measure => simp [intOf]; omega
      · obtain rfl : k = n := by omega
        go_wp2
        go_ret
        refine ⟨_, rfl, ?_, B3.out.trans (hbel.mono B3.out.size)⟩
        have h := HO.out
        rw [HE.out] at h
        unfold StrRow
        rw [show (textsOf ps).length = k from by rw [← HE.out]; exact HTL.out k (Nat.le_refl _)]
        exact World.ownsRow.mono h B3.out.size

/-- What is left of one pattern without another one. -/
def lessL (a b : ByteArray) : List ByteArray :=
  bif okS a && okS b then (bif meetS a b then textsOf (piecesTo (cf a) (vf a) (cf b) (vf b) 6) else [a]) else []
theorem vfcf {s : ByteArray} (i : Nat) (h : vf s i = true) : cf s i = true := by
  unfold vf at h
  unfold cf
  rw [beq_iff_eq] at h
  rw [h]
  rfl

set_option maxHeartbeats 1000000 in
theorem iWildLess_any (a b : ByteArray) (ha : a.size ≤ 1048576) (hb : b.size ≤ 1048576) (w : World) :
    Calls Try.prog 44 #[.string a, .string b] w fun e w' => ∃ v, e = .returned v ∧ StrRow w' w.heap.size v (lessL a b) ∧ Below w.heap.size w w' := by
  cases hk : okS a && okS b
  · rw [show lessL a b = [] from by unfold lessL; rw [hk]; rfl]
    obtain ⟨x, y, x', y', hr⟩ := readMasks_no a b ha hb hk
    have HR := Lib.hid hr
    clear hr
    go_enter Try.func44, Try.ntmps44
    go_wp2_with (go_at_call 71; refine (HR.out _).mono ?_; rintro e w1 ⟨rfl, b1⟩)
    go_ret
    exact ⟨_, rfl, World.ownsRow_nil _ _ _ _, (b1.alloc b1.size _).alloc (by have := b1.size; simp; omega) _⟩
  · obtain ⟨hka, hkb⟩ : okS a = true ∧ okS b = true := by simpa using hk
    have e0 : meetS a b = meetB (cf a) (vf a) (cf b) (vf b) := by unfold meetS; rw [hka, hkb]; rfl
    cases hm : meetB (cf a) (vf a) (cf b) (vf b)
    · have el : lessL a b = textsOf [(cf a, vf a)] := by
        unfold lessL
        rw [hk, e0, hm]
        show [a] = [txt (cf a) (vf a)]
        rw [txt_back hka]
      rw [el]
      exact iWildLess_go a b [(cf a, vf a)] hka hkb (by show 1 ≤ 6; omega) (less_apart _ _ _ _ hm) w
    · have el : lessL a b = textsOf (piecesTo (cf a) (vf a) (cf b) (vf b) 6) := by
        unfold lessL
        rw [hk, e0, hm]
        rfl
      rw [el]
      exact iWildLess_go a b _ hka hkb (pieces_len _ _ _ _ _) (less_meet _ _ _ _ hm (fun i h => vfcf i h) (fun i h => vfcf i h)) w
theorem lessL_len (a b : ByteArray) : (lessL a b).length ≤ 6 := by
  unfold lessL
  cases okS a && okS b
  · exact Nat.zero_le _
  · cases meetS a b
    · show 1 ≤ 6
      omega
    · show (textsOf _).length ≤ 6
      unfold textsOf
      rw [List.length_map]
      exact pieces_len _ _ _ _ _

end Go.Proofs.Ytndmedkkecikoaa
