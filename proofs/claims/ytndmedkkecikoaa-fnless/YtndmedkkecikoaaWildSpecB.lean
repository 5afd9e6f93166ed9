/-
  What the model's functions of chapter 2 return, second part: what two patterns have in common, one in another, how many heads, the pattern of one head.
-/
import Derived.Test.YtndmedkkecikoaaWildSpec
import Derived.Test.YtndmedkkecikoaaHeadB
namespace Go.Proofs.Ytndmedkkecikoaa
open Go.ChangeShapes Go.WideShapes Go.ChangeAt Go.RowKit Go.Joins
set_option linter.unusedVariables false

/-- The first k bytes. -/
def preS (k : Nat) (f : Nat → UInt8) : ByteArray := ⟨((List.range k).map f).toArray⟩
theorem preS_size (k : Nat) (f : Nat → UInt8) : (preS k f).size = k := by simp [preS, ByteArray.size]
theorem preS_six (f : Nat → UInt8) : preS 6 f = mk6 f := rfl
theorem preS_one (k : Nat) (f : Nat → UInt8) (b : UInt8) (h : b = f k) : preS k f ++ ⟨#[b]⟩ = preS (k + 1) f := by
  subst h
  apply ByteArray.ext
  rw [ByteArray.data_append]
  simp [preS, List.range_succ]
theorem extract_one {s : ByteArray} {k : Nat} (h : k < s.size) : s.extract k (k + 1) = ⟨#[byA s k]⟩ := by
  apply ByteArray.ext
  rw [ByteArray.data_extract]
  apply Array.ext
  · have : k < s.data.size := h
    simp; omega
  · intro i h1 h2
    have hi : i = 0 := by simp at h2; omega
    subst hi
    rw [Array.getElem_extract]
    have := byA_get h
    rw [ByteArray.getElem_eq_getElem_data] at this
    simpa using this
theorem preS_step {s : ByteArray} {k : Nat} (h : k < s.size) (f : Nat → UInt8) (hf : f k = byA s k) : preS k f ++ s.extract k (k + 1) = preS (k + 1) f := by
  rw [extract_one h]
  exact preS_one k f _ hf.symm

/-- One byte of a string, as a string. -/
theorem slice_one {s : ByteArray} {k : Nat} (h : k < s.size) (w : World) :
    (Instr.slice 9 (.string s) (some (.int .i64 (k : Int))) (some (.int .i64 ((k : Int) + 1))) none).run Try.prog w = .ok (.string ⟨#[byA s k]⟩) w := by
  have := run_slice_string (P := Try.prog) w 9 s .i64 .i64 (k : Int) ((k : Int) + 1) Try.underlying9 (by omega) (by omega) (by omega)
  rw [this]
  rw [show ((k : Int)).toNat = k from by omega, show ((k : Int) + 1).toNat = k + 1 from by omega, extract_one h]

/-- The sign that two signs have in common; and whether there is one. -/
def andC (a b : UInt8) : UInt8 := bif a == 120 then b else a
def metC (a b : UInt8) : Bool := (a == 120) || ((b == 120) || (a == b))
theorem meet_pos {a b : ByteArray} (ha : okS a = true) (hb : okS b = true) : meetB (cf a) (vf a) (cf b) (vf b) = all6 (fun i => metC (byA a i) (byA b i)) :=
  all6_congr fun i hi => by
    rcases okS_sgn ha i hi with e | e | e <;> rcases okS_sgn hb i hi with e' | e' | e' <;> simp [cf, vf, metC, e, e']
theorem and_pos {a b : ByteArray} (ha : okS a = true) (hb : okS b = true) (hm : meetB (cf a) (vf a) (cf b) (vf b) = true) : txt (fun i => cf a i || cf b i) (fun i => vf a i || vf b i) = mk6 (fun i => andC (byA a i) (byA b i)) := by
  rw [meet_pos ha hb] at hm
  refine mk6_congr fun i hi => ?_
  have hm := all6_iff.1 hm i hi
  rcases okS_sgn ha i hi with e | e | e <;> rcases okS_sgn hb i hi with e' | e' | e' <;> simp [cf, vf, metC, andC, chr, e, e'] at hm ⊢

set_option maxRecDepth 100000 in
set_option maxHeartbeats 2000000 in
theorem l2And_any (a b : ByteArray) (ha : okS a = true) (hb : okS b = true) (w : World) :
    Calls Try.prog 74 #[.string a, .string b] w fun e w' => e = .returned (.string (andS a b)) ∧ Below w.heap.size w w' := by
  have ha6 : a.size = 6 := okS_size ha
  have hb6 : b.size = 6 := okS_size hb
  have HY : Hid (all6 (fun i => metC (byA a i) (byA b i)) = true → andS a b = mk6 (fun i => andC (byA a i) (byA b i))) := by
    intro h
    rw [← meet_pos ha hb] at h
    unfold andS meetS
    rw [ha, hb, h]
    exact and_pos ha hb h
  have HN : Hid (all6 (fun i => metC (byA a i) (byA b i)) = false → andS a b = ⟨#[]⟩) := by
    intro h
    rw [← meet_pos ha hb] at h
    unfold andS meetS
    rw [ha, hb, h]
    rfl
  clear ha hb
  generalize hf : (fun i => andC (byA a i) (byA b i)) = f at *
  have HF : Hid (∀ i, f i = andC (byA a i) (byA b i)) := fun i => by rw [← hf]
  clear hf
  go_enter Try.func74, Try.ntmps74
  go_wp2
  go_loopw [5, 6] (fun o i wr => ∃ k : Nat, k ≤ 6 ∧ i = .int .i64 k ∧ o = .string (preS k f) ∧ Below w.heap.size w wr ∧ ∀ j, j < k → metC (byA a j) (byA b j) = true) (fun _ i _ => 6 - (intOf i).toNat)
  case atStart => exact ⟨0, Nat.zero_le _, rfl, rfl, Below.refl _ _, fun j hj => by omega⟩
  case round =>
    obtain ⟨k, hk, rfl, rfl, hbel, hall⟩ := hrel
    have HA := Lib.hid hall
    clear hall
    have hps := preS_size k f
    by_cases hlt : k < 6
    · have hza : (k : Int) < (a.size : Int) := by omega
      have hzb : (k : Int) < (b.size : Int) := by omega
      have hza' : (k : Int) + 1 ≤ (a.size : Int) := by omega
      have hzb' : (k : Int) + 1 ≤ (b.size : Int) := by omega
      have ga : (a[k]'(by omega)) = byA a k := byA_get _
      have gb : (b[k]'(by omega)) = byA b k := byA_get _
      have HM : Hid (metC (byA a k) (byA b k) = true → ∀ j, j < k + 1 → metC (byA a j) (byA b j) = true) := by
        intro h j hj
        rcases Nat.lt_or_ge j k with h' | h'
        · exact HA.out j h'
        · obtain rfl : j = k := by omega
          exact h
      have hsa := slice_one (s := a) (k := k) (by omega)
      have hsb := slice_one (s := b) (k := k) (by omega)
      have hs1 : ∀ c : UInt8, (⟨#[c]⟩ : ByteArray).size = 1 := fun _ => rfl
      by_cases ea : byA a k = 120
      · have HM1 := Lib.hid (HM.out (by rw [ea]; rfl))
        have hst := Lib.hid (preS_one k f (byA b k) (by rw [HF.out, ea]; rfl))
        rw [ea] at ga
        go_wp2
        go_roundw
        case rel => exact ⟨k + 1, by omega, by go_num, by rw [hst.out], hbel, HM1.out⟩
        case measure => simp [intOf]; omega
      have na := (byte_ne 120 120 rfl (by omega) ea).1
      have ea' : (byA a k == 120) = false := by simpa using ea
      have hst := Lib.hid (preS_one k f (byA a k) (by rw [HF.out]; unfold andC; rw [ea']; rfl))
      by_cases eb : byA b k = 120
      · have HM1 := Lib.hid (HM.out (by rw [eb]; unfold metC; simp))
        rw [eb] at gb
        have ht : (((120 : UInt8).toNat : Int) == 120) = true := rfl
        clear ea ea'
        go_wp2_with fail
        go_quiet (fail)
        go_wp2
        go_roundw
        case rel => exact ⟨k + 1, by omega, by go_num, by rw [hst.out], belDrewN hbel nq, HM1.out⟩
        case measure => simp [intOf]; omega
      have nb := (byte_ne 120 120 rfl (by omega) eb).1
      cases eab : (byA a k == byA b k)
      · have HE : Hid (all6 (fun i => metC (byA a i) (byA b i)) = false) := all6_not.2 ⟨k, hlt, by simp [metC, ea', eab]; simpa using eb⟩
        have HE1 := Lib.hid (HN.out HE.out)
        have nn : (((byA a k).toNat : Int) == ((byA b k).toNat : Int)) = false := by
          have := u8_ne eab
          simpa using this
        clear ea ea' eb eab
        go_wp2_with fail
        go_quiet (fail)
        go_wp2
        go_ret
        exact ⟨by rw [HE1.out]; try rfl, belDrewN hbel nq⟩
      · have eab' : byA a k = byA b k := by simpa using eab
        have HM1 := Lib.hid (HM.out (by unfold metC; rw [eab]; simp))
        have nn : (((byA a k).toNat : Int) == ((byA b k).toNat : Int)) = true := by rw [eab']; simp
        clear ea ea' eb eab eab'
        go_wp2_with fail
        go_quiet (fail)
        go_wp2
        go_roundw
        case rel => exact ⟨k + 1, by omega, by go_num, by rw [hst.out], belDrewN hbel nq, HM1.out⟩
        case measure => simp [intOf]; omega
    · obtain rfl : k = 6 := by omega
      have HE := Lib.hid (HY.out (all6_iff.2 HA.out))
      go_wp2
      go_ret
      exact ⟨by rw [HE.out]; try rfl, hbel⟩

theorem mk6_list (f : Nat → UInt8) : (mk6 f).toList = [f 0, f 1, f 2, f 3, f 4, f 5] := by rw [ByteArray.toList_eq]; rfl
theorem empty_list : (⟨#[]⟩ : ByteArray).toList = [] := by rw [ByteArray.toList_eq]

set_option maxHeartbeats 1000000 in
theorem sWildAnd_any (a b : ByteArray) (ha : a.size ≤ 1048576) (hb : b.size ≤ 1048576) (w : World) :
    Calls Try.prog 89 #[.string a, .string b] w fun e w' => e = .returned (.tuple #[.string (andS a b), .bool (meetS a b)]) ∧ Below w.heap.size w w' := by
  cases hka : okS a
  · have e1 : meetS a b = false := by unfold meetS; rw [hka]; rfl
    have e2 : andS a b = ⟨#[]⟩ := by unfold andS; rw [e1]; rfl
    rw [e1, e2]
    clear e1 e2
    go_enter Try.func89, Try.ntmps89
    go_wp2_with (go_at_call 46; refine (sWildOk_any _ ha _).mono ?_; rintro e w' ⟨rfl, rfl⟩; rw [hka])
    go_ret2
    exact ⟨rfl, Below.refl _ _⟩
  · cases hkb : okS b
    · have e1 : meetS a b = false := by unfold meetS; rw [hka, hkb]; rfl
      have e2 : andS a b = ⟨#[]⟩ := by unfold andS; rw [e1]; rfl
      rw [e1, e2]
      clear e1 e2
      go_enter Try.func89, Try.ntmps89
      go_wp2_with fail
      refine (sWildOk_any _ ha _).mono ?_
      rintro e w' ⟨rfl, rfl⟩
      rw [hka]
      go_wp2_with fail
      refine (sWildOk_any _ hb _).mono ?_
      rintro e w' ⟨rfl, rfl⟩
      rw [hkb]
      go_wp2
      go_ret2
      exact ⟨rfl, Below.refl _ _⟩
    · have HL := Lib.hid (l2And_any a b hka hkb)
      have HX : Hid (meetS a b = true → andS a b = txt (fun i => cf a i || cf b i) (fun i => vf a i || vf b i)) := fun h => by unfold andS; rw [h]; rfl
      have HX0 : Hid (meetS a b = false → andS a b = ⟨#[]⟩) := fun h => by unfold andS; rw [h]; rfl
      cases hm : meetS a b
      · rw [HX0.out hm] at HL ⊢
        clear HX HX0
        go_enter Try.func89, Try.ntmps89
        go_wp2_with fail
        refine (sWildOk_any _ ha _).mono ?_
        rintro e w' ⟨rfl, rfl⟩
        rw [hka]
        go_wp2_with fail
        refine (sWildOk_any _ hb _).mono ?_
        rintro e w' ⟨rfl, rfl⟩
        rw [hkb]
        go_wp2_with fail
        refine (HL.out _).mono ?_
        rintro e w1 ⟨rfl, b1⟩
        go_wp2
        go_ret2
        exact ⟨rfl, b1⟩
      · rw [HX.out hm] at HL ⊢
        clear HX HX0
        unfold txt at *
        generalize (fun i => chr (cf a i || cf b i) (vf a i || vf b i)) = f at *
        have hl := mk6_list f
        go_enter Try.func89, Try.ntmps89
        go_wp2_with fail
        refine (sWildOk_any _ ha _).mono ?_
        rintro e w' ⟨rfl, rfl⟩
        rw [hka]
        go_wp2_with fail
        refine (sWildOk_any _ hb _).mono ?_
        rintro e w' ⟨rfl, rfl⟩
        rw [hkb]
        go_wp2_with fail
        refine (HL.out _).mono ?_
        rintro e w1 ⟨rfl, b1⟩
        go_wp2
        go_ret2
        exact ⟨rfl, b1⟩

theorem in_pos {a b : ByteArray} (ha : okS a = true) (hb : okS b = true) : ((andS a b).toList == a.toList) = inS a b := by
  have e0 : inS a b = inM (cf a) (vf a) (cf b) (vf b) := by unfold inS; rw [ha, hb]; rfl
  rw [e0]
  unfold inM
  cases hm : meetB (cf a) (vf a) (cf b) (vf b)
  · have e1 : andS a b = ⟨#[]⟩ := by unfold andS meetS; rw [ha, hb, hm]; rfl
    rw [e1, ← mk6_back (okS_size ha), mk6_list, empty_list]
    simp
  · have e1 : andS a b = mk6 (fun i => andC (byA a i) (byA b i)) := by unfold andS meetS; rw [ha, hb, hm]; exact and_pos ha hb hm
    rw [e1, Bool.and_true]
    have e2 : a.toList = [byA a 0, byA a 1, byA a 2, byA a 3, byA a 4, byA a 5] := by rw [← mk6_list, mk6_back (okS_size ha)]
    rw [e2, mk6_list]
    rw [meet_pos ha hb] at hm
    have e3 : all6 (fun i => !(cf b i && !cf a i)) = all6 (fun i => andC (byA a i) (byA b i) == byA a i) := all6_congr fun i hi => by
      have hm := all6_iff.1 hm i hi
      rcases okS_sgn ha i hi with e | e | e <;> rcases okS_sgn hb i hi with e' | e' | e' <;> simp [cf, metC, andC, e, e'] at hm ⊢
    rw [e3, Bool.eq_iff_iff, all6_iff]
    simp only [beq_iff_eq, List.cons.injEq, and_true]
    constructor
    · rintro ⟨h0, h1, h2, h3, h4, h5⟩ i hi
      match i, hi with
      | 0, _ => exact h0
      | 1, _ => exact h1
      | 2, _ => exact h2
      | 3, _ => exact h3
      | 4, _ => exact h4
      | 5, _ => exact h5
    · intro h
      exact ⟨h 0 (by omega), h 1 (by omega), h 2 (by omega), h 3 (by omega), h 4 (by omega), h 5 (by omega)⟩

/-! ### How many -/

def pmany (c : Nat → Bool) : Nat → Int | 0 => 1 | k + 1 => bif c k then pmany c k else 2 * pmany c k
theorem pmany_bound (c : Nat → Bool) : ∀ k, 1 ≤ pmany c k ∧ pmany c k ≤ 2 ^ k
  | 0 => by simp [pmany]
  | k + 1 => by
    obtain ⟨h1, h2⟩ := pmany_bound c k
    have : (2 : Int) ^ (k + 1) = 2 ^ k * 2 := Int.pow_succ 2 k
    simp only [pmany]
    cases c k <;> simp <;> omega
theorem pmany_six (c : Nat → Bool) : pmany c 6 = manyB c := by
  unfold manyB cnt6 pmany pmany pmany pmany pmany pmany pmany
  cases c 0 <;> cases c 1 <;> cases c 2 <;> cases c 3 <;> cases c 4 <;> cases c 5 <;> rfl
theorem pmany_le {c : Nat → Bool} {k : Nat} (h : k ≤ 6) : pmany c k ≤ 64 :=
  Int.le_trans (pmany_bound c k).2 (by
    match k, h with
    | 0, _ | 1, _ | 2, _ | 3, _ | 4, _ | 5, _ | 6, _ => decide)

set_option maxHeartbeats 1000000 in
theorem sWildMany_any (s : ByteArray) (hm : s.size ≤ 1048576) (w : World) :
    Calls Try.prog 48 #[.string s] w fun e w' => e = .returned (.int .i64 (manyS s)) ∧ Below w.heap.size w w' := by
  cases hk : okS s
  · rw [show manyS s = 0 from by unfold manyS; rw [hk]; rfl]
    go_enter Try.func48, Try.ntmps48
    go_wp2_with (go_at_call 46; refine (sWildOk_any _ hm _).mono ?_; rintro e w' ⟨rfl, rfl⟩; rw [hk])
    go_ret
    exact ⟨rfl, Below.refl _ _⟩
  · rw [show manyS s = pmany (cf s) 6 from by unfold manyS; rw [hk, pmany_six]; rfl]
    have h6 : s.size = 6 := okS_size hk
    go_enter Try.func48, Try.ntmps48
    go_wp2_with (go_at_call 46; refine (sWildOk_any _ hm _).mono ?_; rintro e w' ⟨rfl, rfl⟩; rw [hk])
    clear hk
    go_loop [3, 4] (fun n i => ∃ k : Nat, k ≤ 6 ∧ i = .int .i64 k ∧ n = .int .i64 (pmany (cf s) k)) (fun _ i => 6 - (intOf i).toNat)
    case atStart => exact ⟨0, Nat.zero_le _, rfl, rfl⟩
    case round =>
      obtain ⟨k, hk, rfl, rfl⟩ := hrel
      by_cases hlt : k < 6
      · have hb : (s[k]'(by omega)) = byA s k := byA_get _
        have p1 := (pmany_bound (cf s) k).1
        have p2 := pmany_le (c := cf s) hk
        by_cases e120 : byA s k = 120
        · have HE : Hid (2 * pmany (cf s) k = pmany (cf s) (k + 1)) := by show _ = _; simp [pmany, cf, e120]
          go_wp2
          go_round
          case rel => exact ⟨k + 1, by omega, by go_num, by rw [HE.out]⟩
          case measure => simp [intOf]; omega
        · have e120' : (byA s k == 120) = false := by simpa using e120
          have HE : Hid (pmany (cf s) k = pmany (cf s) (k + 1)) := by show _ = _; simp [pmany, cf, e120']
          have n120 := (byte_ne 120 120 rfl (by omega) e120).1
          clear e120 e120'
          go_wp2
          go_round
          case rel => exact ⟨k + 1, by omega, by go_num, by rw [← HE.out]⟩
          case measure => simp [intOf]; omega
      · obtain rfl : k = 6 := by omega
        go_wp2
        go_ret
        exact ⟨rfl, Below.refl _ _⟩

/-! ### The pattern of one head -/

theorem of_bits (f : Nat → Bool) : mk6 (fun i => bitV (f i)) = txt (fun _ => true) f := mk6_congr fun i _ => rfl

end Go.Proofs.Ytndmedkkecikoaa
