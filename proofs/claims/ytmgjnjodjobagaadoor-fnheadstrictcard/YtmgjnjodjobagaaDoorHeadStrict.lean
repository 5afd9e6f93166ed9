/-
  Proved: promise 2 (a head is written in one way), at every code from which the text is drawn; the code reads on as it did. No condition but the card's own: the listed tables of the library stand as its text lays them (this proof reads none of them).
-/
import Derived.Test.YtmgjnjodjobagaaDoorCards
import Derived.Test.YtmgjnjodjobagaaDoorTie
import Derived.Test.YtmgjnjodjobagaaDoorItoa
import Derived.Test.YtmgjnjodjobagaaDoorDrawHead
import Derived.Deep.DeepHandedRow
import Derived.Deep.RegionHeld3
namespace Go.Proofs.YtmgjnjodjobagaaDoor
open Go.ChangeShapes Go.WideShapes Go.ChangeAt Go.RowKit Go.Joins
set_option linter.unusedVariables false

theorem RdOk.drew {w : World} {g B : Nat} (h : RdOk w g B) : RdOk w.drew g B := h.keep fun _ _ => rfl

/-- One of a list of strings is picked. -/
def OfPost (k : Nat) (S : Nat → ByteArray) (g B : Nat) (w : World) (e : Ending) (w' : World) : Prop :=
  ∃ i, i < k ∧ e = .returned (.string (S i)) ∧ RdOk w' g (B + 1) ∧ w.grownBy w' (some g)

set_option maxHeartbeats 400000 in
theorem of_any (w : World) (g B j k : Nat) (S : Nat → ByteArray) (hr : RdOk w g B) (hB : B ≤ 1000000000) (hk : 1 ≤ k) (hk2 : k ≤ 1000) (hne : j ≠ g) (hj : j < w.heap.size)
    (hc : ∀ i, i < k → w.cell? ⟨j, i, none⟩ = some (.string (S i))) :
    Calls Tryd.prog 27 #[.pointer (some ⟨g, 0, none⟩), .slice (some ⟨j, 0, none⟩) k k] w (OfPost k S g B w) := by
  have HR := Lib.hid hr
  have HC := Lib.hid hc
  clear hr hc
  go_enter Tryd.func27, Tryd.ntmps27
  go_wp2_with fail
  refine (pick_any _ _ _ _ HR.out hB (by omega)).mono ?_
  rintro e w1 ⟨v, v0, v1, rfl, hr1, g1⟩
  have HR1 := Lib.hid hr1
  clear hr1
  have hcell : w1.cell? ⟨j, v.toNat, none⟩ = some (.string (S v.toNat)) := (gCell g1 _ hj hne).trans (HC.out _ (by omega))
  go_wp2
  go_ret
  exact ⟨v.toNat, by omega, rfl, HR1.out, g1⟩

/-- Some short text. -/
def ShortText (w : World) (e : Ending) (w' : World) : Prop := ∃ s : ByteArray, s.size ≤ 5 ∧ e = .returned (.string s) ∧ Below w.heap.size w w'

theorem sHeadText_short (a b c : Int) (w : World) : Calls Tryd.prog 9 #[.agg #[.int .i64 a, .int .i64 b, .int .i64 c]] w (ShortText w) := by
  cases hk : okB a b c
  · exact (sHeadText_no a b c hk w).mono fun e w' ⟨he, hb⟩ => ⟨_, by decide, he, hb⟩
  · exact (sHeadText_yes a b c hk w).mono fun e w' ⟨he, hb⟩ => ⟨_, by rw [textB_eq]; exact Nat.le_refl 5, he, hb⟩

/-- A text is drawn from a code. -/
def TextCoded (w : World) (e : Ending) (w' : World) : Prop := ∃ s : ByteArray, s.size ≤ 1000 ∧ e = .returned (.string s) ∧ Below w.heap.size w w'

def three : Nat → ByteArray | 0 => ⟨#[48]⟩ | 1 => ⟨#[46]⟩ | _ => ⟨#[52]⟩
def fourTexts : Nat → ByteArray | 0 => ⟨#[52, 46, 48, 46, 48]⟩ | 1 => ⟨#[48, 46, 49, 46, 52]⟩ | 2 => ⟨#[48, 44, 49, 46, 50]⟩ | _ => ⟨#[97, 46, 98, 46, 99]⟩
theorem three_size (i : Nat) : (three i).size = 1 := by unfold three; split <;> rfl
theorem fourTexts_size (i : Nat) : (fourTexts i).size = 5 := by unfold fourTexts; split <;> rfl

set_option maxHeartbeats 1000000 in
theorem drawHeadRead_any (w : World) (a : Option Addr) (len cap : Nat) (hb : BytesIn w w.heap.size a len cap) :
    Calls Tryd.prog 14 #[.slice a len cap] w (TextCoded w) := by
  have HB := Lib.hid hb
  clear hb
  go_enter Tryd.func14, Tryd.ntmps14
  go_wp2_with fail
  refine (open_any _ _ _ _ HB.out).mono ?_
  rintro e w1 ⟨rfl, hr, b1⟩
  have HR := Lib.hid hr
  have s1 := hr.lt
  clear hr
  go_wp2_with fail
  refine (l91Head_any _ _ _ HR.out (by omega)).mono ?_
  rintro e w2 ⟨x, y, z, hn, rfl, hr2, g2⟩
  have HR2 := Lib.hid hr2
  have s2 := g2.size
  clear hr2 hn
  go_wp2_with fail
  refine (sHeadText_short _ _ _ _).mono ?_
  rintro e w3 ⟨s, hs, rfl, b3⟩
  have HR3 := Lib.hid (HR2.out.below b3 (by omega))
  have s3 := b3.size
  go_wp2_with fail
  refine (pick_any _ _ _ _ HR3.out (by omega) (by omega)).mono ?_
  rintro e w4 ⟨at', at0, at1, rfl, hr4, g4⟩
  have HR4 := Lib.hid hr4
  have s4 := g4.size
  clear hr4
  go_wp2_with fail
  refine (pick_any _ _ _ _ HR4.out (by omega) (by omega)).mono ?_
  rintro e w5 ⟨v, v0, v1, rfl, hr5, g5⟩
  have HR5 := Lib.hid hr5
  have s5 := g5.size
  clear hr5
  have B5 : Hid (Below w.heap.size w w5) := (((b1.trans (gBel g2 (Nat.le_refl _) (by omega))).trans (b3.mono (by omega))).trans (gBel g4 (Nat.le_refl _) (by omega))).trans (gBel g5 (Nat.le_refl _) (by omega))
  clear g2 g4 g5 b1 b3 HR HR2 HR3 HR4
  have at2 : at' ≤ (s.size : Int) := by omega
  by_cases hv0 : v = 0
  · subst hv0
    go_wp2
    go_ret
    exact ⟨_, by simp; omega, rfl, B5.out⟩
  have e0 : (v == 0) = false := by simpa using hv0
  by_cases hv1 : v = 1
  · subst hv1
    have HRs := Lib.hid ((HR5.out.alloc (.cells #[.string ⟨#[48]⟩, .string ⟨#[46]⟩, .string ⟨#[52]⟩] 9)).drew)
    have hc : Hid (∀ i, i < 3 → (w5.alloc (.cells #[.string ⟨#[48]⟩, .string ⟨#[46]⟩, .string ⟨#[52]⟩] 9)).drew.cell? ⟨w5.heap.size, i, none⟩ = some (.string (three i))) := by
      intro i hi
      show (w5.alloc _).cell? _ = _
      rw [cell_of_block (newBlock _ _)]
      obtain rfl | rfl | rfl : i = 0 ∨ i = 1 ∨ i = 2 := by omega
      all_goals rfl
    have hts := three_size
    have hq1 : ¬ 9223372036854775807 < at'.toNat + 1 := by omega
    have hq2 : ¬ 9223372036854775807 < at'.toNat + 1 + (s.size - at'.toNat) := by omega
    go_wp2
    go_region_held3 (fun w' => True) (trivial)
      (first
        | (go_at_call 27; ((with_reducible refine (of_any _ _ _ _ _ three HRs.out ?_ ?_ ?_ ?_ ?_ hc.out).mono ?_); omega; omega; omega; omega; simp; rintro e w6 ⟨i, hi, rfl, hr6, g6⟩)))
    clear hr6
    go_wp2
    go_ret
    exact ⟨_, by simp [hts]; omega, rfl, ((B5.out.alloc (by omega) _).drew).trans (gBel g6 (Nat.le_refl _) (by simp; omega))⟩
  have e1 : (v == 1) = false := by simpa using hv1
  by_cases hv2 : v = 2
  · subst hv2
    have HRs := Lib.hid (HR5.out.alloc (.cells #[.string ⟨#[52, 46, 48, 46, 48]⟩, .string ⟨#[48, 46, 49, 46, 52]⟩, .string ⟨#[48, 44, 49, 46, 50]⟩, .string ⟨#[97, 46, 98, 46, 99]⟩] 9))
    have hc : Hid (∀ i, i < 4 → (w5.alloc (.cells #[.string ⟨#[52, 46, 48, 46, 48]⟩, .string ⟨#[48, 46, 49, 46, 52]⟩, .string ⟨#[48, 44, 49, 46, 50]⟩, .string ⟨#[97, 46, 98, 46, 99]⟩] 9)).cell? ⟨w5.heap.size, i, none⟩ = some (.string (fourTexts i))) := by
      intro i hi
      rw [cell_of_block (newBlock _ _)]
      obtain rfl | rfl | rfl | rfl : i = 0 ∨ i = 1 ∨ i = 2 ∨ i = 3 := by omega
      all_goals rfl
    go_wp2_with fail
    refine (of_any _ _ _ _ _ fourTexts HRs.out (by omega) (by omega) (by omega) (by omega) (by simp) hc.out).mono ?_
    rintro e w6 ⟨i, hi, rfl, hr6, g6⟩
    clear hr6
    go_wp2
    go_ret
    exact ⟨_, by rw [fourTexts_size]; omega, rfl, (B5.out.alloc (by omega) _).trans (gBel g6 (Nat.le_refl _) (by simp; omega))⟩
  have e2 : (v == 2) = false := by simpa using hv2
  go_wp2
  go_ret
  exact ⟨s, by omega, rfl, B5.out⟩

/-- What is read of a text is written as it was. -/
theorem headRead_told (s : ByteArray) (hm : s.size ≤ 1048576) : ∃ (x y z : Int) (k : Bool),
    (∀ W : World, Calls Tryd.prog 15 #[.string s] W fun e w' => e = .returned (.tuple #[.agg #[.int .i64 x, .int .i64 y, .int .i64 z], .bool k]) ∧ Below W.heap.size W w') ∧
    (∀ W : World, Calls Tryd.prog 10 #[.string s] W fun e w' => e = .returned (.tuple #[.agg #[.int .i64 x, .int .i64 y, .int .i64 z], .bool k]) ∧ Below W.heap.size W w') ∧
    (k = true → okB x y z = true ∧ textB x y z = s) := by
  by_cases h : s.size = 5
  · obtain ⟨b0, b1, b2, b3, b4, rfl⟩ := five_bytes h
    cases hk : (b1 == 46) && ((b3 == 46) && okB ((b0.toNat : Int) - 48) ((b2.toNat : Int) - 48) ((b4.toNat : Int) - 48))
    · refine ⟨0, 0, 0, false, fun W => (sHeadRead_five b0 b1 b2 b3 b4 W).mono fun e w' h => ?_, fun W => (iHeadRead_five b0 b1 b2 b3 b4 W).mono fun e w' h => ?_, fun h => by cases h⟩ <;>
      · unfold ReadAs at h
        rw [hk] at h
        exact h
    · refine ⟨(b0.toNat : Int) - 48, (b2.toNat : Int) - 48, (b4.toNat : Int) - 48, true, fun W => (sHeadRead_five b0 b1 b2 b3 b4 W).mono fun e w' h => ?_, fun W => (iHeadRead_five b0 b1 b2 b3 b4 W).mono fun e w' h => ?_, fun _ => ?_⟩
      · unfold ReadAs at h
        rw [hk] at h
        exact h
      · unfold ReadAs at h
        rw [hk] at h
        exact h
      · simp only [Bool.and_eq_true, beq_iff_eq] at hk
        obtain ⟨rfl, rfl, hk⟩ := hk
        exact ⟨hk, textB_bytes b0 b2 b4⟩
  · exact ⟨0, 0, 0, false, sHeadRead_short s h hm, iHeadRead_short s h hm, fun h => by cases h⟩

set_option maxHeartbeats 1000000 in
theorem walk_FnHeadStrict (a : Option Addr) (len cap : Nat) (w : World) (hb : BytesIn w w.heap.size a len cap) :
    Calls Tryd.prog 4 #[.slice a len cap] w fun e w' => e = .returned (.bool true) ∧ Below w.heap.size w w' := by
  have HB := Lib.hid hb
  have hm : (len : Int) ≤ maxLen := by have := hb.1; have := hb.2.1; omega
  unfold maxLen at hm
  clear hb
  by_cases hlen : (1048576 : Int) < (len : Int)
  · go_enter Tryd.func4, Tryd.ntmps4
    go_wp2
    go_ret
    exact ⟨rfl, Below.refl _ _⟩
  go_enter Tryd.func4, Tryd.ntmps4
  go_wp2_with fail
  refine (drawHeadRead_any _ _ _ _ HB.out).mono ?_
  rintro e w1 ⟨s, hs, rfl, b1⟩
  have s1 := b1.size
  obtain ⟨x, y, z, k, hs1, hi1, hkk⟩ := headRead_told s (by omega)
  have HS := Lib.hid hs1
  have HI := Lib.hid hi1
  have HK := Lib.hid hkk
  clear hs1 hi1 hkk
  go_wp2_with fail
  refine (HS.out _).mono ?_
  rintro e w2 ⟨rfl, b2⟩
  have s2 := b2.size
  go_wp2_with fail
  refine (HI.out _).mono ?_
  rintro e w3 ⟨rfl, b3⟩
  have c3 := belCell b3
  have s3 := b3.size
  simp at s3
  have z23 : w2.heap.size < w3.heap.size := by omega
  have B3 : Hid (Below w.heap.size w (w3.alloc (.cells #[.int .i64 x, .int .i64 y, .int .i64 z] 24))) := (b1.trans ((b2.mono (by omega)).trans (((Below.refl _ _).alloc (by omega) _).trans (b3.mono (by simp; omega))))).alloc (by omega) _
  cases k
  · go_wp2
    go_ret
    exact ⟨rfl, B3.out⟩
  · obtain ⟨hk, rfl⟩ := HK.out rfl
    go_wp2_with fail
    refine (iHeadOk_any _ _ _ _).mono ?_
    rintro e w4 ⟨rfl, b4⟩
    have c4 := belCell b4
    have s4 := b4.size
    simp at s4
    have z34 : w3.heap.size < w4.heap.size := by omega
    rw [hk]
    go_wp2_with fail
    refine (iHeadText_yes _ _ _ hk _).mono ?_
    rintro e w5 ⟨rfl, b5⟩
    go_wp2
    go_ret
    exact ⟨rfl, B3.out.trans ((b4.mono (by simp; omega)).trans (b5.mono (by omega)))⟩

theorem contract_FnHeadStrict (H : Type) (enc : TypeId × Value → H) (W : World) (base : Nat) (args : Array Value) (ds gs : List (DataW H)) (before : List MemPlace)
    (hval : ∀ (j : Nat) t v, Tryd.f4.params[j]? = some t → args[j]? = some v → Value.okWide Tryd.prog W .any base t v)
    (hW : DataW.Whole enc Tryd.prog Tryd.f4.params.toList Rows.fnHeadStrictSpec.vars false W args.toList ds gs before) :
    Calls Tryd.prog 4 args W fun e W' => ∃ v, e = .returned v ∧ Rows.fnHeadStrictSpec.post enc Tryd.prog Tryd.f4 false true false false W args v W' := by
  have hW' := hW
  obtain ⟨p, q, hA0, hV, rfl, hfz, hnd⟩ := hW
  have hA : DataW.TrodAll enc Tryd.prog W 0 (fun _ => true) true Tryd.f4.params.toList args.toList ds p := hA0
  rw [Tryd.params4] at hA hval
  obtain ⟨v0, vs0, d0, ds0, p0, q0, hargs, rfl, rfl, h0, r0⟩ := trodAll_cons hA
  obtain ⟨rfl, rfl, rfl⟩ := trodAll_nil r0
  obtain rfl : args = #[v0] := by cases args; simp_all
  obtain ⟨rfl, rfl⟩ := trodVars_none hV
  have k0 := h0
  have lt0 : ∀ x ∈ p0, x.block < W.heap.size := by obtain ⟨m, hm⟩ := k0; exact DataW.trod_lt m _ _ _ hm
  obtain ⟨a0, len0, cap0, rfl⟩ := okWide_slice Tryd.underlying22 (hval 0 22 v0 rfl rfl)
  have w0 : BytesIn W W.heap.size a0 len0 cap0 := isRow_of h0
  clear hA0
  refine (walk_FnHeadStrict a0 len0 cap0 W w0).mono fun e W' ⟨he, bel⟩ => ?_
  subst he
  exact ⟨_, rfl, _, _, _, [], _, [], hW', trodAll_mk1 (shut_bool Tryd.underlying4 _), (trodAll_cons_mk (Below.trod laidOut (by kernel_rfl) (of_decide_eq_true (by kernel_rfl)) k0 bel lt0) (trodAll_mk0)), rfl, bel.frame _, fun h => by cases h⟩

/-- A world for the witness: the settled one, with the listed variables as the text lays them. -/
noncomputable def laidWorld_FnHeadStrict (os : Os) : World :=
  { World.holding Tryd.prog os ⟨#[], #[], []⟩ with heap := ((((World.holding Tryd.prog os ⟨#[], #[], []⟩).heap).modify 1 (fun | .cells _ t frozen => .cells #[.int .u8 0, .int .u8 1, .int .u8 28, .int .u8 2, .int .u8 29, .int .u8 14, .int .u8 24, .int .u8 3, .int .u8 30, .int .u8 22, .int .u8 20, .int .u8 15, .int .u8 25, .int .u8 17, .int .u8 4, .int .u8 8, .int .u8 31, .int .u8 27, .int .u8 13, .int .u8 23, .int .u8 21, .int .u8 19, .int .u8 16, .int .u8 7, .int .u8 26, .int .u8 12, .int .u8 18, .int .u8 6, .int .u8 11, .int .u8 5, .int .u8 10, .int .u8 9] t frozen | o => o)).modify 2 (fun | .cells _ t frozen => .cells #[.int .u8 0, .int .u8 1, .int .u8 56, .int .u8 2, .int .u8 57, .int .u8 49, .int .u8 28, .int .u8 3, .int .u8 61, .int .u8 58, .int .u8 42, .int .u8 50, .int .u8 38, .int .u8 29, .int .u8 17, .int .u8 4, .int .u8 62, .int .u8 47, .int .u8 59, .int .u8 36, .int .u8 45, .int .u8 43, .int .u8 51, .int .u8 22, .int .u8 53, .int .u8 39, .int .u8 33, .int .u8 30, .int .u8 24, .int .u8 18, .int .u8 12, .int .u8 5, .int .u8 63, .int .u8 55, .int .u8 48, .int .u8 27, .int .u8 60, .int .u8 41, .int .u8 37, .int .u8 16, .int .u8 46, .int .u8 35, .int .u8 44, .int .u8 21, .int .u8 52, .int .u8 32, .int .u8 23, .int .u8 11, .int .u8 54, .int .u8 26, .int .u8 40, .int .u8 15, .int .u8 34, .int .u8 20, .int .u8 31, .int .u8 10, .int .u8 25, .int .u8 14, .int .u8 19, .int .u8 9, .int .u8 13, .int .u8 8, .int .u8 7, .int .u8 6] t frozen | o => o)).modify 0 (fun | .cells _ t frozen => .cells #[.int .u64 1, .int .u64 10, .int .u64 100, .int .u64 1000, .int .u64 10000, .int .u64 100000, .int .u64 1000000, .int .u64 10000000, .int .u64 100000000, .int .u64 1000000000, .int .u64 10000000000, .int .u64 100000000000, .int .u64 1000000000000, .int .u64 10000000000000, .int .u64 100000000000000, .int .u64 1000000000000000, .int .u64 10000000000000000, .int .u64 100000000000000000, .int .u64 1000000000000000000, .int .u64 10000000000000000000] t frozen | o => o) }

theorem laidMet_FnHeadStrict (os : Os) : laidMet Tryd.prog Rows.fnHeadStrictRow.laid ((laidWorld_FnHeadStrict os).forCall (fun _ _ => 0) ⟨#[], #[.slice none 0 0], []⟩).memory :=
  laidMet_of_run' 8 (by kernel_rfl) (by kernel_rfl)

theorem reads_FnHeadStrict (os : Os) {H : Type} (enc : TypeId × Value → H) : ∃ places, DataW.whole enc Tryd.prog ((laidWorld_FnHeadStrict os).forCall (fun _ _ => 0) ⟨#[], #[.slice none 0 0], []⟩).memory Tryd.f4.params.toList Rows.fnHeadStrictSpec.vars false (#[.slice none 0 0] : Array Value).toList 8 = some ([.nil], [], places) :=
  ⟨[], by kernel_rfl⟩

set_option maxRecDepth 100000 in
theorem lifted_FnHeadStrict (os : Os) (started : os.Started) (H : Type) (enc : TypeId × Value → H) (F : Stop.Interp) :
    ReturnsInHanded {} Tryd.checked os 4 .any ((OpenSpec.ofChange Rows.fnHeadStrictSpec).preRow enc Tryd.prog Tryd.f4 Rows.fnHeadStrictRow.domain false Rows.fnHeadStrictRow.laid) (((OpenSpec.ofChange Rows.fnHeadStrictSpec).at F).post enc Tryd.prog Tryd.f4 false true false false) := by
  obtain ⟨places, hx⟩ := reads_FnHeadStrict os enc
  refine returnsInHanded_of_row (C := Tryd.checked) (s := OpenSpec.ofChange Rows.fnHeadStrictSpec) own started (by kernel_rfl) Tryd.func4
    (witness_row_at (enc := enc) (C := Tryd.checked) false (laidWorld_FnHeadStrict os) #[.slice none 0 0] rfl (by kernel_rfl) (by kernel_rfl) (by kernel_rfl)
      (OpenSpec.preRow_of_cond 8 hx (by kernel_rfl) (fun k hk => by cases hk) (by kernel_rfl) (laidMet_FnHeadStrict os))) ?_
  intro W base args ds gs before hval hW _ _ _ hL _ _
  exact contract_FnHeadStrict H enc W base args ds gs before hval hW

theorem said_FnHeadStrict : Rows.FnHeadStrictSaid :=
  OpenClaim.holds_of_cond 4 Tryd.f4 rfl rfl rfl rfl rfl rfl rfl ⟨rfl, rfl, rfl, rfl, rfl⟩ rfl rfl rfl rfl rfl (by kernel_rfl) Tryd.func4 (by kernel_rfl)
    (of_decide_eq_true (by kernel_rfl)) (by unfold Func.isWrapper; first | (rw [if_pos (by decide +kernel)]; kernel_rfl) | (rw [if_neg (by decide +kernel)]; exact ⟨rfl, rfl⟩))
    (fun os started H enc _ F => by rw [OpenClaim.pre_eq_preRow]; exact lifted_FnHeadStrict os started H enc F)

theorem plain_FnHeadStrict (f : FuncId) (fn : Func) (hf : Tryd.pinned.checked.prog.funcNamed "loop.example/crossbuck/laws.FnHeadStrict" = some f) (hfn : Tryd.pinned.checked.prog.funcs[f]? = some fn) :
    false = Tryd.pinned.checked.prog.looks [] ∧ ∀ (j : Nat) t, fn.params[j]? = some t → Tryd.pinned.checked.prog.wantsStandIn t = false := by
  obtain rfl : f = 4 := Option.some.inj ((show Tryd.prog.funcNamed "loop.example/crossbuck/laws.FnHeadStrict" = some 4 by kernel_rfl).symm.trans hf) |>.symm
  obtain rfl : fn = Tryd.f4 := (Option.some.inj (Tryd.func4.symm.trans hfn)).symm
  refine ⟨by kernel_rfl, fun j t ht => ?_⟩
  rw [Tryd.params4] at ht
  obtain rfl : t = 22 := by simpa using Array.mem_of_getElem? ht
  exact (show Tryd.prog.wantsStandIn 22 = false by kernel_rfl)

theorem proved_FnHeadStrict : Rows.FnHeadStrictCardSaid :=
  Claim7.holds_tied_plain_at .later [] _ _ _ _ said_FnHeadStrict (fun _ h => by cases h) (by kernel_rfl) (fun _ h => by cases h) fnHeadStrict_row_tie rfl ⟨rfl, rfl⟩ (by kernel_rfl) rfl plain_FnHeadStrict (by kernel_rfl)

end Go.Proofs.YtmgjnjodjobagaaDoor
