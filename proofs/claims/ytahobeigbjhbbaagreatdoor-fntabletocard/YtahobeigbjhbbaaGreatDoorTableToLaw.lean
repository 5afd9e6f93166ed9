/-
  Proved: promise 53 (each head is sent to one port or to none), at every code from which the table and the number are drawn; the code reads on as it did. No condition but the card's own: the listed variables of the library stand as its text lays them.
-/
import Derived.Test.YtahobeigbjhbbaaGreatDoorRuleCard
import Derived.Test.YtahobeigbjhbbaaGreatDoorOwnB
import Derived.Test.YtahobeigbjhbbaaGreatDoorTabPartF
import Derived.Test.YtahobeigbjhbbaaGreatDoorTabDrawC
import Derived.Test.YtahobeigbjhbbaaGreatDoorTabToT
namespace Go.Proofs.YtahobeigbjhbbaaGreatDoor
open Go.ChangeShapes Go.WideShapes Go.ChangeAt Go.RowKit Go.Joins
set_option linter.unusedVariables false

set_option maxRecDepth 100000 in
set_option maxHeartbeats 8000000 in
theorem walk_FnTableTo (a : Option Addr) (len cap : Nat) (w : World) (hb : BytesIn w w.heap.size a len cap) (hE : EtOk w) :
    Calls Tryz.prog 13 #[.slice a len cap] w fun e w' => e = .returned (.bool true) ∧ Below w.heap.size w w' := by
  have HB := Lib.hid hb
  have HE := Lib.hid hE
  have hm : (len : Int) ≤ maxLen := by have := hb.1; have := hb.2.1; omega
  unfold maxLen at hm
  clear hb hE
  by_cases hlen : (1048576 : Int) < (len : Int)
  · go_enter Tryz.func13, Tryz.ntmps13
    go_wp2
    go_ret
    exact ⟨rfl, Below.refl _ _⟩
  go_enter Tryz.func13, Tryz.ntmps13
  go_wp2_with fail
  refine (drawTableTo_any _ _ _ _ HB.out).mono ?_
  rintro e w1 ⟨v, l, q, rfl, hl, hq1, hq2, hx, b1⟩
  have hn : l.length ≤ 1048576 := by omega
  have HL : Hid (∀ W, Below w1.heap.size w1 W → Rls W W.heap.size v l) := fun W hb => (hx.rls.below hb (Nat.le_refl _)).mono hb.size
  have HEW : Hid (∀ W, Below w1.heap.size w1 W → EtOk W) := fun W hb => (HE.out.below b1).below hb
  have BW : Hid (∀ W, Below w1.heap.size w1 W → Below w.heap.size w W) := fun W hb => belStep b1 hb
  have HI := Lib.hid (fun W q h => iTableTo_any W v l h hn q)
  have HS := Lib.hid (fun W h => sTableTo_any W v l h hn q)
  have HT := Lib.hid (fun W h => sTableOk_any W v l h hn)
  have HAL : Hid (∀ z : Int, (toT l z).length ≤ 64) := fun z => toT_len l z
  obtain ⟨va, vc, rfl⟩ : ∃ va vc, v = .slice va l.length vc := by
    obtain ⟨va, vc, rfl, -⟩ := hx.rls
    exact ⟨va, vc, rfl⟩
  clear hx b1
  go_wp2_with fail
  refine (HI.out _ q (HL.out _ (Below.refl _ _)) (HEW.out _ (Below.refl _ _))).mono ?_
  rintro e w2 ⟨s, rfl, hrow, b2⟩
  have HR := Lib.hid hrow
  have B2 := Lib.hid b2
  clear hrow b2
  go_wp2_with fail
  refine (HS.out _ (HL.out _ B2.out)).mono ?_
  rintro e w3 ⟨u, rfl, hrow, b3⟩
  have HU := Lib.hid hrow
  replace HR := Lib.hid (HR.out.below b3)
  have B3 := Lib.hid (belStep B2.out b3)
  clear hrow b3 B2
  go_wp2_with fail
  refine (lxTexts_same _ _ _ _ _ _ HR.out HU.out (by have := HAL.out q; omega)).mono ?_
  rintro e w4 ⟨rfl, b4⟩
  replace HR := Lib.hid (HR.out.below b4)
  have B4 := Lib.hid (belStep B3.out b4)
  clear b4 B3 HU
  go_wp2_with fail
  refine (HT.out _ (HL.out _ B4.out)).mono ?_
  rintro e w5 ⟨rfl, b5⟩
  replace HR := Lib.hid (HR.out.below b5)
  have B5 := Lib.hid (belStep B4.out b5)
  clear b5 B4
  cases ht : tOk l
  · rw [ht] at HT
    go_wp2_with fail
    refine (HS.out _ (HL.out _ B5.out)).mono ?_
    rintro e w6 ⟨u, rfl, hrow, b6⟩
    have HU := Lib.hid hrow
    replace HR := Lib.hid (HR.out.below b6)
    have B6 := Lib.hid (belStep B5.out b6)
    clear hrow b6
    go_wp2_with fail
    refine (lxTexts_same _ _ _ _ _ _ HR.out HU.out (by have := HAL.out q; omega)).mono ?_
    rintro e w7 ⟨rfl, b7⟩
    have B7 := Lib.hid (belStep B6.out b7)
    clear b7
    go_wp2
    go_ret
    exact ⟨rfl, BW.out _ B7.out⟩
  by_cases hlo : q < 0
  · clear HT ht
    go_wp2_with fail
    refine (HS.out _ (HL.out _ B5.out)).mono ?_
    rintro e w6 ⟨u, rfl, hrow, b6⟩
    have HU := Lib.hid hrow
    replace HR := Lib.hid (HR.out.below b6)
    have B6 := Lib.hid (belStep B5.out b6)
    clear hrow b6
    go_wp2_with fail
    refine (lxTexts_same _ _ _ _ _ _ HR.out HU.out (by have := HAL.out q; omega)).mono ?_
    rintro e w7 ⟨rfl, b7⟩
    have B7 := Lib.hid (belStep B6.out b7)
    clear b7
    go_wp2
    go_ret
    exact ⟨rfl, BW.out _ B7.out⟩
  by_cases hhi : (5 : Int) ≤ q
  · clear HT ht
    go_wp2_with fail
    refine (HS.out _ (HL.out _ B5.out)).mono ?_
    rintro e w6 ⟨u, rfl, hrow, b6⟩
    have HU := Lib.hid hrow
    replace HR := Lib.hid (HR.out.below b6)
    have B6 := Lib.hid (belStep B5.out b6)
    clear hrow b6
    go_wp2_with fail
    refine (lxTexts_same _ _ _ _ _ _ HR.out HU.out (by have := HAL.out q; omega)).mono ?_
    rintro e w7 ⟨rfl, b7⟩
    have B7 := Lib.hid (belStep B6.out b7)
    clear b7
    go_wp2
    go_ret
    exact ⟨rfl, BW.out _ B7.out⟩
  have hq3 : 0 ≤ q := by omega
  have hq4 : q < 5 := by omega
  have HST : Hid (∀ z : Int, 0 ≤ z → z < 5 → cutN (fun b => outF b l) (z + 1) = cutN (fun b => outF b l) z + manyR (toT l z)) := fun z => to_step ht
  have HC0 : Hid (cutN (fun b => outF b l) (0) = 0) := cutN_low (fun b _ => (outF_low ht b).1)
  have HC1 : Hid (cutN (fun b => outF b l) (5) = 64) := cutN_high (fun b _ => (outF_low ht b).2)
  have HCB : Hid (∀ z, 0 ≤ cutN (fun b => outF b l) z ∧ cutN (fun b => outF b l) z ≤ 64) := cutN_bound _
  have HFI : Hid (∀ z : Int, 0 ≤ z → z < 5 → Fit6 (toT l z)) := fun z h1 h2 => by rw [toT_yes ht h1 h2]; exact fit_tidy _
  have HHS : Hid (∀ k : Nat, k < 64 → okSp (toT l q) = true ∧ inSp (toT l q) (f6 (hB ((k : Int) / 16 % 4) ((k : Int) / 4 % 4) ((k : Int) % 4))) = ((outF (kb6 k) l) == q)) := fun k hk => ⟨by rw [toT_yes ht hq3 hq4]; exact okSp_tidy _, to_head ht hq3 hq4 hk⟩
  obtain ⟨X, hX⟩ : ∃ X : Nat → Int × Int × Int, X = fun k : Nat => (doT ((k : Int) / 16 % 4) ((k : Int) / 4 % 4) ((k : Int) % 4) l).1 := ⟨_, rfl⟩
  have HAT : Hid (∀ k : Nat, k < 64 → ∀ W, Below w1.heap.size w1 W → Calls Tryz.prog 28 #[.slice va l.length vc, .agg #[.int .i64 ((k : Int) / 16 % 4), .int .i64 ((k : Int) / 4 % 4), .int .i64 ((k : Int) % 4)]] W fun e w' => e = .returned (.tuple #[.agg #[.int .i64 (X k).1, .int .i64 (X k).2.1, .int .i64 (X k).2.2], .int .i64 (outF (kb6 k) l)]) ∧ Below W.heap.size W w') := fun k hk W hW => by have h := iTableDo_any W (.slice va l.length vc) l (HL.out _ hW) hn ((k : Int) / 16 % 4) ((k : Int) / 4 % 4) ((k : Int) % 4) (HEW.out _ hW); rw [do_head ht hk] at h; rw [hX]; exact h
  have HLX : Hid (∀ k : Nat, k < 64 → ∀ W, Calls Tryz.prog 34 #[.int .i64 k] W fun e w' => e = .returned (.agg #[.int .i64 ((k : Int) / 16 % 4), .int .i64 ((k : Int) / 4 % 4), .int .i64 ((k : Int) % 4)]) ∧ Below W.heap.size W w') := fun k hk => lxHead_at k (by omega)
  have HRW : Hid (∀ W, Below w5.heap.size w5 W → StrRow W w1.heap.size s (toT l q)) := fun W hb => HR.out.below hb
  have hfq := Lib.hid (HFI.out q hq3 hq4)
  clear ht HT HS HR hq1 hq2 hlo hhi hX
  generalize cutN (fun b => outF b l) = c at *
  go_wp2
  go_loopw [6, 7] (fun n i wr => ∃ z : Int, 0 ≤ z ∧ z ≤ 5 ∧ i = .int .i64 z ∧ n = .int .i64 (c z) ∧ Below w5.heap.size w5 wr) (fun _ i _ => (5 - intOf i).toNat)
  case atStart => exact ⟨0, by omega, by omega, rfl, by rw [HC0.out], Below.refl _ _⟩
  case round =>
    obtain ⟨z, hz1, hz2, rfl, rfl, hbel⟩ := hrel
    have HBL := Lib.hid hbel
    have cb := HCB.out z
    by_cases hlt : z < 5
    · have cb1 := HCB.out (z + 1)
      have cst := HST.out z hz1 hlt
      have hfz := Lib.hid (HFI.out z hz1 hlt)
      have HIZ := Lib.hid (HI.out · z)
      clear hbel HST HCB HC0 HC1 HFI HHS HAT HLX HRW
      generalize toT l z = Y at *
      generalize hC : c (z + 1) = c1 at *
      generalize c z = c0 at *
      go_wp2_with fail
      refine (HIZ.out _ (HL.out _ (B5.out.trans (HBL.out.mono B5.out.size))) (HEW.out _ (B5.out.trans (HBL.out.mono B5.out.size)))).mono ?_
      rintro e w6 ⟨y, rfl, hrow, b6⟩
      have HY := Lib.hid hrow
      have B6 := Lib.hid (belStep HBL.out b6)
      clear b6 hrow
      go_wp2_with fail
      refine (iSpaceMany_any _ _ _ HY.out.strs hfz.out).mono ?_
      rintro e w7 ⟨rfl, b7⟩
      have B7 := Lib.hid (belStep B6.out b7)
      clear b7 B6 HY
      generalize manyR Y = mm at *
      go_wp2
      go_roundw
      case rel => exact ⟨z + 1, by omega, by omega, by go_num, by rw [hC, cst], B7.out⟩
      case measure => simp [intOf]; omega
    · obtain rfl : z = 5 := by omega
      rw [HC1.out]
      clear hbel HST HCB HC0 HC1 HFI cb hlt hz1 hz2
      go_wp2
      go_loopw [8] (fun i wr => ∃ k : Nat, k ≤ 64 ∧ i = .int .i64 k ∧ Below w5.heap.size w5 wr) (fun i _ => 64 - (intOf i).toNat)
      case atStart => exact ⟨0, Nat.zero_le _, rfl, HBL.out⟩
      case round =>
        obtain ⟨k, hk, rfl, hbel⟩ := hrel
        replace HBL := Lib.hid hbel
        clear hbel
        by_cases hlt : k < 64
        · have hkz : (k : Int) < 64 := by omega
          have HLK := Lib.hid (HLX.out k hlt)
          have HAK := Lib.hid (HAT.out k hlt)
          obtain ⟨hok, hin⟩ := HHS.out k hlt
          have HIK := Lib.hid (fun W h => iSpaceHas_any W s (toT l q) ((k : Int) / 16 % 4) ((k : Int) / 4 % 4) ((k : Int) % 4) h hfq.out)
          rw [lx_ok, hok, hin, Bool.true_and, Bool.true_and] at HIK
          have HRW2 := Lib.hid (fun W hb => (HRW.out W hb).strs)
          clear hok hin HLX HAT HHS HRW
          generalize (outF (kb6 k) l) = A at *
          obtain ⟨⟨x1, x2, x3⟩, hX⟩ : ∃ x, X k = x := ⟨_, rfl⟩
          rw [hX] at HAK
          clear hX
          have hAq : (A == q) = decide (A = q) := rfl
          go_wp2_with fail
          refine (HLK.out _).mono ?_
          rintro e w6 ⟨rfl, b6⟩
          have B6 := Lib.hid (belStep HBL.out b6)
          clear b6
          go_wp2_with fail
          refine (HAK.out _ (B5.out.trans (B6.out.mono B5.out.size))).mono ?_
          rintro e w7 ⟨rfl, b7⟩
          have B7 := Lib.hid ((belStep B6.out b7).alloc (belStep B6.out b7).size (.cells #[.int .i64 x1, .int .i64 x2, .int .i64 x3] 36))
          clear b7
          go_wp2_with fail
          refine (HLK.out _).mono ?_
          rintro e w8 ⟨rfl, b8⟩
          have B8 := Lib.hid (belStep B7.out b8)
          clear b8
          go_wp2_with fail
          refine (HIK.out _ (HRW2.out _ B8.out)).mono ?_
          rintro e w9 ⟨rfl, b9⟩
          have B9 := Lib.hid (belStep B8.out b9)
          clear b9 B8 B7 B6 HLK HIK HAK hAq
          by_cases e0 : A = q
          · subst e0
            go_wp2
            go_roundw
            case rel => exact ⟨k + 1, by omega, by go_num, B9.out⟩
            case measure => simp [intOf]; omega
          · go_wp2
            go_roundw
            case rel => exact ⟨k + 1, by omega, by go_num, B9.out⟩
            case measure => simp [intOf]; omega
        · obtain rfl : k = 64 := by omega
          go_wp2
          go_ret
          exact ⟨rfl, BW.out _ (B5.out.trans (HBL.out.mono B5.out.size))⟩

set_option maxRecDepth 100000 in
theorem contract_FnTableTo (H : Type) (enc : TypeId × Value → H) (W : World) (base : Nat) (args : Array Value) (ds gs : List (DataW H)) (before : List MemPlace)
    (hval : ∀ (j : Nat) t v, Tryz.f13.params[j]? = some t → args[j]? = some v → Value.okWide Tryz.prog W .any base t v)
    (hW : DataW.Whole enc Tryz.prog Tryz.f13.params.toList Rows.fnTableToSpec.vars false W args.toList ds gs before) (hE : EtOk W) :
    Calls Tryz.prog 13 args W fun e W' => ∃ v, e = .returned v ∧ Rows.fnTableToSpec.post enc Tryz.prog Tryz.f13 false true false false W args v W' := by
  have hW' := hW
  obtain ⟨p, q, hA0, hV, rfl, hfz, hnd⟩ := hW
  have hA : DataW.TrodAll enc Tryz.prog W 0 (fun _ => true) true Tryz.f13.params.toList args.toList ds p := hA0
  rw [Tryz.params13] at hA hval
  obtain ⟨v0, vs0, d0, ds0, p0, q0, hargs, rfl, rfl, h0, r0⟩ := trodAll_cons hA
  obtain ⟨rfl, rfl, rfl⟩ := trodAll_nil r0
  obtain rfl : args = #[v0] := by cases args; simp_all
  obtain ⟨rfl, rfl⟩ := trodVars_none hV
  have k0 := h0
  have lt0 : ∀ x ∈ p0, x.block < W.heap.size := by obtain ⟨m, hm⟩ := k0; exact DataW.trod_lt m _ _ _ hm
  obtain ⟨a0, len0, cap0, rfl⟩ := okWide_slice Tryz.underlying22 (hval 0 22 v0 rfl rfl)
  have w0 : BytesIn W W.heap.size a0 len0 cap0 := isRow_of h0
  clear hA0
  refine (walk_FnTableTo a0 len0 cap0 W w0 hE).mono fun e W' ⟨he, bel⟩ => ?_
  subst he
  exact ⟨_, rfl, _, _, _, [], _, [], hW', trodAll_mk1 (shut_bool Tryz.underlying4 _), (trodAll_cons_mk (Below.trod laidOut (by kernel_rfl) (of_decide_eq_true (by kernel_rfl)) k0 bel lt0) (trodAll_mk0)), rfl, bel.frame _, fun h => by cases h⟩

/-- A world for the witness: the settled one, with the listed variables as the text lays them. -/
noncomputable def laidWorld_FnTableTo (os : Os) : World :=
  { World.holding Tryz.prog os ⟨#[], #[], []⟩ with heap := (((((World.holding Tryz.prog os ⟨#[], #[], []⟩).heap).modify 3 (fun | .cells _ t frozen => .cells #[.int .u8 0, .int .u8 1, .int .u8 28, .int .u8 2, .int .u8 29, .int .u8 14, .int .u8 24, .int .u8 3, .int .u8 30, .int .u8 22, .int .u8 20, .int .u8 15, .int .u8 25, .int .u8 17, .int .u8 4, .int .u8 8, .int .u8 31, .int .u8 27, .int .u8 13, .int .u8 23, .int .u8 21, .int .u8 19, .int .u8 16, .int .u8 7, .int .u8 26, .int .u8 12, .int .u8 18, .int .u8 6, .int .u8 11, .int .u8 5, .int .u8 10, .int .u8 9] t frozen | o => o)).modify 4 (fun | .cells _ t frozen => .cells #[.int .u8 0, .int .u8 1, .int .u8 56, .int .u8 2, .int .u8 57, .int .u8 49, .int .u8 28, .int .u8 3, .int .u8 61, .int .u8 58, .int .u8 42, .int .u8 50, .int .u8 38, .int .u8 29, .int .u8 17, .int .u8 4, .int .u8 62, .int .u8 47, .int .u8 59, .int .u8 36, .int .u8 45, .int .u8 43, .int .u8 51, .int .u8 22, .int .u8 53, .int .u8 39, .int .u8 33, .int .u8 30, .int .u8 24, .int .u8 18, .int .u8 12, .int .u8 5, .int .u8 63, .int .u8 55, .int .u8 48, .int .u8 27, .int .u8 60, .int .u8 41, .int .u8 37, .int .u8 16, .int .u8 46, .int .u8 35, .int .u8 44, .int .u8 21, .int .u8 52, .int .u8 32, .int .u8 23, .int .u8 11, .int .u8 54, .int .u8 26, .int .u8 40, .int .u8 15, .int .u8 34, .int .u8 20, .int .u8 31, .int .u8 10, .int .u8 25, .int .u8 14, .int .u8 19, .int .u8 9, .int .u8 13, .int .u8 8, .int .u8 7, .int .u8 6] t frozen | o => o)).modify 2 (fun | .cells _ t frozen => .cells #[.int .u64 1, .int .u64 10, .int .u64 100, .int .u64 1000, .int .u64 10000, .int .u64 100000, .int .u64 1000000, .int .u64 10000000, .int .u64 100000000, .int .u64 1000000000, .int .u64 10000000000, .int .u64 100000000000, .int .u64 1000000000000, .int .u64 10000000000000, .int .u64 100000000000000, .int .u64 1000000000000000, .int .u64 10000000000000000, .int .u64 100000000000000000, .int .u64 1000000000000000000, .int .u64 10000000000000000000] t frozen | o => o)).modify 0 (fun | .cells _ t frozen => .cells #[.iface 193 (.agg #[.pointer (some ⟨5, 130, none⟩)])] t frozen | o => o) }

theorem laidMet_FnTableTo (os : Os) : laidMetH Tryz.prog Rows.fnTableToRow.laid ((laidWorld_FnTableTo os).forCall (fun _ _ => 0) ⟨#[], #[.slice none 0 0], []⟩).memory :=
  laidMetH_of_parts (laidMet_of_run' 8 (by kernel_rfl) (by kernel_rfl)) (by kernel_rfl)

theorem reads_FnTableTo (os : Os) {H : Type} (enc : TypeId × Value → H) : ∃ places, DataW.whole enc Tryz.prog ((laidWorld_FnTableTo os).forCall (fun _ _ => 0) ⟨#[], #[.slice none 0 0], []⟩).memory Tryz.f13.params.toList Rows.fnTableToSpec.vars false (#[.slice none 0 0] : Array Value).toList 8 = some ([.nil], [], places) :=
  ⟨[], by kernel_rfl⟩

set_option maxRecDepth 100000 in
theorem lifted_FnTableTo (os : Os) (started : os.Started) (H : Type) (enc : TypeId × Value → H) (F : Stop.Interp) :
    ReturnsInHanded {} Tryz.checked os 13 .any ((OpenSpec.ofChange Rows.fnTableToSpec).preRow enc Tryz.prog Tryz.f13 Rows.fnTableToRow.domain false Rows.fnTableToRow.laid) (((OpenSpec.ofChange Rows.fnTableToSpec).at F).post enc Tryz.prog Tryz.f13 false true false false) := by
  obtain ⟨places, hx⟩ := reads_FnTableTo os enc
  refine returnsInHanded_of_row (C := Tryz.checked) (s := OpenSpec.ofChange Rows.fnTableToSpec) own started (by kernel_rfl) Tryz.func13
    (witness_row_at (enc := enc) (C := Tryz.checked) false (laidWorld_FnTableTo os) #[.slice none 0 0] rfl (by kernel_rfl) (by kernel_rfl) (by kernel_rfl)
      (OpenSpec.preRow_of_cond 8 hx (by kernel_rfl) (fun k hk => by cases hk) (by kernel_rfl) (laidMet_FnTableTo os))) ?_
  intro W base args ds gs before hval hW _ _ _ hL _ _
  exact contract_FnTableTo H enc W base args ds gs before hval hW (etOk_of hL (by simp [Rows.fnTableToRow]))

theorem said_FnTableTo : Rows.FnTableToSaid :=
  OpenClaim.holds_of_cond 13 Tryz.f13 rfl rfl rfl rfl rfl rfl rfl ⟨rfl, rfl, rfl, rfl, rfl⟩ rfl rfl rfl rfl rfl (by kernel_rfl) Tryz.func13 (by kernel_rfl)
    (of_decide_eq_true (by kernel_rfl)) (by unfold Func.isWrapper; first | (rw [if_pos (by decide +kernel)]; kernel_rfl) | (rw [if_neg (by decide +kernel)]; exact ⟨rfl, rfl⟩))
    (fun os started H enc _ F => by rw [OpenClaim.pre_eq_preRow]; exact lifted_FnTableTo os started H enc F)

theorem plain_FnTableTo (f : FuncId) (fn : Func) (hf : Tryz.pinned.checked.prog.funcNamed "loop.example/crossbuck/laws.FnTableTo" = some f) (hfn : Tryz.pinned.checked.prog.funcs[f]? = some fn) :
    true = Tryz.pinned.checked.prog.looks [] ∧ ∀ (j : Nat) t, fn.params[j]? = some t → Tryz.pinned.checked.prog.wantsStandIn t = false := by
  obtain rfl : f = 13 := Option.some.inj ((show Tryz.prog.funcNamed "loop.example/crossbuck/laws.FnTableTo" = some 13 by kernel_rfl).symm.trans hf) |>.symm
  obtain rfl : fn = Tryz.f13 := (Option.some.inj (Tryz.func13.symm.trans hfn)).symm
  refine ⟨by kernel_rfl, fun j t ht => ?_⟩
  rw [Tryz.params13] at ht
  obtain rfl : t = 22 := by simpa using Array.mem_of_getElem? ht
  exact (show Tryz.prog.wantsStandIn 22 = false by kernel_rfl)

theorem proved_FnTableTo : Rows.FnTableToCardSaid :=
  Claim7.holds_tied_plain_at .later [] _ _ _ _ said_FnTableTo (fun _ h => by cases h) (by kernel_rfl) (fun _ h => by cases h) fnTableTo_row_tie rfl ⟨rfl, rfl⟩ (by kernel_rfl) rfl plain_FnTableTo (by kernel_rfl)

end Go.Proofs.YtahobeigbjhbbaaGreatDoor
