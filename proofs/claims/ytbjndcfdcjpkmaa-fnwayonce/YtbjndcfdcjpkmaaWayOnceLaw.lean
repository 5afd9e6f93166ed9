/-
  Proved: FnWayOnce is true at every input.
-/
import Derived.Test.YtbjndcfdcjpkmaaOwnB
import Derived.Test.YtbjndcfdcjpkmaaWayF
import Derived.Test.YtbjndcfdcjpkmaaNetWayJ
namespace Go.Proofs.Ytbjndcfdcjpkmaa
open Go.ChangeShapes Go.WideShapes Go.ChangeAt Go.RowKit Go.Joins
set_option linter.unusedVariables false

/-- A row of numbers that is not empty: where it lies, and its cells in every world behind. -/
theorem IntRow.some {w : World} {base N : Nat} {a : Option Addr} {c : Nat} {L : List Int} (h : IntRow w base (.slice a N c) L) (hN : L.length = N) (h0 : N ≠ 0) :
    ∃ g, a = some ⟨g, 0, none⟩ ∧ (∀ W, Below w.heap.size w W → g < W.heap.size) ∧ (∀ W, Below w.heap.size w W → ∀ j, j < N → W.cell? ⟨g, j, none⟩ = some (.int .i64 (inAt L j))) := by
  rcases h.form with ⟨h1, h'⟩ | ⟨g, cap', h1, -, hg, -, -, hc, -⟩
  · rw [h'] at hN
    simp at hN
    omega
  · rw [hN] at hc h1
    simp at h1
    exact ⟨g, h1.1, fun W hb => Nat.lt_of_lt_of_le hg hb.size, fun W hb j hj => (belCell hb _ _ hg).trans (hc j hj)⟩

set_option maxRecDepth 100000 in
set_option maxHeartbeats 8000000 in
theorem walk_FnWayOnce (a : Option Addr) (len cap : Nat) (w : World) (hb : BytesIn w w.heap.size a len cap) :
    Calls Try.prog 6 #[.slice a len cap] w fun e w' => e = .returned (.bool true) ∧ Below w.heap.size w w' := by
  have HB := Lib.hid hb
  have hm : (len : Int) ≤ maxLen := by have := hb.1; have := hb.2.1; omega
  unfold maxLen at hm
  clear hb
  by_cases hlen : (1048576 : Int) < (len : Int)
  · go_enter Try.func6, Try.ntmps6
    go_wp2
    go_ret
    exact ⟨rfl, Below.refl _ _⟩
  go_enter Try.func6, Try.ntmps6
  go_wp2_with fail
  refine (drawNetWay_any _ _ _ _ HB.out).mono ?_
  rintro e w1 ⟨v, l, x, y, rfl, hl, x0, x1, y0, y1, hrow, b1⟩
  have hn : l.length ≤ 1048576 := by omega
  have HL : Hid (∀ W, Below w1.heap.size w1 W → Lks W W.heap.size v l) := fun W hb => (hrow.lks.below hb (Nat.le_refl _)).mono hb.size
  have HI : Hid (∀ (z : Int) W, Below w1.heap.size w1 W → Calls Try.prog 25 #[v, .int .i64 z, .int .i64 y] W fun e w' => ∃ u, e = .returned u ∧ IntRow w' W.heap.size u (wayV l z y) ∧ Below W.heap.size W w') := fun z W h => iNetWay_any W v l z y (HL.out W h)
  have HS : Hid (∀ W, Below w1.heap.size w1 W → Calls Try.prog 26 #[v, .int .i64 x, .int .i64 y] W fun e w' => ∃ u, e = .returned u ∧ IntRow w' W.heap.size u (wayV l x y) ∧ Below W.heap.size W w') := fun W h => sNetWay_any W v l x y (HL.out W h) hn
  have HO : Hid (∀ W, Below w1.heap.size w1 W → Calls Try.prog 21 #[v] W fun e w' => e = .returned (.bool (netB l)) ∧ Below W.heap.size W w') := fun W h => sNetOk_any W v l (HL.out W h) hn
  have BW : Hid (∀ W, Below w1.heap.size w1 W → Below w.heap.size w W) := fun W hb => belStep b1 hb
  have HIX := Lib.hid (fun W h => HI.out x W h)
  have HX := Lib.hid (fun (N : Nat) (h : (wayV l x y).length = N) (h0 : N ≠ 0) => way_once (l := l) (x := x) (y := y) (N := N) h h0)
  obtain ⟨va, vn, vc, rfl⟩ : ∃ va vn vc, v = .slice va vn vc := by
    rcases hrow.form with ⟨rfl, -⟩ | ⟨_, _, rfl, -⟩ <;> exact ⟨_, _, _, rfl⟩
  clear hrow b1 HB HL
  go_wp2_with fail
  refine (HIX.out _ (Below.refl _ _)).mono ?_
  rintro e w2 ⟨u, rfl, hu, b2⟩
  have HU := Lib.hid hu
  have B2 := Lib.hid b2
  clear b2 hu HIX
  obtain ⟨ua, uc, rfl⟩ := HU.out.shape
  go_wp2_with fail
  refine (HS.out _ B2.out).mono ?_
  rintro e w3 ⟨u', rfl, hu', b3⟩
  have B23 := Lib.hid b3
  have B3 := Lib.hid (belStep B2.out b3)
  obtain ⟨ua', uc', rfl⟩ := hu'.shape
  clear b3 B2 hu' HS
  generalize hL : wayV l x y = L at *
  clear hL
  generalize hN : L.length = N at *
  have HN := Lib.hid hN
  clear hN
  go_wp2_with fail
  refine (HO.out _ B3.out).mono ?_
  rintro e w4 ⟨rfl, b4⟩
  have B24 := Lib.hid (belStep B23.out b4)
  have B4 := Lib.hid (belStep B3.out b4)
  clear b4 B3 B23 HO
  cases hnb : netB l
  · go_wp2
    go_ret
    exact ⟨by simp, BW.out _ B4.out⟩
  clear hnb
  by_cases hN0 : N = 0
  · subst hN0
    go_wp2
    go_ret
    exact ⟨by simp, BW.out _ B4.out⟩
  obtain ⟨n4, hq⟩ := HX.out N rfl hN0
  have HST := Lib.hid hq
  obtain ⟨g, rfl, hg, hcell⟩ := HU.out.some HN.out hN0
  have HC := Lib.hid hcell
  have HG := Lib.hid hg
  have hN0' : ((N : Int) == 0) = false := by simp; omega
  clear hq hg hcell HX HU HN
  go_wp2_with fail
  go_loopw [8] (fun i wr => ∃ j : Nat, j ≤ N ∧ i = .int .i64 (j : Int) ∧ Below w1.heap.size w1 wr ∧ Below w2.heap.size w2 wr) (fun i _ => N - (intOf i).toNat)
  case atStart => exact ⟨0, by omega, rfl, B4.out, B24.out⟩
  case round =>
    obtain ⟨j, hj, rfl, hbel, hbel2⟩ := hrel
    have HBL := Lib.hid hbel
    have HB2 := Lib.hid hbel2
    clear hbel hbel2
    by_cases hlt : j < N
    · have h2 : (j : Int) < (N : Int) := by omega
      have hw1 : IntKind.i64.wrap ((j : Int) + 1) = (j : Int) + 1 := by rw [IntKind.wrap_i64]; omega
      have hgl := HG.out _ HB2.out
      have c0 := HC.out _ HB2.out j (by omega)
      obtain ⟨hlen2, hat⟩ := HST.out j hlt
      have HAT := Lib.hid hat
      have HIJ := Lib.hid (fun W h => HI.out (inAt L j) W h)
      clear hat
      generalize wayV l (inAt L j) y = R at *
      generalize hp : inAt L j = p at *
      have HPP := Lib.hid hp
      clear hp
      go_wp2_with fail
      refine (HIJ.out _ HBL.out).mono ?_
      rintro e w5 ⟨r, rfl, hr, b5⟩
      have HR := Lib.hid hr
      have HBL5 := Lib.hid (belStep HBL.out b5)
      have HB25 := Lib.hid (belStep HB2.out b5)
      obtain ⟨ra, rc, rfl⟩ := HR.out.shape
      clear hr b5 c0 hgl HIJ
      generalize hM : R.length = M at *
      have hMN : (M : Int) = (N : Int) - (j : Int) := by omega
      have hw2 : IntKind.i64.wrap ((N : Int) - (j : Int)) = (N : Int) - (j : Int) := by rw [IntKind.wrap_i64]; omega
      have hMe : ((M : Int) == (N : Int) - (j : Int)) = true := by simp [hMN]
      have hMne : ((M : Int) != (N : Int) - (j : Int)) = false := by simp [bne, hMN]
      obtain ⟨b, rfl, hb, hcb⟩ := HR.out.some hM (by omega)
      have HCB := Lib.hid hcb
      have HGB := Lib.hid hb
      have HML := Lib.hid hlen2
      clear hb hcb HR hM hMN hlen2
      go_wp2_with fail
      go_loopw [10] (fun i wr' => ∃ k : Nat, k ≤ M ∧ i = .int .i64 (k : Int) ∧ Below w1.heap.size w1 wr' ∧ Below w2.heap.size w2 wr' ∧ Below w5.heap.size w5 wr') (fun i _ => M - (intOf i).toNat)
      case atStart => exact ⟨0, by omega, rfl, HBL5.out, HB25.out, Below.refl _ _⟩
      case round =>
        obtain ⟨k, hk, rfl, hc1, hc2, hc3⟩ := hrel
        have KB1 := Lib.hid hc1
        have KB2 := Lib.hid hc2
        have KB5 := Lib.hid hc3
        clear hc1 hc2 hc3
        have hww : IntKind.i64.wrap ((k : Int) + 1) = (k : Int) + 1 := by rw [IntKind.wrap_i64]; have := HML.out; omega
        by_cases hkt : k < M
        · have h3 : (k : Int) < (M : Int) := by omega
          have hM := HML.out
          have h4 : (j : Int) + (k : Int) < (N : Int) := by omega
          have h4' : j + k < N := by omega
          have hw3 : IntKind.i64.wrap ((j : Int) + (k : Int)) = (j : Int) + (k : Int) := by rw [IntKind.wrap_i64]; omega
          have h5 : (0 : Int) ≤ (j : Int) + (k : Int) := by omega
          obtain ⟨e1, e2⟩ := HAT.out k (by omega)
          have hgl := HG.out _ KB2.out
          have hbl := HGB.out _ KB5.out
          have c0 := HC.out _ KB2.out j (by omega)
          have c1 := HC.out _ KB2.out (j + k) (by omega)
          have c2 := HCB.out _ KB5.out k (by omega)
          rw [HPP.out] at c0
          rw [e1] at c2
          generalize inAt L (j + k) = q at *
          have E2 := Lib.hid e2
          clear hM e1 e2
          have k0 := fun m : Ext wr => m.cell hgl c0
          have k1 := fun m : Ext wr => m.cell hgl c1
          have k2 := fun m : Ext wr => m.cell hbl c2
          clear c0 c1 c2
          by_cases hk0 : 0 < k
          · have hqp : (q == p) = false := by simpa using E2.out hk0
            have hk0' : (0 : Int) < (k : Int) := by omega
            go_wp2_with fail
            refine wp_region_ext (w0 := wr) (by kernel_rfl) (by kernel_rfl) (Below.refl _ _) ?_
            repeat (go_big_quiet_step (fail))
            refine wpQuiet_nil ?_
            intro w6 hx6
            have HB6 := Lib.hid (ext_out hx6)
            have KB16 := Lib.hid (belStep KB1.out HB6.out)
            have KB26 := Lib.hid (belStep KB2.out HB6.out)
            have KB56 := Lib.hid (belStep KB5.out HB6.out)
            clear hx6 k0 k1 k2
            go_wp2
            go_roundw
            case rel => exact ⟨k + 1, by omega, by go_num, KB16.out, KB26.out, KB56.out⟩
            case measure => simp [intOf]; omega
          · have hk0' : ¬ (0 : Int) < (k : Int) := by omega
            have hk0'' : decide ((0 : Int) < (k : Int)) = false := by simp; omega
            have hkd : decide (0 < k) = false := by simp; omega
            go_wp2_with fail
            refine wp_region_ext (w0 := wr) (by kernel_rfl) (by kernel_rfl) (Below.refl _ _) ?_
            repeat (go_big_quiet_step (fail))
            refine wpQuiet_nil ?_
            intro w6 hx6
            have HB6 := Lib.hid (ext_out hx6)
            have KB16 := Lib.hid (belStep KB1.out HB6.out)
            have KB26 := Lib.hid (belStep KB2.out HB6.out)
            have KB56 := Lib.hid (belStep KB5.out HB6.out)
            clear hx6 k0 k1 k2
            go_wp2
            go_roundw
            case rel => exact ⟨k + 1, by omega, by go_num, KB16.out, KB26.out, KB56.out⟩
            case measure => simp [intOf]; omega
        · have h3 : ¬ (k : Int) < (M : Int) := by omega
          have h3' : decide ((k : Int) < (M : Int)) = false := by simp; omega
          go_wp2
          go_roundw
          case rel => exact ⟨j + 1, by omega, by go_num, KB1.out, KB2.out⟩
          case measure => simp [intOf]; omega
    · have h2 : ¬ (j : Int) < (N : Int) := by omega
      have h2' : decide ((j : Int) < (N : Int)) = false := by simp; omega
      go_wp2
      go_ret
      exact ⟨rfl, BW.out _ HBL.out⟩

set_option maxRecDepth 100000 in
theorem lifted_FnWayOnce (os : Os) (started : os.Started) (H : Type) (enc : TypeId × Value → H) :
    ReturnsInHanded {} Try.checked os 6 .any (Rows.fnWayOnceSpec.pre6 enc Try.prog Try.f6 Rows.fnWayOnceRow.domain false) (Rows.fnWayOnceSpec.post enc Try.prog Try.f6 false true false false) := by
  refine returnsInHanded_of_change (C := Try.checked) own started (by kernel_rfl) Try.func6
    (ChangeSpec.witness6 (enc := enc) (C := Try.checked) false ⟨#[], #[.slice none 0 0], []⟩ 8 (by kernel_rfl) (by kernel_rfl) (by kernel_rfl) (by kernel_rfl)) ?_
  intro W base args ds gs before hval0 hW hcnd _
  have hval : ∀ (j : Nat) t v, Try.f6.params[j]? = some t → args[j]? = some v → Value.okWide Try.prog W .any base t v := hval0
  have hW' := hW
  obtain ⟨p, q, hA0, hV, rfl, hfz, hnd⟩ := hW
  have hA : DataW.TrodAll enc Try.prog W 0 (fun _ => true) true Try.f6.params.toList args.toList ds p := hA0
  rw [Try.params6] at hA hval
  obtain ⟨v0, vs0, d0, ds0, p0, q0, hargs, rfl, rfl, h0, r0⟩ := trodAll_cons hA
  obtain ⟨rfl, rfl, rfl⟩ := trodAll_nil r0
  obtain rfl : args = #[v0] := by cases args; simp_all
  obtain ⟨rfl, rfl⟩ := trodVars_none hV
  have k0 := h0
  have lt0 : ∀ x ∈ p0, x.block < W.heap.size := by obtain ⟨m, hm⟩ := k0; exact DataW.trod_lt m _ _ _ hm
  obtain ⟨a0, len0, cap0, rfl⟩ := okWide_slice Try.underlying31 (hval 0 31 v0 rfl rfl)
  have w0 : BytesIn W W.heap.size a0 len0 cap0 := isRow_of h0
  clear hA0 hval0
  refine (walk_FnWayOnce a0 len0 cap0 W w0).mono fun e W' ⟨he, bel⟩ => ?_
  subst he
  exact ⟨_, rfl, _, _, _, [], _, [], hW', trodAll_mk1 (shut_bool Try.underlying4 _), (trodAll_cons_mk (Below.trod laidOut (by kernel_rfl) (of_decide_eq_true (by kernel_rfl)) k0 bel lt0) (trodAll_mk0)), rfl, bel.frame _, fun h => by cases h⟩

theorem over_FnWayOnce : Rows.fnWayOnceRow.holds Try.pinned (OpenSpec.ofChange Rows.fnWayOnceSpec) :=
  OpenClaim.holds_of_wide 6 Try.f6 rfl rfl rfl rfl rfl rfl rfl ⟨rfl, rfl, rfl, rfl, rfl⟩ rfl rfl rfl rfl rfl (by kernel_rfl) Try.func6 (by kernel_rfl)
    (of_decide_eq_true (by kernel_rfl)) (by unfold Func.isWrapper; first | (rw [if_pos (by decide +kernel)]; kernel_rfl) | (rw [if_neg (by decide +kernel)]; exact ⟨rfl, rfl⟩))
    (fun os started H enc _ => lifted_FnWayOnce os started H enc)

theorem proved_FnWayOnce : Rows.FnWayOnceSaid := over_FnWayOnce

end Go.Proofs.Ytbjndcfdcjpkmaa
