/-
  Proved: FnCut is true at every input.
-/
import Derived.Test.YtbjndcfdcjpkmaaOwnB
import Derived.Test.YtbjndcfdcjpkmaaNetDrB
import Derived.Test.YtbjndcfdcjpkmaaNetCutF
namespace Go.Proofs.Ytbjndcfdcjpkmaa
open Go.ChangeShapes Go.WideShapes Go.ChangeAt Go.RowKit Go.Joins
set_option linter.unusedVariables false

theorem LkRow.shape {w : World} {base : Nat} {v : Value} {l : List K4} (h : LkRow w base v l) : ∃ a c, v = .slice a l.length c := by
  rcases h.form with ⟨rfl, rfl⟩ | ⟨g, cap, rfl, -⟩
  · exact ⟨_, _, rfl⟩
  · exact ⟨_, _, rfl⟩

set_option maxRecDepth 100000 in
set_option maxHeartbeats 8000000 in
theorem walk_FnCut (a : Option Addr) (len cap : Nat) (w : World) (hb : BytesIn w w.heap.size a len cap) :
    Calls Try.prog 8 #[.slice a len cap] w fun e w' => e = .returned (.bool true) ∧ Below w.heap.size w w' := by
  have HB := Lib.hid hb
  have hm : (len : Int) ≤ maxLen := by have := hb.1; have := hb.2.1; omega
  unfold maxLen at hm
  clear hb
  by_cases hlen : (1048576 : Int) < (len : Int)
  · go_enter Try.func8, Try.ntmps8
    go_wp2
    go_ret
    exact ⟨rfl, Below.refl _ _⟩
  go_enter Try.func8, Try.ntmps8
  go_wp2_with fail
  refine (drawNetCut_any _ _ _ _ HB.out).mono ?_
  rintro e w1 ⟨v, l, z, rfl, hl, z0, z1, hrow, b1⟩
  have hn : l.length ≤ 1048576 := by omega
  have HL : Hid (∀ W, Below w1.heap.size w1 W → Lks W W.heap.size v l) := fun W hb => (hrow.lks.below hb (Nat.le_refl _)).mono hb.size
  have HI : Hid (∀ W, Below w1.heap.size w1 W → Calls Try.prog 14 #[v, .int .i64 z] W fun e w' => ∃ u, e = .returned (.tuple #[u, .bool (cutB l z)]) ∧ LkRow w' W.heap.size u (cutVL l z) ∧ Below W.heap.size W w') := fun W h => iNetCut_any W v l z (HL.out W h)
  have HS : Hid (∀ W, Below w1.heap.size w1 W → Calls Try.prog 12 #[v, .int .i64 z] W fun e w' => ∃ u, e = .returned (.tuple #[u, .bool (cutB l z)]) ∧ LkRow w' W.heap.size u (cutVL l z) ∧ Below W.heap.size W w') := fun W h => sNetCut_any W v l z (HL.out W h) hn
  have HFA : Hid (∀ (p q : Int) W, Below w1.heap.size w1 W → Calls Try.prog 19 #[v, .int .i64 p, .int .i64 q] W fun e w' => e = .returned (.int .i64 (farV l p q)) ∧ Below W.heap.size W w') := fun p q W h => iNetFar_any W v l p q (HL.out W h)
  have BW : Hid (∀ W, Below w1.heap.size w1 W → Below w.heap.size w W) := fun W hb => belStep b1 hb
  obtain ⟨va, vc, rfl⟩ := hrow.shape
  have HROW := Lib.hid hrow
  clear hrow b1 HB
  generalize hN : l.length = N at *
  have HN := Lib.hid hN
  clear hN
  go_wp2_with fail
  refine (HS.out _ (Below.refl _ _)).mono ?_
  rintro e w2 ⟨u', rfl, hu', b2⟩
  have B2 := Lib.hid b2
  obtain ⟨ua', uc', rfl⟩ := hu'.shape
  clear b2 hu' HS
  go_wp2_with fail
  refine (HI.out _ B2.out).mono ?_
  rintro e w3 ⟨u, rfl, hu, b3⟩
  have HU := Lib.hid hu
  have B3 := Lib.hid (belStep B2.out b3)
  obtain ⟨ua, uc, rfl⟩ := HU.out.shape
  clear b3 B2 hu HI
  generalize hM : (cutVL l z).length = M at *
  have HM := Lib.hid hM
  clear hM
  cases hc : cutB l z
  · go_wp2
    go_ret
    exact ⟨by simp, BW.out _ B3.out⟩
  obtain ⟨hnb, k, rfl, hk, hcv⟩ := cutB_parts hc
  rw [hcv] at HU HM
  have HMN : Hid (M = N - 1) := by show M = _; rw [← HM.out, cutL_len hk, HN.out]
  have HNC : Hid (netB (cutL l k) = true) := netB_cut hnb
  have HML : Hid (∀ W, Below w3.heap.size w3 W → Lks W W.heap.size (.slice ua M uc) (cutL l k)) := fun W hb => (HU.out.lks.below hb (Nat.le_refl _)).mono hb.size
  have HFM : Hid (∀ (p q : Int) W, Below w3.heap.size w3 W → Calls Try.prog 19 #[.slice ua M uc, .int .i64 p, .int .i64 q] W fun e w' => e = .returned (.int .i64 (farV (cutL l k) p q)) ∧ Below W.heap.size W w') := fun p q W h => iNetFar_any W _ _ p q (HML.out W h)
  have HOM : Hid (∀ W, Below w3.heap.size w3 W → Calls Try.prog 32 #[.slice ua M uc] W fun e w' => e = .returned (.bool true) ∧ Below W.heap.size W w') := fun W h => by
    have := iNetOk_any W _ _ (HML.out W h)
    rwa [HNC.out] at this
  have HPM : Hid (∀ W, Below w3.heap.size w3 W → Calls Try.prog 27 #[.slice ua M uc, .int .i64 (lkAt l k).p, .int .i64 (lkAt l k).s] W fun e w' => e = .returned (.tuple #[.int .i64 0, .int .i64 0, .bool false]) ∧ Below W.heap.size W w') := fun W h => by
    have := iNetPeer_any W _ _ (lkAt l k).p (lkAt l k).s (HML.out W h)
    unfold peerV at this
    rw [HNC.out, cut_peer hnb hk] at this
    exact this
  have HCF : Hid (∀ a b : Int, 1 ≤ a → a ≤ 4 → 1 ≤ b → b ≤ 4 → farV (cutL l k) a b < 0 ∨ (0 ≤ farV l a b ∧ farV l a b ≤ farV (cutL l k) a b)) := fun a b a1 a4 b1 b4 => cut_far hnb a1 a4 b1 b4
  rw [HN.out] at hk
  obtain ⟨b, hvb, hbw, hf⟩ : ∃ b, va = some ⟨b, 0, none⟩ ∧ b < w1.heap.size ∧ FourK w1 b (k * 4) (lkAt l k) := by
    rcases HROW.out.form with ⟨-, h'⟩ | ⟨b, cap', h, -⟩
    · have := HN.out
      rw [h'] at this
      simp at this
      omega
    · rw [HN.out] at h
      simp at h
      obtain ⟨rfl, rfl⟩ := h
      obtain ⟨hf, hrest⟩ := HROW.out.cells HN.out
      exact ⟨b, rfl, (World.ownsRow.lt HROW.out b rfl).2, hf k hk⟩
  subst hvb
  have HF : Hid (∀ W, Below w1.heap.size w1 W → FourK W b (k * 4) (lkAt l k) ∧ b < W.heap.size) := fun W hb => ⟨hf.below hb hbw, Nat.lt_of_lt_of_le hbw hb.size⟩
  clear hf hbw hcv hc hnb HNC HML HU HROW HL
  generalize lkAt l k = xk at *
  go_wp2
  go_loopw [9] (fun i wr => ∃ x : Nat, 1 ≤ x ∧ x ≤ 5 ∧ i = .int .i64 (x : Int) ∧ Below w1.heap.size w1 wr ∧ Below w3.heap.size w3 wr) (fun i _ => 5 - (intOf i).toNat)
  case atStart => exact ⟨1, by omega, by omega, rfl, B3.out, Below.refl _ _⟩
  case round =>
    obtain ⟨x, x1, x5, rfl, hbel, hbel2⟩ := hrel
    have HBL := Lib.hid hbel
    have HB2 := Lib.hid hbel2
    clear hbel hbel2
    by_cases hlt : (x : Int) ≤ 4
    · go_wp2
      go_loopw [10] (fun i wr' => ∃ y : Nat, 1 ≤ y ∧ y ≤ 5 ∧ i = .int .i64 (y : Int) ∧ Below w1.heap.size w1 wr' ∧ Below w3.heap.size w3 wr') (fun i _ => 5 - (intOf i).toNat)
      case atStart => exact ⟨1, by omega, by omega, rfl, HBL.out, HB2.out⟩
      case round =>
        obtain ⟨y, y1, y5, rfl, hbel, hbel2⟩ := hrel
        have KBL := Lib.hid hbel
        have KB2 := Lib.hid hbel2
        clear hbel hbel2
        by_cases hyt : (y : Int) ≤ 4
        · have HCC := Lib.hid (HCF.out (x : Int) (y : Int) (by omega) hlt (by omega) hyt)
          have HFX := Lib.hid (fun W h => HFA.out (x : Int) (y : Int) W h)
          have HFY := Lib.hid (fun W h => HFM.out (x : Int) (y : Int) W h)
          generalize farV l (x : Int) (y : Int) = was at *
          generalize farV (cutL l k) (x : Int) (y : Int) = isf at *
          go_wp2_with fail
          refine (HFX.out _ KBL.out).mono ?_
          rintro e w4 ⟨rfl, b4⟩
          have KB4 := Lib.hid (belStep KBL.out b4)
          have KB24 := Lib.hid (belStep KB2.out b4)
          clear b4 KBL KB2
          go_wp2_with fail
          refine (HFY.out _ KB24.out).mono ?_
          rintro e w5 ⟨rfl, b5⟩
          have KB5 := Lib.hid (belStep KB4.out b5)
          have KB25 := Lib.hid (belStep KB24.out b5)
          clear b5 KB4 KB24 HFX HFY
          by_cases hz : (0 : Int) ≤ isf
          · have hc := HCC.out
            have h1 : ¬ (was < 0) := by omega
            have h2 : ¬ (isf < was) := by omega
            have h1' : decide (was < 0) = false := by simp; omega
            have h2' : decide (isf < was) = false := by simp; omega
            clear hc
            go_wp2
            go_roundw
            case rel => exact ⟨y + 1, by omega, by omega, by go_num, KB5.out, KB25.out⟩
            case measure => simp [intOf]; omega
          · have hz' : decide ((0 : Int) ≤ isf) = false := by simp; omega
            go_wp2
            go_roundw
            case rel => exact ⟨y + 1, by omega, by omega, by go_num, KB5.out, KB25.out⟩
            case measure => simp [intOf]; omega
        · have hyt' : decide ((y : Int) ≤ 4) = false := by simp; omega
          go_wp2
          go_roundw
          case rel => exact ⟨x + 1, by omega, by omega, by go_num, KBL.out, KB2.out⟩
          case measure => simp [intOf]; omega
    · have hlt' : decide ((x : Int) ≤ 4) = false := by simp; omega
      obtain ⟨⟨f0, f1, -, -⟩, hgl⟩ := HF.out _ HBL.out
      have hk1 : (k : Int) < (N : Int) := by omega
      have hk0 : (0 : Int) ≤ (k : Int) := by omega
      have hMI : ((M : Int) == (N : Int) - 1) = true := by have := HMN.out; simp; omega
      have hw1 : IntKind.i64.wrap ((N : Int) - 1) = (N : Int) - 1 := by rw [IntKind.wrap_i64]; omega
      have f0' := HF.out _ HBL.out
      have k0 := fun m : Ext wr => m.cell hgl (f0'.1.1)
      have k1 := fun m : Ext wr => m.cell hgl (f0'.1.2.1)
      clear f0 f1 f0'
      go_wp2_with fail
      refine wp_region_ext (w0 := wr) (by kernel_rfl) (by kernel_rfl) (Below.refl _ _) ?_
      repeat (go_big_quiet_step (first | (go_at_call 27; exact ext_of (HPM.out _ (belStep HB2.out (Ext.h _))))))
      refine wpQuiet_nil ?_
      intro w6 hx6
      have HB6 := Lib.hid (ext_out hx6)
      have HBL6 := Lib.hid (belStep HBL.out HB6.out)
      have HB26 := Lib.hid (belStep HB2.out HB6.out)
      clear hx6 k0 k1
      go_wp2_with fail
      refine (HOM.out _ HB26.out).mono ?_
      rintro e w7 ⟨rfl, b7⟩
      have HBL7 := Lib.hid (belStep HBL6.out b7)
      clear b7
      go_wp2
      go_ret
      exact ⟨by first | rfl | (simp; done) | (simp; omega), BW.out _ HBL7.out⟩

set_option maxRecDepth 100000 in
theorem lifted_FnCut (os : Os) (started : os.Started) (H : Type) (enc : TypeId × Value → H) :
    ReturnsInHanded {} Try.checked os 8 .any (Rows.fnCutSpec.pre6 enc Try.prog Try.f8 Rows.fnCutRow.domain false) (Rows.fnCutSpec.post enc Try.prog Try.f8 false true false false) := by
  refine returnsInHanded_of_change (C := Try.checked) own started (by kernel_rfl) Try.func8
    (ChangeSpec.witness6 (enc := enc) (C := Try.checked) false ⟨#[], #[.slice none 0 0], []⟩ 8 (by kernel_rfl) (by kernel_rfl) (by kernel_rfl) (by kernel_rfl)) ?_
  intro W base args ds gs before hval0 hW hcnd _
  have hval : ∀ (j : Nat) t v, Try.f8.params[j]? = some t → args[j]? = some v → Value.okWide Try.prog W .any base t v := hval0
  have hW' := hW
  obtain ⟨p, q, hA0, hV, rfl, hfz, hnd⟩ := hW
  have hA : DataW.TrodAll enc Try.prog W 0 (fun _ => true) true Try.f8.params.toList args.toList ds p := hA0
  rw [Try.params8] at hA hval
  obtain ⟨v0, vs0, d0, ds0, p0, q0, hargs, rfl, rfl, h0, r0⟩ := trodAll_cons hA
  obtain ⟨rfl, rfl, rfl⟩ := trodAll_nil r0
  obtain rfl : args = #[v0] := by cases args; simp_all
  obtain ⟨rfl, rfl⟩ := trodVars_none hV
  have k0 := h0
  have lt0 : ∀ x ∈ p0, x.block < W.heap.size := by obtain ⟨m, hm⟩ := k0; exact DataW.trod_lt m _ _ _ hm
  obtain ⟨a0, len0, cap0, rfl⟩ := okWide_slice Try.underlying31 (hval 0 31 v0 rfl rfl)
  have w0 : BytesIn W W.heap.size a0 len0 cap0 := isRow_of h0
  clear hA0 hval0
  refine (walk_FnCut a0 len0 cap0 W w0).mono fun e W' ⟨he, bel⟩ => ?_
  subst he
  exact ⟨_, rfl, _, _, _, [], _, [], hW', trodAll_mk1 (shut_bool Try.underlying4 _), (trodAll_cons_mk (Below.trod laidOut (by kernel_rfl) (of_decide_eq_true (by kernel_rfl)) k0 bel lt0) (trodAll_mk0)), rfl, bel.frame _, fun h => by cases h⟩

theorem over_FnCut : Rows.fnCutRow.holds Try.pinned (OpenSpec.ofChange Rows.fnCutSpec) :=
  OpenClaim.holds_of_wide 8 Try.f8 rfl rfl rfl rfl rfl rfl rfl ⟨rfl, rfl, rfl, rfl, rfl⟩ rfl rfl rfl rfl rfl (by kernel_rfl) Try.func8 (by kernel_rfl)
    (of_decide_eq_true (by kernel_rfl)) (by unfold Func.isWrapper; first | (rw [if_pos (by decide +kernel)]; kernel_rfl) | (rw [if_neg (by decide +kernel)]; exact ⟨rfl, rfl⟩))
    (fun os started H enc _ => lifted_FnCut os started H enc)

theorem proved_FnCut : Rows.FnCutSaid := over_FnCut

end Go.Proofs.Ytbjndcfdcjpkmaa
