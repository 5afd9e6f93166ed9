/-
  Proved: FnCutTwo is true at every input.
-/
import Derived.Test.YtbjndcfdcjpkmaaOwnB
import Derived.Test.YtbjndcfdcjpkmaaNetDrB
import Derived.Test.YtbjndcfdcjpkmaaNetCutF
namespace Go.Proofs.Ytbjndcfdcjpkmaa
open Go.ChangeShapes Go.WideShapes Go.ChangeAt Go.RowKit Go.Joins
set_option linter.unusedVariables false

theorem LkRow.shape {w : World} {base : Nat} {v : Value} {l : List K4} (h : LkRow w base v l) : ∃ a c, v = .slice a l.length c := by
  rcases h.form with ⟨rfl, rfl⟩ | ⟨g, cap, rfl, -⟩
  · exact ⟨_, _, rfl⟩
  · exact ⟨_, _, rfl⟩
theorem iCut_ok (W : World) (u : Value) (l Q : List K4) (k : Nat) (z : Int) (h : Lks W W.heap.size u l) (hn : netB l = true) (hk : k < l.length) (hz : z = (k : Int)) (hq : cutL l k = Q) :
    Calls Try.prog 14 #[u, .int .i64 z] W fun e w' => ∃ r, e = .returned (.tuple #[r, .bool true]) ∧ LkRow w' W.heap.size r Q ∧ Below W.heap.size W w' := by
  subst hz hq
  have := iNetCut_any W u l (k : Int) h
  rwa [cutB_mk hn hk, cutVL_mk hn hk] at this

set_option maxRecDepth 100000 in
set_option maxHeartbeats 8000000 in
theorem walk_FnCutTwo (a : Option Addr) (len cap : Nat) (a' : Option Addr) (len' cap' : Nat) (w : World) (hb : BytesIn w w.heap.size a len cap) (hb' : BytesIn w w.heap.size a' len' cap') :
    Calls Try.prog 9 #[.slice a len cap, .slice a' len' cap'] w fun e w' => e = .returned (.bool true) ∧ Below w.heap.size w w' := by
  have HB := Lib.hid hb
  have hm : (len : Int) ≤ maxLen := by have := hb.1; have := hb.2.1; omega
  have hm' : (len' : Int) ≤ maxLen := by have := hb'.1; have := hb'.2.1; omega
  unfold maxLen at hm hm'
  clear hb hb'
  by_cases hlen : (1048576 : Int) < (len : Int)
  · go_enter Try.func9, Try.ntmps9
    go_wp2
    go_ret
    exact ⟨rfl, Below.refl _ _⟩
  have hl1 : decide ((1048576 : Int) < (len : Int)) = false := by simp; omega
  have hl1n : decide ((1048576 : Nat) < len) = false := by simp; omega
  by_cases hlen' : (1048576 : Int) < (len' : Int)
  · go_enter Try.func9, Try.ntmps9
    go_wp2
    go_ret
    exact ⟨rfl, Below.refl _ _⟩
  have hl2 : decide ((1048576 : Int) < (len' : Int)) = false := by simp; omega
  have hl2n : decide ((1048576 : Nat) < len') = false := by simp; omega
  go_enter Try.func9, Try.ntmps9
  go_wp2_with fail
  refine (drawNetCut_any _ _ _ _ HB.out).mono ?_
  rintro e w1 ⟨v, l, z, rfl, hl, z0, z1, hrow, b1⟩
  have hn : l.length ≤ 1048576 := by omega
  have HL : Hid (∀ W, Below w1.heap.size w1 W → Lks W W.heap.size v l) := fun W hb => (hrow.lks.below hb (Nat.le_refl _)).mono hb.size
  have HI : Hid (∀ W, Below w1.heap.size w1 W → Calls Try.prog 14 #[v, .int .i64 z] W fun e w' => ∃ u, e = .returned (.tuple #[u, .bool (cutB l z)]) ∧ LkRow w' W.heap.size u (cutVL l z) ∧ Below W.heap.size W w') := fun W h => iNetCut_any W v l z (HL.out W h)
  have HS : Hid (∀ W, Below w1.heap.size w1 W → Calls Try.prog 12 #[v, .int .i64 z] W fun e w' => ∃ u, e = .returned (.tuple #[u, .bool (cutB l z)]) ∧ LkRow w' W.heap.size u (cutVL l z) ∧ Below W.heap.size W w') := fun W h => sNetCut_any W v l z (HL.out W h) hn
  have BW : Hid (∀ W, Below w1.heap.size w1 W → Below w.heap.size w W) := fun W hb => belStep b1 hb
  obtain ⟨va, vc, rfl⟩ := hrow.shape
  clear hrow b1 HB
  generalize hN : l.length = N at *
  have HN := Lib.hid hN
  clear hN
  go_wp2_with fail
  refine (HS.out _ (Below.refl _ _)).mono ?_
  rintro e w2 ⟨u', rfl, hu', b2⟩
  have B2 := Lib.hid b2
  obtain ⟨ua', uc', rfl⟩ := hu'.shape
  clear b2 hu' HS
  go_wp2_with fail
  refine (HI.out _ B2.out).mono ?_
  rintro e w3 ⟨u, rfl, hu, b3⟩
  have HU := Lib.hid hu
  have B3 := Lib.hid (belStep B2.out b3)
  obtain ⟨ua, uc, rfl⟩ := HU.out.shape
  clear b3 B2 hu HI
  generalize hM : (cutVL l z).length = M at *
  have HM := Lib.hid hM
  clear hM
  cases hc : cutB l z
  · go_wp2
    go_ret
    exact ⟨by simp, BW.out _ B3.out⟩
  by_cases hM0 : M = 0
  · subst hM0
    go_wp2
    go_ret
    exact ⟨by simp, BW.out _ B3.out⟩
  obtain ⟨hnb, i, rfl, hi, hcv⟩ := cutB_parts hc
  rw [hcv] at HU HM
  have HMN : Hid (M + 1 = N) := by
    show M + 1 = N
    have h1 := HM.out
    rw [cutL_len hi, HN.out] at h1
    rw [HN.out] at hi
    omega
  have hM0' : ((M : Int) == 0) = false := by simp; omega
  have HNC : Hid (netB (cutL l i) = true) := netB_cut hnb
  have HNB := Lib.hid hnb
  have HML : Hid (∀ W, Below w3.heap.size w3 W → Lks W W.heap.size (.slice ua M uc) (cutL l i)) := fun W hb => (HU.out.lks.below hb (Nat.le_refl _)).mono hb.size
  obtain ⟨k, hkd, hkM⟩ : ∃ k : Nat, (len' : Int) % (M : Int) = (k : Int) ∧ k < M := ⟨len' % M, by omega, Nat.mod_lt _ (by omega)⟩
  have hkt : (len' : Int).tmod (M : Int) = (k : Int) := by rw [Int.tmod_eq_emod_of_nonneg (by omega)]; exact hkd
  have HKM := Lib.hid hkM
  have HI : Hid (i < N) := by show i < N; rw [← HN.out]; exact hi
  have HLN : Hid (N ≤ 9) := hl
  have hk1 : IntKind.i64.wrap ((k : Int) + 1) = (k : Int) + 1 := by have := HLN.out; have := HMN.out; rw [IntKind.wrap_i64]; omega
  have hi1 : IntKind.i64.wrap ((i : Int) - 1) = (i : Int) - 1 := by have := HLN.out; have := HI.out; rw [IntKind.wrap_i64]; omega
  clear hkM hcv hc hnb HU hi hl hn z0 z1
  by_cases hik : (i : Int) ≤ (k : Int)
  · have HQ : Hid (cutL (cutL l i) k = cutL (cutL l (k + 1)) i) := cut_two (by have := HI.out; have := HN.out; omega) (by have := HKM.out; have := HMN.out; have := HN.out; omega) (by have := hik; first | (rw [if_pos (by omega)]; done) | (rw [if_neg (by omega)]; done)) (by have := hik; first | (rw [if_neg (by omega)]; done) | (rw [if_pos (by omega)]; done))
    have HA : Hid (∀ W, Below w3.heap.size w3 W → Calls Try.prog 14 #[.slice ua M uc, .int .i64 (k : Int)] W fun e w' => ∃ r, e = .returned (.tuple #[r, .bool true]) ∧ LkRow w' W.heap.size r (cutL (cutL l i) k) ∧ Below W.heap.size W w') := fun W h => iCut_ok W _ (cutL l i) _ k _ (HML.out W h) HNC.out (by rw [HM.out]; exact HKM.out) rfl rfl
    have HBC : Hid (∀ W, Below w1.heap.size w1 W → Calls Try.prog 14 #[.slice va N vc, .int .i64 ((k : Int) + 1)] W fun e w' => ∃ r, e = .returned (.tuple #[r, .bool true]) ∧ LkRow w' W.heap.size r (cutL l (k + 1)) ∧ Below W.heap.size W w') := fun W h => iCut_ok W _ l _ ((k + 1)) _ (HL.out W h) HNB.out (by have := HKM.out; have := HMN.out; have := HN.out; omega) (by omega) rfl
    have HCC : Hid (∀ u W, Lks W W.heap.size u (cutL l (k + 1)) → Calls Try.prog 14 #[u, .int .i64 (i : Int)] W fun e w' => ∃ r, e = .returned (.tuple #[r, .bool true]) ∧ LkRow w' W.heap.size r (cutL (cutL l i) k) ∧ Below W.heap.size W w') := fun u W h => iCut_ok W u _ _ (i) _ h (netB_cut HNB.out) (by have h1 := HKM.out; have h2 := HMN.out; have h3 := HN.out; have h4 := HI.out; have hik' := hik; rw [cutL_len (by omega)]; omega) (by have := hik; omega) HQ.out.symm
    clear HQ HML HM HNC HNB HL
    have h2 : ¬ ((k : Int) + 1 < (i : Int)) := by omega
    have h2' : decide ((k : Int) + 1 < (i : Int)) = false := by simp; omega
    generalize cutL l ((k + 1)) = R at *
    generalize cutL (cutL l i) k = Q at *
    go_wp2_with fail
    refine (HA.out _ (Below.refl _ _)).mono ?_
    rintro e w4 ⟨ra, rfl, hra, b4⟩
    have HRA := Lib.hid hra
    have B4 := Lib.hid (belStep B3.out b4)
    obtain ⟨raa, rac, rfl⟩ := HRA.out.shape
    clear b4 hra HA
    go_wp2_with fail
    refine (HBC.out _ B4.out).mono ?_
    rintro e w5 ⟨rb, rfl, hrb, b5⟩
    have HRB := Lib.hid hrb
    have B45 := Lib.hid b5
    have B5 := Lib.hid (belStep B4.out b5)
    obtain ⟨rba, rbc, rfl⟩ := HRB.out.shape
    clear b5 hrb HBC
    go_wp2_with fail
    refine (HCC.out _ _ HRB.out.lks).mono ?_
    rintro e w6 ⟨rc, rfl, hrc, b6⟩
    have B6 := Lib.hid (belStep B5.out b6)
    have B46 := Lib.hid (belStep B45.out b6)
    obtain ⟨rca, rcc, rfl⟩ := hrc.shape
    have HFQ : Hid (∀ (p q : Int) W, Below w6.heap.size w6 W → Calls Try.prog 19 #[.slice raa Q.length rac, .int .i64 p, .int .i64 q] W fun e w' => e = .returned (.int .i64 (farV Q p q)) ∧ Below W.heap.size W w') := fun p q W h => iNetFar_any W _ _ p q ((HRA.out.lks.below (belStep B46.out h) (Nat.le_refl _)).mono (Nat.le_trans B46.out.size h.size))
    have HFR : Hid (∀ (p q : Int) W, Below w6.heap.size w6 W → Calls Try.prog 19 #[.slice rca Q.length rcc, .int .i64 p, .int .i64 q] W fun e w' => e = .returned (.int .i64 (farV Q p q)) ∧ Below W.heap.size W w') := fun p q W h => iNetFar_any W _ _ p q ((hrc.lks.below h (Nat.le_refl _)).mono h.size)
    clear b6 hrc HCC HRA HRB B45 B46 B5 B4
    go_wp2
    go_loopw [20] (fun i wr => ∃ x : Nat, 1 ≤ x ∧ x ≤ 5 ∧ i = .int .i64 (x : Int) ∧ Below w1.heap.size w1 wr ∧ Below w6.heap.size w6 wr) (fun i _ => 5 - (intOf i).toNat)
    case atStart => exact ⟨1, by omega, by omega, rfl, B6.out, Below.refl _ _⟩
    case round =>
      obtain ⟨x, x1, x5, rfl, hbel, hbel2⟩ := hrel
      have HBL := Lib.hid hbel
      have HB2 := Lib.hid hbel2
      clear hbel hbel2
      by_cases hlt : (x : Int) ≤ 4
      · go_wp2
        go_loopw [21] (fun i wr' => ∃ y : Nat, 1 ≤ y ∧ y ≤ 5 ∧ i = .int .i64 (y : Int) ∧ Below w1.heap.size w1 wr' ∧ Below w6.heap.size w6 wr') (fun i _ => 5 - (intOf i).toNat)
        case atStart => exact ⟨1, by omega, by omega, rfl, HBL.out, HB2.out⟩
        case round =>
          obtain ⟨y, y1, y5, rfl, hbel, hbel2⟩ := hrel
          have KBL := Lib.hid hbel
          have KB2 := Lib.hid hbel2
          clear hbel hbel2
          by_cases hyt : (y : Int) ≤ 4
          · have HFX := Lib.hid (fun W h => HFQ.out (x : Int) (y : Int) W h)
            have HFY := Lib.hid (fun W h => HFR.out (x : Int) (y : Int) W h)
            generalize farV Q (x : Int) (y : Int) = was at *
            go_wp2_with fail
            refine (HFX.out _ KB2.out).mono ?_
            rintro e w7 ⟨rfl, b7⟩
            have KB7 := Lib.hid (belStep KBL.out b7)
            have KB27 := Lib.hid (belStep KB2.out b7)
            clear b7 KBL KB2
            go_wp2_with fail
            refine (HFY.out _ KB27.out).mono ?_
            rintro e w8 ⟨rfl, b8⟩
            have KB8 := Lib.hid (belStep KB7.out b8)
            have KB28 := Lib.hid (belStep KB27.out b8)
            clear b8 KB7 KB27 HFX HFY
            go_wp2
            go_roundw
            case rel => exact ⟨y + 1, by omega, by omega, by go_num, KB8.out, KB28.out⟩
            case measure => simp [intOf]; omega
          · have hyt' : decide ((y : Int) ≤ 4) = false := by simp; omega
            go_wp2
            go_roundw
            case rel => exact ⟨x + 1, by omega, by omega, by go_num, KBL.out, KB2.out⟩
            case measure => simp [intOf]; omega
      · have hlt' : decide ((x : Int) ≤ 4) = false := by simp; omega
        go_wp2
        go_ret
        exact ⟨by first | rfl | (simp; done) | (simp; omega), BW.out _ HBL.out⟩
  · have HQ : Hid (cutL (cutL l i) k = cutL (cutL l k) (i - 1)) := cut_two (by have := HI.out; have := HN.out; omega) (by have := HKM.out; have := HMN.out; have := HN.out; omega) (by have := hik; first | (rw [if_pos (by omega)]; done) | (rw [if_neg (by omega)]; done)) (by have := hik; first | (rw [if_neg (by omega)]; done) | (rw [if_pos (by omega)]; done))
    have HA : Hid (∀ W, Below w3.heap.size w3 W → Calls Try.prog 14 #[.slice ua M uc, .int .i64 (k : Int)] W fun e w' => ∃ r, e = .returned (.tuple #[r, .bool true]) ∧ LkRow w' W.heap.size r (cutL (cutL l i) k) ∧ Below W.heap.size W w') := fun W h => iCut_ok W _ (cutL l i) _ k _ (HML.out W h) HNC.out (by rw [HM.out]; exact HKM.out) rfl rfl
    have HBC : Hid (∀ W, Below w1.heap.size w1 W → Calls Try.prog 14 #[.slice va N vc, .int .i64 (k : Int)] W fun e w' => ∃ r, e = .returned (.tuple #[r, .bool true]) ∧ LkRow w' W.heap.size r (cutL l k) ∧ Below W.heap.size W w') := fun W h => iCut_ok W _ l _ (k) _ (HL.out W h) HNB.out (by have := HKM.out; have := HMN.out; have := HN.out; omega) (by omega) rfl
    have HCC : Hid (∀ u W, Lks W W.heap.size u (cutL l k) → Calls Try.prog 14 #[u, .int .i64 ((i : Int) - 1)] W fun e w' => ∃ r, e = .returned (.tuple #[r, .bool true]) ∧ LkRow w' W.heap.size r (cutL (cutL l i) k) ∧ Below W.heap.size W w') := fun u W h => iCut_ok W u _ _ ((i - 1)) _ h (netB_cut HNB.out) (by have h1 := HKM.out; have h2 := HMN.out; have h3 := HN.out; have h4 := HI.out; have hik' := hik; rw [cutL_len (by omega)]; omega) (by have := hik; omega) HQ.out.symm
    clear HQ HML HM HNC HNB HL
    have h1' : decide ((i : Int) ≤ (k : Int)) = false := by simp; omega
    have h2 : (k : Int) < (i : Int) := by omega
    generalize cutL l (k) = R at *
    generalize cutL (cutL l i) k = Q at *
    go_wp2_with fail
    refine (HA.out _ (Below.refl _ _)).mono ?_
    rintro e w4 ⟨ra, rfl, hra, b4⟩
    have HRA := Lib.hid hra
    have B4 := Lib.hid (belStep B3.out b4)
    obtain ⟨raa, rac, rfl⟩ := HRA.out.shape
    clear b4 hra HA
    go_wp2_with fail
    refine (HBC.out _ B4.out).mono ?_
    rintro e w5 ⟨rb, rfl, hrb, b5⟩
    have HRB := Lib.hid hrb
    have B45 := Lib.hid b5
    have B5 := Lib.hid (belStep B4.out b5)
    obtain ⟨rba, rbc, rfl⟩ := HRB.out.shape
    clear b5 hrb HBC
    go_wp2_with fail
    refine (HCC.out _ _ HRB.out.lks).mono ?_
    rintro e w6 ⟨rc, rfl, hrc, b6⟩
    have B6 := Lib.hid (belStep B5.out b6)
    have B46 := Lib.hid (belStep B45.out b6)
    obtain ⟨rca, rcc, rfl⟩ := hrc.shape
    have HFQ : Hid (∀ (p q : Int) W, Below w6.heap.size w6 W → Calls Try.prog 19 #[.slice raa Q.length rac, .int .i64 p, .int .i64 q] W fun e w' => e = .returned (.int .i64 (farV Q p q)) ∧ Below W.heap.size W w') := fun p q W h => iNetFar_any W _ _ p q ((HRA.out.lks.below (belStep B46.out h) (Nat.le_refl _)).mono (Nat.le_trans B46.out.size h.size))
    have HFR : Hid (∀ (p q : Int) W, Below w6.heap.size w6 W → Calls Try.prog 19 #[.slice rca Q.length rcc, .int .i64 p, .int .i64 q] W fun e w' => e = .returned (.int .i64 (farV Q p q)) ∧ Below W.heap.size W w') := fun p q W h => iNetFar_any W _ _ p q ((hrc.lks.below h (Nat.le_refl _)).mono h.size)
    clear b6 hrc HCC HRA HRB B45 B46 B5 B4
    go_wp2
    go_loopw [20] (fun i wr => ∃ x : Nat, 1 ≤ x ∧ x ≤ 5 ∧ i = .int .i64 (x : Int) ∧ Below w1.heap.size w1 wr ∧ Below w6.heap.size w6 wr) (fun i _ => 5 - (intOf i).toNat)
    case atStart => exact ⟨1, by omega, by omega, rfl, B6.out, Below.refl _ _⟩
    case round =>
      obtain ⟨x, x1, x5, rfl, hbel, hbel2⟩ := hrel
      have HBL := Lib.hid hbel
      have HB2 := Lib.hid hbel2
      clear hbel hbel2
      by_cases hlt : (x : Int) ≤ 4
      · go_wp2
        go_loopw [21] (fun i wr' => ∃ y : Nat, 1 ≤ y ∧ y ≤ 5 ∧ i = .int .i64 (y : Int) ∧ Below w1.heap.size w1 wr' ∧ Below w6.heap.size w6 wr') (fun i _ => 5 - (intOf i).toNat)
        case atStart => exact ⟨1, by omega, by omega, rfl, HBL.out, HB2.out⟩
        case round =>
          obtain ⟨y, y1, y5, rfl, hbel, hbel2⟩ := hrel
          have KBL := Lib.hid hbel
          have KB2 := Lib.hid hbel2
          clear hbel hbel2
          by_cases hyt : (y : Int) ≤ 4
          · have HFX := Lib.hid (fun W h => HFQ.out (x : Int) (y : Int) W h)
            have HFY := Lib.hid (fun W h => HFR.out (x : Int) (y : Int) W h)
            generalize farV Q (x : Int) (y : Int) = was at *
            go_wp2_with fail
            refine (HFX.out _ KB2.out).mono ?_
            rintro e w7 ⟨rfl, b7⟩
            have KB7 := Lib.hid (belStep KBL.out b7)
            have KB27 := Lib.hid (belStep KB2.out b7)
            clear b7 KBL KB2
            go_wp2_with fail
            refine (HFY.out _ KB27.out).mono ?_
            rintro e w8 ⟨rfl, b8⟩
            have KB8 := Lib.hid (belStep KB7.out b8)
            have KB28 := Lib.hid (belStep KB27.out b8)
            clear b8 KB7 KB27 HFX HFY
            go_wp2
            go_roundw
            case rel => exact ⟨y + 1, by omega, by omega, by go_num, KB8.out, KB28.out⟩
            case measure => simp [intOf]; omega
          · have hyt' : decide ((y : Int) ≤ 4) = false := by simp; omega
            go_wp2
            go_roundw
            case rel => exact ⟨x + 1, by omega, by omega, by go_num, KBL.out, KB2.out⟩
            case measure => simp [intOf]; omega
      · have hlt' : decide ((x : Int) ≤ 4) = false := by simp; omega
        go_wp2
        go_ret
        exact ⟨by first | rfl | (simp; done) | (simp; omega), BW.out _ HBL.out⟩

set_option maxRecDepth 100000 in
theorem lifted_FnCutTwo (os : Os) (started : os.Started) (H : Type) (enc : TypeId × Value → H) :
    ReturnsInHanded {} Try.checked os 9 .any (Rows.fnCutTwoSpec.pre6 enc Try.prog Try.f9 Rows.fnCutTwoRow.domain false) (Rows.fnCutTwoSpec.post enc Try.prog Try.f9 false true false false) := by
  refine returnsInHanded_of_change (C := Try.checked) own started (by kernel_rfl) Try.func9
    (ChangeSpec.witness6 (enc := enc) (C := Try.checked) false ⟨#[], #[.slice none 0 0, .slice none 0 0], []⟩ 8 (by kernel_rfl) (by kernel_rfl) (by kernel_rfl) (by kernel_rfl)) ?_
  intro W base args ds gs before hval0 hW hcnd _
  have hval : ∀ (j : Nat) t v, Try.f9.params[j]? = some t → args[j]? = some v → Value.okWide Try.prog W .any base t v := hval0
  have hW' := hW
  obtain ⟨p, q, hA0, hV, rfl, hfz, hnd⟩ := hW
  have hA : DataW.TrodAll enc Try.prog W 0 (fun _ => true) true Try.f9.params.toList args.toList ds p := hA0
  rw [Try.params9] at hA hval
  obtain ⟨v0, vs0, d0, ds0, p0, q0, hargs, rfl, rfl, h0, r0⟩ := trodAll_cons hA
  obtain ⟨v1, vs1, d1, ds1, p1, q1, rfl, rfl, rfl, h1, r1⟩ := trodAll_cons r0
  obtain ⟨rfl, rfl, rfl⟩ := trodAll_nil r1
  obtain rfl : args = #[v0, v1] := by cases args; simp_all
  obtain ⟨rfl, rfl⟩ := trodVars_none hV
  have k0 := h0
  have lt0 : ∀ x ∈ p0, x.block < W.heap.size := by obtain ⟨m, hm⟩ := k0; exact DataW.trod_lt m _ _ _ hm
  have k1 := h1
  have lt1 : ∀ x ∈ p1, x.block < W.heap.size := by obtain ⟨m, hm⟩ := k1; exact DataW.trod_lt m _ _ _ hm
  obtain ⟨a0, len0, cap0, rfl⟩ := okWide_slice Try.underlying31 (hval 0 31 v0 rfl rfl)
  have w0 : BytesIn W W.heap.size a0 len0 cap0 := isRow_of h0
  obtain ⟨a1, len1, cap1, rfl⟩ := okWide_slice Try.underlying31 (hval 1 31 v1 rfl rfl)
  have w1 : BytesIn W W.heap.size a1 len1 cap1 := isRow_of h1
  clear hA0 hval0
  refine (walk_FnCutTwo a0 len0 cap0 a1 len1 cap1 W w0 w1).mono fun e W' ⟨he, bel⟩ => ?_
  subst he
  exact ⟨_, rfl, _, _, _, [], _, [], hW', trodAll_mk1 (shut_bool Try.underlying4 _), (trodAll_cons_mk (Below.trod laidOut (by kernel_rfl) (of_decide_eq_true (by kernel_rfl)) k0 bel lt0) (trodAll_cons_mk (Below.trod laidOut (by kernel_rfl) (of_decide_eq_true (by kernel_rfl)) k1 bel lt1) (trodAll_mk0))), rfl, bel.frame _, fun h => by cases h⟩

theorem over_FnCutTwo : Rows.fnCutTwoRow.holds Try.pinned (OpenSpec.ofChange Rows.fnCutTwoSpec) :=
  OpenClaim.holds_of_wide 9 Try.f9 rfl rfl rfl rfl rfl rfl rfl ⟨rfl, rfl, rfl, rfl, rfl⟩ rfl rfl rfl rfl rfl (by kernel_rfl) Try.func9 (by kernel_rfl)
    (of_decide_eq_true (by kernel_rfl)) (by unfold Func.isWrapper; first | (rw [if_pos (by decide +kernel)]; kernel_rfl) | (rw [if_neg (by decide +kernel)]; exact ⟨rfl, rfl⟩))
    (fun os started H enc _ => lifted_FnCutTwo os started H enc)

theorem proved_FnCutTwo : Rows.FnCutTwoSaid := over_FnCutTwo

end Go.Proofs.Ytbjndcfdcjpkmaa
