/-
  Nets: the least port by which one comes nearer, the model's and the program's answer.
-/
import Derived.Test.YtbjndcfdcjpkmaaNetFarJ
namespace Go.Proofs.Ytbjndcfdcjpkmaa
open Go.ChangeShapes Go.WideShapes Go.ChangeAt Go.RowKit Go.Joins
set_option linter.unusedVariables false

/-- A port leads nearer. -/
def nearB (l : List K4) (s t k : Nat) : Bool := decide ((peerF l s k).1 > 0) && (decide (farS l t s > 0) && (farS l t (peerF l s k).1.toNat == farS l t s - 1))
def nextF (l : List K4) (s t : Nat) : Int := leastF (nearB l s t)
/-- The answer of both. -/
def nextV (l : List K4) (sw to : Int) : Int := bif netB l && (swB sw && swB to) then nextF l sw.toNat to.toNat else 0

theorem far_range {l : List K4} (hn : netB l = true) {t : Nat} (t1 : 1 ≤ t) (t4 : t ≤ 4) {v : Nat} (v1 : 1 ≤ v) (v4 : v ≤ 4) : -1 ≤ farS l t v ∧ farS l t v ≤ 3 := by
  have h := farS_dist (net_ok hn) t1 t4
  have := dist_small h.low h.back v v1 v4
  have := h.low v v1 v4
  omega

set_option maxRecDepth 100000 in
set_option maxHeartbeats 8000000 in
theorem l21Next_any (w : World) (v : Value) (l : List K4) (s t : Nat) (h : Lks w w.heap.size v l) (hn : netB l = true) (s1 : 1 ≤ s) (s4 : s ≤ 4) (t1 : 1 ≤ t) (t4 : t ≤ 4) :
    Calls Try.prog 57 #[v, .int .i64 (s : Int), .int .i64 (t : Int)] w fun e w' => e = .returned (.int .i64 (nextF l s t)) ∧ Below w.heap.size w w' := by
  have HP : Hid (∀ k W, Below w.heap.size w W → Calls Try.prog 54 #[v, .int .i64 (s : Int), .int .i64 k] W fun e w' => e = .returned (.tuple #[.int .i64 (peerF l s k).1, .int .i64 (peerF l s k).2]) ∧ Below W.heap.size W w') := fun k W hb => l21Peer_any W v l s k ((h.below hb (Nat.le_refl _)).mono hb.size)
  have HF := Lib.hid (l21Far_any w v l t h (net_ok hn) t4)
  have HPO : Hid (∀ k : Int, (peerF l s k).1 = 0 ∨ ∃ x : Nat, (peerF l s k).1 = (x : Int) ∧ 1 ≤ x ∧ x ≤ 4) := fun k => by
    rcases peer_ok hn (s : Int) k with h0 | ⟨-, -, ⟨a, b⟩, -⟩
    · exact .inl (by rw [h0])
    · exact .inr ⟨(peerF l s k).1.toNat, by omega, by omega, by omega⟩
  have HRG : Hid (-1 ≤ farS l t s ∧ farS l t s ≤ 3) := far_range hn t1 t4 s1 s4
  unfold nextF
  have HNB : Hid (∀ k : Nat, nearB l s t k = (decide ((peerF l s k).1 > 0) && (decide (farS l t s > 0) && (farS l t (peerF l s k).1.toNat == farS l t s - 1)))) := fun _ => rfl
  generalize nearB l s t = near at *
  clear h hn
  generalize farS l t = D at *
  go_enter Try.func57, Try.ntmps57
  go_wp2_with fail
  refine HF.out.mono ?_
  rintro e W1 ⟨rfl, hf, b1⟩
  have HFB := Lib.hid hf
  have HB1 := Lib.hid b1
  clear hf b1 HF
  go_wp2_with fail
  go_loopw [8] (fun i wr => ∃ k : Nat, 1 ≤ k ∧ k ≤ 4 ∧ i = .int .i64 k ∧ (∀ j : Nat, 1 ≤ j → j < k → near j = false) ∧ Below W1.heap.size W1 wr) (fun i _ => 4 - (intOf i).toNat)
  case atStart => exact ⟨1, Nat.le_refl _, by omega, rfl, fun j h1 h2 => by omega, Below.refl _ _⟩
  case round =>
    obtain ⟨k, hk1, hk4, rfl, hno, hbel⟩ := hrel
    have HNO := Lib.hid hno
    have HBL := Lib.hid hbel
    clear hno hbel
    by_cases hlt : k ≤ 3
    · have hkz : (k : Int) ≤ 3 := by omega
      have HPK := Lib.hid (HP.out (k : Int) wr (belStep HB1.out HBL.out))
      have HYES : Hid (near k = true → leastF near = (k : Int)) := fun e => leastF_at hk1 hlt e HNO.out
      have HNN : Hid (near k = false → ∀ j : Nat, 1 ≤ j → j < k + 1 → near j = false) := fun e j h1 h2 => by
        by_cases hj : j = k
        · subst hj; exact e
        · exact HNO.out j h1 (by omega)
      have HNK := Lib.hid (HNB.out k)
      have hxk := HPO.out (k : Int)
      clear HNO
      generalize (peerF l s k).1 = x at *
      generalize (peerF l s k).2 = y at *
      go_wp2_with fail
      refine HPK.out.mono ?_
      rintro e w1 ⟨rfl, b1⟩
      have HB2 := Lib.hid (belStep HBL.out b1)
      have HFW := Lib.hid (HFB.out.below HB2.out HFB.out.lt)
      clear b1 HBL HPK
      have is : (s : Int) < 5 := by omega
      have js : (0 : Int) ≤ (s : Int) := by omega
      have ds := HFW.out.cell (i := s) (by omega)
      have hfl := HFW.out.lt
      have q0 := fun m : Ext w1 => m.cell hfl ds
      obtain ⟨r0, r1⟩ := HRG.out
      have hwr : IntKind.i64.wrap (D s - 1) = D s - 1 := by rw [IntKind.wrap_i64]; omega
      have HEND : Hid (∀ w5, Below w1.heap.size w1 w5 → Below w.heap.size w w5 ∧ Below W1.heap.size W1 w5) := fun w5 hb => ⟨belStep HB1.out (belStep HB2.out hb), belStep HB2.out hb⟩
      rcases hxk with rfl | ⟨xn, rfl, x1, x4⟩
      · have HR := Lib.hid (HNN.out (by rw [HNK.out]; rfl))
        clear HYES HNN HNK ds
        go_wp2_with fail
        refine wp_region_ext (w0 := w1) (by kernel_rfl) (by kernel_rfl) (Below.refl _ _) ?_
        repeat (go_big_quiet_step (fail))
        refine wpQuiet_nil ?_
        intro w5 hx5
        have HB5 := Lib.hid (HEND.out _ (ext_out hx5))
        clear hx5 q0
        go_wp2
        go_roundw
        case rel => exact ⟨k + 1, by omega, by omega, by go_num, HR.out, HB5.out.2⟩
        case measure => simp [intOf]; omega
      · have hx0 : (0 : Int) < (xn : Int) := by omega
        have hx0n : 0 < xn := by omega
        have ix : (xn : Int) < 5 := by omega
        have jx : (0 : Int) ≤ (xn : Int) := by omega
        have dx := HFW.out.cell (i := xn) (by omega)
        have q1 := fun m : Ext w1 => m.cell hfl dx
        rw [Int.toNat_natCast] at HNK
        by_cases hs0 : D s > 0
        · have hs0' : (0 : Int) < D s := hs0
          cases hxx : (D xn == D s - 1)
          · have HR := Lib.hid (HNN.out (by rw [HNK.out]; simp [hxx]))
            clear HYES HNN HNK ds dx
            generalize D xn = dxn at *
            generalize D s = dsn at *
            go_wp2_with fail
            refine wp_region_ext (w0 := w1) (by kernel_rfl) (by kernel_rfl) (Below.refl _ _) ?_
            repeat (go_big_quiet_step (fail))
            refine wpQuiet_nil ?_
            intro w5 hx5
            have HB5 := Lib.hid (HEND.out _ (ext_out hx5))
            clear hx5 q0 q1
            go_wp2
            go_roundw
            case rel => exact ⟨k + 1, by omega, by omega, by go_num, HR.out, HB5.out.2⟩
            case measure => simp [intOf]; omega
          · have HR := Lib.hid (HYES.out (by rw [HNK.out]; simp [hxx, hs0]; omega))
            clear HYES HNN HNK ds dx
            generalize D xn = dxn at *
            generalize D s = dsn at *
            go_wp2_with fail
            refine wp_region_ext (w0 := w1) (by kernel_rfl) (by kernel_rfl) (Below.refl _ _) ?_
            repeat (go_big_quiet_step (fail))
            refine wpQuiet_nil ?_
            intro w5 hx5
            have HB5 := Lib.hid (HEND.out _ (ext_out hx5))
            clear hx5 q0 q1
            go_wp2
            go_ret
            exact ⟨by rw [HR.out]; try rfl, HB5.out.1⟩
        · have hs0' : ¬ (0 : Int) < D s := hs0
          have hsd : decide ((0 : Int) < D s) = false := by simpa using hs0
          have HR := Lib.hid (HNN.out (by rw [HNK.out]; simp [hs0]))
          clear HYES HNN HNK ds dx q1
          generalize D s = dsn at *
          go_wp2_with fail
          refine wp_region_ext (w0 := w1) (by kernel_rfl) (by kernel_rfl) (Below.refl _ _) ?_
          repeat (go_big_quiet_step (fail))
          refine wpQuiet_nil ?_
          intro w5 hx5
          have HB5 := Lib.hid (HEND.out _ (ext_out hx5))
          clear hx5 q0
          go_wp2
          go_roundw
          case rel => exact ⟨k + 1, by omega, by omega, by go_num, HR.out, HB5.out.2⟩
          case measure => simp [intOf]; omega
    · obtain rfl : k = 4 := by omega
      have HR : Hid (leastF near = 0) := leastF_no (fun j h1 h3 => HNO.out j h1 (by omega))
      go_wp2
      go_ret
      exact ⟨by rw [HR.out]; try rfl, belStep HB1.out HBL.out⟩

set_option maxHeartbeats 2000000 in
theorem nextTest_any (x s c d : Nat) (D : Nat → Int) (w : World) (hf : Fb 65 w c D) (hd : w.cell? ⟨d, 0, none⟩ = some (.int .i64 (s : Int))) (hdl : d < w.heap.size) (x4 : x ≤ 4) (s4 : s ≤ 4) (r0 : -1 ≤ D s) (r1 : D s ≤ 3) :
    Calls Try.prog 56 #[.int .i64 (x : Int), .pointer (some ⟨c, 0, none⟩), .pointer (some ⟨d, 0, none⟩)] w fun e w' => e = .returned (.bool (D x == D s - 1)) ∧ Below w.heap.size w w' := by
  have ix : (x : Int) < 5 := by omega
  have jx : (0 : Int) ≤ (x : Int) := by omega
  have is : (s : Int) < 5 := by omega
  have js : (0 : Int) ≤ (s : Int) := by omega
  have q0 := fun m : Ext w => m.cell hf.lt (hf.cell (i := x) (by omega))
  have q1 := fun m : Ext w => m.cell hf.lt (hf.cell (i := s) (by omega))
  have q2 := fun m : Ext w => m.cell hdl hd
  have hwr : IntKind.i64.wrap (D s - 1) = D s - 1 := by rw [IntKind.wrap_i64]; omega
  clear hf hd hdl
  generalize D x = dxn at *
  generalize D s = dsn at *
  go_enter Try.func56, Try.ntmps56
  go_wp2_with fail
  refine wp_region_ext (w0 := w) (by kernel_rfl) (by kernel_rfl) (Below.refl _ _) ?_
  repeat (go_big_quiet_step (fail))
  refine wpQuiet_nil ?_
  intro w5 hx5
  have HB5 := Lib.hid (ext_out hx5)
  clear hx5 q0 q1 q2
  go_wp2
  go_ret
  exact ⟨rfl, HB5.out⟩

set_option maxRecDepth 100000 in
set_option maxHeartbeats 4000000 in
theorem leastPort_next (P : Pv) (g c d s : Nat) (T : Nat → Bool) (w : World) (h : Pb w g P) (hs : s ≤ 4) (ht : ∀ (x : Nat) W, Below w.heap.size w W → x ≤ 4 → Calls Try.prog 56 #[.int .i64 (x : Int), .pointer (some ⟨c, 0, none⟩), .pointer (some ⟨d, 0, none⟩)] W fun e w' => e = .returned (.bool (T x)) ∧ Below W.heap.size W w')
    (hn : ∀ k, k < 4 → eX P s k ≠ 0 → ∃ x : Nat, eX P s k = (x : Int) ∧ x ≤ 4)
    (hxy : ∀ k, k < 4 → (eX P s k = 0 ∧ eY P s k = 0) ∨ eX P s k ≠ 0) (h0 : eX P s 0 = 0) :
    Calls Try.prog 45 #[.pointer (some ⟨g, 0, none⟩), .int .i64 (s : Int), .func (.func 56) #[] #[.pointer (some ⟨c, 0, none⟩), .pointer (some ⟨d, 0, none⟩)]] w fun e w' =>
      e = .returned (.int .i64 (leastF (fun k => !(eX P s k == 0) && T (eX P s k).toNat))) ∧ Below w.heap.size w w' := by
  have HXY := Lib.hid hxy
  have H0 := Lib.hid h0
  obtain ⟨c0, c1, c2, c3, c4, c5, c6, c7⟩ := h.eight hs
  have e0 : P (s * 8) = eX P s 0 := rfl
  have e1 : P (s * 8 + 1) = eY P s 0 := rfl
  have e2 : P (s * 8 + 2) = eX P s 1 := rfl
  have e3 : P (s * 8 + 3) = eY P s 1 := rfl
  have e4 : P (s * 8 + 4) = eX P s 2 := rfl
  have e5 : P (s * 8 + 5) = eY P s 2 := rfl
  have e6 : P (s * 8 + 6) = eX P s 3 := rfl
  have e7 : P (s * 8 + 7) = eY P s 3 := rfl
  rw [e0] at c0
  rw [e1] at c1
  rw [e2] at c2
  rw [e3] at c3
  rw [e4] at c4
  rw [e5] at c5
  rw [e6] at c6
  rw [e7] at c7
  have HTT := Lib.hid ht
  have HNN4 := Lib.hid hn
  clear e0 e1 e2 e3 e4 e5 e6 e7 h hxy h0 ht hn
  generalize eX P s = X at *
  generalize eY P s = Y at *
  have i1 : (s : Int) < 5 := by omega
  have j1 : (0 : Int) ≤ (s : Int) := by omega
  go_enter Try.func45, Try.ntmps45
  go_wp2_with fail
  go_loopw [14] (fun i wr => ∃ k : Nat, k ≤ 4 ∧ i = .int .i64 k ∧ (∀ j : Nat, j < k → (!(X j == 0) && T (X j).toNat) = false) ∧ Below w.heap.size w wr) (fun i _ => 4 - (intOf i).toNat)
  case atStart => exact ⟨0, by omega, rfl, fun j h => absurd h (Nat.not_lt_zero _), Below.refl _ _⟩
  case round =>
    obtain ⟨k, hk4, rfl, hno, hbel⟩ := hrel
    have HNO := Lib.hid hno
    have HBL := Lib.hid hbel
    clear hno hbel c0 c1 c2 c3 c4 c5 c6 c7
    by_cases hlt : k < 4
    · have hkz : (k : Int) < 4 := by omega
      have hix := row4_at X Y hlt
      unfold row4 at hix
      have HYES : Hid ((!(X k == 0) && T (X k).toNat) = true → leastF (fun k => !(X k == 0) && T (X k).toNat) = (k : Int)) := fun e => by
        have h1 : 1 ≤ k := by
          by_cases hz : k = 0
          · subst hz
            rw [H0.out] at e
            simp at e
          · omega
        exact leastF_at h1 (by omega) e (fun j _ hj => HNO.out j hj)
      have HNN : Hid ((!(X k == 0) && T (X k).toNat) = false → ∀ j : Nat, j < k + 1 → (!(X j == 0) && T (X j).toNat) = false) := fun e j h1 => by
        by_cases hj : j = k
        · subst hj; exact e
        · exact HNO.out j (by omega)
      have hxk := HXY.out k hlt
      have HNK := Lib.hid (HNN4.out k hlt)
      clear HNO HXY
      generalize X k = x at *
      generalize Y k = y at *
      have HB1 := Lib.hid (below_alloc1 wr (.cells #[.int .i64 x, .int .i64 y] 58))
      have HBN := Lib.hid (belStep HBL.out HB1.out)
      rcases hxk with ⟨rfl, rfl⟩ | hx0
      · have HR := Lib.hid (HNN.out rfl)
        clear HYES HNN
        go_wp2
        go_roundw
        case rel => exact ⟨k + 1, by omega, by go_num, HR.out, HBN.out⟩
        case measure => simp [intOf]; omega
      · have hx0' : (x == 0) = false := by simpa using hx0
        obtain ⟨xn, rfl, x4⟩ := HNK.out hx0
        have HT := Lib.hid (HTT.out xn _ HBN.out x4)
        rw [Int.toNat_natCast] at HYES HNN
        cases hx : T xn
        · have HR := Lib.hid (HNN.out (by simp [hx]))
          rw [hx] at HT
          clear HYES HNN
          go_wp2_with fail
          refine HT.out.mono ?_
          rintro e w5 ⟨rfl, b5⟩
          have HB5 := Lib.hid (belStep HBN.out b5)
          clear b5
          go_wp2
          go_roundw
          case rel => exact ⟨k + 1, by omega, by go_num, HR.out, HB5.out⟩
          case measure => simp [intOf]; omega
        · have HR := Lib.hid (HYES.out (by simp [hx]; omega))
          rw [hx] at HT
          clear HYES HNN
          go_wp2_with fail
          refine HT.out.mono ?_
          rintro e w5 ⟨rfl, b5⟩
          have HB5 := Lib.hid (belStep HBN.out b5)
          clear b5
          go_wp2
          go_ret
          exact ⟨by rw [HR.out]; try rfl, HB5.out⟩
    · obtain rfl : k = 4 := by omega
      have HR : Hid (leastF (fun k => !(X k == 0) && T (X k).toNat) = 0) := leastF_no (fun j h1 h3 => HNO.out j (by omega))
      go_wp2
      go_ret
      exact ⟨by rw [HR.out]; try rfl, HBL.out⟩

end Go.Proofs.Ytbjndcfdcjpkmaa
