/-
  Nets: the way from one switch to another one: both answers.
-/
import Derived.Test.YtbjndcfdcjpkmaaNetWayI
namespace Go.Proofs.Ytbjndcfdcjpkmaa
open Go.ChangeShapes Go.WideShapes Go.ChangeAt Go.RowKit Go.Joins
set_option linter.unusedVariables false

set_option maxHeartbeats 4000000 in
theorem sNetWay_any (w : World) (v : Value) (l : List K4) (sw to : Int) (h : Lks w w.heap.size v l) (hn : l.length ≤ 1048576) :
    Calls Try.prog 26 #[v, .int .i64 sw, .int .i64 to] w fun e w' => ∃ u, e = .returned u ∧ IntRow w' w.heap.size u (wayV l sw to) ∧ Below w.heap.size w w' := by
  have HO := Lib.hid (sNetOk_any w v l h hn)
  have HP : Hid (netB l = true → swB sw = true → swB to = true → ∀ W, Below w.heap.size w W → Calls Try.prog 48 #[v, .int .i64 sw, .int .i64 to] W fun e w' => ∃ u, e = .returned u ∧ IntRow w' W.heap.size u (wayV l sw to) ∧ Below W.heap.size W w') := fun hb h1 h2 W hw => by
    obtain ⟨s, rfl, s1, s4⟩ := sw_nat h1
    obtain ⟨t, rfl, t1, t4⟩ := sw_nat h2
    exact l21Way_any W v l s t ((h.below hw (Nat.le_refl _)).mono hw.size) hb s1 s4 t1 t4
  have HS := Lib.hid (fun W => l21Sw_any sw W)
  have HT := Lib.hid (fun W => l21Sw_any to W)
  have HNO : Hid ((netB l && (swB sw && swB to)) = false → wayV l sw to = []) := fun e => by simp [wayV, e]
  have HEM : Hid (∀ W : World, IntRow (W.alloc (.cells #[] 3)) W.heap.size (.slice (some ⟨W.heap.size, 0, none⟩) 0 0) []) := fun W => World.ownsRow_made W #[] 0 (Nat.le_refl _) (Nat.zero_le _) rfl
  clear h
  generalize wayV l sw to = a at *
  generalize netB l = ok at *
  generalize swB sw = o1 at *
  generalize swB to = o2 at *
  cases ok
  · obtain rfl := HNO.out rfl
    go_enter Try.func26, Try.ntmps26
    go_wp2_with fail
    refine HO.out.mono ?_
    rintro e w1 ⟨rfl, b1⟩
    have HB1 := Lib.hid (belStep b1 (below_alloc1 w1 (.cells #[] 3)))
    have HE1 := Lib.hid ((HEM.out w1).mono b1.size)
    clear b1
    go_wp2
    go_ret
    exact ⟨_, rfl, HE1.out, HB1.out⟩
  · cases o1
    · obtain rfl := HNO.out rfl
      go_enter Try.func26, Try.ntmps26
      go_wp2_with fail
      refine HO.out.mono ?_
      rintro e w1 ⟨rfl, b1⟩
      have HB1 := Lib.hid (belStep b1 (below_alloc1 w1 (.cells #[] 3)))
      have HE1 := Lib.hid ((HEM.out w1).mono b1.size)
      clear b1
      go_wp2_with fail
      refine (HS.out _).mono ?_
      rintro e w' ⟨rfl, rfl⟩
      go_wp2
      go_ret
      exact ⟨_, rfl, HE1.out, HB1.out⟩
    · cases o2
      · obtain rfl := HNO.out rfl
        go_enter Try.func26, Try.ntmps26
        go_wp2_with fail
        refine HO.out.mono ?_
        rintro e w1 ⟨rfl, b1⟩
        have HB1 := Lib.hid (belStep b1 (below_alloc1 w1 (.cells #[] 3)))
        have HE1 := Lib.hid ((HEM.out w1).mono b1.size)
        clear b1
        go_wp2_with fail
        refine (HS.out _).mono ?_
        rintro e w' ⟨rfl, rfl⟩
        go_wp2_with fail
        refine (HT.out _).mono ?_
        rintro e w' ⟨rfl, rfl⟩
        go_wp2
        go_ret
        exact ⟨_, rfl, HE1.out, HB1.out⟩
      · go_enter Try.func26, Try.ntmps26
        go_wp2_with fail
        refine HO.out.mono ?_
        rintro e w1 ⟨rfl, b1⟩
        have HB1 := Lib.hid b1
        clear b1
        go_wp2_with fail
        refine (HS.out _).mono ?_
        rintro e w' ⟨rfl, rfl⟩
        go_wp2_with fail
        refine (HT.out _).mono ?_
        rintro e w' ⟨rfl, rfl⟩
        go_wp2_with fail
        refine (HP.out trivial trivial trivial _ HB1.out).mono ?_
        rintro e w2 ⟨u, rfl, hrow, b2⟩
        have HB2 := Lib.hid (belStep HB1.out b2)
        have HR2 := Lib.hid (hrow.mono HB1.out.size)
        clear b2 hrow
        go_wp2
        go_ret
        exact ⟨_, rfl, HR2.out, HB2.out⟩

set_option maxRecDepth 100000 in
set_option maxHeartbeats 8000000 in
theorem iNetWay_any (w : World) (v : Value) (l : List K4) (sw to : Int) (h : Lks w w.heap.size v l) :
    Calls Try.prog 25 #[v, .int .i64 sw, .int .i64 to] w fun e w' => ∃ u, e = .returned u ∧ IntRow w' w.heap.size u (wayV l sw to) ∧ Below w.heap.size w w' := by
  have HR := Lib.hid (readNetPair_any w v l sw to h)
  clear h
  cases hok : netB l && (swB sw && swB to)
  · rw [show wayV l sw to = [] from by simp [wayV, hok]]
    rw [hok] at HR
    clear hok
    go_enter Try.func25, Try.ntmps25
    go_wp2_with fail
    refine HR.out.mono ?_
    rintro e w1 ⟨P, rfl, -, b1⟩
    have HB1 := Lib.hid b1
    clear b1 HR
    go_wp2_with (refine wl_alloc rfl rfl ?_)
    intro w2 p2 b2 s2
    go_wp2_with (refine wl_store rfl _ _ rfl _ rfl _ _ rfl p2 ?_)
    intro w3 p3 g3
    have HB3 := Lib.hid (belStep HB1.out (b2.trans (grownBel g3 (Nat.le_refl _) b2.size)))
    go_wp2
    go_ret
    exact ⟨_, rfl, World.ownsRow_nil _ _ _ _, HB3.out⟩
  · have hparts := hok
    simp only [Bool.and_eq_true] at hparts
    obtain ⟨hn, h1, h2⟩ := hparts
    obtain ⟨s, rfl, s1, s4⟩ := sw_nat h1
    obtain ⟨t, rfl, t1, t4⟩ := sw_nat h2
    have HV : Hid (wayV l (s : Int) (t : Int) = if farS l t s < 0 then [] else (s : Int) :: restL l t (farS l t s).toNat s) := by
      show _ = _
      simp [wayV, hn, h1, h2]
    have HFS : Hid (∀ D, IsDist l t D → ∀ x, 1 ≤ x → x ≤ 4 → D x = farS l t x) := fun D hD x x1 x4 => dist_one hD (farS_dist (net_ok hn) t1 t4) x x1 x4
    have HNX : Hid (∀ (x : Nat) W g D, 1 ≤ x → x ≤ 4 → Pb W g (pk l) → IsDist l t D → Calls Try.prog 47 #[.pointer (some ⟨g, 0, none⟩), .int .i64 (x : Int), .agg #[.int .i64 (D 0), .int .i64 (D 1), .int .i64 (D 2), .int .i64 (D 3), .int .i64 (D 4)]] W fun e w' => e = .returned (.int .i64 (nextF l x t)) ∧ Below W.heap.size W w') := fun x W g D x1 x4 hp hD => next_any l hn g x t x1 x4 t1 t4 D hD W hp
    have HFA : Hid (∀ W g, Pb W g (pk l) → Calls Try.prog 42 #[.pointer (some ⟨g, 0, none⟩), .int .i64 (t : Int)] W fun e w' => ∃ D, e = .returned (.agg #[.int .i64 (D 0), .int .i64 (D 1), .int .i64 (D 2), .int .i64 (D 3), .int .i64 (D 4)]) ∧ IsDist l t D ∧ Below W.heap.size W w') := fun W g hp => fars_any l hn g t W hp t1 t4
    have HST : Hid (∀ (x n : Nat), 1 ≤ x → x ≤ 4 → farS l t x = (n : Int) + 1 → ∃ k y : Nat, 1 ≤ k ∧ k ≤ 3 ∧ nextF l x t = (k : Int) ∧ (peerF l x k).1 = (y : Int) ∧ 1 ≤ y ∧ y ≤ 4 ∧ farS l t y = (n : Int) ∧ stepF l t x = y) := fun x n x1 x4 e => step_ok hn x1 x4 t1 t4 e
    have HZ : Hid (∀ x : Nat, 1 ≤ x → x ≤ 4 → (farS l t x = 0 ↔ x = t)) := (farS_dist (net_ok hn) t1 t4).zero
    have HRG : Hid (-1 ≤ farS l t s ∧ farS l t s ≤ 3) := far_range hn t1 t4 s1 s4
    have HXP : Hid (∀ x k : Nat, k ≤ 3 → pk l (x * 8 + k * 2) = (peerF l x k).1) := fun x k hk => by
      have := pk_peer hn x k hk
      rw [← this]
    have HN := Lib.hid hn
    rw [hok] at HR
    clear hok hn h1 h2
    have is : (s : Int) < 5 := by omega
    have js : (0 : Int) ≤ (s : Int) := by omega
    go_enter Try.func25, Try.ntmps25
    go_wp2_with fail
    refine HR.out.mono ?_
    rintro e w1 ⟨P, rfl, hP, b1⟩
    obtain rfl := hP HN.out
    have HB1 := Lib.hid b1
    clear b1 HR hP
    go_wp2_with (refine wl_alloc rfl rfl ?_)
    intro w2 p2 b2 s2
    go_wp2_with (refine wl_store rfl _ _ rfl _ rfl _ _ rfl p2 ?_)
    intro w3 p3 g3
    have HB3 := Lib.hid (belStep HB1.out (b2.trans (grownBel g3 (Nat.le_refl _) b2.size)))
    have HP3 := Lib.hid p3
    clear p2 b2 s2 p3 g3
    go_wp2_with fail
    refine (HFA.out _ _ HP3.out).mono ?_
    rintro e w4 ⟨D, rfl, hD, b4⟩
    have HDS := Lib.hid (HFS.out D hD)
    have HDD := Lib.hid hD
    have HP4 := Lib.hid (HP3.out.below b4 HP3.out.lt)
    have HB4 := Lib.hid (belStep HB3.out b4)
    have hF5 : Fb 65 (w4.alloc (.cells #[.int .i64 (D 0), .int .i64 (D 1), .int .i64 (D 2), .int .i64 (D 3), .int .i64 (D 4)] 65)) w4.heap.size D := heap_alloc_last w4 _
    have HF5 := Lib.hid hF5
    have HA5 := Lib.hid (below_alloc1 w4 (.cells #[.int .i64 (D 0), .int .i64 (D 1), .int .i64 (D 2), .int .i64 (D 3), .int .i64 (D 4)] 65))
    have HP5 := Lib.hid (HP4.out.below HA5.out HP4.out.lt)
    have HB5 := Lib.hid (belStep HB4.out HA5.out)
    have hcs := hF5.cell (i := s) (by omega)
    rw [HDS.out s s1 s4] at hcs
    clear hD b4 hF5 HFS HFA HP3 HP4 HB3 HB4 HB1
    have HG5 : Hid (w1.heap.size < (w4.alloc (.cells #[.int .i64 (D 0), .int .i64 (D 1), .int .i64 (D 2), .int .i64 (D 3), .int .i64 (D 4)] 65)).heap.size) := HP5.out.lt
    by_cases hneg : farS l t s < 0
    · have hm1 : farS l t s = -1 := by have := HRG.out; omega
      have HVN : Hid (wayV l (s : Int) (t : Int) = []) := by show _ = _; rw [HV.out, if_pos hneg]
      rw [hm1] at hcs
      clear hm1 hneg HV
      go_wp2
      go_ret
      exact ⟨_, rfl, by rw [HVN.out]; exact World.ownsRow_nil _ _ _ _, HB5.out⟩
    · obtain ⟨n0, hn0⟩ : ∃ n0 : Nat, farS l t s = (n0 : Int) := ⟨(farS l t s).toNat, by omega⟩
      have HVN : Hid (wayV l (s : Int) (t : Int) = (s : Int) :: restL l t n0 s) := by show _ = _; rw [HV.out, if_neg hneg, hn0]; simp
      have HN0 : Hid (n0 ≤ 3) := by show _ ≤ _; have := HRG.out; omega
      have HD0 := Lib.hid hn0
      rw [hn0] at hcs
      have hm1 : ((n0 : Int) == -1) = false := by simp
      have HLW := Lib.hid HF5.out.lt
      have HSZ5 : Hid ((w4.alloc (.cells #[.int .i64 (D 0), .int .i64 (D 1), .int .i64 (D 2), .int .i64 (D 3), .int .i64 (D 4)] 65)).heap.size = w4.heap.size + 1) := World.size_alloc _ _
      clear hneg HV hn0 HRG
      go_wp2_with fail
      clear hcs
      generalize hWW : (w4.alloc (.cells #[.int .i64 (D 0), .int .i64 (D 1), .int .i64 (D 2), .int .i64 (D 3), .int .i64 (D 4)] 65)) = W5 at *
      clear hWW
      have HO : Hid (IntRow (W5.alloc (.cells #[.int .i64 (s : Int)] 3)) W5.heap.size (.slice (some ⟨w4.heap.size + 1, 0, none⟩) 1 1) [(s : Int)]) := by
        show IntRow _ _ _ _
        rw [← HSZ5.out]
        exact intRow_one W5 (s : Int)
      have HBO := Lib.hid (below_alloc1 W5 (.cells #[.int .i64 (s : Int)] 3))
      go_loopw [10, 11] (fun u f wr => ∃ (x n : Nat) (O : List Int), f = .int .i64 (x : Int) ∧ 1 ≤ x ∧ x ≤ 4 ∧ farS l t x = (n : Int) ∧ n ≤ 3 ∧ IntRow wr W5.heap.size u O ∧ O ++ restL l t n x = (s : Int) :: restL l t n0 s ∧ Below W5.heap.size W5 wr) (fun _ f _ => (farS l t (intOf f).toNat).toNat)
      case atStart => exact ⟨s, n0, [(s : Int)], rfl, s1, s4, HD0.out, HN0.out, HO.out, rfl, HBO.out⟩
      case round =>
        obtain ⟨x, n, O, rfl, x1, x4, hx, hn3, hrow, hO, hbel⟩ := hrel
        have HX := Lib.hid hx
        have HROW := Lib.hid hrow
        have HOO := Lib.hid hO
        have HBL := Lib.hid hbel
        clear hx hrow hO hbel
        cases n with
        | zero =>
          have hxt : x = t := (HZ.out x x1 x4).1 (by simpa using HX.out)
          subst hxt
          have HFIN : Hid (O = wayV l (s : Int) (x : Int)) := by
            show _ = _
            rw [HVN.out, ← HOO.out]
            simp [restL]
          have HROW' := Lib.hid (HROW.out.mono HB5.out.size)
          clear HVN HOO
          go_wp2
          go_ret
          exact ⟨_, rfl, by rw [← HFIN.out]; exact HROW'.out, belStep HB5.out HBL.out⟩
        | succ n =>
          have hxt : ¬ x = t := fun e => by have := (HZ.out x x1 x4).2 e; have := HX.out; omega
          have hxt' : ((x : Int) == (t : Int)) = false := by simp; omega
          obtain ⟨k, y, k1, k3, hk, hp, y1, y4, hy, hst⟩ := HST.out x n x1 x4 (by have := HX.out; omega)
          have HOY : Hid ((O ++ [(y : Int)]) ++ restL l t n y = (s : Int) :: restL l t n0 s) := by
            show _ = _
            rw [← HOO.out]
            simp [restL, hst]
          have HYD := Lib.hid hy
          have HOL : Hid (O.length ≤ 1000000) := by
            show _ ≤ _
            have := congrArg List.length HOO.out
            simp [restL_len] at this
            have := HN0.out
            omega
          have HPW := Lib.hid (HP5.out.below HBL.out HG5.out)
          have HFW := Lib.hid (HF5.out.below HBL.out HLW.out)
          have HNN : Hid (∀ m : Ext wr, Calls Try.prog 47 #[.pointer (some ⟨w1.heap.size, 0, none⟩), .int .i64 (x : Int), .agg #[.int .i64 (D 0), .int .i64 (D 1), .int .i64 (D 2), .int .i64 (D 3), .int .i64 (D 4)]] m.W fun e w' => e = .returned (.int .i64 (k : Int)) ∧ Below m.W.heap.size m.W w') := fun m => by
            have := HNX.out x m.W w1.heap.size D x1 x4 (HPW.out.below m.h HPW.out.lt) HDD.out
            rwa [hk] at this
          have hcy := HPW.out.cell (show x * 8 + k * 2 < 40 by omega)
          rw [HXP.out x k k3, hp] at hcy
          obtain ⟨f0, f1, f2, f3, f4⟩ := HFW.out.five
          have hpl := HPW.out.lt
          have hfl := HFW.out.lt
          have q0 := fun m : Ext wr => m.cell hfl f0
          have q1 := fun m : Ext wr => m.cell hfl f1
          have q2 := fun m : Ext wr => m.cell hfl f2
          have q3 := fun m : Ext wr => m.cell hfl f3
          have q4 := fun m : Ext wr => m.cell hfl f4
          have q5 := fun m : Ext wr => m.cell hpl hcy
          have ix : (x : Int) < 5 := by omega
          have jx : (0 : Int) ≤ (x : Int) := by omega
          have ik : (k : Int) < 4 := by omega
          have jk : (0 : Int) ≤ (k : Int) := by omega
          clear HOO hy hst hk hp hcy f0 f1 f2 f3 f4
          go_wp2_with fail
          refine wp_region_ext (w0 := wr) (by kernel_rfl) (by kernel_rfl) (Below.refl _ _) ?_
          repeat (go_big_quiet_step (first | (go_at_call 47; exact ext_of (HNN.out _))))
          refine wpQuiet_nil ?_
          intro w2 hx5
          have HBX := Lib.hid (ext_out hx5)
          have HB2 := Lib.hid (belStep HBL.out HBX.out)
          have HR2 := Lib.hid (HROW.out.below HBX.out)
          have HA := Lib.hid (below_alloc1 w2 (.cells #[.int .i64 (y : Int)] 3))
          have HR4 := Lib.hid (HR2.out.below HA.out)
          have HB4' := Lib.hid (belStep HB2.out HA.out)
          have HC4 : Hid ((w2.alloc (.cells #[.int .i64 (y : Int)] 3)).cell? ⟨w2.heap.size, 0, none⟩ = some (.int .i64 (y : Int))) := by show _ = _; simp [go_sem]
          clear hx5 q0 q1 q2 q3 q4 q5 HBL HROW HNN HPW HFW
          go_wp2_with (at_builtin; refine app_int rfl _ _ rfl W5.heap.size u10 O rfl HR4.out w2.heap.size (y : Int) rfl HC4.out HOL.out HB4'.out.size ?_)
          intro v9 w9 hr9 hg9
          have HR9 := Lib.hid hr9
          have HB9 := Lib.hid (rowGrown HB4'.out HR4.out hg9 HB4'.out.size)
          clear hr9 hg9 HR4 HB4' HC4 HA HR2 HB2
          go_wp2
          go_roundw
          case rel => exact ⟨y, n, O ++ [(y : Int)], rfl, y1, y4, HYD.out, by omega, HR9.out, HOY.out, HB9.out⟩
          case measure => simp [intOf]; have := HX.out; have := HYD.out; omega

end Go.Proofs.Ytbjndcfdcjpkmaa
