/-
  Nets: the least port by which one comes nearer: the program's search for it, and both answers.
-/
import Derived.Test.YtbjndcfdcjpkmaaNetNextI
namespace Go.Proofs.Ytbjndcfdcjpkmaa
open Go.ChangeShapes Go.WideShapes Go.ChangeAt Go.RowKit Go.Joins
set_option linter.unusedVariables false

theorem near_eq {l : List K4} (hn : netB l = true) {s t : Nat} (s1 : 1 ≤ s) (s4 : s ≤ 4) (t1 : 1 ≤ t) (t4 : t ≤ 4) {D : Nat → Int} (hD : IsDist l t D) {k : Nat} (hk : k < 4) :
    (!(eX (pk l) s k == 0) && (D (eX (pk l) s k).toNat == D s - 1)) = nearB l s t k := by
  have hF := farS_dist (net_ok hn) t1 t4
  have hDs := dist_one hD hF s s1 s4
  unfold nearB
  have e := eXY hn s k hk
  have e1 : eX (pk l) s k = (peerF l s k).1 := by rw [← e]
  rw [← e1, hDs]
  by_cases hx : eX (pk l) s k = 0
  · simp [hx]
  · obtain ⟨x, hx', x1, x4, ha⟩ := nb_adj hn hk hx
    rw [hx', Int.toNat_natCast, dist_one hD hF x x1 x4]
    have h0 : ((x : Int) == 0) = false := by simp; omega
    have h1 : decide ((x : Int) > 0) = true := by simp; omega
    rw [h0, h1]
    by_cases hp : farS l t s > 0
    · simp [hp]
    · have : ¬ farS l t x = farS l t s - 1 := by
        rcases hF.low s s1 s4 with q | q
        · rcases hF.low x x1 x4 with r | r <;> omega
        · have := hF.step s x s1 s4 x1 x4 ha q
          omega
      simp [this]

set_option maxRecDepth 100000 in
set_option maxHeartbeats 4000000 in
theorem next_any (l : List K4) (hn : netB l = true) (g s t : Nat) (s1 : 1 ≤ s) (s4 : s ≤ 4) (t1 : 1 ≤ t) (t4 : t ≤ 4) (D : Nat → Int) (hD : IsDist l t D) (w : World) (h : Pb w g (pk l)) :
    Calls Try.prog 47 #[.pointer (some ⟨g, 0, none⟩), .int .i64 (s : Int), .agg (faA D)] w fun e w' => e = .returned (.int .i64 (nextF l s t)) ∧ Below w.heap.size w w' := by
  have hrg : -1 ≤ D s ∧ D s ≤ 3 := by
    rw [dist_one hD (farS_dist (net_ok hn) t1 t4) s s1 s4]
    exact far_range hn t1 t4 s1 s4
  have HLP : Hid (∀ W c d, Pb W g (pk l) → Fb 65 W c D → W.cell? ⟨d, 0, none⟩ = some (.int .i64 (s : Int)) → d < W.heap.size →
      Calls Try.prog 45 #[.pointer (some ⟨g, 0, none⟩), .int .i64 (s : Int), .func (.func 56) #[] #[.pointer (some ⟨c, 0, none⟩), .pointer (some ⟨d, 0, none⟩)]] W fun e w' => e = .returned (.int .i64 (nextF l s t)) ∧ Below W.heap.size W w') := fun W c d hp hc hd hdl => by
    have := leastPort_next (pk l) g c d s (fun x => D x == D s - 1) W hp s4 (fun x V hV x4 => nextTest_any x s c d D V (hc.below hV hc.lt) ((belCell hV _ _ hdl).trans hd) (Nat.lt_of_lt_of_le hdl hV.size) x4 s4 hrg.1 hrg.2)
      (fun k hk hx => by obtain ⟨x, e, _, x4, _⟩ := nb_adj hn hk hx; exact ⟨x, e, x4⟩) (eX_zero hn s) (eX_none hn s)
    have he : leastF (fun k => !(eX (pk l) s k == 0) && (D (eX (pk l) s k).toNat == D s - 1)) = nextF l s t := leastF_congr (fun j j1 j3 => near_eq hn s1 s4 t1 t4 hD (by omega))
    rwa [he] at this
  have hw0 := h.lt
  have HB2 := Lib.hid (below_alloc2 w (.cells #[.int .i64 (s : Int)] 3) (.cells (faA D) 65))
  have HP2 := Lib.hid (h.below (below_alloc2 w (.cells #[.int .i64 (s : Int)] 3) (.cells (faA D) 65)) hw0)
  have k2 := heap_alloc_last (w.alloc (.cells #[.int .i64 (s : Int)] 3)) (.cells (faA D) 65)
  rw [World.size_alloc] at k2
  have HF2 : Hid (Fb 65 ((w.alloc (.cells #[.int .i64 (s : Int)] 3)).alloc (.cells (faA D) 65)) (w.heap.size + 1) D) := k2
  have hc2 : ((w.alloc (.cells #[.int .i64 (s : Int)] 3)).alloc (.cells (faA D) 65)).cell? ⟨w.heap.size, 0, none⟩ = some (.int .i64 (s : Int)) := by simp [go_sem]
  have HC2 := Lib.hid hc2
  have HL2 : Hid (w.heap.size < ((w.alloc (.cells #[.int .i64 (s : Int)] 3)).alloc (.cells (faA D) 65)).heap.size) := by show _ < _; simp; omega
  have hmf : ∀ (fn : Fn) (first cap : Array Value) (w : World), (Instr.makeFunc fn first cap).run Try.prog w = .ok (.func fn first cap) w := fun _ _ _ _ => rfl
  clear hn h hD hrg k2 hw0 hc2
  generalize faA D = fa at *
  go_enter Try.func47, Try.ntmps47
  go_wp2_with fail
  refine (HLP.out _ _ _ HP2.out HF2.out HC2.out HL2.out).mono ?_
  rintro e w4 ⟨rfl, b4⟩
  have HB4 := Lib.hid (belStep HB2.out b4)
  clear b4
  go_wp2
  go_ret
  exact ⟨rfl, HB4.out⟩

set_option maxHeartbeats 4000000 in
theorem iNetNext_any (w : World) (v : Value) (l : List K4) (sw to : Int) (h : Lks w w.heap.size v l) :
    Calls Try.prog 28 #[v, .int .i64 sw, .int .i64 to] w fun e w' => e = .returned (.int .i64 (nextV l sw to)) ∧ Below w.heap.size w w' := by
  have HR := Lib.hid (readNetPair_any w v l sw to h)
  clear h
  cases hok : netB l && (swB sw && swB to)
  · rw [show nextV l sw to = 0 from by simp [nextV, hok]]
    rw [hok] at HR
    clear hok
    go_enter Try.func28, Try.ntmps28
    go_wp2_with fail
    refine HR.out.mono ?_
    rintro e w1 ⟨P, rfl, -, b1⟩
    have HB1 := Lib.hid b1
    clear b1 HR
    go_wp2_with (refine wl_alloc rfl rfl ?_)
    intro w2 p2 b2 s2
    go_wp2_with (refine wl_store rfl _ _ rfl _ rfl _ _ rfl p2 ?_)
    intro w3 p3 g3
    have HB3 := Lib.hid (belStep HB1.out (b2.trans (grownBel g3 (Nat.le_refl _) b2.size)))
    go_wp2
    go_ret
    exact ⟨rfl, HB3.out⟩
  · have hparts := hok
    simp only [Bool.and_eq_true] at hparts
    obtain ⟨hn, h1, h2⟩ := hparts
    obtain ⟨s, rfl, s1, s4⟩ := sw_nat h1
    obtain ⟨t, rfl, t1, t4⟩ := sw_nat h2
    rw [show nextV l (s : Int) (t : Int) = nextF l s t from by simp [nextV, hn, h1, h2]]
    have HNX : Hid (∀ W g D, Pb W g (pk l) → IsDist l t D → Calls Try.prog 47 #[.pointer (some ⟨g, 0, none⟩), .int .i64 (s : Int), .agg (faA D)] W fun e w' => e = .returned (.int .i64 (nextF l s t)) ∧ Below W.heap.size W w') := fun W g D hp hD => next_any l hn g s t s1 s4 t1 t4 D hD W hp
    have HFA : Hid (∀ W g, Pb W g (pk l) → Calls Try.prog 42 #[.pointer (some ⟨g, 0, none⟩), .int .i64 (t : Int)] W fun e w' => ∃ D, e = .returned (.agg (faA D)) ∧ IsDist l t D ∧ Below W.heap.size W w') := fun W g hp => fars_any l hn g t W hp t1 t4
    have HN := Lib.hid hn
    rw [hok] at HR
    clear hok hn h1 h2
    go_enter Try.func28, Try.ntmps28
    go_wp2_with fail
    refine HR.out.mono ?_
    rintro e w1 ⟨P, rfl, hP, b1⟩
    obtain rfl := hP HN.out
    have HB1 := Lib.hid b1
    clear b1 HR hP
    go_wp2_with (refine wl_alloc rfl rfl ?_)
    intro w2 p2 b2 s2
    go_wp2_with (refine wl_store rfl _ _ rfl _ rfl _ _ rfl p2 ?_)
    intro w3 p3 g3
    have HB3 := Lib.hid (belStep HB1.out (b2.trans (grownBel g3 (Nat.le_refl _) b2.size)))
    have HP3 := Lib.hid p3
    clear p2 b2 s2 p3 g3
    go_wp2_with fail
    refine (HFA.out _ _ HP3.out).mono ?_
    rintro e w4 ⟨D, rfl, hD, b4⟩
    have HN4 := Lib.hid (HNX.out w4 _ D (HP3.out.below b4 HP3.out.lt) hD)
    have HB4 := Lib.hid (belStep HB3.out b4)
    clear hD b4 HNX HFA
    generalize faA D = fa at *
    go_wp2_with fail
    refine HN4.out.mono ?_
    rintro e w5 ⟨rfl, b5⟩
    have HB5 := Lib.hid (belStep HB4.out b5)
    clear b5
    go_wp2
    go_ret
    exact ⟨rfl, HB5.out⟩

end Go.Proofs.Ytbjndcfdcjpkmaa
