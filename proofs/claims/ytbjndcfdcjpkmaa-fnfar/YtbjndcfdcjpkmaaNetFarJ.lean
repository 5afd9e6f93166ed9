/-
  Nets: how far two switches are, the model's and the program's answer.
-/
import Derived.Test.YtbjndcfdcjpkmaaNetFarI
namespace Go.Proofs.Ytbjndcfdcjpkmaa
open Go.ChangeShapes Go.WideShapes Go.ChangeAt Go.RowKit Go.Joins
set_option linter.unusedVariables false

theorem dist_near {l : List K4} (hall : ∀ k ∈ l, lkOk k = true) {u v : Nat} (u1 : 1 ≤ u) (u4 : u ≤ 4) (v1 : 1 ≤ v) (v4 : v ≤ 4) (ha : Adj l u v) : ∀ (m x : Nat), 1 ≤ x → x ≤ 4 → farS l u x = (m : Int) → 0 ≤ farS l v x ∧ farS l v x ≤ (m : Int) + 1
  | 0, x, x1, x4, h => by
    have hx : x = u := ((farS_dist hall u1 u4).zero x x1 x4).1 (by simpa using h)
    subst hx
    have hv : farS l v v = 0 := ((farS_dist hall v1 v4).zero v v1 v4).2 rfl
    have := (farS_dist hall v1 v4).step v x v1 v4 x1 x4 ha.symm (by omega)
    omega
  | m + 1, x, x1, x4, h => by
    obtain ⟨y, y1, y4, hay, hy⟩ := (farS_dist hall u1 u4).back x x1 x4 (by omega)
    obtain ⟨e0, e1⟩ := dist_near hall u1 u4 v1 v4 ha m y y1 y4 (by omega)
    have := (farS_dist hall v1 v4).step y x y1 y4 x1 x4 hay e0
    omega
theorem dist_back {l : List K4} (hall : ∀ k ∈ l, lkOk k = true) {a : Nat} (a1 : 1 ≤ a) (a4 : a ≤ 4) : ∀ (n v : Nat), 1 ≤ v → v ≤ 4 → farS l a v = (n : Int) → 0 ≤ farS l v a ∧ farS l v a ≤ (n : Int)
  | 0, v, v1, v4, h => by
    have hv : v = a := ((farS_dist hall a1 a4).zero v v1 v4).1 (by simpa using h)
    subst hv
    omega
  | n + 1, v, v1, v4, h => by
    obtain ⟨u, u1, u4, ha, hu⟩ := (farS_dist hall a1 a4).back v v1 v4 (by omega)
    obtain ⟨e0, e1⟩ := dist_back hall a1 a4 n u u1 u4 (by omega)
    have := dist_near hall u1 u4 v1 v4 ha (farS l u a).toNat a a1 a4 (by omega)
    omega
theorem farS_symm {l : List K4} (hall : ∀ k ∈ l, lkOk k = true) {a b : Nat} (a1 : 1 ≤ a) (a4 : a ≤ 4) (b1 : 1 ≤ b) (b4 : b ≤ 4) : farS l a b = farS l b a := by
  rcases (farS_dist hall a1 a4).low b b1 b4 with h | h
  · rcases (farS_dist hall b1 b4).low a a1 a4 with k | k
    · rw [h, k]
    · have := dist_back hall b1 b4 (farS l b a).toNat a a1 a4 (by omega)
      omega
  · have := dist_back hall a1 a4 (farS l a b).toNat b b1 b4 (by omega)
    have := dist_back hall b1 b4 (farS l b a).toNat a a1 a4 (by omega)
    omega

theorem faA_0 (D : Nat → Int) (W : World) : (Instr.index 65 (.agg (faA D)) (.int .i64 0)).run Try.prog W = .ok (.int .i64 (D 0)) W := by kernel_rfl
theorem faA_1 (D : Nat → Int) (W : World) : (Instr.index 65 (.agg (faA D)) (.int .i64 1)).run Try.prog W = .ok (.int .i64 (D 1)) W := by kernel_rfl
theorem faA_2 (D : Nat → Int) (W : World) : (Instr.index 65 (.agg (faA D)) (.int .i64 2)).run Try.prog W = .ok (.int .i64 (D 2)) W := by kernel_rfl
theorem faA_3 (D : Nat → Int) (W : World) : (Instr.index 65 (.agg (faA D)) (.int .i64 3)).run Try.prog W = .ok (.int .i64 (D 3)) W := by kernel_rfl
theorem faA_4 (D : Nat → Int) (W : World) : (Instr.index 65 (.agg (faA D)) (.int .i64 4)).run Try.prog W = .ok (.int .i64 (D 4)) W := by kernel_rfl
theorem faA_ix (D : Nat → Int) {k : Nat} (hk : k < 5) (W : World) : (Instr.index 65 (.agg (faA D)) (.int .i64 (k : Int))).run Try.prog W = .ok (.int .i64 (D k)) W := by
  have : k = 0 ∨ k = 1 ∨ k = 2 ∨ k = 3 ∨ k = 4 := by omega
  rcases this with rfl | rfl | rfl | rfl | rfl
  · exact faA_0 D W
  · exact faA_1 D W
  · exact faA_2 D W
  · exact faA_3 D W
  · exact faA_4 D W

/-- The answer of both. -/
def farV (l : List K4) (sw to : Int) : Int := bif netB l && (swB sw && swB to) then farS l sw.toNat to.toNat else -1

set_option maxHeartbeats 4000000 in
theorem sNetFar_any (w : World) (v : Value) (l : List K4) (sw to : Int) (h : Lks w w.heap.size v l) (hn : l.length ≤ 1048576) :
    Calls Try.prog 20 #[v, .int .i64 sw, .int .i64 to] w fun e w' => e = .returned (.int .i64 (farV l sw to)) ∧ Below w.heap.size w w' := by
  have HO := Lib.hid (sNetOk_any w v l h hn)
  have HP : Hid (∀ c : Nat, c ≤ 4 → netB l = true → ∀ W, Below w.heap.size w W → Calls Try.prog 44 #[v, .int .i64 (c : Int)] W fun e w' => e = .returned (.slice (some ⟨W.heap.size, 0, none⟩) 5 5) ∧ Fb 3 w' W.heap.size (farS l c) ∧ Below W.heap.size W w') := fun c hc hb W hw => l21Far_any W v l c ((h.below hw (Nat.le_refl _)).mono hw.size) (net_ok hb) hc
  have HS := Lib.hid (fun W => l21Sw_any sw W)
  have HT := Lib.hid (fun W => l21Sw_any to W)
  clear h
  cases hok : netB l
  · rw [show farV l sw to = -1 from by simp [farV, hok]]
    rw [hok] at HO
    clear HP hok HS HT
    go_enter Try.func20, Try.ntmps20
    go_wp2_with fail
    refine HO.out.mono ?_
    rintro e w1 ⟨rfl, b1⟩
    go_wp2
    go_ret
    exact ⟨rfl, b1⟩
  · rw [hok] at HO
    cases h1 : swB sw
    · rw [show farV l sw to = -1 from by simp [farV, h1]]
      rw [h1] at HS
      clear HP h1 HT hok
      go_enter Try.func20, Try.ntmps20
      go_wp2_with fail
      refine HO.out.mono ?_
      rintro e w1 ⟨rfl, b1⟩
      have HB1 := Lib.hid b1
      clear b1
      go_wp2_with fail
      refine (HS.out _).mono ?_
      rintro e w' ⟨rfl, rfl⟩
      go_wp2
      go_ret
      exact ⟨rfl, HB1.out⟩
    · rw [h1] at HS
      cases h2 : swB to
      · rw [show farV l sw to = -1 from by simp [farV, h2]]
        rw [h2] at HT
        clear HP h1 h2 hok
        go_enter Try.func20, Try.ntmps20
        go_wp2_with fail
        refine HO.out.mono ?_
        rintro e w1 ⟨rfl, b1⟩
        have HB1 := Lib.hid b1
        clear b1
        go_wp2_with fail
        refine (HS.out _).mono ?_
        rintro e w' ⟨rfl, rfl⟩
        go_wp2_with fail
        refine (HT.out _).mono ?_
        rintro e w' ⟨rfl, rfl⟩
        go_wp2
        go_ret
        exact ⟨rfl, HB1.out⟩
      · rw [h2] at HT
        obtain ⟨s, rfl, s1, s4⟩ := sw_nat h1
        obtain ⟨t, rfl, t1, t4⟩ := sw_nat h2
        rw [show farV l (s : Int) (t : Int) = farS l s t from by simp [farV, hok, h1, h2]]
        have HPP := Lib.hid (HP.out s s4 hok)
        have HT4 : Hid (t < 5) := by show _ < _; omega
        have it : (t : Int) < 5 := by omega
        have jt : (0 : Int) ≤ (t : Int) := by omega
        clear HP h1 h2 hok
        generalize farS l s = D at *
        go_enter Try.func20, Try.ntmps20
        go_wp2_with fail
        refine HO.out.mono ?_
        rintro e w1 ⟨rfl, b1⟩
        have HB1 := Lib.hid b1
        clear b1
        go_wp2_with fail
        refine (HS.out _).mono ?_
        rintro e w' ⟨rfl, rfl⟩
        go_wp2_with fail
        refine (HT.out _).mono ?_
        rintro e w' ⟨rfl, rfl⟩
        go_wp2_with fail
        refine (HPP.out _ HB1.out).mono ?_
        rintro e w2 ⟨rfl, hf, b2⟩
        have hc := hf.cell HT4.out
        have HB2 := Lib.hid (belStep HB1.out b2)
        clear hf b2
        go_wp2
        go_ret
        exact ⟨rfl, HB2.out⟩

set_option maxHeartbeats 4000000 in
theorem iNetFar_any (w : World) (v : Value) (l : List K4) (sw to : Int) (h : Lks w w.heap.size v l) :
    Calls Try.prog 19 #[v, .int .i64 sw, .int .i64 to] w fun e w' => e = .returned (.int .i64 (farV l sw to)) ∧ Below w.heap.size w w' := by
  have HR := Lib.hid (readNetPair_any w v l sw to h)
  clear h
  cases hok : netB l && (swB sw && swB to)
  · rw [show farV l sw to = -1 from by simp [farV, hok]]
    rw [hok] at HR
    clear hok
    go_enter Try.func19, Try.ntmps19
    go_wp2_with fail
    refine HR.out.mono ?_
    rintro e w1 ⟨P, rfl, -, b1⟩
    have HB1 := Lib.hid b1
    clear b1 HR
    go_wp2_with (refine wl_alloc rfl rfl ?_)
    intro w2 p2 b2 s2
    go_wp2_with (refine wl_store rfl _ _ rfl _ rfl _ _ rfl p2 ?_)
    intro w3 p3 g3
    have HB3 := Lib.hid (belStep HB1.out (b2.trans (grownBel g3 (Nat.le_refl _) b2.size)))
    go_wp2
    go_ret
    exact ⟨rfl, HB3.out⟩
  · have hparts := hok
    simp only [Bool.and_eq_true] at hparts
    obtain ⟨hn, h1, h2⟩ := hparts
    obtain ⟨s, rfl, s1, s4⟩ := sw_nat h1
    obtain ⟨t, rfl, t1, t4⟩ := sw_nat h2
    rw [show farV l (s : Int) (t : Int) = farS l s t from by simp [farV, hn, h1, h2]]
    have HFS : Hid (∀ D, IsDist l t D → D s = farS l s t) := fun D hD => by
      rw [farS_symm (net_ok hn) s1 s4 t1 t4]
      exact dist_one hD (farS_dist (net_ok hn) t1 t4) s s1 s4
    have HFA : Hid (∀ W g, Pb W g (pk l) → Calls Try.prog 42 #[.pointer (some ⟨g, 0, none⟩), .int .i64 (t : Int)] W fun e w' => ∃ D, e = .returned (.agg (faA D)) ∧ IsDist l t D ∧ Below W.heap.size W w') := fun W g hp => fars_any l hn g t W hp t1 t4
    have HIX : Hid (∀ (D : Nat → Int) (W : World), (Instr.index 65 (.agg (faA D)) (.int .i64 (s : Int))).run Try.prog W = .ok (.int .i64 (D s)) W) := fun D W => faA_ix D (by omega) W
    have HN := Lib.hid hn
    rw [hok] at HR
    clear hok hn h1 h2
    go_enter Try.func19, Try.ntmps19
    go_wp2_with fail
    refine HR.out.mono ?_
    rintro e w1 ⟨P, rfl, hP, b1⟩
    obtain rfl := hP HN.out
    have HB1 := Lib.hid b1
    clear b1 HR hP
    go_wp2_with (refine wl_alloc rfl rfl ?_)
    intro w2 p2 b2 s2
    go_wp2_with (refine wl_store rfl _ _ rfl _ rfl _ _ rfl p2 ?_)
    intro w3 p3 g3
    have HB3 := Lib.hid (belStep HB1.out (b2.trans (grownBel g3 (Nat.le_refl _) b2.size)))
    have HP3 := Lib.hid p3
    clear p2 b2 s2 p3 g3
    go_wp2_with fail
    refine (HFA.out _ _ HP3.out).mono ?_
    rintro e w4 ⟨D, rfl, hD, b4⟩
    have HD := Lib.hid (HFS.out D hD)
    have hix := HIX.out D
    have HB4 := Lib.hid (belStep HB3.out b4)
    clear hD b4 HFS HIX
    generalize faA D = fa at *
    go_wp2
    go_ret
    exact ⟨by rw [← HD.out]; try rfl, HB4.out⟩

end Go.Proofs.Ytbjndcfdcjpkmaa
