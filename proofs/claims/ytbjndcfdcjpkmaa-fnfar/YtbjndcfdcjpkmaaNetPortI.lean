/-
  Nets: the least port of a switch that goes to another one, the model's and the program's answer.
-/
import Derived.Test.YtbjndcfdcjpkmaaNetPair
import Derived.Test.YtbjndcfdcjpkmaaNetPeerW
namespace Go.Proofs.Ytbjndcfdcjpkmaa
open Go.ChangeShapes Go.WideShapes Go.ChangeAt Go.RowKit Go.Joins
set_option linter.unusedVariables false

/-- The least of three ports that passes a test. -/
def leastF (f : Nat → Bool) : Int := if f 1 then 1 else if f 2 then 2 else if f 3 then 3 else 0
theorem leastF_at {f : Nat → Bool} {k : Nat} (h1 : 1 ≤ k) (h3 : k ≤ 3) (hf : f k = true) (hb : ∀ j, 1 ≤ j → j < k → f j = false) : leastF f = (k : Int) := by
  have : k = 1 ∨ k = 2 ∨ k = 3 := by omega
  rcases this with rfl | rfl | rfl
  · simp [leastF, hf]
  · simp [leastF, hf, hb 1 (by omega) (by omega)]
  · simp [leastF, hf, hb 1 (by omega) (by omega), hb 2 (by omega) (by omega)]
theorem leastF_no {f : Nat → Bool} (hb : ∀ j, 1 ≤ j → j ≤ 3 → f j = false) : leastF f = 0 := by
  simp [leastF, hb 1 (by omega) (by omega), hb 2 (by omega) (by omega), hb 3 (by omega) (by omega)]
theorem leastF_congr {f g : Nat → Bool} (h : ∀ j, 1 ≤ j → j ≤ 3 → f j = g j) : leastF f = leastF g := by
  simp [leastF, h 1 (by omega) (by omega), h 2 (by omega) (by omega), h 3 (by omega) (by omega)]

/-- The answer of both. -/
def portV (l : List K4) (sw to : Int) : Int := bif netB l && (swB sw && swB to) then leastF (fun k => (peerF l sw k).1 == to) else 0

/-! ### The program -/

set_option maxHeartbeats 1000000 in
theorem portTest_any (x to : Int) (c : Nat) (w : World) (h : w.cell? ⟨c, 0, none⟩ = some (.int .i64 to)) :
    Calls Try.prog 46 #[.int .i64 x, .pointer (some ⟨c, 0, none⟩)] w fun e w' => e = .returned (.bool (x == to)) ∧ w = w' := by
  go_enter Try.func46, Try.ntmps46
  go_wp2
  go_ret
  exact ⟨rfl, rfl⟩

/-- The eight numbers of a switch. -/
theorem Pb.eight {w : World} {g : Nat} {P : Pv} (h : Pb w g P) {s : Nat} (hs : s ≤ 4) :
    w.cell? ⟨g, s * 8, none⟩ = some (.int .i64 (P (s * 8))) ∧ w.cell? ⟨g, s * 8 + 1, none⟩ = some (.int .i64 (P (s * 8 + 1))) ∧ w.cell? ⟨g, s * 8 + 2, none⟩ = some (.int .i64 (P (s * 8 + 2))) ∧ w.cell? ⟨g, s * 8 + 3, none⟩ = some (.int .i64 (P (s * 8 + 3))) ∧
    w.cell? ⟨g, s * 8 + 4, none⟩ = some (.int .i64 (P (s * 8 + 4))) ∧ w.cell? ⟨g, s * 8 + 5, none⟩ = some (.int .i64 (P (s * 8 + 5))) ∧ w.cell? ⟨g, s * 8 + 6, none⟩ = some (.int .i64 (P (s * 8 + 6))) ∧ w.cell? ⟨g, s * 8 + 7, none⟩ = some (.int .i64 (P (s * 8 + 7))) :=
  ⟨h.cell (by omega), h.cell (by omega), h.cell (by omega), h.cell (by omega), h.cell (by omega), h.cell (by omega), h.cell (by omega), h.cell (by omega)⟩

/-- A row of four ends, told by two functions. -/
def row4 (X Y : Nat → Int) : Value := .agg #[.int .i64 (X 0), .int .i64 (Y 0), .int .i64 (X 1), .int .i64 (Y 1), .int .i64 (X 2), .int .i64 (Y 2), .int .i64 (X 3), .int .i64 (Y 3)]
theorem row4_0 (X Y : Nat → Int) (W : World) : (Instr.index 59 (row4 X Y) (.int .i64 0)).run Try.prog W = .ok (.agg #[.int .i64 (X 0), .int .i64 (Y 0)]) W := by kernel_rfl
theorem row4_1 (X Y : Nat → Int) (W : World) : (Instr.index 59 (row4 X Y) (.int .i64 1)).run Try.prog W = .ok (.agg #[.int .i64 (X 1), .int .i64 (Y 1)]) W := by kernel_rfl
theorem row4_2 (X Y : Nat → Int) (W : World) : (Instr.index 59 (row4 X Y) (.int .i64 2)).run Try.prog W = .ok (.agg #[.int .i64 (X 2), .int .i64 (Y 2)]) W := by kernel_rfl
theorem row4_3 (X Y : Nat → Int) (W : World) : (Instr.index 59 (row4 X Y) (.int .i64 3)).run Try.prog W = .ok (.agg #[.int .i64 (X 3), .int .i64 (Y 3)]) W := by kernel_rfl
theorem row4_at (X Y : Nat → Int) {k : Nat} (hk : k < 4) (W : World) : (Instr.index 59 (row4 X Y) (.int .i64 (k : Int))).run Try.prog W = .ok (.agg #[.int .i64 (X k), .int .i64 (Y k)]) W := by
  have : k = 0 ∨ k = 1 ∨ k = 2 ∨ k = 3 := by omega
  rcases this with rfl | rfl | rfl | rfl
  · exact row4_0 X Y W
  · exact row4_1 X Y W
  · exact row4_2 X Y W
  · exact row4_3 X Y W

/-- The ends at a switch's ports. -/
def eX (P : Pv) (s : Nat) : Nat → Int := fun k => P (s * 8 + k * 2)
def eY (P : Pv) (s : Nat) : Nat → Int := fun k => P (s * 8 + k * 2 + 1)

set_option maxRecDepth 100000 in
set_option maxHeartbeats 4000000 in
theorem leastPort_port (P : Pv) (g c s : Nat) (to : Int) (w : World) (h : Pb w g P) (hc : w.cell? ⟨c, 0, none⟩ = some (.int .i64 to)) (hcl : c < w.heap.size) (hs : s ≤ 4)
    (hxy : ∀ k, k < 4 → (eX P s k = 0 ∧ eY P s k = 0) ∨ eX P s k ≠ 0) (h0 : eX P s 0 = 0) :
    Calls Try.prog 45 #[.pointer (some ⟨g, 0, none⟩), .int .i64 (s : Int), .func (.func 46) #[] #[.pointer (some ⟨c, 0, none⟩)]] w fun e w' =>
      e = .returned (.int .i64 (leastF (fun k => !(eX P s k == 0) && (eX P s k == to)))) ∧ Below w.heap.size w w' := by
  have HXY := Lib.hid hxy
  have H0 := Lib.hid h0
  obtain ⟨c0, c1, c2, c3, c4, c5, c6, c7⟩ := h.eight hs
  have e0 : P (s * 8) = eX P s 0 := rfl
  have e1 : P (s * 8 + 1) = eY P s 0 := rfl
  have e2 : P (s * 8 + 2) = eX P s 1 := rfl
  have e3 : P (s * 8 + 3) = eY P s 1 := rfl
  have e4 : P (s * 8 + 4) = eX P s 2 := rfl
  have e5 : P (s * 8 + 5) = eY P s 2 := rfl
  have e6 : P (s * 8 + 6) = eX P s 3 := rfl
  have e7 : P (s * 8 + 7) = eY P s 3 := rfl
  rw [e0] at c0
  rw [e1] at c1
  rw [e2] at c2
  rw [e3] at c3
  rw [e4] at c4
  rw [e5] at c5
  rw [e6] at c6
  rw [e7] at c7
  have HC := Lib.hid hc
  have HCL := Lib.hid hcl
  clear e0 e1 e2 e3 e4 e5 e6 e7 h hxy h0 hc hcl
  generalize eX P s = X at *
  generalize eY P s = Y at *
  have i1 : (s : Int) < 5 := by omega
  have j1 : (0 : Int) ≤ (s : Int) := by omega
  go_enter Try.func45, Try.ntmps45
  go_wp2_with fail
  go_loopw [14] (fun i wr => ∃ k : Nat, k ≤ 4 ∧ i = .int .i64 k ∧ (∀ j : Nat, j < k → (!(X j == 0) && (X j == to)) = false) ∧ Below w.heap.size w wr) (fun i _ => 4 - (intOf i).toNat)
  case atStart => exact ⟨0, by omega, rfl, fun j h => absurd h (Nat.not_lt_zero _), Below.refl _ _⟩
  case round =>
    obtain ⟨k, hk4, rfl, hno, hbel⟩ := hrel
    have HNO := Lib.hid hno
    have HBL := Lib.hid hbel
    clear hno hbel c0 c1 c2 c3 c4 c5 c6 c7
    by_cases hlt : k < 4
    · have hkz : (k : Int) < 4 := by omega
      have hix := row4_at X Y hlt
      unfold row4 at hix
      have HYES : Hid ((!(X k == 0) && (X k == to)) = true → leastF (fun k => !(X k == 0) && (X k == to)) = (k : Int)) := fun e => by
        have h1 : 1 ≤ k := by
          by_cases hz : k = 0
          · subst hz
            rw [H0.out] at e
            simp at e
          · omega
        exact leastF_at h1 (by omega) e (fun j _ hj => HNO.out j hj)
      have HNN : Hid ((!(X k == 0) && (X k == to)) = false → ∀ j : Nat, j < k + 1 → (!(X j == 0) && (X j == to)) = false) := fun e j h1 => by
        by_cases hj : j = k
        · subst hj; exact e
        · exact HNO.out j (by omega)
      have hxk := HXY.out k hlt
      have hcw : wr.cell? ⟨c, 0, none⟩ = some (.int .i64 to) := (belCell HBL.out _ _ HCL.out).trans HC.out
      have HCW := Lib.hid hcw
      have hclw : c < wr.heap.size := Nat.lt_of_lt_of_le HCL.out HBL.out.size
      clear HNO HXY hcw
      generalize X k = x at *
      generalize Y k = y at *
      have HB1 := Lib.hid (below_alloc1 wr (.cells #[.int .i64 x, .int .i64 y] 58))
      have HBN := Lib.hid (belStep HBL.out HB1.out)
      rcases hxk with ⟨rfl, rfl⟩ | hx0
      · have HR := Lib.hid (HNN.out rfl)
        clear HYES HNN
        go_wp2
        go_roundw
        case rel => exact ⟨k + 1, by omega, by go_num, HR.out, HBN.out⟩
        case measure => simp [intOf]; omega
      · have hx0' : (x == 0) = false := by simpa using hx0
        have HT : Hid (∀ W, Below wr.heap.size wr W → Calls Try.prog 46 #[.int .i64 x, .pointer (some ⟨c, 0, none⟩)] W fun e w' => e = .returned (.bool (x == to)) ∧ W = w') := fun W hb => portTest_any x to c W ((belCell hb _ _ hclw).trans HCW.out)
        by_cases hx : x = to
        · have HR := Lib.hid (HYES.out (by simp [hx]; exact fun e => hx0 (hx.trans e)))
          have hx' : (x == to) = true := by simp [hx]
          rw [hx'] at HT
          clear HYES HNN hx
          go_wp2_with fail
          refine (HT.out _ HB1.out).mono ?_
          rintro e w' ⟨rfl, rfl⟩
          go_wp2
          go_ret
          exact ⟨by rw [HR.out]; try rfl, HBN.out⟩
        · have hx' : (x == to) = false := by simpa using hx
          have HR := Lib.hid (HNN.out (by simp [hx']))
          rw [hx'] at HT
          clear HYES HNN
          go_wp2_with fail
          refine (HT.out _ HB1.out).mono ?_
          rintro e w' ⟨rfl, rfl⟩
          go_wp2
          go_roundw
          case rel => exact ⟨k + 1, by omega, by go_num, HR.out, HBN.out⟩
          case measure => simp [intOf]; omega
    · obtain rfl : k = 4 := by omega
      have HR : Hid (leastF (fun k => !(X k == 0) && (X k == to)) = 0) := leastF_no (fun j h1 h3 => HNO.out j (by omega))
      go_wp2
      go_ret
      exact ⟨by rw [HR.out]; try rfl, HBL.out⟩

theorem eXY {l : List K4} (h : netB l = true) (s k : Nat) (hk : k < 4) : (eX (pk l) s k, eY (pk l) s k) = peerF l (s : Int) (k : Int) := pk_peer h s k (by omega)
theorem eX_zero {l : List K4} (h : netB l = true) (s k : Nat) (hk : k < 4) : (eX (pk l) s k = 0 ∧ eY (pk l) s k = 0) ∨ eX (pk l) s k ≠ 0 := by
  have e := eXY h s k hk
  rcases peer_ok h (s : Int) (k : Int) with h0 | ⟨-, -, ⟨h1, -⟩, -⟩
  · rw [h0] at e
    injection e with a b
    exact .inl ⟨a, b⟩
  · rw [← e] at h1
    exact .inr (by dsimp only at h1; omega)
theorem eX_none {l : List K4} (h : netB l = true) (s : Nat) : eX (pk l) s 0 = 0 := by
  have e := eXY h s 0 (by omega)
  rw [show ((0 : Nat) : Int) = 0 from rfl, peer_none h (.inr rfl)] at e
  injection e with a b

set_option maxRecDepth 100000 in
set_option maxHeartbeats 4000000 in
theorem iNetPort_any (w : World) (v : Value) (l : List K4) (sw to : Int) (h : Lks w w.heap.size v l) :
    Calls Try.prog 23 #[v, .int .i64 sw, .int .i64 to] w fun e w' => e = .returned (.int .i64 (portV l sw to)) ∧ Below w.heap.size w w' := by
  have HR : Hid (∀ W, Below w.heap.size w W → Calls Try.prog 41 #[v, .int .i64 sw, .int .i64 to] W fun e w' => ∃ P, e = .returned (.tuple #[.agg (pvA P), .bool (netB l && (swB sw && swB to))]) ∧ (netB l = true → P = pk l) ∧ Below W.heap.size W w') := fun W hb => readNetPair_any W v l sw to ((h.below hb (Nat.le_refl _)).mono hb.size)
  have HB0 := Lib.hid (below_alloc1 w (.cells #[.int .i64 to] 3))
  have hc0 : (w.alloc (.cells #[.int .i64 to] 3)).cell? ⟨w.heap.size, 0, none⟩ = some (.int .i64 to) := by simp [go_sem]
  have HC0 := Lib.hid hc0
  have hs0 : w.heap.size < (w.alloc (.cells #[.int .i64 to] 3)).heap.size := by simp
  have HS0 := Lib.hid hs0
  clear h hc0 hs0
  cases hok : netB l && (swB sw && swB to)
  · rw [show portV l sw to = 0 from by simp [portV, hok]]
    rw [hok] at HR
    clear hok
    go_enter Try.func23, Try.ntmps23
    go_wp2_with fail
    refine (HR.out _ HB0.out).mono ?_
    rintro e w1 ⟨P, rfl, -, b1⟩
    have HB1 := Lib.hid (belStep HB0.out b1)
    clear b1 HR
    go_wp2_with (refine wl_alloc rfl rfl ?_)
    intro w2 p2 b2 s2
    go_wp2_with (refine wl_store rfl _ _ rfl _ rfl _ _ rfl p2 ?_)
    intro w3 p3 g3
    have HB3 := Lib.hid (belStep HB1.out (b2.trans (grownBel g3 (Nat.le_refl _) b2.size)))
    go_wp2
    go_ret
    exact ⟨rfl, HB3.out⟩
  · have hparts := hok
    simp only [Bool.and_eq_true] at hparts
    obtain ⟨hn, h1, h2⟩ := hparts
    obtain ⟨s, rfl, s1, s4⟩ := sw_nat h1
    obtain ⟨t0, t4⟩ := inB_true h2
    have hans : leastF (fun k => !(eX (pk l) s k == 0) && (eX (pk l) s k == to)) = portV l (s : Int) to := by
      unfold portV
      rw [hok, cond_true]
      refine leastF_congr (fun j j1 j3 => ?_)
      have e := eXY hn s j (by omega)
      rw [← e]
      dsimp only
      by_cases hx : eX (pk l) s j = to
      · have : ¬ eX (pk l) s j = 0 := by omega
        simp [hx]
        omega
      · simp [hx]
    have HLP : Hid (∀ W g c, Pb W g (pk l) → W.cell? ⟨c, 0, none⟩ = some (.int .i64 to) → c < W.heap.size →
        Calls Try.prog 45 #[.pointer (some ⟨g, 0, none⟩), .int .i64 (s : Int), .func (.func 46) #[] #[.pointer (some ⟨c, 0, none⟩)]] W fun e w' => e = .returned (.int .i64 (portV l (s : Int) to)) ∧ Below W.heap.size W w') := fun W g c hp hc hcl => by
      have := leastPort_port (pk l) g c s to W hp hc hcl s4 (eX_zero hn s) (eX_none hn s)
      rwa [hans] at this
    have HN := Lib.hid hn
    rw [hok] at HR
    clear hans hok hn h1 h2 t0 t4
    generalize portV l (s : Int) to = ans at *
    have hmf : ∀ (fn : Fn) (first cap : Array Value) (w : World), (Instr.makeFunc fn first cap).run Try.prog w = .ok (.func fn first cap) w := fun _ _ _ _ => rfl
    go_enter Try.func23, Try.ntmps23
    go_wp2_with fail
    refine (HR.out _ HB0.out).mono ?_
    rintro e w1 ⟨P, rfl, hP, b1⟩
    obtain rfl := hP HN.out
    have HB1 := Lib.hid (belStep HB0.out b1)
    have HC1 : Hid (w1.cell? ⟨w.heap.size, 0, none⟩ = some (.int .i64 to)) := (belCell b1 _ _ HS0.out).trans HC0.out
    have hs1 : w.heap.size < w1.heap.size := Nat.lt_of_lt_of_le HS0.out b1.size
    clear b1 HR hP
    go_wp2_with (refine wl_alloc rfl rfl ?_)
    intro w2 p2 b2 s2
    go_wp2_with (refine wl_store rfl _ _ rfl _ rfl _ _ rfl p2 ?_)
    intro w3 p3 g3
    have b3 : Below w1.heap.size w1 w3 := b2.trans (grownBel g3 (Nat.le_refl _) b2.size)
    have HB3 := Lib.hid (belStep HB1.out b3)
    have HC3 : Hid (w3.cell? ⟨w.heap.size, 0, none⟩ = some (.int .i64 to)) := (belCell b3 _ _ hs1).trans HC1.out
    have hs3 : w.heap.size < w3.heap.size := Nat.lt_of_lt_of_le hs1 b3.size
    have HP3 := Lib.hid p3
    clear p2 b2 s2 p3 g3 b3
    go_wp2_with fail
    refine (HLP.out _ _ _ HP3.out HC3.out hs3).mono ?_
    rintro e w4 ⟨rfl, b4⟩
    go_wp2
    go_ret
    exact ⟨rfl, belStep HB3.out b4⟩

end Go.Proofs.Ytbjndcfdcjpkmaa
