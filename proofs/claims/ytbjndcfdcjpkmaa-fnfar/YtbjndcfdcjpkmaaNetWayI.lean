/-
  Nets: the way from one switch to another one, the model's and the program's answer.
-/
import Derived.Test.YtbjndcfdcjpkmaaNetNextJ
import Derived.Test.YtbjndcfdcjpkmaaNetIntS
namespace Go.Proofs.Ytbjndcfdcjpkmaa
open Go.ChangeShapes Go.WideShapes Go.ChangeAt Go.RowKit Go.Joins
set_option linter.unusedVariables false

def stepF (l : List K4) (t s : Nat) : Nat := (peerF l s (nextF l s t)).1.toNat
/-- Switches behind one, as many as are told. -/
def restL (l : List K4) (t : Nat) : Nat → Nat → List Int
  | 0, _ => []
  | n + 1, s => ((stepF l t s : Nat) : Int) :: restL l t n (stepF l t s)
theorem restL_len (l : List K4) (t : Nat) : ∀ n s, (restL l t n s).length = n
  | 0, _ => rfl
  | n + 1, s => by simp [restL, restL_len l t n]
/-- The answer of both. -/
def wayV (l : List K4) (sw to : Int) : List Int := bif netB l && (swB sw && swB to) then (if farS l to.toNat sw.toNat < 0 then [] else (sw.toNat : Int) :: restL l to.toNat (farS l to.toNat sw.toNat).toNat sw.toNat) else []

theorem leastF_some {f : Nat → Bool} {k : Nat} (k1 : 1 ≤ k) (k3 : k ≤ 3) (h : f k = true) : ∃ j : Nat, 1 ≤ j ∧ j ≤ 3 ∧ leastF f = (j : Int) ∧ f j = true := by
  unfold leastF
  by_cases h1 : f 1 = true
  · exact ⟨1, by omega, by omega, by simp [h1], h1⟩
  · by_cases h2 : f 2 = true
    · exact ⟨2, by omega, by omega, by simp [h1, h2], h2⟩
    · by_cases h3 : f 3 = true
      · exact ⟨3, by omega, by omega, by simp [h1, h2, h3], h3⟩
      · have : k = 1 ∨ k = 2 ∨ k = 3 := by omega
        rcases this with rfl | rfl | rfl
        · exact absurd h h1
        · exact absurd h h2
        · exact absurd h h3
theorem step_ok {l : List K4} (hn : netB l = true) {s t : Nat} (s1 : 1 ≤ s) (s4 : s ≤ 4) (t1 : 1 ≤ t) (t4 : t ≤ 4) {n : Nat} (h : farS l t s = (n : Int) + 1) :
    ∃ k x : Nat, 1 ≤ k ∧ k ≤ 3 ∧ nextF l s t = (k : Int) ∧ (peerF l s k).1 = (x : Int) ∧ 1 ≤ x ∧ x ≤ 4 ∧ farS l t x = (n : Int) ∧ stepF l t s = x := by
  have hF := farS_dist (net_ok hn) t1 t4
  obtain ⟨u, u1, u4, ha, hu⟩ := hF.back s s1 s4 (by omega)
  have hm := nbs_adj hn s1 s4 u u1 u4 ha.symm
  obtain ⟨j, hj, hju⟩ := List.mem_map.1 hm
  have hj4 : j < 4 := List.mem_range.1 hj
  have e := eXY hn s j hj4
  have e1 : eX (pk l) s j = (peerF l s j).1 := by rw [← e]
  have hj1 : 1 ≤ j := by
    by_cases z : j = 0
    · subst z
      rw [eX_none hn s] at hju
      simp at hju
      omega
    · omega
  have hpos : (peerF l s j).1 > 0 := by rw [← e1]; omega
  have hnear : nearB l s t j = true := by
    unfold nearB
    rw [← e1, hju]
    have : decide (eX (pk l) s j > 0) = true := by rw [e1]; simp; omega
    rw [this]
    have h2 : decide (farS l t s > 0) = true := by simp; omega
    rw [h2]
    simp [hu]
  obtain ⟨k, k1, k3, hk, hkn⟩ := leastF_some hj1 (by omega) hnear
  have hkn' := hkn
  unfold nearB at hkn'
  simp only [Bool.and_eq_true, decide_eq_true_eq, beq_iff_eq] at hkn'
  obtain ⟨a, b, c⟩ := hkn'
  have hpk := peer_ok hn (s : Int) (k : Int)
  rcases hpk with h0 | ⟨-, -, ⟨x1, x4⟩, -⟩
  · rw [h0] at a
    exact absurd a (by decide)
  · refine ⟨k, (peerF l s k).1.toNat, k1, k3, hk, by omega, by omega, by omega, by omega, ?_⟩
    unfold stepF
    rw [show nextF l s t = (k : Int) from hk]

/-- A number is appended to a row of the call's own. -/
theorem app_int {w : World} {ops : Array Oper} {rest : List Oper} {o : Oper} {a : Act} {Q : Exit → Act → World → Prop} (hgd : o.guard = none) (s x : Operand)
    (ho : o.op = .call { callee := .builtin .append, args := #[s, x], argTypes := #[38, 38] }) (base : Nat) (v : Value) (L : List Int) (hs : a.eval s = v) (hrow : IntRow w base v L) (g : Nat) (y : Int)
    (hx : a.eval x = .slice (some ⟨g, 0, none⟩) 1 1) (c1 : w.cell? ⟨g, 0, none⟩ = some (.int .i64 y)) (hn : L.length ≤ 1000000) (hb : base ≤ w.heap.size)
    (h : ∀ v' w', IntRow w' base v' (L ++ [y]) → w.grownBy w' v.ownBlock → wpList Try.prog ops Q rest (a.put o.dst v') w') : wpList Try.prog ops Q (o :: rest) a w := by
  obtain ⟨i0, hi, hz0, hz1, hz2⟩ := info_parts infoInt
  refine wpList_append_own _ hgd s x 38 ho base 3 i0 (.int .i64 0) 1 8 Try.underlying38 hi hz0 hz1 hz2 rfl (by decide) v L.length _ hs hrow ⟨g, 0, none⟩ 1 1 [.int .i64 y] hx rfl ?c1 ?c2 ?c3 ?c4 hb ?c6
  case c1 =>
    intro j u hj
    rw [add_none]
    match j, hj with
    | 0, hj => simp at hj; subst hj; exact c1
    | j + 1, hj => simp at hj
  case c2 =>
    intro u hu
    simp at hu
    subst hu
    rfl
  case c3 => unfold maxLen; omega
  case c4 => omega
  case c6 =>
    intro v' w' hown hg _
    refine h v' w' ?_ hg
    unfold IntRow
    simpa using hown

theorem intRow_one (w : World) (y : Int) : IntRow (w.alloc (.cells #[.int .i64 y] 3)) w.heap.size (.slice (some ⟨w.heap.size, 0, none⟩) 1 1) [y] := ⟨rfl, .inr ⟨w.heap.size, 1, _, rfl, Nat.le_refl _, heap_alloc_last w _, Nat.le_refl _, by unfold maxLen; omega, rfl, rfl⟩⟩
theorem rowGrown {a w w' : World} {base : Nat} {v : Value} {L : List Int} (h : Below base a w) (hrow : IntRow w base v L) (hg : w.grownBy w' v.ownBlock) (hb : base ≤ w.heap.size) : Below base a w' :=
  h.grown hg hb (fun j hj => (World.ownsRow.lt hrow j hj).1)

set_option maxRecDepth 100000 in
set_option maxHeartbeats 8000000 in
theorem l21Way_any (w : World) (v : Value) (l : List K4) (s t : Nat) (h : Lks w w.heap.size v l) (hn : netB l = true) (s1 : 1 ≤ s) (s4 : s ≤ 4) (t1 : 1 ≤ t) (t4 : t ≤ 4) :
    Calls Try.prog 48 #[v, .int .i64 (s : Int), .int .i64 (t : Int)] w fun e w' => ∃ u, e = .returned u ∧ IntRow w' w.heap.size u (wayV l s t) ∧ Below w.heap.size w w' := by
  have HV : Hid (wayV l (s : Int) (t : Int) = if farS l t s < 0 then [] else (s : Int) :: restL l t (farS l t s).toNat s) := by
    show _ = _
    simp [wayV, hn, show swB (s : Int) = true from inB_mk (by omega) (by omega), show swB (t : Int) = true from inB_mk (by omega) (by omega)]
  have HNX : Hid (∀ (x : Nat) W, 1 ≤ x → x ≤ 4 → Below w.heap.size w W → Calls Try.prog 57 #[v, .int .i64 (x : Int), .int .i64 (t : Int)] W fun e w' => e = .returned (.int .i64 (nextF l x t)) ∧ Below W.heap.size W w') := fun x W x1 x4 hb => l21Next_any W v l x t ((h.below hb (Nat.le_refl _)).mono hb.size) hn x1 x4 t1 t4
  have HP : Hid (∀ (x : Nat) k W, Below w.heap.size w W → Calls Try.prog 54 #[v, .int .i64 (x : Int), .int .i64 k] W fun e w' => e = .returned (.tuple #[.int .i64 (peerF l x k).1, .int .i64 (peerF l x k).2]) ∧ Below W.heap.size W w') := fun x k W hb => l21Peer_any W v l x k ((h.below hb (Nat.le_refl _)).mono hb.size)
  have HF := Lib.hid (l21Far_any w v l s h (net_ok hn) s4)
  have HSY : Hid (farS l s t = farS l t s) := farS_symm (net_ok hn) s1 s4 t1 t4
  have HST : Hid (∀ (x n : Nat), 1 ≤ x → x ≤ 4 → farS l t x = (n : Int) + 1 → ∃ k y : Nat, 1 ≤ k ∧ k ≤ 3 ∧ nextF l x t = (k : Int) ∧ (peerF l x k).1 = (y : Int) ∧ 1 ≤ y ∧ y ≤ 4 ∧ farS l t y = (n : Int) ∧ stepF l t x = y) := fun x n x1 x4 e => step_ok hn x1 x4 t1 t4 e
  have HZ : Hid (∀ x : Nat, 1 ≤ x → x ≤ 4 → (farS l t x = 0 ↔ x = t)) := (farS_dist (net_ok hn) t1 t4).zero
  have HRG : Hid (-1 ≤ farS l t s ∧ farS l t s ≤ 3) := far_range hn t1 t4 s1 s4
  have it : (t : Int) < 5 := by omega
  have jt : (0 : Int) ≤ (t : Int) := by omega
  clear hn h
  go_enter Try.func48, Try.ntmps48
  go_wp2_with fail
  refine HF.out.mono ?_
  rintro e W1 ⟨rfl, hf, b1⟩
  have hc := hf.cell (i := t) (by omega)
  rw [HSY.out] at hc
  have HB1 := Lib.hid b1
  clear hf b1 HF
  by_cases hneg : farS l t s < 0
  · have HVN : Hid (wayV l (s : Int) (t : Int) = []) := by show _ = _; rw [HV.out, if_pos hneg]
    have HE : Hid (IntRow (W1.alloc (.cells #[] 3)) w.heap.size (.slice (some ⟨W1.heap.size, 0, none⟩) 0 0) []) := IntRow.mono (World.ownsRow_made W1 #[] 0 (Nat.le_refl _) (Nat.zero_le _) rfl) HB1.out.size
    have HBE := Lib.hid (belStep HB1.out (below_alloc1 W1 (.cells #[] 3)))
    go_wp2
    go_ret
    exact ⟨_, rfl, by rw [HVN.out]; exact HE.out, HBE.out⟩
  · obtain ⟨n0, hn0⟩ : ∃ n0 : Nat, farS l t s = (n0 : Int) := ⟨(farS l t s).toNat, by omega⟩
    have HVN : Hid (wayV l (s : Int) (t : Int) = (s : Int) :: restL l t n0 s) := by show _ = _; rw [HV.out, if_neg hneg, hn0]; simp
    have HN0 : Hid (n0 ≤ 3) := by show _ ≤ _; have := HRG.out; omega
    have HO := Lib.hid (IntRow.mono (intRow_one W1 (s : Int)) HB1.out.size)
    have HBO := Lib.hid (belStep HB1.out (below_alloc1 W1 (.cells #[.int .i64 (s : Int)] 3)))
    have HD0 := Lib.hid hn0
    rw [hn0] at hc
    have hz0 : ¬ ((n0 : Int) < 0) := by omega
    clear hneg HV hn0 HRG
    go_wp2_with fail
    clear hc
    go_loopw [1, 7] (fun f u wr => ∃ (x n : Nat) (O : List Int), f = .int .i64 (x : Int) ∧ 1 ≤ x ∧ x ≤ 4 ∧ farS l t x = (n : Int) ∧ n ≤ 3 ∧ IntRow wr w.heap.size u O ∧ O ++ restL l t n x = (s : Int) :: restL l t n0 s ∧ Below w.heap.size w wr) (fun f _ _ => (farS l t (intOf f).toNat).toNat)
    case atStart => exact ⟨s, n0, [(s : Int)], rfl, s1, s4, HD0.out, HN0.out, HO.out, rfl, HBO.out⟩
    case round =>
      obtain ⟨x, n, O, rfl, x1, x4, hx, hn3, hrow, hO, hbel⟩ := hrel
      have HX := Lib.hid hx
      have HROW := Lib.hid hrow
      have HOO := Lib.hid hO
      have HBL := Lib.hid hbel
      clear hx hrow hO hbel
      cases n with
      | zero =>
        have hxt : x = t := (HZ.out x x1 x4).1 (by simpa using HX.out)
        subst hxt
        have HFIN : Hid (O = wayV l (s : Int) (x : Int)) := by
          show _ = _
          rw [HVN.out, ← HOO.out]
          simp [restL]
        clear HVN HOO
        go_wp2
        go_ret
        exact ⟨_, rfl, by rw [← HFIN.out]; exact HROW.out, HBL.out⟩
      | succ n =>
        have hxt : ¬ x = t := fun e => by have := (HZ.out x x1 x4).2 e; have := HX.out; omega
        have hxt' : ((x : Int) == (t : Int)) = false := by simp; omega
        obtain ⟨k, y, k1, k3, hk, hp, y1, y4, hy, hst⟩ := HST.out x n x1 x4 (by have := HX.out; omega)
        have HOY : Hid ((O ++ [(y : Int)]) ++ restL l t n y = (s : Int) :: restL l t n0 s) := by
          show _ = _
          rw [← HOO.out]
          simp [restL, hst]
        have HYD := Lib.hid hy
        have HOL : Hid (O.length ≤ 1000000) := by
          show _ ≤ _
          have := congrArg List.length HOO.out
          simp [restL_len] at this
          have := HN0.out
          omega
        have HN1 := Lib.hid (HNX.out x wr x1 x4 HBL.out)
        rw [hk] at HN1
        clear HOO hy hst hk
        go_wp2_with fail
        refine HN1.out.mono ?_
        rintro e w2 ⟨rfl, b2⟩
        have HB2 := Lib.hid (belStep HBL.out b2)
        have HR2 := Lib.hid (HROW.out.below b2)
        have HP2 := Lib.hid (HP.out x (k : Int) w2 HB2.out)
        rw [hp] at HP2
        clear b2 HBL HROW HN1 hp
        generalize (peerF l x k).2 = z at *
        go_wp2_with fail
        refine HP2.out.mono ?_
        rintro e w3 ⟨rfl, b3⟩
        have HB3 := Lib.hid (belStep HB2.out b3)
        have HR3 := Lib.hid (HR2.out.below b3)
        have HA := Lib.hid (below_alloc1 w3 (.cells #[.int .i64 (y : Int)] 3))
        have HR4 := Lib.hid (HR3.out.below HA.out)
        have HB4 := Lib.hid (belStep HB3.out HA.out)
        have HC4 : Hid ((w3.alloc (.cells #[.int .i64 (y : Int)] 3)).cell? ⟨w3.heap.size, 0, none⟩ = some (.int .i64 (y : Int))) := by show _ = _; simp [go_sem]
        clear b3 HB2 HR2 HP2
        go_wp2_with (at_builtin; refine app_int rfl _ _ rfl w.heap.size u7 O rfl HR4.out w3.heap.size (y : Int) rfl HC4.out HOL.out HB4.out.size ?_)
        intro v9 w9 hr9 hg9
        have HR9 := Lib.hid hr9
        have HB9 := Lib.hid (rowGrown HB4.out HR4.out hg9 HB4.out.size)
        clear hr9 hg9 HR4 HB4 HC4 HA HR3 HB3
        go_wp2
        go_roundw
        case rel => exact ⟨y, n, O ++ [(y : Int)], rfl, y1, y4, HYD.out, by omega, HR9.out, HOY.out, HB9.out⟩
        case measure => simp [intOf]; have := HX.out; have := HYD.out; omega

end Go.Proofs.Ytbjndcfdcjpkmaa
