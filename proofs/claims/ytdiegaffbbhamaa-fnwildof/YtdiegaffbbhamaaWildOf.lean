/-
  Proved: promise 8 (a pattern without x is of one head), at every two codes from which the heads are drawn; the codes read on as they did. No condition.
-/
import Derived.Test.YtdiegaffbbhamaaWildCount
namespace Go.Proofs.Ytdiegaffbbhamaa
open Go.ChangeShapes Go.WideShapes Go.ChangeAt Go.RowKit Go.Joins
set_option linter.unusedVariables false

theorem mk6_same (f g : Nat → UInt8) : ((mk6 f).toList == (mk6 g).toList) = all6 (fun i => f i == g i) := by
  rw [mk6_list, mk6_list, Bool.eq_iff_iff, all6_iff]
  simp only [beq_iff_eq, List.cons.injEq, and_true]
  constructor
  · rintro ⟨h0, h1, h2, h3, h4, h5⟩ i hi
    match i, hi with
    | 0, _ => exact h0
    | 1, _ => exact h1
    | 2, _ => exact h2
    | 3, _ => exact h3
    | 4, _ => exact h4
    | 5, _ => exact h5
  · intro h
    exact ⟨h 0 (by omega), h 1 (by omega), h 2 (by omega), h 3 (by omega), h 4 (by omega), h 5 (by omega)⟩
theorem numSame {x y z u v t : Int} (x0 : 0 ≤ x) (x3 : x ≤ 3) (y0 : 0 ≤ y) (y3 : y ≤ 3) (z0 : 0 ≤ z) (z3 : z ≤ 3) (u0 : 0 ≤ u) (u3 : u ≤ 3) (v0 : 0 ≤ v) (v3 : v ≤ 3) (t0 : 0 ≤ t) (t3 : t ≤ 3) :
    (16 * u + 4 * v + t == 16 * x + 4 * y + z) = ((u == x) && ((v == y) && (t == z))) := by
  rw [Bool.eq_iff_iff]
  simp
  omega
/-- Two heads have the same bits, if they are the same. -/
theorem bits_same {x y z u v t : Int} (h : okB x y z = true) (g : okB u v t = true) : all6 (fun i => hB u v t i == hB x y z i) = ((u == x) && ((v == y) && (t == z))) := by
  rw [← ofB_eq, ← num_ofB h, ← num_ofB g]
  obtain ⟨⟨a0, a3⟩, ⟨b0, b3⟩, ⟨c0, c3⟩⟩ := okB_true h
  obtain ⟨⟨d0, d3⟩, ⟨e0, e3⟩, ⟨f0, f3⟩⟩ := okB_true g
  exact numSame a0 a3 b0 b3 c0 c3 d0 d3 e0 e3 f0 f3
theorem ofS_yes {x y z : Int} (h : okB x y z = true) : ofS x y z = txt (fun _ => true) (hB x y z) := by unfold ofS; rw [h]; rfl
theorem ofS_ok {x y z : Int} (h : okB x y z = true) : okS (ofS x y z) = true := by rw [ofS_yes h]; exact okS_txt _ _
theorem ofS_has {x y z u v t : Int} (h : okB x y z = true) (g : okB u v t = true) : hasS (ofS x y z) u v t = ((u == x) && ((v == y) && (t == z))) := by
  unfold hasS
  rw [g, ofS_ok h, ofS_yes h, ← bits_same h g, Bool.true_and, Bool.true_and]
  unfold hasM
  refine all6_congr fun i hi => ?_
  rw [cf_txt _ _ hi, vf_txt _ _ hi]
  simp
theorem ofS_many {x y z : Int} (h : okB x y z = true) : manyS (ofS x y z) = 1 := by
  unfold manyS
  rw [ofS_ok h, ofS_yes h]
  show manyB _ = 1
  unfold manyB
  rw [cf_txt _ _ (by omega), cf_txt _ _ (by omega), cf_txt _ _ (by omega), cf_txt _ _ (by omega), cf_txt _ _ (by omega), cf_txt _ _ (by omega)]
  rfl
theorem ofS_same {x y z u v t : Int} (h : okB x y z = true) (g : okB u v t = true) : ((ofS u v t).toList == (ofS x y z).toList) = ((u == x) && ((v == y) && (t == z))) := by
  rw [ofS_yes h, ofS_yes g, ← bits_same h g]
  unfold txt
  rw [mk6_same]
  refine all6_congr fun i hi => ?_
  cases hB u v t i <;> cases hB x y z i <;> rfl
theorem ofS_size {x y z : Int} (h : okB x y z = true) : (ofS x y z).size = 6 := by rw [ofS_yes h]; rfl

set_option maxHeartbeats 4000000 in
theorem walk_FnWildOf (a : Option Addr) (len cap : Nat) (a' : Option Addr) (len' cap' : Nat) (w : World) (hb : BytesIn w w.heap.size a len cap) (hb' : BytesIn w w.heap.size a' len' cap') :
    Calls Try.prog 11 #[.slice a len cap, .slice a' len' cap'] w fun e w' => e = .returned (.bool true) ∧ Below w.heap.size w w' := by
  have HB := Lib.hid hb
  have hm : (len : Int) ≤ maxLen := by have := hb.1; have := hb.2.1; omega
  have hm' : (len' : Int) ≤ maxLen := by have := hb'.1; have := hb'.2.1; omega
  unfold maxLen at hm hm'
  clear hb hb'
  by_cases hlen : (1048576 : Int) < (len : Int)
  · go_enter Try.func11, Try.ntmps11
    go_wp2
    go_ret
    exact ⟨rfl, Below.refl _ _⟩
  have hl1 : decide ((1048576 : Int) < (len : Int)) = false := by simp; omega
  have hl1n : decide ((1048576 : Nat) < len) = false := by simp; omega
  by_cases hlen' : (1048576 : Int) < (len' : Int)
  · go_enter Try.func11, Try.ntmps11
    go_wp2
    go_ret
    exact ⟨rfl, Below.refl _ _⟩
  have hl2 : decide ((1048576 : Int) < (len' : Int)) = false := by simp; omega
  have hl2n : decide ((1048576 : Nat) < len') = false := by simp; omega
  go_enter Try.func11, Try.ntmps11
  go_wp2_with fail
  refine (drawWildOf_any _ _ _ _ HB.out).mono ?_
  rintro e w1 ⟨x, y, z, hn, rfl, b1⟩
  clear hn
  have s1 := b1.size
  have B1 : Hid (Below w.heap.size w (w1.alloc (.cells #[.int .i64 x, .int .i64 y, .int .i64 z] 26))) := b1.alloc s1 _
  go_wp2_with fail
  have C0 := Lib.hid (trip_cells (newBlock w1 (.cells #[.int .i64 x, .int .i64 y, .int .i64 z] 26)))
  have zW : w1.heap.size < (w1.alloc (.cells #[.int .i64 x, .int .i64 y, .int .i64 z] 26)).heap.size := by simp
  clear b1
  generalize w1.alloc (.cells #[.int .i64 x, .int .i64 y, .int .i64 z] 26) = W at *
  have HC := Lib.hid (cellsHeld C0.out zW)
  refine (iWildOf_any x y z _).mono ?_
  rintro e w2 ⟨rfl, b2⟩
  obtain ⟨q0, q1, q2⟩ := HC.out _ b2
  go_wp2_with fail
  refine (sWildOf_any x y z _).mono ?_
  rintro e w3 ⟨rfl, b3⟩
  have b3' := belStep b2 b3
  obtain ⟨r0, r1, r2⟩ := HC.out _ b3'
  clear b2 b3 q0 q1 q2
  go_wp2_with fail
  refine (sHeadOk_any x y z _).mono ?_
  rintro e w4 ⟨rfl, b4⟩
  have b4' := belStep b3' b4
  obtain ⟨q0, q1, q2⟩ := HC.out _ b4'
  clear b4 b3' r0 r1 r2
  cases hk : okB x y z
  · go_wp2_with fail
    refine (sWildOf_any x y z _).mono ?_
    rintro e w5 ⟨rfl, b5⟩
    go_wp2
    go_ret
    exact ⟨rfl, B1.out.trans ((belStep b4' b5).mono B1.out.size)⟩
  · go_wp2_with fail
    refine (lxHead_at _ (by omega) _).mono ?_
    rintro e w5 ⟨rfl, b5⟩
    have b5' := belStep b4' b5
    have hg := lx_ok len'
    generalize hu : (len' : Int) / 16 % 4 = u at *
    generalize hv : (len' : Int) / 4 % 4 = v at *
    generalize ht : (len' : Int) % 4 = t at *
    clear hu hv ht b5 b4' q0 q1 q2
    have O1 : Hid (∀ W : World, Calls Try.prog 16 #[.string (ofS x y z)] W fun e w' => e = .returned (.bool true) ∧ Below W.heap.size W w') := fun W => by
      have := iWildOk_any (ofS x y z) (by rw [ofS_size hk]; omega) W
      rw [ofS_ok hk] at this
      exact this
    have O2 : Hid (∀ W : World, Calls Try.prog 19 #[.string (ofS x y z), .agg #[.int .i64 x, .int .i64 y, .int .i64 z]] W fun e w' => e = .returned (.bool true) ∧ Below W.heap.size W w') := fun W => by
      have := iWildHas_any (ofS x y z) (by rw [ofS_size hk]; omega) x y z W
      rw [ofS_has hk hk] at this
      simpa using this
    have O3 : Hid (∀ W : World, Calls Try.prog 25 #[.string (ofS x y z)] W fun e w' => e = .returned (.int .i64 1) ∧ Below W.heap.size W w') := fun W => by
      have := iWildMany_any (ofS x y z) (by rw [ofS_size hk]; omega) W
      rw [ofS_many hk] at this
      exact this
    have O4 : Hid (∀ W : World, Calls Try.prog 19 #[.string (ofS x y z), .agg #[.int .i64 u, .int .i64 v, .int .i64 t]] W fun e w' => e = .returned (.bool ((u == x) && ((v == y) && (t == z)))) ∧ Below W.heap.size W w') := fun W => by
      have := iWildHas_any (ofS x y z) (by rw [ofS_size hk]; omega) u v t W
      rw [ofS_has hk hg] at this
      exact this
    have O5 := Lib.hid (iWildOf_any u v t)
    have en := ofS_same hk hg
    go_wp2_with fail
    -- the world behind both heads
    have P1 := Lib.hid (HC.out _ b5')
    have zi : w1.heap.size < w5.heap.size := Nat.lt_of_lt_of_le zW b5'.size
    have q1 := Lib.hid (newBlock w5 (.cells #[.int .i64 u, .int .i64 v, .int .i64 t] 26))
    have BV : Hid (Below w.heap.size w (w5.alloc (.cells #[.int .i64 u, .int .i64 v, .int .i64 t] 26))) := (B1.out.trans (b5'.mono B1.out.size)).alloc (Nat.le_trans B1.out.size b5'.size) _
    have zj : w5.heap.size < (w5.alloc (.cells #[.int .i64 u, .int .i64 v, .int .i64 t] 26)).heap.size := by simp
    have HS : Hid (∀ w' : World, Below (w5.alloc (.cells #[.int .i64 u, .int .i64 v, .int .i64 t] 26)).heap.size (w5.alloc (.cells #[.int .i64 u, .int .i64 v, .int .i64 t] 26)) w' →
        (w'.cell? ⟨w1.heap.size, 0, none⟩ = some (.int .i64 x) ∧ w'.cell? ⟨w1.heap.size, 1, none⟩ = some (.int .i64 y) ∧ w'.cell? ⟨w1.heap.size, 2, none⟩ = some (.int .i64 z) ∧
         w'.cell? ⟨w5.heap.size, 0, none⟩ = some (.int .i64 u) ∧ w'.cell? ⟨w5.heap.size, 1, none⟩ = some (.int .i64 v) ∧ w'.cell? ⟨w5.heap.size, 2, none⟩ = some (.int .i64 t) ∧
         Below (w5.alloc (.cells #[.int .i64 u, .int .i64 v, .int .i64 t] 26)).heap.size (w5.alloc (.cells #[.int .i64 u, .int .i64 v, .int .i64 t] 26)) w')) := by
      intro w' hb
      have hc := belCell hb
      obtain ⟨a1, a2, a3⟩ := P1.out
      obtain ⟨a4, a5, a6, -⟩ := trip_cells q1.out
      have ec : ∀ o, w'.cell? ⟨w1.heap.size, o, none⟩ = w5.cell? ⟨w1.heap.size, o, none⟩ := fun o => (hc _ _ (by simp; omega)).trans (World.cell?_of_block (w := w5) (Below.heap_alloc _ _ _ zi))
      exact ⟨(ec _).trans a1, (ec _).trans a2, (ec _).trans a3, (hc _ _ zj).trans a4, (hc _ _ zj).trans a5, (hc _ _ zj).trans a6, hb⟩
    clear P1 q1 b5' C0 HC
    generalize w5.alloc (.cells #[.int .i64 u, .int .i64 v, .int .i64 t] 26) = V at *
    generalize w5.heap.size = j at *
    generalize w1.heap.size = i at *
    generalize ofS x y z = p at *
    generalize ofS u v t = p' at *
    clear hk hg zi zj zW s1
    cases e1 : (u == x) <;> cases e2 : (v == y) <;> cases e3 : (t == z) <;> rw [e1, e2, e3] at en O4 <;> simp only [Bool.and_true, Bool.and_false] at en O4
    all_goals
      go_region_held3 (fun w' => w'.cell? ⟨i, 0, none⟩ = some (.int .i64 x) ∧ w'.cell? ⟨i, 1, none⟩ = some (.int .i64 y) ∧ w'.cell? ⟨i, 2, none⟩ = some (.int .i64 z) ∧
           w'.cell? ⟨j, 0, none⟩ = some (.int .i64 u) ∧ w'.cell? ⟨j, 1, none⟩ = some (.int .i64 v) ∧ w'.cell? ⟨j, 2, none⟩ = some (.int .i64 t) ∧ Below V.heap.size V w')
        (first | exact HS.out _ ((Below.refl _ _).drew) | (go_split_ands; exact HS.out _ (belStep (by assumption) hq)))
        (first
          | (go_at_call 16; ((with_reducible refine (O1.out _).mono ?_); rintro e wq ⟨rfl, hq⟩))
          | (go_at_call 19; ((with_reducible refine (O2.out _).mono ?_); rintro e wq ⟨rfl, hq⟩))
          | (go_at_call 19; ((with_reducible refine (O4.out _).mono ?_); rintro e wq ⟨rfl, hq⟩))
          | (go_at_call 25; ((with_reducible refine (O3.out _).mono ?_); rintro e wq ⟨rfl, hq⟩))
          | (go_at_call 27; ((with_reducible refine (O5.out _).mono ?_); rintro e wq ⟨rfl, hq⟩)))
      go_wp2
      go_ret
      go_split_ands
      exact ⟨rfl, BV.out.trans (Below.mono (show Below V.heap.size V wq by assumption) BV.out.size)⟩

set_option maxRecDepth 100000 in
theorem lifted_FnWildOf (os : Os) (started : os.Started) (H : Type) (enc : TypeId × Value → H) :
    ReturnsInHanded {} Try.checked os 11 .any (Rows.fnWildOfSpec.pre6 enc Try.prog Try.f11 Rows.fnWildOfRow.domain false) (Rows.fnWildOfSpec.post enc Try.prog Try.f11 false true false false) := by
  refine returnsInHanded_of_change (C := Try.checked) own started (by kernel_rfl) Try.func11
    (ChangeSpec.witness6 (enc := enc) (C := Try.checked) false ⟨#[], #[.slice none 0 0, .slice none 0 0], []⟩ 8 (by kernel_rfl) (by kernel_rfl) (by kernel_rfl) (by kernel_rfl)) ?_
  intro W base args ds gs before hval0 hW hcnd _
  have hval : ∀ (j : Nat) t v, Try.f11.params[j]? = some t → args[j]? = some v → Value.okWide Try.prog W .any base t v := hval0
  have hW' := hW
  obtain ⟨p, q, hA0, hV, rfl, hfz, hnd⟩ := hW
  have hA : DataW.TrodAll enc Try.prog W 0 (fun _ => true) true Try.f11.params.toList args.toList ds p := hA0
  rw [Try.params11] at hA hval
  obtain ⟨v0, vs0, d0, ds0, p0, q0, hargs, rfl, rfl, h0, r0⟩ := trodAll_cons hA
  obtain ⟨v1, vs1, d1, ds1, p1, q1, rfl, rfl, rfl, h1, r1⟩ := trodAll_cons r0
  obtain ⟨rfl, rfl, rfl⟩ := trodAll_nil r1
  obtain rfl : args = #[v0, v1] := by cases args; simp_all
  obtain ⟨rfl, rfl⟩ := trodVars_none hV
  have k0 := h0
  have lt0 : ∀ x ∈ p0, x.block < W.heap.size := by obtain ⟨m, hm⟩ := k0; exact DataW.trod_lt m _ _ _ hm
  have k1 := h1
  have lt1 : ∀ x ∈ p1, x.block < W.heap.size := by obtain ⟨m, hm⟩ := k1; exact DataW.trod_lt m _ _ _ hm
  obtain ⟨a0, len0, cap0, rfl⟩ := okWide_slice Try.underlying39 (hval 0 39 v0 rfl rfl)
  have w0 : BytesIn W W.heap.size a0 len0 cap0 := isRow_of h0
  obtain ⟨a1, len1, cap1, rfl⟩ := okWide_slice Try.underlying39 (hval 1 39 v1 rfl rfl)
  have w1 : BytesIn W W.heap.size a1 len1 cap1 := isRow_of h1
  clear hA0 hval0
  refine (walk_FnWildOf a0 len0 cap0 a1 len1 cap1 W w0 w1).mono fun e W' ⟨he, bel⟩ => ?_
  subst he
  exact ⟨_, rfl, _, _, _, [], _, [], hW', trodAll_mk1 (shut_bool Try.underlying4 _), (trodAll_cons_mk (Below.trod laidOut (by kernel_rfl) (of_decide_eq_true (by kernel_rfl)) k0 bel lt0) (trodAll_cons_mk (Below.trod laidOut (by kernel_rfl) (of_decide_eq_true (by kernel_rfl)) k1 bel lt1) (trodAll_mk0))), rfl, bel.frame _, fun h => by cases h⟩

theorem over_FnWildOf : Rows.fnWildOfRow.holds Try.pinned (OpenSpec.ofChange Rows.fnWildOfSpec) :=
  OpenClaim.holds_of_wide 11 Try.f11 rfl rfl rfl rfl rfl rfl rfl ⟨rfl, rfl, rfl, rfl, rfl⟩ rfl rfl rfl rfl rfl (by kernel_rfl) Try.func11 (by kernel_rfl)
    (of_decide_eq_true (by kernel_rfl)) (by unfold Func.isWrapper; first | (rw [if_pos (by decide +kernel)]; kernel_rfl) | (rw [if_neg (by decide +kernel)]; exact ⟨rfl, rfl⟩))
    (fun os started H enc _ => lifted_FnWildOf os started H enc)

theorem proved_FnWildOf : Rows.FnWildOfSaid := over_FnWildOf

end Go.Proofs.Ytdiegaffbbhamaa
