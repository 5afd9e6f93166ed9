/-
  Proved: promise 4 (two heads have two numbers), at every two codes from which the heads are drawn; the codes read on as they did. No condition.
-/
import Derived.Test.YtmgjnjodjobagaaDrawHead
import Derived.Deep.RegionHeld3
namespace Go.Proofs.Ytmgjnjodjobagaa
open Go.ChangeShapes Go.WideShapes Go.ChangeAt Go.RowKit Go.Joins
set_option linter.unusedVariables false

set_option maxHeartbeats 400000 in
theorem lxHead_any (n : Nat) (hm : (n : Int) ≤ 1048576) (w : World) :
    Calls Try.prog 19 #[.int .i64 n] w fun e w' => e = .returned (.agg #[.int .i64 ((n : Int) / 16 % 4), .int .i64 ((n : Int) / 4 % 4), .int .i64 ((n : Int) % 4)]) ∧ Below w.heap.size w w' := by
  have h0 : (0 : Int) ≤ (n : Int) := Int.natCast_nonneg _
  go_enter Try.func19, Try.ntmps19
  go_wp2
  exact bodyPost_ret (v := .agg #[.int .i64 ((n : Int) / 16 % 4), .int .i64 ((n : Int) / 4 % 4), .int .i64 ((n : Int) % 4)]) (by simp [results, Try.results19, go_sem]) rfl ⟨rfl, below_alloc1 _ _⟩

theorem okB_drop {a c : Int} : okB a 4 c = false := by simp [okB, fldB]

theorem numEq {x y z u v t : Int} (x0 : 0 ≤ x) (x3 : x ≤ 3) (y0 : 0 ≤ y) (y3 : y ≤ 3) (z0 : 0 ≤ z) (z3 : z ≤ 3) (u0 : 0 ≤ u) (u3 : u ≤ 3) (v0 : 0 ≤ v) (v3 : v ≤ 3) (t0 : 0 ≤ t) (t3 : t ≤ 3) :
    (16 * u + 4 * v + t == 16 * x + 4 * y + z) = ((u == x) && ((v == y) && (t == z))) := by
  rw [Bool.eq_iff_iff]
  simp
  omega
set_option maxHeartbeats 2000000 in
theorem walk_FnHeadTwo (a : Option Addr) (len cap : Nat) (a' : Option Addr) (len' cap' : Nat) (w : World) (hb : BytesIn w w.heap.size a len cap) (hb' : BytesIn w w.heap.size a' len' cap') :
    Calls Try.prog 4 #[.slice a len cap, .slice a' len' cap'] w fun e w' => e = .returned (.bool true) ∧ Below w.heap.size w w' := by
  have HB := Lib.hid hb
  have hm : (len : Int) ≤ maxLen := by have := hb.1; have := hb.2.1; omega
  have hm' : (len' : Int) ≤ maxLen := by have := hb'.1; have := hb'.2.1; omega
  unfold maxLen at hm hm'
  clear hb hb'
  by_cases hlen : (1048576 : Int) < (len : Int)
  · go_enter Try.func4, Try.ntmps4
    go_wp2
    go_ret
    exact ⟨rfl, Below.refl _ _⟩
  have hl1 : decide ((1048576 : Int) < (len : Int)) = false := by simp; omega
  have hl1n : decide ((1048576 : Nat) < len) = false := by simp; omega
  by_cases hlen' : (1048576 : Int) < (len' : Int)
  · go_enter Try.func4, Try.ntmps4
    go_wp2
    go_ret
    exact ⟨rfl, Below.refl _ _⟩
  have hl2 : decide ((1048576 : Int) < (len' : Int)) = false := by simp; omega
  have hl2n : decide ((1048576 : Nat) < len') = false := by simp; omega
  go_enter Try.func4, Try.ntmps4
  go_wp2_with fail
  refine (drawHeadNum_any _ _ _ _ HB.out).mono ?_
  rintro e w1 ⟨x, y, z, hn, rfl, b1⟩
  clear hn
  have s1 := b1.size
  cases hk : okB x y z
  · go_wp2_with fail
    refine (iHeadNum_no _ _ _ hk _).mono ?_
    rintro e w2 ⟨rfl, b2⟩
    have c2 := belCell b2
    have s2 := b2.size
    simp at s2
    go_wp2_with fail
    refine (sHeadNum_no _ _ _ hk _).mono ?_
    rintro e w3 ⟨rfl, b3⟩
    have c3 := belCell b3
    have s3 := b3.size
    have z2 : w1.heap.size < w2.heap.size := by omega
    have z3 : w1.heap.size < w3.heap.size := by omega
    go_wp2_with fail
    refine (sHeadOk_any _ _ _ _).mono ?_
    rintro e w4 ⟨rfl, b4⟩
    have c4 := belCell b4
    have s4 := b4.size
    go_wp2_with fail
    refine (sHeadNum_no _ _ _ hk _).mono ?_
    rintro e w5 ⟨rfl, b5⟩
    go_wp2
    go_ret
    exact ⟨rfl, b1.trans (((Below.refl _ _).alloc (by omega) _).trans ((b2.mono (by simp; omega)).trans ((b3.mono (by omega)).trans ((b4.mono (by omega)).trans (b5.mono (by omega))))))⟩
  · go_wp2_with fail
    refine (iHeadNum_yes _ _ _ hk _).mono ?_
    rintro e w2 ⟨rfl, b2⟩
    have c2 := belCell b2
    have s2 := b2.size
    simp at s2
    go_wp2_with fail
    refine (sHeadNum_yes _ _ _ hk _).mono ?_
    rintro e w3 ⟨rfl, b3⟩
    have c3 := belCell b3
    have s3 := b3.size
    have z2 : w1.heap.size < w2.heap.size := by omega
    have z3 : w1.heap.size < w3.heap.size := by omega
    go_wp2_with fail
    refine (sHeadOk_any _ _ _ _).mono ?_
    rintro e w4 ⟨rfl, b4⟩
    have c4 := belCell b4
    have s4 := b4.size
    go_wp2_with fail
    refine (lxHead_any _ (by omega) _).mono ?_
    rintro e w5 ⟨rfl, b5⟩
    have c5 := belCell b5
    have s5 := b5.size
    have z4 : w1.heap.size < w4.heap.size := by omega
    have z5 : w1.heap.size < w5.heap.size := by omega
    go_wp2_with fail
    obtain ⟨⟨x0, x3⟩, ⟨y0, y3⟩, ⟨t0, t3⟩⟩ := okB_true hk
    have p1 : Hid (w5.heap[w1.heap.size]? = some (.cells #[.int .i64 x, .int .i64 y, .int .i64 z] 25)) :=
      (b5.block _ (by omega)).trans ((b4.block _ (by omega)).trans ((b3.block _ (by omega)).trans ((b2.block _ (by simp)).trans (newBlock w1 _))))
    have q1 := Lib.hid (newBlock w5 (.cells #[.int .i64 ((len' : Int) / 16 % 4), .int .i64 ((len' : Int) / 4 % 4), .int .i64 ((len' : Int) % 4)] 25))
    have B5 : Hid (Below w.heap.size w w5) := b1.trans (((Below.refl _ _).alloc (by omega) _).trans ((b2.mono (by simp; omega)).trans ((b3.mono (by omega)).trans ((b4.mono (by omega)).trans (b5.mono (by omega))))))
    have l0 : (0 : Int) ≤ (len' : Int) := Int.natCast_nonneg _
    clear c2 c3 c4 c5 b1 b2 b3 b4 b5
    obtain ⟨u, hu⟩ : ∃ u : Int, u = (len' : Int) / 16 % 4 := ⟨_, rfl⟩
    obtain ⟨v, hv⟩ : ∃ v : Int, v = (len' : Int) / 4 % 4 := ⟨_, rfl⟩
    obtain ⟨t, ht⟩ : ∃ t : Int, t = (len' : Int) % 4 := ⟨_, rfl⟩
    have u0 : 0 ≤ u ∧ u ≤ 3 := by omega
    have v0 : 0 ≤ v ∧ v ≤ 3 := by omega
    have t0 : 0 ≤ t ∧ t ≤ 3 := by omega
    rw [← hu, ← hv, ← ht] at q1 ⊢
    clear hu hv ht
    have hg : Hid (okB u v t = true) := okB_mk u0.1 u0.2 v0.1 v0.2 t0.1 t0.2
    have hd : Hid (okB x 4 z = false) := okB_drop
    generalize hW : (w5.alloc (.cells #[.int .i64 u, .int .i64 v, .int .i64 t] 25)).alloc (.cells #[.int .i64 x, .int .i64 4, .int .i64 z] 25) = W
    have P1 := Lib.hid (trip_cells (show W.heap[w1.heap.size]? = _ from by rw [← hW, Below.heap_alloc _ _ _ (by simp; omega), Below.heap_alloc _ _ _ (by omega)]; exact p1.out))
    have Q1 := Lib.hid (trip_cells (show W.heap[w5.heap.size]? = _ from by rw [← hW, Below.heap_alloc _ _ _ (by simp)]; exact q1.out))
    have R1 := Lib.hid (trip_cells (show W.heap[w5.heap.size + 1]? = some (.cells #[.int .i64 x, .int .i64 4, .int .i64 z] 25) from by
      rw [← hW]; have := newBlock (w5.alloc (.cells #[.int .i64 u, .int .i64 v, .int .i64 t] 25)) (.cells #[.int .i64 x, .int .i64 4, .int .i64 z] 25); simpa using this))
    have BW : Hid (Below w.heap.size w W) := by rw [← hW]; exact (B5.out.alloc (by omega) _).alloc (by simp; omega) _
    have zW : w5.heap.size + 2 = W.heap.size := by rw [← hW]; simp
    have zn : w5.heap.size + 1 < W.heap.size := by omega
    generalize w5.heap.size = j at *
    generalize w1.heap.size = i at *
    clear hW p1 q1 B5 zW z2 z3 z4 s1 s2 s3 s4 s5
    have HS : Hid (∀ w' : World, Below W.heap.size W w' →
        (w'.cell? ⟨i, 0, none⟩ = some (.int .i64 x) ∧ w'.cell? ⟨i, 1, none⟩ = some (.int .i64 y) ∧ w'.cell? ⟨i, 2, none⟩ = some (.int .i64 z) ∧
         w'.cell? ⟨j, 0, none⟩ = some (.int .i64 u) ∧ w'.cell? ⟨j, 1, none⟩ = some (.int .i64 v) ∧ w'.cell? ⟨j, 2, none⟩ = some (.int .i64 t) ∧
         w'.cell? ⟨j + 1, 0, none⟩ = some (.int .i64 x) ∧ w'.cell? ⟨j + 1, 1, none⟩ = some (.int .i64 4) ∧ w'.cell? ⟨j + 1, 2, none⟩ = some (.int .i64 z) ∧ Below W.heap.size W w')) := by
      intro w' hb
      have hc := belCell hb
      obtain ⟨a1, a2, a3, -⟩ := P1.out
      obtain ⟨a4, a5, a6, -⟩ := Q1.out
      obtain ⟨a7, a8, a9, -⟩ := R1.out
      exact ⟨(hc _ _ (by omega)).trans a1, (hc _ _ (by omega)).trans a2, (hc _ _ (by omega)).trans a3, (hc _ _ (by omega)).trans a4, (hc _ _ (by omega)).trans a5, (hc _ _ (by omega)).trans a6, (hc _ _ (by omega)).trans a7, (hc _ _ (by omega)).trans a8, (hc _ _ (by omega)).trans a9, hb⟩
    clear P1 Q1 R1
    have en := numEq x0 x3 y0 y3 (by assumption) t3 u0.1 u0.2 v0.1 v0.2 t0.1 t0.2
    have n0 : (0 : Int) ≤ 16 * x + 4 * y + z := by omega
    have n1 : 16 * x + 4 * y + z < 64 := by omega
    cases e1 : (u == x) <;> cases e2 : (v == y) <;> cases e3 : (t == z) <;> rw [e1, e2, e3] at en <;> simp only [Bool.and_true, Bool.and_false] at en
    all_goals
      go_region_held3 (fun w' => w'.cell? ⟨i, 0, none⟩ = some (.int .i64 x) ∧ w'.cell? ⟨i, 1, none⟩ = some (.int .i64 y) ∧ w'.cell? ⟨i, 2, none⟩ = some (.int .i64 z) ∧
           w'.cell? ⟨j, 0, none⟩ = some (.int .i64 u) ∧ w'.cell? ⟨j, 1, none⟩ = some (.int .i64 v) ∧ w'.cell? ⟨j, 2, none⟩ = some (.int .i64 t) ∧
           w'.cell? ⟨j + 1, 0, none⟩ = some (.int .i64 x) ∧ w'.cell? ⟨j + 1, 1, none⟩ = some (.int .i64 4) ∧ w'.cell? ⟨j + 1, 2, none⟩ = some (.int .i64 z) ∧ Below W.heap.size W w')
        (first | exact HS.out _ ((Below.refl _ _).drew) | (go_split_ands; exact HS.out _ (belStep (by assumption) hq)))
        (first
          | (go_at_call 14; ((with_reducible refine (iHeadNum_yes _ _ _ hg.out _).mono ?_); rintro e wq ⟨rfl, hq⟩))
          | (go_at_call 14; ((with_reducible refine (iHeadNum_no _ _ _ hd.out _).mono ?_); rintro e wq ⟨rfl, hq⟩)))
      go_wp2
      go_ret
      go_split_ands
      exact ⟨rfl, BW.out.trans (Below.mono (show Below W.heap.size W wq by assumption) BW.out.size)⟩

set_option maxRecDepth 100000 in
theorem lifted_FnHeadTwo (os : Os) (started : os.Started) (H : Type) (enc : TypeId × Value → H) :
    ReturnsInHanded {} Try.checked os 4 .any (Rows.fnHeadTwoSpec.pre6 enc Try.prog Try.f4 Rows.fnHeadTwoRow.domain false) (Rows.fnHeadTwoSpec.post enc Try.prog Try.f4 false true false false) := by
  refine returnsInHanded_of_change (C := Try.checked) own started (by kernel_rfl) Try.func4
    (ChangeSpec.witness6 (enc := enc) (C := Try.checked) false ⟨#[], #[.slice none 0 0, .slice none 0 0], []⟩ 8 (by kernel_rfl) (by kernel_rfl) (by kernel_rfl) (by kernel_rfl)) ?_
  intro W base args ds gs before hval0 hW hcnd _
  have hval : ∀ (j : Nat) t v, Try.f4.params[j]? = some t → args[j]? = some v → Value.okWide Try.prog W .any base t v := hval0
  have hW' := hW
  obtain ⟨p, q, hA0, hV, rfl, hfz, hnd⟩ := hW
  have hA : DataW.TrodAll enc Try.prog W 0 (fun _ => true) true Try.f4.params.toList args.toList ds p := hA0
  rw [Try.params4] at hA hval
  obtain ⟨v0, vs0, d0, ds0, p0, q0, hargs, rfl, rfl, h0, r0⟩ := trodAll_cons hA
  obtain ⟨v1, vs1, d1, ds1, p1, q1, rfl, rfl, rfl, h1, r1⟩ := trodAll_cons r0
  obtain ⟨rfl, rfl, rfl⟩ := trodAll_nil r1
  obtain rfl : args = #[v0, v1] := by cases args; simp_all
  obtain ⟨rfl, rfl⟩ := trodVars_none hV
  have k0 := h0
  have lt0 : ∀ x ∈ p0, x.block < W.heap.size := by obtain ⟨m, hm⟩ := k0; exact DataW.trod_lt m _ _ _ hm
  have k1 := h1
  have lt1 : ∀ x ∈ p1, x.block < W.heap.size := by obtain ⟨m, hm⟩ := k1; exact DataW.trod_lt m _ _ _ hm
  obtain ⟨a0, len0, cap0, rfl⟩ := okWide_slice Try.underlying22 (hval 0 22 v0 rfl rfl)
  have w0 : BytesIn W W.heap.size a0 len0 cap0 := isRow_of h0
  obtain ⟨a1, len1, cap1, rfl⟩ := okWide_slice Try.underlying22 (hval 1 22 v1 rfl rfl)
  have w1 : BytesIn W W.heap.size a1 len1 cap1 := isRow_of h1
  clear hA0 hval0
  refine (walk_FnHeadTwo a0 len0 cap0 a1 len1 cap1 W w0 w1).mono fun e W' ⟨he, bel⟩ => ?_
  subst he
  exact ⟨_, rfl, _, _, _, [], _, [], hW', trodAll_mk1 (shut_bool Try.underlying4 _), (trodAll_cons_mk (Below.trod laidOut (by kernel_rfl) (of_decide_eq_true (by kernel_rfl)) k0 bel lt0) (trodAll_cons_mk (Below.trod laidOut (by kernel_rfl) (of_decide_eq_true (by kernel_rfl)) k1 bel lt1) (trodAll_mk0))), rfl, bel.frame _, fun h => by cases h⟩

theorem over_FnHeadTwo : Rows.fnHeadTwoRow.holds Try.pinned (OpenSpec.ofChange Rows.fnHeadTwoSpec) :=
  OpenClaim.holds_of_wide 4 Try.f4 rfl rfl rfl rfl rfl rfl rfl ⟨rfl, rfl, rfl, rfl, rfl⟩ rfl rfl rfl rfl rfl (by kernel_rfl) Try.func4 (by kernel_rfl)
    (of_decide_eq_true (by kernel_rfl)) (by unfold Func.isWrapper; first | (rw [if_pos (by decide +kernel)]; kernel_rfl) | (rw [if_neg (by decide +kernel)]; exact ⟨rfl, rfl⟩))
    (fun os started H enc _ => lifted_FnHeadTwo os started H enc)

theorem proved_FnHeadTwo : Rows.FnHeadTwoSaid := over_FnHeadTwo

end Go.Proofs.Ytmgjnjodjobagaa
