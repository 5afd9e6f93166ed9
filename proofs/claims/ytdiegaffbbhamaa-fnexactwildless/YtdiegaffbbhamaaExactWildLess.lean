/-
  Proved: at every two texts the program's WildLess answers as the model's does, every string, its answer owns its memory (what is written into it is there still behind another call), and the arguments read on as they did. No condition.
-/
import Derived.Test.YtdiegaffbbhamaaWildLessS
namespace Go.Proofs.Ytdiegaffbbhamaa
open Go.ChangeShapes Go.WideShapes Go.ChangeAt Go.RowKit Go.Joins
open Go.ChangeMaps (open_string)
set_option linter.unusedVariables false

set_option maxHeartbeats 1000000 in
theorem walk_FnExactWildLess (s t : ByteArray) (w : World) (hs : s.size ≤ maxLen) (ht : t.size ≤ maxLen) :
    Calls Try.prog 9 #[.string s, .string t] w fun e w' => e = .returned (.bool true) ∧ Below w.heap.size w w' := by
  unfold maxLen at hs ht
  by_cases hlen : (1048576 : Int) < (s.size : Int)
  · go_enter Try.func9, Try.ntmps9
    go_wp2
    go_ret
    exact ⟨rfl, Below.refl _ _⟩
  by_cases hlen' : (1048576 : Int) < (t.size : Int)
  · go_enter Try.func9, Try.ntmps9
    go_wp2
    go_ret
    exact ⟨rfl, Below.refl _ _⟩
  have hn := lessL_len s t
  go_enter Try.func9, Try.ntmps9
  go_wp2_with fail
  refine (sWildLess_any s t (by omega) (by omega) _).mono ?_
  rintro e w1 ⟨v0, rfl, r0, b1⟩
  have R0 := Lib.hid r0
  clear r0
  have s1 := b1.size
  go_wp2_with fail
  refine (iWildLess_any s t (by omega) (by omega) _).mono ?_
  rintro e w2 ⟨v1, rfl, r1, b2⟩
  have R1 := Lib.hid r1
  clear r1
  have s2 := b2.size
  go_wp2_with fail
  refine (eqStringS_same _ _ _ _ _ _ R1.out (R0.out.below b2) (by omega)).mono ?_
  rintro e w3 ⟨rfl, b3⟩
  have s3 := b3.size
  have R1' := Lib.hid (R1.out.below b3)
  have R0' := Lib.hid ((R0.out.below b2).below b3)
  have B3 : Hid (Below w.heap.size w w3) := belStep b1 (belStep b2 b3)
  go_wp2_with fail
  refine (markStringS_at _ _ 1 _ _ R1'.out (by omega) (by omega) (by omega)).mono ?_
  rintro e w4 ⟨rfl, r4, b4⟩
  have s4 := b4.size
  have R4 := Lib.hid r4
  have Q4 : Hid (StrRow w4 w.heap.size v0 (lessL s t)) := R0'.out.under b4 (fun k hk => (World.ownsRow.lt R0.out k hk).2)
  have B4 : Hid (Below w.heap.size w w4) := B3.out.trans (b4.mono s1)
  clear r4 b1 b2 b3 b4 R0 R1 R0' R1' B3
  generalize hN : (lessL s t).length = n at *
  go_wp2_with fail
  refine (heldStringS_at _ _ 1 n _ R4.out (by omega) (by omega)).mono ?_
  rintro e w5 ⟨rfl, b5⟩
  have s5 := b5.size
  have R5 := Lib.hid (R4.out.below b5)
  have Q5 := Lib.hid (Q4.out.below b5)
  have B5 : Hid (Below w.heap.size w w5) := belStep B4.out b5
  have hp : ¬ ((1 + n : Nat) : Int) < 0 := by omega
  have hp' : ¬ (1 + (n : Int)) < 0 := by omega
  clear R4 Q4 B4 b5
  go_wp2_with fail
  refine (iWildLess_any s t (by omega) (by omega) _).mono ?_
  rintro e w6 ⟨v2, rfl, r6, b6⟩
  have R6 := Lib.hid r6
  clear r6
  go_wp2_with fail
  refine (eqStringS_same _ _ _ _ _ _ R6.out (Q5.out.below b6) (by omega)).mono ?_
  rintro e w7 ⟨rfl, b7⟩
  have R7 := Lib.hid ((R5.out.below b6).below b7)
  have B7 : Hid (Below w.heap.size w w7) := belStep B5.out (belStep b6 b7)
  clear R5 Q5 B5 b6 b7 R6
  go_wp2_with fail
  refine (heldStringS_at _ _ 1 n _ R7.out (by omega) (by omega)).mono ?_
  rintro e w8 ⟨rfl, b8⟩
  go_wp2
  go_ret
  exact ⟨rfl, belStep B7.out b8⟩

set_option maxRecDepth 100000 in
theorem lifted_FnExactWildLess (os : Os) (started : os.Started) (H : Type) (enc : TypeId × Value → H) :
    ReturnsInHanded {} Try.checked os 9 .any (Rows.fnExactWildLessSpec.pre6 enc Try.prog Try.f9 Rows.fnExactWildLessRow.domain false) (Rows.fnExactWildLessSpec.post enc Try.prog Try.f9 false true false false) := by
  refine returnsInHanded_of_change (C := Try.checked) own started (by kernel_rfl) Try.func9
    (ChangeSpec.witness6 (enc := enc) (C := Try.checked) false ⟨#[], #[.string ByteArray.empty, .string ByteArray.empty], []⟩ 8 (by kernel_rfl) (by kernel_rfl) (by kernel_rfl) (by kernel_rfl)) ?_
  intro W base args ds gs before hval0 hW hcnd _
  have hval : ∀ (j : Nat) t v, Try.f9.params[j]? = some t → args[j]? = some v → Value.okWide Try.prog W .any base t v := hval0
  have hW' := hW
  obtain ⟨p, q, hA0, hV, rfl, hfz, hnd⟩ := hW
  have hA : DataW.TrodAll enc Try.prog W 0 (fun _ => true) true Try.f9.params.toList args.toList ds p := hA0
  rw [Try.params9] at hA hval
  obtain ⟨v0, vs0, d0, ds0, p0, q0, hargs, rfl, rfl, h0, r0⟩ := trodAll_cons hA
  obtain ⟨v1, vs1, d1, ds1, p1, q1, rfl, rfl, rfl, h1, r1⟩ := trodAll_cons r0
  obtain ⟨rfl, rfl, rfl⟩ := trodAll_nil r1
  obtain rfl : args = #[v0, v1] := by cases args; simp_all
  obtain ⟨rfl, rfl⟩ := trodVars_none hV
  have k0 := h0
  have lt0 : ∀ x ∈ p0, x.block < W.heap.size := by obtain ⟨m, hm⟩ := k0; exact DataW.trod_lt m _ _ _ hm
  have k1 := h1
  have lt1 : ∀ x ∈ p1, x.block < W.heap.size := by obtain ⟨m, hm⟩ := k1; exact DataW.trod_lt m _ _ _ hm
  obtain ⟨s0, rfl, -, -, w0⟩ := open_string Try.underlying9 (hval 0 9 v0 rfl rfl) h0
  obtain ⟨s1, rfl, -, -, w1⟩ := open_string Try.underlying9 (hval 1 9 v1 rfl rfl) h1
  clear hA0 hval0
  refine (walk_FnExactWildLess s0 s1 W w0 w1).mono fun e W' ⟨he, bel⟩ => ?_
  subst he
  exact ⟨_, rfl, _, _, _, [], _, [], hW', trodAll_mk1 (shut_bool Try.underlying4 _), (trodAll_cons_mk (Below.trod laidOut (by kernel_rfl) (of_decide_eq_true (by kernel_rfl)) k0 bel lt0) (trodAll_cons_mk (Below.trod laidOut (by kernel_rfl) (of_decide_eq_true (by kernel_rfl)) k1 bel lt1) (trodAll_mk0))), rfl, bel.frame _, fun h => by cases h⟩

theorem over_FnExactWildLess : Rows.fnExactWildLessRow.holds Try.pinned (OpenSpec.ofChange Rows.fnExactWildLessSpec) :=
  OpenClaim.holds_of_wide 9 Try.f9 rfl rfl rfl rfl rfl rfl rfl ⟨rfl, rfl, rfl, rfl, rfl⟩ rfl rfl rfl rfl rfl (by kernel_rfl) Try.func9 (by kernel_rfl)
    (of_decide_eq_true (by kernel_rfl)) (by unfold Func.isWrapper; first | (rw [if_pos (by decide +kernel)]; kernel_rfl) | (rw [if_neg (by decide +kernel)]; exact ⟨rfl, rfl⟩))
    (fun os started H enc _ => lifted_FnExactWildLess os started H enc)

theorem proved_FnExactWildLess : Rows.FnExactWildLessSaid := over_FnExactWildLess

end Go.Proofs.Ytdiegaffbbhamaa
