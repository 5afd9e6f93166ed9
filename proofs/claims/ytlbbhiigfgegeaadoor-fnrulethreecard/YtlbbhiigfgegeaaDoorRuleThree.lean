/-
  Proved: promise 42 (who stands ahead of one that stands ahead stands ahead), at every two codes from which the rules are drawn; the codes read on as they did. No condition but the card's own: the listed variables of the library stand as its text lays them.
-/
import Derived.Test.YtlbbhiigfgegeaaDoorRuleCard
import Derived.Test.YtlbbhiigfgegeaaDoorRuleCmpI
import Derived.Test.YtlbbhiigfgegeaaDoorRuleDrawC
import Derived.Test.YtlbbhiigfgegeaaDoorRuleDrawD
import Derived.Deep.RegionHeld3
import Derived.Deep.RegionWith
namespace Go.Proofs.YtlbbhiigfgegeaaDoor
open Go.ChangeShapes Go.WideShapes Go.ChangeAt Go.RowKit Go.Joins
set_option linter.unusedVariables false

set_option maxHeartbeats 8000000 in
theorem walk_FnRuleThree (a : Option Addr) (len cap : Nat) (a' : Option Addr) (len' cap' : Nat) (w : World) (hb : BytesIn w w.heap.size a len cap) (hb' : BytesIn w w.heap.size a' len' cap') (hE : EtOk w) :
    Calls Tryd.prog 7 #[.slice a len cap, .slice a' len' cap'] w fun e w' => e = .returned (.bool true) ∧ Below w.heap.size w w' := by
  have HB := Lib.hid hb
  have HB' := Lib.hid hb'
  have HE := Lib.hid hE
  have hm : (len : Int) ≤ maxLen := by have := hb.1; have := hb.2.1; omega
  have hm' : (len' : Int) ≤ maxLen := by have := hb'.1; have := hb'.2.1; omega
  unfold maxLen at hm hm'
  clear hb hb' hE
  by_cases hlen : (1048576 : Int) < (len : Int)
  · go_enter Tryd.func7, Tryd.ntmps7
    go_wp2
    go_ret
    exact ⟨rfl, Below.refl _ _⟩
  have hl1 : decide ((1048576 : Int) < (len : Int)) = false := by simp; omega
  have hl1n : decide ((1048576 : Nat) < len) = false := by simp; omega
  by_cases hlen' : (1048576 : Int) < (len' : Int)
  · go_enter Tryd.func7, Tryd.ntmps7
    go_wp2
    go_ret
    exact ⟨rfl, Below.refl _ _⟩
  have hl2 : decide ((1048576 : Int) < (len' : Int)) = false := by simp; omega
  have hl2n : decide ((1048576 : Nat) < len') = false := by simp; omega
  go_enter Tryd.func7, Tryd.ntmps7
  go_wp2_with fail
  refine (drawRuleCmp_any _ _ _ _ HB.out).mono ?_
  rintro e w1 ⟨p, s, o, t, p', s', o', t', hs, hs', rfl, b1⟩
  have hm7 : s.size ≤ 1048576 := by have := hs.2.1; omega
  have hm7' : s'.size ≤ 1048576 := by have := hs'.2.1; omega
  clear hs hs'
  have HE1 := Lib.hid (((HE.out.below b1).alloc (.cells #[.int .i64 p, .string s, .int .i64 o, .int .i64 t] 24)).alloc (.cells #[.int .i64 p', .string s', .int .i64 o', .int .i64 t'] 24))
  have B1 : Hid (Below w.heap.size w ((w1.alloc (.cells #[.int .i64 p, .string s, .int .i64 o, .int .i64 t] 24)).alloc (.cells #[.int .i64 p', .string s', .int .i64 o', .int .i64 t'] 24))) := (b1.alloc b1.size _).alloc (by have := b1.size; simp; omega) _
  clear b1
  have HI := Lib.hid (iRuleCmp_any p s hm7 o t p' s' hm7' o' t')
  have HSp := Lib.hid (sRuleCmp_any p s hm7 o t p' s' hm7' o' t')
  cases hk : (rOk p s o t && rOk p' s' o' t')
  · have e0 : cmpR p s o t p' s' o' t' = 0 := by rw [cmpR, hk]; rfl
    rw [e0] at HI HSp
    go_wp2_with fail
    refine (HI.out _ HE1.out).mono ?_
    rintro e w2 ⟨rfl, b2⟩
    obtain ⟨r0, r1, r2, r3, k0, k1, k2, k3⟩ := twoRules b2
    go_wp2_with fail
    refine (HSp.out _).mono ?_
    rintro e w3 ⟨rfl, b3⟩
    have b23 := belStep b2 b3
    clear r0 r1 r2 r3 k0 k1 k2 k3
    obtain ⟨r0, r1, r2, r3, k0, k1, k2, k3⟩ := twoRules b23
    go_wp2_with fail
    refine (sRuleOk_any _ _ hm7 _ _ _).mono ?_
    rintro e w4 ⟨rfl, b4⟩
    have b24 := belStep b23 b4
    clear r0 r1 r2 r3 k0 k1 k2 k3
    obtain ⟨r0, r1, r2, r3, k0, k1, k2, k3⟩ := twoRules b24
    cases hka : rOk p s o t
    · go_wp2_with fail
      refine (HSp.out _).mono ?_
      rintro e w5 ⟨rfl, b5⟩
      go_wp2
      go_ret
      exact ⟨rfl, belStep B1.out (belStep b24 b5)⟩
    · have hkb : rOk p' s' o' t' = false := by simpa [hka] using hk
      go_wp2_with fail
      refine (sRuleOk_any _ _ hm7' _ _ _).mono ?_
      rintro e w5 ⟨rfl, b5⟩
      rw [hkb]
      have b25 := belStep b24 b5
      clear r0 r1 r2 r3 k0 k1 k2 k3
      obtain ⟨r0, r1, r2, r3, k0, k1, k2, k3⟩ := twoRules b25
      go_wp2_with fail
      refine (HSp.out _).mono ?_
      rintro e w6 ⟨rfl, b6⟩
      go_wp2
      go_ret
      exact ⟨rfl, belStep B1.out (belStep b25 b6)⟩
  · obtain ⟨hka, hkb⟩ : rOk p s o t = true ∧ rOk p' s' o' t' = true := by simpa using hk
    have e0 : cmpR p s o t p' s' o' t' = rCmp p s o t p' s' o' t' := by rw [cmpR, hk]; rfl
    rw [e0] at HI HSp
    clear e0 hk
    have h3 := rCmp_three p s o t p' s' o' t'
    obtain ⟨n, hn⟩ : ∃ n, n = rCmp p s o t p' s' o' t' := ⟨_, rfl⟩
    rw [← hn] at HI HSp h3
    have HN := Lib.hid hn
    clear hn
    go_wp2_with fail
    refine (HI.out _ HE1.out).mono ?_
    rintro e w2 ⟨rfl, b2⟩
    obtain ⟨r0, r1, r2, r3, k0, k1, k2, k3⟩ := twoRules b2
    go_wp2_with fail
    refine (HSp.out _).mono ?_
    rintro e w3 ⟨rfl, b3⟩
    have b23 := belStep b2 b3
    clear r0 r1 r2 r3 k0 k1 k2 k3
    obtain ⟨r0, r1, r2, r3, k0, k1, k2, k3⟩ := twoRules b23
    go_wp2_with fail
    refine (sRuleOk_any _ _ hm7 _ _ _).mono ?_
    rintro e w4 ⟨rfl, b4⟩
    rw [hka]
    have b24 := belStep b23 b4
    clear r0 r1 r2 r3 k0 k1 k2 k3
    obtain ⟨r0, r1, r2, r3, k0, k1, k2, k3⟩ := twoRules b24
    go_wp2_with fail
    refine (sRuleOk_any _ _ hm7' _ _ _).mono ?_
    rintro e w5 ⟨rfl, b5⟩
    rw [hkb]
    have b25 := belStep b24 b5
    have B5 := Lib.hid (belStep B1.out b25)
    have HB5 := Lib.hid ((HB'.out.keep (w' := w5) (fun k hk => B5.out.block k hk)).up (g' := w5.heap.size) B5.out.size)
    clear r0 r1 r2 r3 k0 k1 k2 k3
    have HE5 := Lib.hid (HE1.out.below b25)
    go_wp2_with fail
    refine (drawRuleDo_any _ _ _ _ HB5.out).mono ?_
    rintro e w6 ⟨p'', s'', o'', t'', x, y, z, hs, hnr, rfl, b6⟩
    have hm7'' : s''.size ≤ 1048576 := by have := hs.2.1; omega
    have b26 := belStep b25 b6
    have C6 := Lib.hid (twoRules b26)
    have s6 := b26.size
    simp at s6
    have HE6 := Lib.hid (HE5.out.below b6)
    have B6 := Lib.hid (belStep B1.out b26)
    clear hs hnr b2 b3 b4 b5 b23 b24 b25 b6 b26 HB HB' HE HE1 B1 HI HSp B5 HB5 HE5
    have HE7 := Lib.hid ((HE6.out.alloc (.cells #[.int .i64 p'', .string s'', .int .i64 o'', .int .i64 t''] 24)).alloc (.cells #[.int .i64 x, .int .i64 y, .int .i64 z] 33))
    have B7 : Hid (Below w.heap.size w ((w6.alloc (.cells #[.int .i64 p'', .string s'', .int .i64 o'', .int .i64 t''] 24)).alloc (.cells #[.int .i64 x, .int .i64 y, .int .i64 z] 33))) := (B6.out.alloc B6.out.size _).alloc (by have := B6.out.size; simp; omega) _
    go_wp2_with fail
    refine (iRuleOk_any _ _ hm7'' _ _ _ HE7.out).mono ?_
    rintro e w7 ⟨rfl, b7⟩
    cases hkc : rOk p'' s'' o'' t''
    · go_wp2
      go_ret
      exact ⟨rfl, belStep B7.out b7⟩
    have b67 : Below w6.heap.size w6 w7 := (below_alloc2 _ _ _).trans (b7.mono (by simp; omega))
    have c67 := belCell b67
    have s7 := b67.size
    obtain ⟨r0, r1, r2, r3, k0, k1, k2, k3⟩ := C6.out
    have A7 : Hid (w7.cell? ⟨w1.heap.size, 0, none⟩ = some (.int .i64 p) ∧ w7.cell? ⟨w1.heap.size, 1, none⟩ = some (.string s) ∧ w7.cell? ⟨w1.heap.size, 2, none⟩ = some (.int .i64 o) ∧ w7.cell? ⟨w1.heap.size, 3, none⟩ = some (.int .i64 t)) :=
      ⟨(c67 _ _ (by omega)).trans r0, (c67 _ _ (by omega)).trans r1, (c67 _ _ (by omega)).trans r2, (c67 _ _ (by omega)).trans r3⟩
    have A8 : Hid (w7.cell? ⟨w1.heap.size + 1, 0, none⟩ = some (.int .i64 p') ∧ w7.cell? ⟨w1.heap.size + 1, 1, none⟩ = some (.string s') ∧ w7.cell? ⟨w1.heap.size + 1, 2, none⟩ = some (.int .i64 o') ∧ w7.cell? ⟨w1.heap.size + 1, 3, none⟩ = some (.int .i64 t')) :=
      ⟨(c67 _ _ (by omega)).trans k0, (c67 _ _ (by omega)).trans k1, (c67 _ _ (by omega)).trans k2, (c67 _ _ (by omega)).trans k3⟩
    have A9 : Hid (w7.cell? ⟨w6.heap.size, 0, none⟩ = some (.int .i64 p'') ∧ w7.cell? ⟨w6.heap.size, 1, none⟩ = some (.string s'') ∧ w7.cell? ⟨w6.heap.size, 2, none⟩ = some (.int .i64 o'') ∧ w7.cell? ⟨w6.heap.size, 3, none⟩ = some (.int .i64 t'')) := by
      have hc := belCell b7
      refine ⟨?_, ?_, ?_, ?_⟩ <;> (rw [hc _ _ (by simp; try omega)]; simp [go_sem])
    have HE8 := Lib.hid (HE7.out.below b7)
    have B8 := Lib.hid (belStep B7.out b7)
    have z7 : w6.heap.size < w7.heap.size := by have := b7.size; simp at this; omega
    clear r0 r1 r2 r3 k0 k1 k2 k3 C6 c67 b67 b7 HE6 HE7 B6 B7
    obtain ⟨q0, q1, q2, q3⟩ := A7.out
    obtain ⟨k0, k1, k2, k3⟩ := A8.out
    obtain ⟨r0, r1, r2, r3⟩ := A9.out
    rcases h3 with rfl | rfl | rfl
    · have e1 : cmpR p' s' o' t' p'' s'' o'' t'' = rCmp p' s' o' t' p'' s'' o'' t'' := by rw [cmpR, hkb, hkc]; rfl
      have e2 : cmpR p s o t p'' s'' o'' t'' = rCmp p s o t p'' s'' o'' t'' := by rw [cmpR, hka, hkc]; rfl
      have HI1 := Lib.hid (iRuleCmp_any p' s' hm7' o' t' p'' s'' hm7'' o'' t'')
      have HI2 := Lib.hid (iRuleCmp_any p s hm7 o t p'' s'' hm7'' o'' t'')
      rw [e1] at HI1
      rw [e2] at HI2
      have HTr := Lib.hid (fun h => rCmp_trans (p := p) (s := s) (o := o) (t := t) (p' := p') (s' := s') (o' := o') (t' := t') (p'' := p'') (s'' := s'') (o'' := o'') (t'' := t'') HN.out.symm h)
      have h4 := rCmp_three p' s' o' t' p'' s'' o'' t''
      clear e1 e2
      generalize rCmp p' s' o' t' p'' s'' o'' t'' = m at HI1 HTr h4
      go_wp2_with fail
      refine (HI1.out _ HE8.out).mono ?_
      rintro e w8 ⟨rfl, b8⟩
      have c8 := belCell b8
      have u0 := (c8 _ 0 (by omega)).trans q0
      have u1 := (c8 _ 1 (by omega)).trans q1
      have u2 := (c8 _ 2 (by omega)).trans q2
      have u3 := (c8 _ 3 (by omega)).trans q3
      have v0 := (c8 _ 0 z7).trans r0
      have v1 := (c8 _ 1 z7).trans r1
      have v2 := (c8 _ 2 z7).trans r2
      have v3 := (c8 _ 3 z7).trans r3
      have HE9 := Lib.hid (HE8.out.below b8)
      have B9 := Lib.hid (belStep B8.out b8)
      clear c8 b8 q0 q1 q2 q3 r0 r1 r2 r3 k0 k1 k2 k3
      rcases h4 with rfl | rfl | rfl
      · have hT := HTr.out rfl
        rw [hT] at HI2
        go_wp2_with fail
        refine (HI2.out _ HE9.out).mono ?_
        rintro e w9 ⟨rfl, b9⟩
        go_wp2
        go_ret
        exact ⟨rfl, belStep B9.out b9⟩
      · go_wp2
        go_ret
        exact ⟨rfl, B9.out⟩
      · go_wp2
        go_ret
        exact ⟨rfl, B9.out⟩
    · go_wp2
      go_ret
      exact ⟨rfl, B8.out⟩
    · go_wp2
      go_ret
      exact ⟨rfl, B8.out⟩

set_option maxRecDepth 100000 in
theorem contract_FnRuleThree (H : Type) (enc : TypeId × Value → H) (W : World) (base : Nat) (args : Array Value) (ds gs : List (DataW H)) (before : List MemPlace)
    (hval : ∀ (j : Nat) t v, Tryd.f7.params[j]? = some t → args[j]? = some v → Value.okWide Tryd.prog W .any base t v)
    (hW : DataW.Whole enc Tryd.prog Tryd.f7.params.toList Rows.fnRuleThreeSpec.vars false W args.toList ds gs before) (hE : EtOk W) :
    Calls Tryd.prog 7 args W fun e W' => ∃ v, e = .returned v ∧ Rows.fnRuleThreeSpec.post enc Tryd.prog Tryd.f7 false true false false W args v W' := by
  have hW' := hW
  obtain ⟨p, q, hA0, hV, rfl, hfz, hnd⟩ := hW
  have hA : DataW.TrodAll enc Tryd.prog W 0 (fun _ => true) true Tryd.f7.params.toList args.toList ds p := hA0
  rw [Tryd.params7] at hA hval
  obtain ⟨v0, vs0, d0, ds0, p0, q0, hargs, rfl, rfl, h0, r0⟩ := trodAll_cons hA
  obtain ⟨v1, vs1, d1, ds1, p1, q1, rfl, rfl, rfl, h1, r1⟩ := trodAll_cons r0
  obtain ⟨rfl, rfl, rfl⟩ := trodAll_nil r1
  obtain rfl : args = #[v0, v1] := by cases args; simp_all
  obtain ⟨rfl, rfl⟩ := trodVars_none hV
  have k0 := h0
  have lt0 : ∀ x ∈ p0, x.block < W.heap.size := by obtain ⟨m, hm⟩ := k0; exact DataW.trod_lt m _ _ _ hm
  have k1 := h1
  have lt1 : ∀ x ∈ p1, x.block < W.heap.size := by obtain ⟨m, hm⟩ := k1; exact DataW.trod_lt m _ _ _ hm
  obtain ⟨a0, len0, cap0, rfl⟩ := okWide_slice Tryd.underlying22 (hval 0 22 v0 rfl rfl)
  have w0 : BytesIn W W.heap.size a0 len0 cap0 := isRow_of h0
  obtain ⟨a1, len1, cap1, rfl⟩ := okWide_slice Tryd.underlying22 (hval 1 22 v1 rfl rfl)
  have w1 : BytesIn W W.heap.size a1 len1 cap1 := isRow_of h1
  clear hA0
  refine (walk_FnRuleThree a0 len0 cap0 a1 len1 cap1 W w0 w1 hE).mono fun e W' ⟨he, bel⟩ => ?_
  subst he
  exact ⟨_, rfl, _, _, _, [], _, [], hW', trodAll_mk1 (shut_bool Tryd.underlying4 _), (trodAll_cons_mk (Below.trod laidOut (by kernel_rfl) (of_decide_eq_true (by kernel_rfl)) k0 bel lt0) (trodAll_cons_mk (Below.trod laidOut (by kernel_rfl) (of_decide_eq_true (by kernel_rfl)) k1 bel lt1) (trodAll_mk0))), rfl, bel.frame _, fun h => by cases h⟩

/-- A world for the witness: the settled one, with the listed variables as the text lays them. -/
noncomputable def laidWorld_FnRuleThree (os : Os) : World :=
  { World.holding Tryd.prog os ⟨#[], #[], []⟩ with heap := (((((World.holding Tryd.prog os ⟨#[], #[], []⟩).heap).modify 3 (fun | .cells _ t frozen => .cells #[.int .u8 0, .int .u8 1, .int .u8 28, .int .u8 2, .int .u8 29, .int .u8 14, .int .u8 24, .int .u8 3, .int .u8 30, .int .u8 22, .int .u8 20, .int .u8 15, .int .u8 25, .int .u8 17, .int .u8 4, .int .u8 8, .int .u8 31, .int .u8 27, .int .u8 13, .int .u8 23, .int .u8 21, .int .u8 19, .int .u8 16, .int .u8 7, .int .u8 26, .int .u8 12, .int .u8 18, .int .u8 6, .int .u8 11, .int .u8 5, .int .u8 10, .int .u8 9] t frozen | o => o)).modify 4 (fun | .cells _ t frozen => .cells #[.int .u8 0, .int .u8 1, .int .u8 56, .int .u8 2, .int .u8 57, .int .u8 49, .int .u8 28, .int .u8 3, .int .u8 61, .int .u8 58, .int .u8 42, .int .u8 50, .int .u8 38, .int .u8 29, .int .u8 17, .int .u8 4, .int .u8 62, .int .u8 47, .int .u8 59, .int .u8 36, .int .u8 45, .int .u8 43, .int .u8 51, .int .u8 22, .int .u8 53, .int .u8 39, .int .u8 33, .int .u8 30, .int .u8 24, .int .u8 18, .int .u8 12, .int .u8 5, .int .u8 63, .int .u8 55, .int .u8 48, .int .u8 27, .int .u8 60, .int .u8 41, .int .u8 37, .int .u8 16, .int .u8 46, .int .u8 35, .int .u8 44, .int .u8 21, .int .u8 52, .int .u8 32, .int .u8 23, .int .u8 11, .int .u8 54, .int .u8 26, .int .u8 40, .int .u8 15, .int .u8 34, .int .u8 20, .int .u8 31, .int .u8 10, .int .u8 25, .int .u8 14, .int .u8 19, .int .u8 9, .int .u8 13, .int .u8 8, .int .u8 7, .int .u8 6] t frozen | o => o)).modify 2 (fun | .cells _ t frozen => .cells #[.int .u64 1, .int .u64 10, .int .u64 100, .int .u64 1000, .int .u64 10000, .int .u64 100000, .int .u64 1000000, .int .u64 10000000, .int .u64 100000000, .int .u64 1000000000, .int .u64 10000000000, .int .u64 100000000000, .int .u64 1000000000000, .int .u64 10000000000000, .int .u64 100000000000000, .int .u64 1000000000000000, .int .u64 10000000000000000, .int .u64 100000000000000000, .int .u64 1000000000000000000, .int .u64 10000000000000000000] t frozen | o => o)).modify 0 (fun | .cells _ t frozen => .cells #[.iface 122 (.agg #[.pointer (some ⟨7, 60, none⟩)])] t frozen | o => o) }

theorem laidMet_FnRuleThree (os : Os) : laidMetH Tryd.prog Rows.fnRuleThreeRow.laid ((laidWorld_FnRuleThree os).forCall (fun _ _ => 0) ⟨#[], #[.slice none 0 0, .slice none 0 0], []⟩).memory :=
  laidMetH_of_parts (laidMet_of_run' 8 (by kernel_rfl) (by kernel_rfl)) (by kernel_rfl)

theorem reads_FnRuleThree (os : Os) {H : Type} (enc : TypeId × Value → H) : ∃ places, DataW.whole enc Tryd.prog ((laidWorld_FnRuleThree os).forCall (fun _ _ => 0) ⟨#[], #[.slice none 0 0, .slice none 0 0], []⟩).memory Tryd.f7.params.toList Rows.fnRuleThreeSpec.vars false (#[.slice none 0 0, .slice none 0 0] : Array Value).toList 8 = some ([.nil, .nil], [], places) :=
  ⟨[], by kernel_rfl⟩

set_option maxRecDepth 100000 in
theorem lifted_FnRuleThree (os : Os) (started : os.Started) (H : Type) (enc : TypeId × Value → H) (F : Stop.Interp) :
    ReturnsInHanded {} Tryd.checked os 7 .any ((OpenSpec.ofChange Rows.fnRuleThreeSpec).preRow enc Tryd.prog Tryd.f7 Rows.fnRuleThreeRow.domain false Rows.fnRuleThreeRow.laid) (((OpenSpec.ofChange Rows.fnRuleThreeSpec).at F).post enc Tryd.prog Tryd.f7 false true false false) := by
  obtain ⟨places, hx⟩ := reads_FnRuleThree os enc
  refine returnsInHanded_of_row (C := Tryd.checked) (s := OpenSpec.ofChange Rows.fnRuleThreeSpec) own started (by kernel_rfl) Tryd.func7
    (witness_row_at (enc := enc) (C := Tryd.checked) false (laidWorld_FnRuleThree os) #[.slice none 0 0, .slice none 0 0] rfl (by kernel_rfl) (by kernel_rfl) (by kernel_rfl)
      (OpenSpec.preRow_of_cond 8 hx (by kernel_rfl) (fun k hk => by cases hk) (by kernel_rfl) (laidMet_FnRuleThree os))) ?_
  intro W base args ds gs before hval hW _ _ _ hL _ _
  exact contract_FnRuleThree H enc W base args ds gs before hval hW (etOk_of hL (by simp [Rows.fnRuleThreeRow]))

theorem said_FnRuleThree : Rows.FnRuleThreeSaid :=
  OpenClaim.holds_of_cond 7 Tryd.f7 rfl rfl rfl rfl rfl rfl rfl ⟨rfl, rfl, rfl, rfl, rfl⟩ rfl rfl rfl rfl rfl (by kernel_rfl) Tryd.func7 (by kernel_rfl)
    (of_decide_eq_true (by kernel_rfl)) (by unfold Func.isWrapper; first | (rw [if_pos (by decide +kernel)]; kernel_rfl) | (rw [if_neg (by decide +kernel)]; exact ⟨rfl, rfl⟩))
    (fun os started H enc _ F => by rw [OpenClaim.pre_eq_preRow]; exact lifted_FnRuleThree os started H enc F)

theorem plain_FnRuleThree (f : FuncId) (fn : Func) (hf : Tryd.pinned.checked.prog.funcNamed "loop.example/crossbuck/laws.FnRuleThree" = some f) (hfn : Tryd.pinned.checked.prog.funcs[f]? = some fn) :
    true = Tryd.pinned.checked.prog.looks [] ∧ ∀ (j : Nat) t, fn.params[j]? = some t → Tryd.pinned.checked.prog.wantsStandIn t = false := by
  obtain rfl : f = 7 := Option.some.inj ((show Tryd.prog.funcNamed "loop.example/crossbuck/laws.FnRuleThree" = some 7 by kernel_rfl).symm.trans hf) |>.symm
  obtain rfl : fn = Tryd.f7 := (Option.some.inj (Tryd.func7.symm.trans hfn)).symm
  refine ⟨by kernel_rfl, fun j t ht => ?_⟩
  rw [Tryd.params7] at ht
  obtain rfl : t = 22 := by simpa using Array.mem_of_getElem? ht
  exact (show Tryd.prog.wantsStandIn 22 = false by kernel_rfl)

theorem proved_FnRuleThree : Rows.FnRuleThreeCardSaid :=
  Claim7.holds_tied_plain_at .later [] _ _ _ _ said_FnRuleThree (fun _ h => by cases h) (by kernel_rfl) (fun _ h => by cases h) fnRuleThree_row_tie rfl ⟨rfl, rfl⟩ (by kernel_rfl) rfl plain_FnRuleThree (by kernel_rfl)

end Go.Proofs.YtlbbhiigfgegeaaDoor
