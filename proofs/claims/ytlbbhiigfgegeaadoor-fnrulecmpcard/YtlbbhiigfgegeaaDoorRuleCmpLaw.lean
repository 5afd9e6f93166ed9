/-
  Proved: promise 41 (of two rules one stands ahead, unless they are the same), at every code from which the rules are drawn; the code reads on as it did. No condition but the card's own: the listed variables of the library stand as its text lays them.
-/
import Derived.Test.YtlbbhiigfgegeaaDoorRuleCard
import Derived.Test.YtlbbhiigfgegeaaDoorRuleCmpI
import Derived.Test.YtlbbhiigfgegeaaDoorRuleDrawC
import Derived.Test.YtlbbhiigfgegeaaDoorExtReg
namespace Go.Proofs.YtlbbhiigfgegeaaDoor
open Go.ChangeShapes Go.WideShapes Go.ChangeAt Go.RowKit Go.Joins
set_option linter.unusedVariables false

theorem toList_ne {s s' : ByteArray} (hs : ¬ s = s') : ¬ s.toList = s'.toList := fun h => hs (by
  rw [Lib.toList_data, Lib.toList_data] at h
  exact ByteArray.ext (Array.toList_inj.1 h))

set_option maxRecDepth 100000 in
set_option maxHeartbeats 4000000 in
theorem walk_FnRuleCmp (a : Option Addr) (len cap : Nat) (w : World) (hb : BytesIn w w.heap.size a len cap) (hE : EtOk w) :
    Calls Tryd.prog 6 #[.slice a len cap] w fun e w' => e = .returned (.bool true) ∧ Below w.heap.size w w' := by
  have HB := Lib.hid hb
  have HE := Lib.hid hE
  have hm : (len : Int) ≤ maxLen := by have := hb.1; have := hb.2.1; omega
  unfold maxLen at hm
  clear hb hE
  by_cases hlen : (1048576 : Int) < (len : Int)
  · go_enter Tryd.func6, Tryd.ntmps6
    go_wp2
    go_ret
    exact ⟨rfl, Below.refl _ _⟩
  go_enter Tryd.func6, Tryd.ntmps6
  go_wp2_with fail
  refine (drawRuleCmp_any _ _ _ _ HB.out).mono ?_
  rintro e w1 ⟨p, s, o, t, p', s', o', t', hs, hs', rfl, b1⟩
  have hm7 : s.size ≤ 1048576 := by have := hs.2.1; omega
  have hm7' : s'.size ≤ 1048576 := by have := hs'.2.1; omega
  clear hs hs'
  have HE1 := Lib.hid (((HE.out.below b1).alloc (.cells #[.int .i64 p, .string s, .int .i64 o, .int .i64 t] 24)).alloc (.cells #[.int .i64 p', .string s', .int .i64 o', .int .i64 t'] 24))
  have B1 : Hid (Below w.heap.size w ((w1.alloc (.cells #[.int .i64 p, .string s, .int .i64 o, .int .i64 t] 24)).alloc (.cells #[.int .i64 p', .string s', .int .i64 o', .int .i64 t'] 24))) := (b1.alloc b1.size _).alloc (by have := b1.size; simp; omega) _
  clear b1
  have HI := Lib.hid (iRuleCmp_any p s hm7 o t p' s' hm7' o' t')
  have HSp := Lib.hid (sRuleCmp_any p s hm7 o t p' s' hm7' o' t')
  have HBk := Lib.hid (iRuleCmp_any p' s' hm7' o' t' p s hm7 o t)
  cases hk : (rOk p s o t && rOk p' s' o' t')
  · have e0 : cmpR p s o t p' s' o' t' = 0 := by rw [cmpR, hk]; rfl
    rw [e0] at HI HSp
    go_wp2_with fail
    refine (HI.out _ HE1.out).mono ?_
    rintro e w2 ⟨rfl, b2⟩
    obtain ⟨r0, r1, r2, r3, k0, k1, k2, k3⟩ := twoRules b2
    go_wp2_with fail
    refine (HSp.out _).mono ?_
    rintro e w3 ⟨rfl, b3⟩
    have b23 := belStep b2 b3
    clear r0 r1 r2 r3 k0 k1 k2 k3
    obtain ⟨r0, r1, r2, r3, k0, k1, k2, k3⟩ := twoRules b23
    go_wp2_with fail
    refine (sRuleOk_any _ _ hm7 _ _ _).mono ?_
    rintro e w4 ⟨rfl, b4⟩
    have b24 := belStep b23 b4
    clear r0 r1 r2 r3 k0 k1 k2 k3
    obtain ⟨r0, r1, r2, r3, k0, k1, k2, k3⟩ := twoRules b24
    cases hka : rOk p s o t
    · go_wp2_with fail
      refine (HSp.out _).mono ?_
      rintro e w5 ⟨rfl, b5⟩
      go_wp2
      go_ret
      exact ⟨rfl, belStep B1.out (belStep b24 b5)⟩
    · have hkb : rOk p' s' o' t' = false := by simpa [hka] using hk
      go_wp2_with fail
      refine (sRuleOk_any _ _ hm7' _ _ _).mono ?_
      rintro e w5 ⟨rfl, b5⟩
      rw [hkb]
      have b25 := belStep b24 b5
      clear r0 r1 r2 r3 k0 k1 k2 k3
      obtain ⟨r0, r1, r2, r3, k0, k1, k2, k3⟩ := twoRules b25
      go_wp2_with fail
      refine (HSp.out _).mono ?_
      rintro e w6 ⟨rfl, b6⟩
      go_wp2
      go_ret
      exact ⟨rfl, belStep B1.out (belStep b25 b6)⟩
  · obtain ⟨hka, hkb⟩ : rOk p s o t = true ∧ rOk p' s' o' t' = true := by simpa using hk
    have e0 : cmpR p s o t p' s' o' t' = rCmp p s o t p' s' o' t' := by rw [cmpR, hk]; rfl
    have e1 : cmpR p' s' o' t' p s o t = - rCmp p s o t p' s' o' t' := by rw [cmpR, hka, hkb]; exact rCmp_swap _ _ _ _ _ _ _ _
    rw [e0] at HI HSp
    rw [e1] at HBk
    have hz := rCmp_zero hka hkb
    have h3 := rCmp_three p s o t p' s' o' t'
    have HD : rCmp p s o t p' s' o' t' = if p' < p then -1 else if p < p' then 1 else cmpB (rTxt p s o t) (rTxt p' s' o' t') := rfl
    have HT := Lib.hid (iRuleText_yes p s o t hka)
    have HT' := Lib.hid (iRuleText_yes p' s' o' t' hkb)
    have eL : Op.bytesLess (rTxt p s o t).toList (rTxt p' s' o' t').toList = decide (cmpB (rTxt p s o t) (rTxt p' s' o' t') = -1) := by
      rw [Lib.toList_data, Lib.toList_data]
      exact cb_less _ _
    have HZ : Hid (rCmp p s o t p' s' o' t' = 0 ↔ p = p' ∧ s = s' ∧ o = o' ∧ t = t') := hz
    have HFIN : Hid ((rCmp p s o t p' s' o' t' = -1 ∧ p' < p) ∨ (rCmp p s o t p' s' o' t' = -1 ∧ p' = p ∧ Op.bytesLess (rTxt p s o t).toList (rTxt p' s' o' t').toList = true) ∨ rCmp p s o t p' s' o' t' = 0 ∨ (rCmp p s o t p' s' o' t' = 1 ∧ p < p') ∨ (rCmp p s o t p' s' o' t' = 1 ∧ p' = p ∧ Op.bytesLess (rTxt p s o t).toList (rTxt p' s' o' t').toList = false)) := by
      show _
      rw [eL]
      by_cases h1 : p' < p
      · rw [if_pos h1] at HD
        exact .inl ⟨HD, h1⟩
      rw [if_neg h1] at HD
      by_cases h2 : p < p'
      · rw [if_pos h2] at HD
        exact .inr (.inr (.inr (.inl ⟨HD, h2⟩)))
      rw [if_neg h2] at HD
      have hp : p' = p := by omega
      rcases h3 with h | h | h
      · exact .inr (.inl ⟨h, hp, by rw [← HD, h]; rfl⟩)
      · exact .inr (.inr (.inl h))
      · exact .inr (.inr (.inr (.inr ⟨h, hp, by rw [← HD, h]; rfl⟩)))
    clear hz hk e0 e1 eL HD h3
    generalize rCmp p s o t p' s' o' t' = n at *
    generalize rTxt p s o t = T1 at *
    generalize rTxt p' s' o' t' = T2 at *
    go_wp2_with fail
    refine (HI.out _ HE1.out).mono ?_
    rintro e w2 ⟨rfl, b2⟩
    obtain ⟨r0, r1, r2, r3, k0, k1, k2, k3⟩ := twoRules b2
    go_wp2_with fail
    refine (HSp.out _).mono ?_
    rintro e w3 ⟨rfl, b3⟩
    have b23 := belStep b2 b3
    clear r0 r1 r2 r3 k0 k1 k2 k3
    obtain ⟨r0, r1, r2, r3, k0, k1, k2, k3⟩ := twoRules b23
    go_wp2_with fail
    refine (sRuleOk_any _ _ hm7 _ _ _).mono ?_
    rintro e w4 ⟨rfl, b4⟩
    rw [hka]
    have b24 := belStep b23 b4
    clear r0 r1 r2 r3 k0 k1 k2 k3
    obtain ⟨r0, r1, r2, r3, k0, k1, k2, k3⟩ := twoRules b24
    go_wp2_with fail
    refine (sRuleOk_any _ _ hm7' _ _ _).mono ?_
    rintro e w5 ⟨rfl, b5⟩
    rw [hkb]
    have b25 := belStep b24 b5
    clear r0 r1 r2 r3 k0 k1 k2 k3
    obtain ⟨r0, r1, r2, r3, k0, k1, k2, k3⟩ := twoRules b25
    have HE5 : Hid (EtOk w5) := HE1.out.below b25
    have s5 := b25.size
    simp at s5
    have l0 : w1.heap.size < w5.heap.size := by omega
    have l1 : w1.heap.size + 1 < w5.heap.size := by omega
    have q0 := fun m : Ext w5 => m.cell l0 r0
    have q1 := fun m : Ext w5 => m.cell l0 r1
    have q2 := fun m : Ext w5 => m.cell l0 r2
    have q3 := fun m : Ext w5 => m.cell l0 r3
    have q4 := fun m : Ext w5 => m.cell l1 k0
    have q5 := fun m : Ext w5 => m.cell l1 k1
    have q6 := fun m : Ext w5 => m.cell l1 k2
    have q7 := fun m : Ext w5 => m.cell l1 k3
    have BD := Lib.hid (belStep B1.out b25)
    clear b2 b3 b4 b5 b23 b24 b25 r0 r1 r2 r3 k0 k1 k2 k3 HI HSp hka hkb hm7 hm7' hm HB HE HE1 B1 s5
    go_wp2
    rcases HFIN.out with ⟨rfl, hp⟩ | ⟨rfl, rfl, hL⟩ | rfl | ⟨rfl, hp⟩ | ⟨rfl, rfl, hL⟩
    · have hpp : ¬ p ≤ p' := by omega
      have hpb : (p != p') = true := by simp; omega
      have hpe : (p == p') = false := by simp; omega
      clear HZ HFIN hp
      refine wp_region_ext (w0 := w5) (by kernel_rfl) (by kernel_rfl) (Below.refl _ _) ?_
      repeat (go_big_quiet_step (first | (go_at_call 29; exact ext_of (HBk.out _ (HE5.out.below (Ext.h _)))) | (go_at_call 15; first | with_reducible exact ext_of (HT.out _) | with_reducible exact ext_of (HT'.out _))))
      refine wpQuiet_nil ?_
      rintro _ ⟨⟨w6, b6⟩, rfl⟩
      go_wp2
      go_ret
      exact ⟨rfl, belStep BD.out b6⟩
    · have hne : ¬ (s = s' ∧ o = o' ∧ t = t') := fun h => absurd (HZ.out.2 ⟨rfl, h⟩) (by decide)
      clear HZ HFIN
      by_cases hs : s = s'
      · subst hs
        by_cases ho : o = o'
        · subst ho
          have ht : ¬ t = t' := fun h => hne ⟨rfl, rfl, h⟩
          clear hne
          refine wp_region_ext (w0 := w5) (by kernel_rfl) (by kernel_rfl) (Below.refl _ _) ?_
          repeat (go_big_quiet_step (first | (go_at_call 29; exact ext_of (HBk.out _ (HE5.out.below (Ext.h _)))) | (go_at_call 15; first | with_reducible exact ext_of (HT.out _) | with_reducible exact ext_of (HT'.out _))))
          refine wpQuiet_nil ?_
          rintro _ ⟨⟨w6, b6⟩, rfl⟩
          go_wp2
          go_ret
          exact ⟨rfl, belStep BD.out b6⟩
        · clear hne
          refine wp_region_ext (w0 := w5) (by kernel_rfl) (by kernel_rfl) (Below.refl _ _) ?_
          repeat (go_big_quiet_step (first | (go_at_call 29; exact ext_of (HBk.out _ (HE5.out.below (Ext.h _)))) | (go_at_call 15; first | with_reducible exact ext_of (HT.out _) | with_reducible exact ext_of (HT'.out _))))
          refine wpQuiet_nil ?_
          rintro _ ⟨⟨w6, b6⟩, rfl⟩
          go_wp2
          go_ret
          exact ⟨rfl, belStep BD.out b6⟩
      · have hsl := toList_ne hs
        clear hne hs
        refine wp_region_ext (w0 := w5) (by kernel_rfl) (by kernel_rfl) (Below.refl _ _) ?_
        repeat (go_big_quiet_step (first | (go_at_call 29; exact ext_of (HBk.out _ (HE5.out.below (Ext.h _)))) | (go_at_call 15; first | with_reducible exact ext_of (HT.out _) | with_reducible exact ext_of (HT'.out _))))
        refine wpQuiet_nil ?_
        rintro _ ⟨⟨w6, b6⟩, rfl⟩
        go_wp2
        go_ret
        exact ⟨rfl, belStep BD.out b6⟩
    · obtain ⟨rfl, rfl, rfl, rfl⟩ := HZ.out.1 rfl
      clear HZ HFIN
      refine wp_region_ext (w0 := w5) (by kernel_rfl) (by kernel_rfl) (Below.refl _ _) ?_
      repeat (go_big_quiet_step (first | (go_at_call 29; exact ext_of (HBk.out _ (HE5.out.below (Ext.h _)))) | (go_at_call 15; first | with_reducible exact ext_of (HT.out _) | with_reducible exact ext_of (HT'.out _))))
      refine wpQuiet_nil ?_
      rintro _ ⟨⟨w6, b6⟩, rfl⟩
      go_wp2
      go_ret
      exact ⟨rfl, belStep BD.out b6⟩
    · have hpp : p ≤ p' := by omega
      have hpb : (p != p') = true := by simp; omega
      have hpe : (p == p') = false := by simp; omega
      clear HZ HFIN hp
      refine wp_region_ext (w0 := w5) (by kernel_rfl) (by kernel_rfl) (Below.refl _ _) ?_
      repeat (go_big_quiet_step (first | (go_at_call 29; exact ext_of (HBk.out _ (HE5.out.below (Ext.h _)))) | (go_at_call 15; first | with_reducible exact ext_of (HT.out _) | with_reducible exact ext_of (HT'.out _))))
      refine wpQuiet_nil ?_
      rintro _ ⟨⟨w6, b6⟩, rfl⟩
      go_wp2
      go_ret
      exact ⟨rfl, belStep BD.out b6⟩
    · have hne : ¬ (s = s' ∧ o = o' ∧ t = t') := fun h => absurd (HZ.out.2 ⟨rfl, h⟩) (by decide)
      clear HZ HFIN
      by_cases hs : s = s'
      · subst hs
        by_cases ho : o = o'
        · subst ho
          have ht : ¬ t = t' := fun h => hne ⟨rfl, rfl, h⟩
          clear hne
          refine wp_region_ext (w0 := w5) (by kernel_rfl) (by kernel_rfl) (Below.refl _ _) ?_
          repeat (go_big_quiet_step (first | (go_at_call 29; exact ext_of (HBk.out _ (HE5.out.below (Ext.h _)))) | (go_at_call 15; first | with_reducible exact ext_of (HT.out _) | with_reducible exact ext_of (HT'.out _))))
          refine wpQuiet_nil ?_
          rintro _ ⟨⟨w6, b6⟩, rfl⟩
          go_wp2
          go_ret
          exact ⟨rfl, belStep BD.out b6⟩
        · clear hne
          refine wp_region_ext (w0 := w5) (by kernel_rfl) (by kernel_rfl) (Below.refl _ _) ?_
          repeat (go_big_quiet_step (first | (go_at_call 29; exact ext_of (HBk.out _ (HE5.out.below (Ext.h _)))) | (go_at_call 15; first | with_reducible exact ext_of (HT.out _) | with_reducible exact ext_of (HT'.out _))))
          refine wpQuiet_nil ?_
          rintro _ ⟨⟨w6, b6⟩, rfl⟩
          go_wp2
          go_ret
          exact ⟨rfl, belStep BD.out b6⟩
      · have hsl := toList_ne hs
        clear hne hs
        refine wp_region_ext (w0 := w5) (by kernel_rfl) (by kernel_rfl) (Below.refl _ _) ?_
        repeat (go_big_quiet_step (first | (go_at_call 29; exact ext_of (HBk.out _ (HE5.out.below (Ext.h _)))) | (go_at_call 15; first | with_reducible exact ext_of (HT.out _) | with_reducible exact ext_of (HT'.out _))))
        refine wpQuiet_nil ?_
        rintro _ ⟨⟨w6, b6⟩, rfl⟩
        go_wp2
        go_ret
        exact ⟨rfl, belStep BD.out b6⟩

set_option maxRecDepth 100000 in
theorem contract_FnRuleCmp (H : Type) (enc : TypeId × Value → H) (W : World) (base : Nat) (args : Array Value) (ds gs : List (DataW H)) (before : List MemPlace)
    (hval : ∀ (j : Nat) t v, Tryd.f6.params[j]? = some t → args[j]? = some v → Value.okWide Tryd.prog W .any base t v)
    (hW : DataW.Whole enc Tryd.prog Tryd.f6.params.toList Rows.fnRuleCmpSpec.vars false W args.toList ds gs before) (hE : EtOk W) :
    Calls Tryd.prog 6 args W fun e W' => ∃ v, e = .returned v ∧ Rows.fnRuleCmpSpec.post enc Tryd.prog Tryd.f6 false true false false W args v W' := by
  have hW' := hW
  obtain ⟨p, q, hA0, hV, rfl, hfz, hnd⟩ := hW
  have hA : DataW.TrodAll enc Tryd.prog W 0 (fun _ => true) true Tryd.f6.params.toList args.toList ds p := hA0
  rw [Tryd.params6] at hA hval
  obtain ⟨v0, vs0, d0, ds0, p0, q0, hargs, rfl, rfl, h0, r0⟩ := trodAll_cons hA
  obtain ⟨rfl, rfl, rfl⟩ := trodAll_nil r0
  obtain rfl : args = #[v0] := by cases args; simp_all
  obtain ⟨rfl, rfl⟩ := trodVars_none hV
  have k0 := h0
  have lt0 : ∀ x ∈ p0, x.block < W.heap.size := by obtain ⟨m, hm⟩ := k0; exact DataW.trod_lt m _ _ _ hm
  obtain ⟨a0, len0, cap0, rfl⟩ := okWide_slice Tryd.underlying22 (hval 0 22 v0 rfl rfl)
  have w0 : BytesIn W W.heap.size a0 len0 cap0 := isRow_of h0
  clear hA0
  refine (walk_FnRuleCmp a0 len0 cap0 W w0 hE).mono fun e W' ⟨he, bel⟩ => ?_
  subst he
  exact ⟨_, rfl, _, _, _, [], _, [], hW', trodAll_mk1 (shut_bool Tryd.underlying4 _), (trodAll_cons_mk (Below.trod laidOut (by kernel_rfl) (of_decide_eq_true (by kernel_rfl)) k0 bel lt0) (trodAll_mk0)), rfl, bel.frame _, fun h => by cases h⟩

/-- A world for the witness: the settled one, with the listed variables as the text lays them. -/
noncomputable def laidWorld_FnRuleCmp (os : Os) : World :=
  { World.holding Tryd.prog os ⟨#[], #[], []⟩ with heap := (((((World.holding Tryd.prog os ⟨#[], #[], []⟩).heap).modify 3 (fun | .cells _ t frozen => .cells #[.int .u8 0, .int .u8 1, .int .u8 28, .int .u8 2, .int .u8 29, .int .u8 14, .int .u8 24, .int .u8 3, .int .u8 30, .int .u8 22, .int .u8 20, .int .u8 15, .int .u8 25, .int .u8 17, .int .u8 4, .int .u8 8, .int .u8 31, .int .u8 27, .int .u8 13, .int .u8 23, .int .u8 21, .int .u8 19, .int .u8 16, .int .u8 7, .int .u8 26, .int .u8 12, .int .u8 18, .int .u8 6, .int .u8 11, .int .u8 5, .int .u8 10, .int .u8 9] t frozen | o => o)).modify 4 (fun | .cells _ t frozen => .cells #[.int .u8 0, .int .u8 1, .int .u8 56, .int .u8 2, .int .u8 57, .int .u8 49, .int .u8 28, .int .u8 3, .int .u8 61, .int .u8 58, .int .u8 42, .int .u8 50, .int .u8 38, .int .u8 29, .int .u8 17, .int .u8 4, .int .u8 62, .int .u8 47, .int .u8 59, .int .u8 36, .int .u8 45, .int .u8 43, .int .u8 51, .int .u8 22, .int .u8 53, .int .u8 39, .int .u8 33, .int .u8 30, .int .u8 24, .int .u8 18, .int .u8 12, .int .u8 5, .int .u8 63, .int .u8 55, .int .u8 48, .int .u8 27, .int .u8 60, .int .u8 41, .int .u8 37, .int .u8 16, .int .u8 46, .int .u8 35, .int .u8 44, .int .u8 21, .int .u8 52, .int .u8 32, .int .u8 23, .int .u8 11, .int .u8 54, .int .u8 26, .int .u8 40, .int .u8 15, .int .u8 34, .int .u8 20, .int .u8 31, .int .u8 10, .int .u8 25, .int .u8 14, .int .u8 19, .int .u8 9, .int .u8 13, .int .u8 8, .int .u8 7, .int .u8 6] t frozen | o => o)).modify 2 (fun | .cells _ t frozen => .cells #[.int .u64 1, .int .u64 10, .int .u64 100, .int .u64 1000, .int .u64 10000, .int .u64 100000, .int .u64 1000000, .int .u64 10000000, .int .u64 100000000, .int .u64 1000000000, .int .u64 10000000000, .int .u64 100000000000, .int .u64 1000000000000, .int .u64 10000000000000, .int .u64 100000000000000, .int .u64 1000000000000000, .int .u64 10000000000000000, .int .u64 100000000000000000, .int .u64 1000000000000000000, .int .u64 10000000000000000000] t frozen | o => o)).modify 0 (fun | .cells _ t frozen => .cells #[.iface 122 (.agg #[.pointer (some ⟨7, 60, none⟩)])] t frozen | o => o) }

theorem laidMet_FnRuleCmp (os : Os) : laidMetH Tryd.prog Rows.fnRuleCmpRow.laid ((laidWorld_FnRuleCmp os).forCall (fun _ _ => 0) ⟨#[], #[.slice none 0 0], []⟩).memory :=
  laidMetH_of_parts (laidMet_of_run' 8 (by kernel_rfl) (by kernel_rfl)) (by kernel_rfl)

theorem reads_FnRuleCmp (os : Os) {H : Type} (enc : TypeId × Value → H) : ∃ places, DataW.whole enc Tryd.prog ((laidWorld_FnRuleCmp os).forCall (fun _ _ => 0) ⟨#[], #[.slice none 0 0], []⟩).memory Tryd.f6.params.toList Rows.fnRuleCmpSpec.vars false (#[.slice none 0 0] : Array Value).toList 8 = some ([.nil], [], places) :=
  ⟨[], by kernel_rfl⟩

set_option maxRecDepth 100000 in
theorem lifted_FnRuleCmp (os : Os) (started : os.Started) (H : Type) (enc : TypeId × Value → H) (F : Stop.Interp) :
    ReturnsInHanded {} Tryd.checked os 6 .any ((OpenSpec.ofChange Rows.fnRuleCmpSpec).preRow enc Tryd.prog Tryd.f6 Rows.fnRuleCmpRow.domain false Rows.fnRuleCmpRow.laid) (((OpenSpec.ofChange Rows.fnRuleCmpSpec).at F).post enc Tryd.prog Tryd.f6 false true false false) := by
  obtain ⟨places, hx⟩ := reads_FnRuleCmp os enc
  refine returnsInHanded_of_row (C := Tryd.checked) (s := OpenSpec.ofChange Rows.fnRuleCmpSpec) own started (by kernel_rfl) Tryd.func6
    (witness_row_at (enc := enc) (C := Tryd.checked) false (laidWorld_FnRuleCmp os) #[.slice none 0 0] rfl (by kernel_rfl) (by kernel_rfl) (by kernel_rfl)
      (OpenSpec.preRow_of_cond 8 hx (by kernel_rfl) (fun k hk => by cases hk) (by kernel_rfl) (laidMet_FnRuleCmp os))) ?_
  intro W base args ds gs before hval hW _ _ _ hL _ _
  exact contract_FnRuleCmp H enc W base args ds gs before hval hW (etOk_of hL (by simp [Rows.fnRuleCmpRow]))

theorem said_FnRuleCmp : Rows.FnRuleCmpSaid :=
  OpenClaim.holds_of_cond 6 Tryd.f6 rfl rfl rfl rfl rfl rfl rfl ⟨rfl, rfl, rfl, rfl, rfl⟩ rfl rfl rfl rfl rfl (by kernel_rfl) Tryd.func6 (by kernel_rfl)
    (of_decide_eq_true (by kernel_rfl)) (by unfold Func.isWrapper; first | (rw [if_pos (by decide +kernel)]; kernel_rfl) | (rw [if_neg (by decide +kernel)]; exact ⟨rfl, rfl⟩))
    (fun os started H enc _ F => by rw [OpenClaim.pre_eq_preRow]; exact lifted_FnRuleCmp os started H enc F)

theorem plain_FnRuleCmp (f : FuncId) (fn : Func) (hf : Tryd.pinned.checked.prog.funcNamed "loop.example/crossbuck/laws.FnRuleCmp" = some f) (hfn : Tryd.pinned.checked.prog.funcs[f]? = some fn) :
    true = Tryd.pinned.checked.prog.looks [] ∧ ∀ (j : Nat) t, fn.params[j]? = some t → Tryd.pinned.checked.prog.wantsStandIn t = false := by
  obtain rfl : f = 6 := Option.some.inj ((show Tryd.prog.funcNamed "loop.example/crossbuck/laws.FnRuleCmp" = some 6 by kernel_rfl).symm.trans hf) |>.symm
  obtain rfl : fn = Tryd.f6 := (Option.some.inj (Tryd.func6.symm.trans hfn)).symm
  refine ⟨by kernel_rfl, fun j t ht => ?_⟩
  rw [Tryd.params6] at ht
  obtain rfl : t = 22 := by simpa using Array.mem_of_getElem? ht
  exact (show Tryd.prog.wantsStandIn 22 = false by kernel_rfl)

theorem proved_FnRuleCmp : Rows.FnRuleCmpCardSaid :=
  Claim7.holds_tied_plain_at .later [] _ _ _ _ said_FnRuleCmp (fun _ h => by cases h) (by kernel_rfl) (fun _ h => by cases h) fnRuleCmp_row_tie rfl ⟨rfl, rfl⟩ (by kernel_rfl) rfl plain_FnRuleCmp (by kernel_rfl)

end Go.Proofs.YtlbbhiigfgegeaaDoor
