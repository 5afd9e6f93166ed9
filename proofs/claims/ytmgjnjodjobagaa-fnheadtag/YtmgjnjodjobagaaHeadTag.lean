/-
  Proved: promise 5 (a tag is changed, and nothing else), at every two codes from which the head and the tags are drawn; the codes read on as they did. No condition.
-/
import Derived.Test.YtmgjnjodjobagaaDrawHead
namespace Go.Proofs.Ytmgjnjodjobagaa
open Go.ChangeShapes Go.WideShapes Go.ChangeAt Go.RowKit Go.Joins
set_option linter.unusedVariables false

/-- A head and a tag are drawn from a code. -/
def TagCoded (w : World) (e : Ending) (w' : World) : Prop := ∃ a b c t : Int, Near a b c ∧ -1 ≤ t ∧ t ≤ 4 ∧ e = .returned (.tuple #[.agg #[.int .i64 a, .int .i64 b, .int .i64 c], .int .i64 t]) ∧ Below w.heap.size w w'

set_option maxHeartbeats 400000 in
theorem drawHeadTag_any (w : World) (a : Option Addr) (len cap : Nat) (hb : BytesIn w w.heap.size a len cap) :
    Calls Try.prog 20 #[.slice a len cap] w (TagCoded w) := by
  have HB := Lib.hid ((hb.keep (w' := w.alloc (.cells #[.int .i64 0, .int .i64 0, .int .i64 0] 25)) (fun k hk => Below.heap_alloc _ _ _ hk)).up (g' := w.heap.size + 1) (by omega))
  clear hb
  go_enter Try.func20, Try.ntmps20
  go_wp2_with fail
  refine (open_any _ _ _ _ (by simpa using HB.out)).mono ?_
  rintro e w1 ⟨rfl, hr, b1⟩
  have HR := Lib.hid hr
  have s1 := hr.lt
  clear hr
  simp at s1
  go_wp2_with fail
  refine (l91Head_any _ _ _ (by simpa using HR.out) (by omega)).mono ?_
  rintro e w2 ⟨x, y, z, hn, rfl, hr2, g2⟩
  have HN := Lib.hid hn
  have HR2 := Lib.hid hr2
  have s2 := g2.size
  clear hr2 hn
  have r1 : Hid (w1.heap[w.heap.size]? = some (.cells #[.int .i64 0, .int .i64 0, .int .i64 0] 25)) := (b1.block _ (by simp)).trans (newBlock w _)
  go_wp2_with fail
  refine (pick_any _ _ _ _ HR2.out (by omega) (by omega)).mono ?_
  rintro e w3 ⟨v, v0, v1, rfl, hr3, g3⟩
  clear hr3
  obtain ⟨ra, rb, rc, rf⟩ := trip_cells ((g3.block _ (by omega) (someNe (by omega))).trans ((g2.block _ (by omega) (someNe (by omega))).trans r1.out))
  go_wp2
  exact bodyPost_ret (v := .tuple #[.agg #[.int .i64 x, .int .i64 y, .int .i64 z], .int .i64 (v - 1)]) (by simp [results, Try.results20, go_sem, ra, rb, rc]) rfl
    ⟨x, y, z, v - 1, HN.out, by omega, by omega, rfl, ((((((below_alloc1 _ _).trans (b1.mono (by simp))).trans (gBel g2 (by omega) (by omega))).trans (gBel g3 (by omega) (by omega))).setCell (Nat.le_refl _) _).setCell (Nat.le_refl _) _).setCell (Nat.le_refl _) _⟩

set_option maxRecDepth 100000 in
set_option maxHeartbeats 2000000 in
theorem walk_FnHeadTag (a : Option Addr) (len cap : Nat) (a' : Option Addr) (len' cap' : Nat) (w : World) (hb : BytesIn w w.heap.size a len cap) (hb' : BytesIn w w.heap.size a' len' cap') :
    Calls Try.prog 5 #[.slice a len cap, .slice a' len' cap'] w fun e w' => e = .returned (.bool true) ∧ Below w.heap.size w w' := by
  have HB := Lib.hid hb
  have hm : (len : Int) ≤ maxLen := by have := hb.1; have := hb.2.1; omega
  have hm' : (len' : Int) ≤ maxLen := by have := hb'.1; have := hb'.2.1; omega
  unfold maxLen at hm hm'
  clear hb hb'
  by_cases hlen : (1048576 : Int) < (len : Int)
  · go_enter Try.func5, Try.ntmps5
    go_wp2
    go_ret
    exact ⟨rfl, Below.refl _ _⟩
  have hl1 : decide ((1048576 : Int) < (len : Int)) = false := by simp; omega
  have hl1n : decide ((1048576 : Nat) < len) = false := by simp; omega
  by_cases hlen' : (1048576 : Int) < (len' : Int)
  · go_enter Try.func5, Try.ntmps5
    go_wp2
    go_ret
    exact ⟨rfl, Below.refl _ _⟩
  have hl2 : decide ((1048576 : Int) < (len' : Int)) = false := by simp; omega
  have hl2n : decide ((1048576 : Nat) < len') = false := by simp; omega
  have l0 : (0 : Int) ≤ (len' : Int) := Int.natCast_nonneg _
  go_enter Try.func5, Try.ntmps5
  go_wp2_with fail
  refine (drawHeadTag_any _ _ _ _ HB.out).mono ?_
  rintro e w1 ⟨x, y, z, t, hn, t0, t1, rfl, b1⟩
  clear hn
  have s1 := b1.size
  by_cases hv : okB x y z = true ∧ fldB t = true
  · obtain ⟨hk, ht⟩ := hv
    have ho : Hid (fldB ((len' : Int) % 4) = true) := fldB_mk (by omega) (by omega)
    have hz : Hid (fldB z = true) := fldB_mk (okB_true hk).2.2.1 (okB_true hk).2.2.2
    have hkt : Hid (okB x y t = true) := okB_mk (okB_true hk).1.1 (okB_true hk).1.2 (okB_true hk).2.1.1 (okB_true hk).2.1.2 (fldB_true ht).1 (fldB_true ht).2
    go_wp2_with fail
    refine (sHeadTag_yes _ _ _ _ hk ht _).mono ?_
    rintro e w2 ⟨rfl, b2⟩
    have c2 := belCell b2
    have s2 := b2.size
    simp at s2
    have z2 : w1.heap.size < w2.heap.size := by omega
    go_wp2_with fail
    refine (iHeadTag_yes _ _ _ _ hk ht _).mono ?_
    rintro e w3 ⟨rfl, b3⟩
    have c3 := belCell b3
    have s3 := b3.size
    simp at s3
    have z3 : w1.heap.size < w3.heap.size := by omega
    have z23 : w2.heap.size < w3.heap.size := by omega
    go_wp2_with fail
    refine (iHeadTag_yes _ _ _ _ hkt.out ho.out _).mono ?_
    rintro e w4 ⟨rfl, b4⟩
    have c4 := belCell b4
    have s4 := b4.size
    simp at s4
    have z4 : w1.heap.size < w4.heap.size := by omega
    have z24 : w2.heap.size < w4.heap.size := by omega
    have z34 : w3.heap.size < w4.heap.size := by omega
    go_wp2_with fail
    refine (iHeadTag_yes _ _ _ _ hk ho.out _).mono ?_
    rintro e w5 ⟨rfl, b5⟩
    have c5 := belCell b5
    have s5 := b5.size
    simp at s5
    have z5 : w1.heap.size < w5.heap.size := by omega
    have z35 : w3.heap.size < w5.heap.size := by omega
    have z45 : w4.heap.size < w5.heap.size := by omega
    go_wp2_with fail
    refine (iHeadTag_yes _ _ _ _ hk hz.out _).mono ?_
    rintro e w6 ⟨rfl, b6⟩
    have c6 := belCell b6
    have s6 := b6.size
    simp at s6
    have z6 : w1.heap.size < w6.heap.size := by omega
    have z36 : w3.heap.size < w6.heap.size := by omega
    have z46 : w4.heap.size < w6.heap.size := by omega
    have z56 : w5.heap.size < w6.heap.size := by omega
    go_wp2
    go_ret
    exact ⟨rfl, b1.trans (((Below.refl _ _).alloc (by omega) _).trans ((b2.mono (by simp; omega)).trans (((Below.refl _ _).alloc (by omega) _).trans ((b3.mono (by simp; omega)).trans (((Below.refl _ _).alloc (by omega) _).trans ((b4.mono (by simp; omega)).trans (((Below.refl _ _).alloc (by omega) _).trans ((b5.mono (by simp; omega)).trans (((Below.refl _ _).alloc (by omega) _).trans ((b6.mono (by simp; omega)).trans ((Below.refl _ _).alloc (by omega) _)))))))))))⟩
  · have hv' : Hid (okB x y z = false ∨ fldB t = false) := by
      show okB x y z = false ∨ fldB t = false
      cases hk : okB x y z
      · exact .inl rfl
      · right; cases ht : fldB t
        · rfl
        · exact absurd ⟨hk, ht⟩ hv
    clear hv
    go_wp2_with fail
    refine (sHeadTag_no _ _ _ _ hv'.out _).mono ?_
    rintro e w2 ⟨rfl, b2⟩
    have c2 := belCell b2
    have s2 := b2.size
    simp at s2
    have z2 : w1.heap.size < w2.heap.size := by omega
    go_wp2_with fail
    refine (iHeadTag_no _ _ _ _ hv'.out _).mono ?_
    rintro e w3 ⟨rfl, b3⟩
    have c3 := belCell b3
    have s3 := b3.size
    simp at s3
    have z3 : w1.heap.size < w3.heap.size := by omega
    have z23 : w2.heap.size < w3.heap.size := by omega
    go_wp2
    go_ret
    exact ⟨rfl, b1.trans (((Below.refl _ _).alloc (by omega) _).trans ((b2.mono (by simp; omega)).trans (((Below.refl _ _).alloc (by omega) _).trans ((b3.mono (by simp; omega)).trans ((Below.refl _ _).alloc (by omega) _)))))⟩

set_option maxRecDepth 100000 in
theorem lifted_FnHeadTag (os : Os) (started : os.Started) (H : Type) (enc : TypeId × Value → H) :
    ReturnsInHanded {} Try.checked os 5 .any (Rows.fnHeadTagSpec.pre6 enc Try.prog Try.f5 Rows.fnHeadTagRow.domain false) (Rows.fnHeadTagSpec.post enc Try.prog Try.f5 false true false false) := by
  refine returnsInHanded_of_change (C := Try.checked) own started (by kernel_rfl) Try.func5
    (ChangeSpec.witness6 (enc := enc) (C := Try.checked) false ⟨#[], #[.slice none 0 0, .slice none 0 0], []⟩ 8 (by kernel_rfl) (by kernel_rfl) (by kernel_rfl) (by kernel_rfl)) ?_
  intro W base args ds gs before hval0 hW hcnd _
  have hval : ∀ (j : Nat) t v, Try.f5.params[j]? = some t → args[j]? = some v → Value.okWide Try.prog W .any base t v := hval0
  have hW' := hW
  obtain ⟨p, q, hA0, hV, rfl, hfz, hnd⟩ := hW
  have hA : DataW.TrodAll enc Try.prog W 0 (fun _ => true) true Try.f5.params.toList args.toList ds p := hA0
  rw [Try.params5] at hA hval
  obtain ⟨v0, vs0, d0, ds0, p0, q0, hargs, rfl, rfl, h0, r0⟩ := trodAll_cons hA
  obtain ⟨v1, vs1, d1, ds1, p1, q1, rfl, rfl, rfl, h1, r1⟩ := trodAll_cons r0
  obtain ⟨rfl, rfl, rfl⟩ := trodAll_nil r1
  obtain rfl : args = #[v0, v1] := by cases args; simp_all
  obtain ⟨rfl, rfl⟩ := trodVars_none hV
  have k0 := h0
  have lt0 : ∀ x ∈ p0, x.block < W.heap.size := by obtain ⟨m, hm⟩ := k0; exact DataW.trod_lt m _ _ _ hm
  have k1 := h1
  have lt1 : ∀ x ∈ p1, x.block < W.heap.size := by obtain ⟨m, hm⟩ := k1; exact DataW.trod_lt m _ _ _ hm
  obtain ⟨a0, len0, cap0, rfl⟩ := okWide_slice Try.underlying22 (hval 0 22 v0 rfl rfl)
  have w0 : BytesIn W W.heap.size a0 len0 cap0 := isRow_of h0
  obtain ⟨a1, len1, cap1, rfl⟩ := okWide_slice Try.underlying22 (hval 1 22 v1 rfl rfl)
  have w1 : BytesIn W W.heap.size a1 len1 cap1 := isRow_of h1
  clear hA0 hval0
  refine (walk_FnHeadTag a0 len0 cap0 a1 len1 cap1 W w0 w1).mono fun e W' ⟨he, bel⟩ => ?_
  subst he
  exact ⟨_, rfl, _, _, _, [], _, [], hW', trodAll_mk1 (shut_bool Try.underlying4 _), (trodAll_cons_mk (Below.trod laidOut (by kernel_rfl) (of_decide_eq_true (by kernel_rfl)) k0 bel lt0) (trodAll_cons_mk (Below.trod laidOut (by kernel_rfl) (of_decide_eq_true (by kernel_rfl)) k1 bel lt1) (trodAll_mk0))), rfl, bel.frame _, fun h => by cases h⟩

theorem over_FnHeadTag : Rows.fnHeadTagRow.holds Try.pinned (OpenSpec.ofChange Rows.fnHeadTagSpec) :=
  OpenClaim.holds_of_wide 5 Try.f5 rfl rfl rfl rfl rfl rfl rfl ⟨rfl, rfl, rfl, rfl, rfl⟩ rfl rfl rfl rfl rfl (by kernel_rfl) Try.func5 (by kernel_rfl)
    (of_decide_eq_true (by kernel_rfl)) (by unfold Func.isWrapper; first | (rw [if_pos (by decide +kernel)]; kernel_rfl) | (rw [if_neg (by decide +kernel)]; exact ⟨rfl, rfl⟩))
    (fun os started H enc _ => lifted_FnHeadTag os started H enc)

theorem proved_FnHeadTag : Rows.FnHeadTagSaid := over_FnHeadTag

end Go.Proofs.Ytmgjnjodjobagaa
