/-
  What RuleRead returns, the model's, of twelve bytes that do not end with a stroke.
-/
import Derived.Test.YtlbbhiigfgegeaaDoorRuleReadS0
import Derived.Deep.RegionHeld3
import Derived.Laws.Strings3
namespace Go.Proofs.YtlbbhiigfgegeaaDoor
open Go.ChangeShapes Go.WideShapes Go.ChangeAt Go.RowKit Go.Joins
set_option linter.unusedVariables false

set_option maxRecDepth 100000 in
set_option maxHeartbeats 40000000 in
theorem sRuleRead_digit (s : ByteArray) (h12 : s.size = 12) (m : ByteArray) (hmm : s.extract 2 8 = m) (x0 x9 x11 : Int) (h0 : ((byA s 0).toNat : Int) = x0) (h9 : ((byA s 9).toNat : Int) = x9) (hb : ((byA s 11).toNat : Int) = x11) (hne : x11 ≠ 45) (w : World) :
    Calls Tryd.prog 20 #[.string s] w fun e w' => e = .returned (bif (rT (x0 - 48) m (x9 - 48) (x11 - 48)).toList == s.toList then someS (x0 - 48) m (x9 - 48) (x11 - 48) else noneS) ∧ Below w.heap.size w w' := by
  have g0 : (((s[0]'(by omega)).toNat : Nat) : Int) = x0 := by rw [← h0, byA_get]
  have g9 : (((s[9]'(by omega)).toNat : Nat) : Int) = x9 := by rw [← h9, byA_get]
  have g11 : (((s[11]'(by omega)).toNat : Nat) : Int) = x11 := by rw [← hb, byA_get]
  have hne' : (x11 == 45) = false := by simpa using hne
  have l11 : 0 ≤ x11 ∧ x11 ≤ 255 := by have := (byA s 11).toNat_lt; omega
  have v11 : IntKind.i64.wrap x11 = x11 := wrapI (by omega) (by omega)
  have u11 : IntKind.i64.wrap (x11 - 48) = x11 - 48 := wrapI (by omega) (by omega)
  have l0 : 0 ≤ x0 ∧ x0 ≤ 255 := by have := (byA s 0).toNat_lt; omega
  have l9 : 0 ≤ x9 ∧ x9 ≤ 255 := by have := (byA s 9).toNat_lt; omega
  have w8 : IntKind.i64.wrap 8 = 8 := by decide
  have w9 : IntKind.i64.wrap 9 = 9 := by decide
  have w11 : IntKind.i64.wrap 11 = 11 := by decide
  have v0 : IntKind.i64.wrap x0 = x0 := wrapI (by omega) (by omega)
  have v9 : IntKind.i64.wrap x9 = x9 := wrapI (by omega) (by omega)
  have u0 : IntKind.i64.wrap (x0 - 48) = x0 - 48 := wrapI (by omega) (by omega)
  have u9 : IntKind.i64.wrap (x9 - 48) = x9 - 48 := wrapI (by omega) (by omega)
  have hm : m.size ≤ 1048576 := by rw [← hmm, ByteArray.size_extract]; omega
  have hsl : ∀ w : World, (Instr.slice 9 (.string s) (some (.int .i64 2)) (some (.int .i64 8)) none).run Tryd.prog w = .ok (.string m) w := fun w => by
    simp [Instr.slice, Instr.sliceBounds, Instr.sliceBound, asIntOf, run_underlying Tryd.underlying9, h12, hmm]
  have HT := Lib.hid (sRuleText_any (x0 - 48) m hm (x9 - 48) (x11 - 48))
  clear h0 h9 hb hne hmm
  generalize rT (x0 - 48) m (x9 - 48) (x11 - 48) = T at HT ⊢
  have b0 := Lib.hid (below_alloc2 w (.cells #[.int .i64 0, .string ⟨#[]⟩, .int .i64 0, .int .i64 0] 24) (.cells #[.int .i64 (x0 - 48), .string m, .int .i64 (x9 - 48), .int .i64 (x11 - 48)] 24))
  cases hk : (T.toList == s.toList)
  · simp only [cond_false]
    unfold noneS
    go_enter Tryd.func20, Tryd.ntmps20
    go_wp2
    go_region_held3 (fun w' => True) (trivial) (first | (fail))
    all_goals
      go_wp2_with fail
      refine (HT.out _).mono ?_
      rintro e w2 ⟨rfl, b2⟩
      have b2' := ((Below.refl _ _).drew).trans b2
      obtain ⟨z0, z1, z2, z3, r0, r1, r2, r3⟩ := twoR b2'
      have zf := twoRF b2'
      have HB : Hid (Below w.heap.size w w2) := b0.out.trans (b2'.mono (by simp; omega))
      clear b2 b2'
      go_wp2
      exact bodyPost_ret (v := .tuple #[.agg #[.int .i64 0, .string ⟨#[]⟩, .int .i64 0, .int .i64 0], .bool false]) (by simp [results, Tryd.results20, go_sem, z0, z1, z2, z3]) rfl
        ⟨rfl, by repeat (first | refine Below.setCell ?_ (by dsimp only; omega) _ | exact HB.out)⟩
  · simp only [cond_true]
    unfold someS
    go_enter Tryd.func20, Tryd.ntmps20
    go_wp2
    go_region_held3 (fun w' => True) (trivial) (first | (fail))
    all_goals
      go_wp2_with fail
      refine (HT.out _).mono ?_
      rintro e w2 ⟨rfl, b2⟩
      have b2' := ((Below.refl _ _).drew).trans b2
      obtain ⟨z0, z1, z2, z3, r0, r1, r2, r3⟩ := twoR b2'
      have zf := twoRF b2'
      have HB : Hid (Below w.heap.size w w2) := b0.out.trans (b2'.mono (by simp; omega))
      clear b2 b2'
      go_wp2
      exact bodyPost_ret (v := .tuple #[.agg #[.int .i64 (x0 - 48), .string m, .int .i64 (x9 - 48), .int .i64 (x11 - 48)], .bool true]) (by simp [results, Tryd.results20, go_sem, z0, z1, z2, z3]) rfl
        ⟨rfl, by repeat (first | refine Below.setCell ?_ (by dsimp only; omega) _ | exact HB.out)⟩

end Go.Proofs.YtlbbhiigfgegeaaDoor
