/-
  Proved: promise 6 (a head has three fields), at every code from which the head is drawn; the code reads on as it did. No condition but the card's own: the listed tables of the library stand as its text lays them (this proof reads none of them).
-/
import Derived.Test.YtmgjnjodjobagaaDoorCards
import Derived.Test.YtmgjnjodjobagaaDoorTie
import Derived.Test.YtmgjnjodjobagaaDoorItoa
import Derived.Test.YtmgjnjodjobagaaDoorDrawHead
import Derived.Deep.DeepHandedRow
namespace Go.Proofs.YtmgjnjodjobagaaDoor
open Go.ChangeShapes Go.WideShapes Go.ChangeAt Go.RowKit Go.Joins
set_option linter.unusedVariables false

/-- A head is drawn: its source from -1 to 4, its destination from 0 to 3, its tag from 0 to 4. -/
def OkCoded (w : World) (e : Ending) (w' : World) : Prop := ∃ a b c : Int, (-1 ≤ a ∧ a ≤ 4) ∧ (0 ≤ b ∧ b ≤ 3) ∧ (0 ≤ c ∧ c ≤ 4) ∧ e = .returned (.agg #[.int .i64 a, .int .i64 b, .int .i64 c]) ∧ Below w.heap.size w w'

set_option maxHeartbeats 400000 in
theorem drawHeadOk_any (w : World) (a : Option Addr) (len cap : Nat) (hb : BytesIn w w.heap.size a len cap) :
    Calls Tryd.prog 16 #[.slice a len cap] w (OkCoded w) := by
  have HB := Lib.hid ((hb.keep (w' := w.alloc (.cells #[.int .i64 0, .int .i64 0, .int .i64 0] 24)) (fun k hk => Below.heap_alloc _ _ _ hk)).up (g' := w.heap.size + 1) (by omega))
  clear hb
  go_enter Tryd.func16, Tryd.ntmps16
  go_wp2_with fail
  refine (open_any _ _ _ _ (by simpa using HB.out)).mono ?_
  rintro e w1 ⟨rfl, hr, b1⟩
  have HR := Lib.hid hr
  have s1 := hr.lt
  clear hr
  simp at s1
  have r1 : Hid (w1.heap[w.heap.size]? = some (.cells #[.int .i64 0, .int .i64 0, .int .i64 0] 24)) := (b1.block _ (by simp)).trans (newBlock w _)
  go_wp2_with fail
  refine (pick_any _ _ 0 _ (by simpa using HR.out) (by omega) (by omega)).mono ?_
  rintro e w2 ⟨u, u0, u1, rfl, hr2, g2⟩
  have HR2 := Lib.hid hr2
  have s2 := g2.size
  clear hr2
  go_wp2_with fail
  refine (pick_any _ _ _ _ HR2.out (by omega) (by omega)).mono ?_
  rintro e w3 ⟨v, v0, v1, rfl, hr3, g3⟩
  have HR3 := Lib.hid hr3
  have s3 := g3.size
  clear hr3
  go_wp2_with fail
  refine (pick_any _ _ _ _ HR3.out (by omega) (by omega)).mono ?_
  rintro e w4 ⟨x, x0, x1, rfl, hr4, g4⟩
  clear hr4
  have r4 := (g4.block _ (by omega) (someNe (by omega))).trans ((g3.block _ (by omega) (someNe (by omega))).trans ((g2.block _ (by omega) (someNe (by omega))).trans r1.out))
  obtain ⟨ra, rb, rc, rf⟩ := trip_cells r4
  clear r4
  go_wp2
  exact bodyPost_ret (v := .agg #[.int .i64 (u - 1), .int .i64 v, .int .i64 x]) (by simp [results, Tryd.results16, go_sem, ra, rb, rc]) rfl
    ⟨u - 1, v, x, by omega, by omega, by omega, rfl, (((((((below_alloc1 _ _).trans (b1.mono (by simp))).trans (gBel g2 (by omega) (by omega))).trans (gBel g3 (by omega) (by omega))).trans (gBel g4 (by omega) (by omega))).setCell (Nat.le_refl _) _).setCell (Nat.le_refl _) _).setCell (Nat.le_refl _) _⟩

set_option maxHeartbeats 1000000 in
theorem walk_FnHeadForm (a : Option Addr) (len cap : Nat) (w : World) (hb : BytesIn w w.heap.size a len cap) :
    Calls Tryd.prog 5 #[.slice a len cap] w fun e w' => e = .returned (.bool true) ∧ Below w.heap.size w w' := by
  have HB := Lib.hid hb
  have hm : (len : Int) ≤ maxLen := by have := hb.1; have := hb.2.1; omega
  unfold maxLen at hm
  clear hb
  by_cases hlen : (1048576 : Int) < (len : Int)
  · go_enter Tryd.func5, Tryd.ntmps5
    go_wp2
    go_ret
    exact ⟨rfl, Below.refl _ _⟩
  go_enter Tryd.func5, Tryd.ntmps5
  go_wp2_with fail
  refine (drawHeadOk_any _ _ _ _ HB.out).mono ?_
  rintro e w1 ⟨x, y, z, ⟨x0, x4⟩, ⟨y0, y3⟩, ⟨z0, z4⟩, rfl, b1⟩
  have s1 := b1.size
  go_wp2_with fail
  refine (iHeadOk_any _ _ _ _).mono ?_
  rintro e w2 ⟨rfl, b2⟩
  have c2 := belCell b2
  have s2 := b2.size
  simp at s2
  have z2 : w1.heap.size < w2.heap.size := by omega
  go_wp2_with fail
  refine (sHeadOk_any _ _ _ _).mono ?_
  rintro e w3 ⟨rfl, b3⟩
  have c3 := belCell b3
  have s3 := b3.size
  have z3 : w1.heap.size < w3.heap.size := by omega
  have B3 : Hid (Below w.heap.size w w3) := b1.trans (((Below.refl _ _).alloc (by omega) _).trans ((b2.mono (by simp; omega)).trans (b3.mono (by omega))))
  by_cases hv : x ≤ 3 ∧ z ≤ 3 ∧ 0 ≤ x
  · obtain ⟨x3, z3', x0'⟩ := hv
    have hk : okB x y z = true := okB_mk x0' x3 y0 y3 z0 z3'
    have tl := textB_list x y z
    go_wp2_with fail
    refine (iHeadText_yes _ _ _ hk _).mono ?_
    rintro e w4 ⟨rfl, b4⟩
    go_wp2
    go_ret
    exact ⟨rfl, B3.out.trans (b4.mono (by omega))⟩
  · have hk : okB x y z = false := by
      unfold okB fldB
      by_cases h1 : 0 ≤ x
      · by_cases h2 : x ≤ 3
        · have h3 : ¬ z ≤ 3 := fun h => hv ⟨h2, h, h1⟩
          simp [h3]
        · simp [h2]
      · simp [h1]
    by_cases h1 : 0 ≤ x
    · by_cases h2 : x ≤ 3
      · have h3 : ¬ z ≤ 3 := fun h => hv ⟨h2, h, h1⟩
        have hd : decide (z ≤ 3) = false := by simpa using h3
        clear hv
        go_wp2_with fail
        refine (iHeadText_no _ _ _ hk _).mono ?_
        rintro e w4 ⟨rfl, b4⟩
        go_wp2
        go_ret
        exact ⟨rfl, B3.out.trans (b4.mono (by omega))⟩
      · have hd : decide (x ≤ 3) = false := by simpa using h2
        clear hv
        go_wp2_with fail
        refine (iHeadText_no _ _ _ hk _).mono ?_
        rintro e w4 ⟨rfl, b4⟩
        go_wp2
        go_ret
        exact ⟨rfl, B3.out.trans (b4.mono (by omega))⟩
    · have hd : decide (0 ≤ x) = false := by simpa using h1
      clear hv
      go_wp2_with fail
      refine (iHeadText_no _ _ _ hk _).mono ?_
      rintro e w4 ⟨rfl, b4⟩
      go_wp2
      go_ret
      exact ⟨rfl, B3.out.trans (b4.mono (by omega))⟩

theorem contract_FnHeadForm (H : Type) (enc : TypeId × Value → H) (W : World) (base : Nat) (args : Array Value) (ds gs : List (DataW H)) (before : List MemPlace)
    (hval : ∀ (j : Nat) t v, Tryd.f5.params[j]? = some t → args[j]? = some v → Value.okWide Tryd.prog W .any base t v)
    (hW : DataW.Whole enc Tryd.prog Tryd.f5.params.toList Rows.fnHeadFormSpec.vars false W args.toList ds gs before) :
    Calls Tryd.prog 5 args W fun e W' => ∃ v, e = .returned v ∧ Rows.fnHeadFormSpec.post enc Tryd.prog Tryd.f5 false true false false W args v W' := by
  have hW' := hW
  obtain ⟨p, q, hA0, hV, rfl, hfz, hnd⟩ := hW
  have hA : DataW.TrodAll enc Tryd.prog W 0 (fun _ => true) true Tryd.f5.params.toList args.toList ds p := hA0
  rw [Tryd.params5] at hA hval
  obtain ⟨v0, vs0, d0, ds0, p0, q0, hargs, rfl, rfl, h0, r0⟩ := trodAll_cons hA
  obtain ⟨rfl, rfl, rfl⟩ := trodAll_nil r0
  obtain rfl : args = #[v0] := by cases args; simp_all
  obtain ⟨rfl, rfl⟩ := trodVars_none hV
  have k0 := h0
  have lt0 : ∀ x ∈ p0, x.block < W.heap.size := by obtain ⟨m, hm⟩ := k0; exact DataW.trod_lt m _ _ _ hm
  obtain ⟨a0, len0, cap0, rfl⟩ := okWide_slice Tryd.underlying22 (hval 0 22 v0 rfl rfl)
  have w0 : BytesIn W W.heap.size a0 len0 cap0 := isRow_of h0
  clear hA0
  refine (walk_FnHeadForm a0 len0 cap0 W w0).mono fun e W' ⟨he, bel⟩ => ?_
  subst he
  exact ⟨_, rfl, _, _, _, [], _, [], hW', trodAll_mk1 (shut_bool Tryd.underlying4 _), (trodAll_cons_mk (Below.trod laidOut (by kernel_rfl) (of_decide_eq_true (by kernel_rfl)) k0 bel lt0) (trodAll_mk0)), rfl, bel.frame _, fun h => by cases h⟩

/-- A world for the witness: the settled one, with the listed variables as the text lays them. -/
noncomputable def laidWorld_FnHeadForm (os : Os) : World :=
  { World.holding Tryd.prog os ⟨#[], #[], []⟩ with heap := ((((World.holding Tryd.prog os ⟨#[], #[], []⟩).heap).modify 1 (fun | .cells _ t frozen => .cells #[.int .u8 0, .int .u8 1, .int .u8 28, .int .u8 2, .int .u8 29, .int .u8 14, .int .u8 24, .int .u8 3, .int .u8 30, .int .u8 22, .int .u8 20, .int .u8 15, .int .u8 25, .int .u8 17, .int .u8 4, .int .u8 8, .int .u8 31, .int .u8 27, .int .u8 13, .int .u8 23, .int .u8 21, .int .u8 19, .int .u8 16, .int .u8 7, .int .u8 26, .int .u8 12, .int .u8 18, .int .u8 6, .int .u8 11, .int .u8 5, .int .u8 10, .int .u8 9] t frozen | o => o)).modify 2 (fun | .cells _ t frozen => .cells #[.int .u8 0, .int .u8 1, .int .u8 56, .int .u8 2, .int .u8 57, .int .u8 49, .int .u8 28, .int .u8 3, .int .u8 61, .int .u8 58, .int .u8 42, .int .u8 50, .int .u8 38, .int .u8 29, .int .u8 17, .int .u8 4, .int .u8 62, .int .u8 47, .int .u8 59, .int .u8 36, .int .u8 45, .int .u8 43, .int .u8 51, .int .u8 22, .int .u8 53, .int .u8 39, .int .u8 33, .int .u8 30, .int .u8 24, .int .u8 18, .int .u8 12, .int .u8 5, .int .u8 63, .int .u8 55, .int .u8 48, .int .u8 27, .int .u8 60, .int .u8 41, .int .u8 37, .int .u8 16, .int .u8 46, .int .u8 35, .int .u8 44, .int .u8 21, .int .u8 52, .int .u8 32, .int .u8 23, .int .u8 11, .int .u8 54, .int .u8 26, .int .u8 40, .int .u8 15, .int .u8 34, .int .u8 20, .int .u8 31, .int .u8 10, .int .u8 25, .int .u8 14, .int .u8 19, .int .u8 9, .int .u8 13, .int .u8 8, .int .u8 7, .int .u8 6] t frozen | o => o)).modify 0 (fun | .cells _ t frozen => .cells #[.int .u64 1, .int .u64 10, .int .u64 100, .int .u64 1000, .int .u64 10000, .int .u64 100000, .int .u64 1000000, .int .u64 10000000, .int .u64 100000000, .int .u64 1000000000, .int .u64 10000000000, .int .u64 100000000000, .int .u64 1000000000000, .int .u64 10000000000000, .int .u64 100000000000000, .int .u64 1000000000000000, .int .u64 10000000000000000, .int .u64 100000000000000000, .int .u64 1000000000000000000, .int .u64 10000000000000000000] t frozen | o => o) }

theorem laidMet_FnHeadForm (os : Os) : laidMet Tryd.prog Rows.fnHeadFormRow.laid ((laidWorld_FnHeadForm os).forCall (fun _ _ => 0) ⟨#[], #[.slice none 0 0], []⟩).memory :=
  laidMet_of_run' 8 (by kernel_rfl) (by kernel_rfl)

theorem reads_FnHeadForm (os : Os) {H : Type} (enc : TypeId × Value → H) : ∃ places, DataW.whole enc Tryd.prog ((laidWorld_FnHeadForm os).forCall (fun _ _ => 0) ⟨#[], #[.slice none 0 0], []⟩).memory Tryd.f5.params.toList Rows.fnHeadFormSpec.vars false (#[.slice none 0 0] : Array Value).toList 8 = some ([.nil], [], places) :=
  ⟨[], by kernel_rfl⟩

set_option maxRecDepth 100000 in
theorem lifted_FnHeadForm (os : Os) (started : os.Started) (H : Type) (enc : TypeId × Value → H) (F : Stop.Interp) :
    ReturnsInHanded {} Tryd.checked os 5 .any ((OpenSpec.ofChange Rows.fnHeadFormSpec).preRow enc Tryd.prog Tryd.f5 Rows.fnHeadFormRow.domain false Rows.fnHeadFormRow.laid) (((OpenSpec.ofChange Rows.fnHeadFormSpec).at F).post enc Tryd.prog Tryd.f5 false true false false) := by
  obtain ⟨places, hx⟩ := reads_FnHeadForm os enc
  refine returnsInHanded_of_row (C := Tryd.checked) (s := OpenSpec.ofChange Rows.fnHeadFormSpec) own started (by kernel_rfl) Tryd.func5
    (witness_row_at (enc := enc) (C := Tryd.checked) false (laidWorld_FnHeadForm os) #[.slice none 0 0] rfl (by kernel_rfl) (by kernel_rfl) (by kernel_rfl)
      (OpenSpec.preRow_of_cond 8 hx (by kernel_rfl) (fun k hk => by cases hk) (by kernel_rfl) (laidMet_FnHeadForm os))) ?_
  intro W base args ds gs before hval hW _ _ _ hL _ _
  exact contract_FnHeadForm H enc W base args ds gs before hval hW

theorem said_FnHeadForm : Rows.FnHeadFormSaid :=
  OpenClaim.holds_of_cond 5 Tryd.f5 rfl rfl rfl rfl rfl rfl rfl ⟨rfl, rfl, rfl, rfl, rfl⟩ rfl rfl rfl rfl rfl (by kernel_rfl) Tryd.func5 (by kernel_rfl)
    (of_decide_eq_true (by kernel_rfl)) (by unfold Func.isWrapper; first | (rw [if_pos (by decide +kernel)]; kernel_rfl) | (rw [if_neg (by decide +kernel)]; exact ⟨rfl, rfl⟩))
    (fun os started H enc _ F => by rw [OpenClaim.pre_eq_preRow]; exact lifted_FnHeadForm os started H enc F)

theorem plain_FnHeadForm (f : FuncId) (fn : Func) (hf : Tryd.pinned.checked.prog.funcNamed "loop.example/crossbuck/laws.FnHeadForm" = some f) (hfn : Tryd.pinned.checked.prog.funcs[f]? = some fn) :
    false = Tryd.pinned.checked.prog.looks [] ∧ ∀ (j : Nat) t, fn.params[j]? = some t → Tryd.pinned.checked.prog.wantsStandIn t = false := by
  obtain rfl : f = 5 := Option.some.inj ((show Tryd.prog.funcNamed "loop.example/crossbuck/laws.FnHeadForm" = some 5 by kernel_rfl).symm.trans hf) |>.symm
  obtain rfl : fn = Tryd.f5 := (Option.some.inj (Tryd.func5.symm.trans hfn)).symm
  refine ⟨by kernel_rfl, fun j t ht => ?_⟩
  rw [Tryd.params5] at ht
  obtain rfl : t = 22 := by simpa using Array.mem_of_getElem? ht
  exact (show Tryd.prog.wantsStandIn 22 = false by kernel_rfl)

theorem proved_FnHeadForm : Rows.FnHeadFormCardSaid :=
  Claim7.holds_tied_plain_at .later [] _ _ _ _ said_FnHeadForm (fun _ h => by cases h) (by kernel_rfl) (fun _ h => by cases h) fnHeadForm_row_tie rfl ⟨rfl, rfl⟩ (by kernel_rfl) rfl plain_FnHeadForm (by kernel_rfl)

end Go.Proofs.YtmgjnjodjobagaaDoor
