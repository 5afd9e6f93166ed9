/-
  Proved: ConfOk answers as its model at every slice of tables, and writes into no argument; the tables read on as they did. No condition but the card's own: the listed variables of the library stand as its text lays them.
-/
import Derived.Test.YtdncnoloffafbaaDoorRuleCard
import Derived.Test.YtdncnoloffafbaaDoorConfOkI
namespace Go.Proofs.YtdncnoloffafbaaDoor
open Go.ChangeShapes Go.WideShapes Go.ChangeAt Go.RowKit Go.Joins
set_option linter.unusedVariables false

theorem Cfs.cb {w w' : World} {v : Value} {L : List (List R4)} (h : Cfs w w.heap.size v L) (hb : Below w.heap.size w w') : Cfs w' w'.heap.size v L := (h.below hb (Nat.le_refl _)).mono hb.size

set_option maxRecDepth 100000 in
set_option maxHeartbeats 2000000 in
theorem walk_FnExactConfOk (v : Value) (n : Nat) (ms : Nat → Nat) (f : Nat → Nat → Int × ByteArray × Int × Int) (w : World) (hr : RawF w w.heap.size v n ms f) (hz : ∀ i, i < n → ∀ j, j < ms i → (f i j).2.1.size ≤ maxLen) (hE : EtOk w) :
    Calls Tryd.prog 3 #[v] w fun e w' => e = .returned (.bool true) ∧ Below w.heap.size w w' := by
  have HE := Lib.hid hE
  have HSZ := Lib.hid (szRuleSS_any w v n 1048576 ms f hr hz (Nat.le_refl _))
  have HW : Hid ((∀ i, i < n → ∀ j, j < ms i → (f i j).2.1.size ≤ 1048576) → ∀ W, Below w.heap.size w W → Cfs W W.heap.size v ((List.range n).map (smallF ms f))) := fun hs W hb => ((hr.below hb (Nat.le_refl _)).mono hb.size).cfs hs
  have hl : ((List.range n).map (smallF ms f)).length = n := by simp
  have hlt : (∀ i, i < n → ms i ≤ 1048576) → ∀ i, i < ((List.range n).map (smallF ms f)).length → (tbAt ((List.range n).map (smallF ms f)) i).length ≤ 1048576 := fun hm i hi => by
    have hi' : i < n := by rw [hl] at hi; exact hi
    have e : tbAt ((List.range n).map (smallF ms f)) i = smallF ms f i := by
      unfold tbAt
      rw [List.getD_eq_getElem?_getD, List.getElem?_eq_getElem hi]
      simp
    rw [e]
    simpa [smallF] using hm i hi'
  clear hr hz hE
  generalize (List.range n).map (smallF ms f) = l at *
  go_enter Tryd.func3, Tryd.ntmps3
  go_wp2_with fail
  refine HSZ.out.mono ?_
  rintro e w1 ⟨rfl | ⟨r, rfl, hr, hn, hsz⟩, b1⟩
  · go_wp2
    go_ret
    exact ⟨rfl, b1⟩
  have hr0 : ¬ ((r : Int) < 0) := by omega
  have HL := Lib.hid (HW.out fun i hi => (hsz i hi).2)
  have HLT := Lib.hid (hlt fun i hi => (hsz i hi).1)
  have B1 := Lib.hid b1
  have HN : Hid (l.length ≤ 1048576) := by show _ ≤ _; omega
  clear hsz b1 HSZ HW hl hn hlt
  go_wp2_with fail
  refine (toRuleSS_any _ _ l (HL.out _ B1.out) HN.out HLT.out).mono ?_
  rintro e w2 ⟨u, rfl, hrow, b2⟩
  have HR2 := Lib.hid hrow
  have B2 := Lib.hid (belStep B1.out b2)
  clear hrow b2 B1
  go_wp2_with fail
  refine (sConfOk_any _ _ l HR2.out HN.out HLT.out).mono ?_
  rintro e w3 ⟨rfl, b3⟩
  have B3 := Lib.hid (belStep B2.out b3)
  clear b3 B2 HR2
  go_wp2_with fail
  refine (toRuleSS_any _ _ l (HL.out _ B3.out) HN.out HLT.out).mono ?_
  rintro e w4 ⟨x, rfl, hrow, b4⟩
  have HX4 := Lib.hid hrow
  have B4 := Lib.hid (belStep B3.out b4)
  clear hrow b4 B3
  go_wp2_with fail
  refine (iConfOk_any _ _ l HX4.out HN.out HLT.out (HE.out.below B4.out)).mono ?_
  rintro e w5 ⟨rfl, b5⟩
  have HX5 := Lib.hid (HX4.out.cb b5)
  have B5 := Lib.hid (belStep B4.out b5)
  clear b5 B4 HX4
  generalize cfB l = ok
  go_wp2_with fail
  refine (toRuleSS_any _ _ l (HL.out _ B5.out) HN.out HLT.out).mono ?_
  rintro e w6 ⟨y, rfl, hrow, b6⟩
  have HX6 := Lib.hid (HX5.out.cb b6)
  have HY6 := Lib.hid hrow
  have B6 := Lib.hid (belStep B5.out b6)
  clear hrow b6 B5 HX5
  go_wp2_with fail
  refine (eqRuleSS_same _ _ _ l HX6.out HY6.out HN.out HLT.out).mono ?_
  rintro e w7 ⟨rfl, b7⟩
  go_wp2
  go_ret
  exact ⟨rfl, belStep B6.out b7⟩

set_option maxRecDepth 100000 in
theorem contract_FnExactConfOk (H : Type) (enc : TypeId × Value → H) (W : World) (base : Nat) (args : Array Value) (ds gs : List (DataW H)) (before : List MemPlace)
    (hval : ∀ (j : Nat) t v, Tryd.f3.params[j]? = some t → args[j]? = some v → Value.okWide Tryd.prog W .any base t v)
    (hW : DataW.Whole enc Tryd.prog Tryd.f3.params.toList Rows.fnExactConfOkSpec.vars false W args.toList ds gs before) (hE : EtOk W) :
    Calls Tryd.prog 3 args W fun e W' => ∃ v, e = .returned v ∧ Rows.fnExactConfOkSpec.post enc Tryd.prog Tryd.f3 false true false false W args v W' := by
  have hW' := hW
  obtain ⟨p, q, hA0, hV, rfl, hfz, hnd⟩ := hW
  have hA : DataW.TrodAll enc Tryd.prog W 0 (fun _ => true) true Tryd.f3.params.toList args.toList ds p := hA0
  rw [Tryd.params3] at hA hval
  obtain ⟨v0, vs0, d0, ds0, p0, q0, hargs, rfl, rfl, h0, r0⟩ := trodAll_cons hA
  obtain ⟨rfl, rfl, rfl⟩ := trodAll_nil r0
  obtain rfl : args = #[v0] := by cases args; simp_all
  obtain ⟨rfl, rfl⟩ := trodVars_none hV
  have k0 := h0
  have lt0 : ∀ x ∈ p0, x.block < W.heap.size := by obtain ⟨m, hm⟩ := k0; exact DataW.trod_lt m _ _ _ hm
  obtain ⟨n0, m0, f0, w0, z0⟩ := conf_of h0 (okWide_slice Tryd.underlying22 (hval 0 22 v0 rfl rfl))
  clear hA0
  refine (walk_FnExactConfOk v0 n0 m0 f0 W w0 z0 hE).mono fun e W' ⟨he, bel⟩ => ?_
  subst he
  exact ⟨_, rfl, _, _, _, [], _, [], hW', trodAll_mk1 (shut_bool Tryd.underlying4 _), (trodAll_cons_mk (Below.trod laidOut (by kernel_rfl) (of_decide_eq_true (by kernel_rfl)) k0 bel lt0) (trodAll_mk0)), rfl, bel.frame _, fun h => by cases h⟩

/-- A world for the witness: the settled one, with the listed variables as the text lays them. -/
noncomputable def laidWorld_FnExactConfOk (os : Os) : World :=
  { World.holding Tryd.prog os ⟨#[], #[], []⟩ with heap := (((((World.holding Tryd.prog os ⟨#[], #[], []⟩).heap).modify 3 (fun | .cells _ t frozen => .cells #[.int .u8 0, .int .u8 1, .int .u8 28, .int .u8 2, .int .u8 29, .int .u8 14, .int .u8 24, .int .u8 3, .int .u8 30, .int .u8 22, .int .u8 20, .int .u8 15, .int .u8 25, .int .u8 17, .int .u8 4, .int .u8 8, .int .u8 31, .int .u8 27, .int .u8 13, .int .u8 23, .int .u8 21, .int .u8 19, .int .u8 16, .int .u8 7, .int .u8 26, .int .u8 12, .int .u8 18, .int .u8 6, .int .u8 11, .int .u8 5, .int .u8 10, .int .u8 9] t frozen | o => o)).modify 4 (fun | .cells _ t frozen => .cells #[.int .u8 0, .int .u8 1, .int .u8 56, .int .u8 2, .int .u8 57, .int .u8 49, .int .u8 28, .int .u8 3, .int .u8 61, .int .u8 58, .int .u8 42, .int .u8 50, .int .u8 38, .int .u8 29, .int .u8 17, .int .u8 4, .int .u8 62, .int .u8 47, .int .u8 59, .int .u8 36, .int .u8 45, .int .u8 43, .int .u8 51, .int .u8 22, .int .u8 53, .int .u8 39, .int .u8 33, .int .u8 30, .int .u8 24, .int .u8 18, .int .u8 12, .int .u8 5, .int .u8 63, .int .u8 55, .int .u8 48, .int .u8 27, .int .u8 60, .int .u8 41, .int .u8 37, .int .u8 16, .int .u8 46, .int .u8 35, .int .u8 44, .int .u8 21, .int .u8 52, .int .u8 32, .int .u8 23, .int .u8 11, .int .u8 54, .int .u8 26, .int .u8 40, .int .u8 15, .int .u8 34, .int .u8 20, .int .u8 31, .int .u8 10, .int .u8 25, .int .u8 14, .int .u8 19, .int .u8 9, .int .u8 13, .int .u8 8, .int .u8 7, .int .u8 6] t frozen | o => o)).modify 2 (fun | .cells _ t frozen => .cells #[.int .u64 1, .int .u64 10, .int .u64 100, .int .u64 1000, .int .u64 10000, .int .u64 100000, .int .u64 1000000, .int .u64 10000000, .int .u64 100000000, .int .u64 1000000000, .int .u64 10000000000, .int .u64 100000000000, .int .u64 1000000000000, .int .u64 10000000000000, .int .u64 100000000000000, .int .u64 1000000000000000, .int .u64 10000000000000000, .int .u64 100000000000000000, .int .u64 1000000000000000000, .int .u64 10000000000000000000] t frozen | o => o)).modify 0 (fun | .cells _ t frozen => .cells #[.iface 97 (.agg #[.pointer (some ⟨5, 64, none⟩)])] t frozen | o => o) }

theorem laidMet_FnExactConfOk (os : Os) : laidMetH Tryd.prog Rows.fnExactConfOkRow.laid ((laidWorld_FnExactConfOk os).forCall (fun _ _ => 0) ⟨#[], #[.slice none 0 0], []⟩).memory :=
  laidMetH_of_parts (laidMet_of_run' 8 (by kernel_rfl) (by kernel_rfl)) (by kernel_rfl)

theorem reads_FnExactConfOk (os : Os) {H : Type} (enc : TypeId × Value → H) : ∃ places, DataW.whole enc Tryd.prog ((laidWorld_FnExactConfOk os).forCall (fun _ _ => 0) ⟨#[], #[.slice none 0 0], []⟩).memory Tryd.f3.params.toList Rows.fnExactConfOkSpec.vars false (#[.slice none 0 0] : Array Value).toList 8 = some ([.nil], [], places) :=
  ⟨[], by kernel_rfl⟩

set_option maxRecDepth 100000 in
theorem lifted_FnExactConfOk (os : Os) (started : os.Started) (H : Type) (enc : TypeId × Value → H) (F : Stop.Interp) :
    ReturnsInHanded {} Tryd.checked os 3 .any ((OpenSpec.ofChange Rows.fnExactConfOkSpec).preRow enc Tryd.prog Tryd.f3 Rows.fnExactConfOkRow.domain false Rows.fnExactConfOkRow.laid) (((OpenSpec.ofChange Rows.fnExactConfOkSpec).at F).post enc Tryd.prog Tryd.f3 false true false false) := by
  obtain ⟨places, hx⟩ := reads_FnExactConfOk os enc
  refine returnsInHanded_of_row (C := Tryd.checked) (s := OpenSpec.ofChange Rows.fnExactConfOkSpec) own started (by kernel_rfl) Tryd.func3
    (witness_row_at (enc := enc) (C := Tryd.checked) false (laidWorld_FnExactConfOk os) #[.slice none 0 0] rfl (by kernel_rfl) (by kernel_rfl) (by kernel_rfl)
      (OpenSpec.preRow_of_cond 8 hx (by kernel_rfl) (fun k hk => by cases hk) (by kernel_rfl) (laidMet_FnExactConfOk os))) ?_
  intro W base args ds gs before hval hW _ _ _ hL _ _
  exact contract_FnExactConfOk H enc W base args ds gs before hval hW (etOk_of hL (by simp [Rows.fnExactConfOkRow]))

theorem said_FnExactConfOk : Rows.FnExactConfOkSaid :=
  OpenClaim.holds_of_cond 3 Tryd.f3 rfl rfl rfl rfl rfl rfl rfl ⟨rfl, rfl, rfl, rfl, rfl⟩ rfl rfl rfl rfl rfl (by kernel_rfl) Tryd.func3 (by kernel_rfl)
    (of_decide_eq_true (by kernel_rfl)) (by unfold Func.isWrapper; first | (rw [if_pos (by decide +kernel)]; kernel_rfl) | (rw [if_neg (by decide +kernel)]; exact ⟨rfl, rfl⟩))
    (fun os started H enc _ F => by rw [OpenClaim.pre_eq_preRow]; exact lifted_FnExactConfOk os started H enc F)

theorem plain_FnExactConfOk (f : FuncId) (fn : Func) (hf : Tryd.pinned.checked.prog.funcNamed "loop.example/crossbuck/laws.FnExactConfOk" = some f) (hfn : Tryd.pinned.checked.prog.funcs[f]? = some fn) :
    true = Tryd.pinned.checked.prog.looks [] ∧ ∀ (j : Nat) t, fn.params[j]? = some t → Tryd.pinned.checked.prog.wantsStandIn t = false := by
  obtain rfl : f = 3 := Option.some.inj ((show Tryd.prog.funcNamed "loop.example/crossbuck/laws.FnExactConfOk" = some 3 by kernel_rfl).symm.trans hf) |>.symm
  obtain rfl : fn = Tryd.f3 := (Option.some.inj (Tryd.func3.symm.trans hfn)).symm
  refine ⟨by kernel_rfl, fun j t ht => ?_⟩
  rw [Tryd.params3] at ht
  obtain rfl : t = 22 := by simpa using Array.mem_of_getElem? ht
  exact (show Tryd.prog.wantsStandIn 22 = false by kernel_rfl)

theorem proved_FnExactConfOk : Rows.FnExactConfOkCardSaid :=
  Claim7.holds_tied_plain_at .later [] _ _ _ _ said_FnExactConfOk (fun _ h => by cases h) (by kernel_rfl) (fun _ h => by cases h) fnExactConfOk_row_tie rfl ⟨rfl, rfl⟩ (by kernel_rfl) rfl plain_FnExactConfOk (by kernel_rfl)

end Go.Proofs.YtdncnoloffafbaaDoor
