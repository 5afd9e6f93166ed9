/-
  Proved: promise 45 (a rule that is dropped is not there), at every code from which the table and the rule are drawn; the code reads on as it did. No condition but the card's own: the listed variables of the library stand as its text lays them.
-/
import Derived.Test.YtahobeigbjhbbaaGreatDoorRuleCard
import Derived.Test.YtahobeigbjhbbaaGreatDoorOwnB
import Derived.Test.YtahobeigbjhbbaaGreatDoorTabPD
import Derived.Test.YtahobeigbjhbbaaGreatDoorTabDr
import Derived.Test.YtahobeigbjhbbaaGreatDoorTabOkI
namespace Go.Proofs.YtahobeigbjhbbaaGreatDoor
open Go.ChangeShapes Go.WideShapes Go.ChangeAt Go.RowKit Go.Joins
set_option linter.unusedVariables false

set_option maxRecDepth 100000 in
set_option maxHeartbeats 8000000 in
theorem walk_FnTableDrop (a : Option Addr) (len cap : Nat) (w : World) (hb : BytesIn w w.heap.size a len cap) (hE : EtOk w) :
    Calls Tryz.prog 4 #[.slice a len cap] w fun e w' => e = .returned (.bool true) ∧ Below w.heap.size w w' := by
  have HB := Lib.hid hb
  have HE := Lib.hid hE
  have hm : (len : Int) ≤ maxLen := by have := hb.1; have := hb.2.1; omega
  unfold maxLen at hm
  clear hb hE
  by_cases hlen : (1048576 : Int) < (len : Int)
  · go_enter Tryz.func4, Tryz.ntmps4
    go_wp2
    go_ret
    exact ⟨rfl, Below.refl _ _⟩
  go_enter Tryz.func4, Tryz.ntmps4
  go_wp2_with fail
  refine (drawTableDrop_any _ _ _ _ HB.out).mono ?_
  rintro e w1 ⟨v, l, r, rfl, hl, hx, b1⟩
  have s1 := b1.size
  have hl' : l.length ≤ 1048576 := by omega
  have B1 : Hid (Below w.heap.size w (w1.alloc (.cells #[.int .i64 r.p, .string r.s, .int .i64 r.o, .int .i64 r.t] 25))) := b1.alloc s1 _
  have HX0 : Hid (Rls (w1.alloc (.cells #[.int .i64 r.p, .string r.s, .int .i64 r.o, .int .i64 r.t] 25)) (w1.alloc (.cells #[.int .i64 r.p, .string r.s, .int .i64 r.o, .int .i64 r.t] 25)).heap.size v l) := (hx.below (below_alloc1 _ _)).rls
  have C0 := Lib.hid (newBlockM w1 (.cells #[.int .i64 r.p, .string r.s, .int .i64 r.o, .int .i64 r.t] 25))
  clear hx b1
  obtain ⟨va, vc, rfl⟩ : ∃ va vc, v = .slice va l.length vc := by
    obtain ⟨va, vc, rfl, -⟩ := HX0.out
    exact ⟨va, vc, rfl⟩
  have HSP := Lib.hid (fun W h => sTableDrop_any W (.slice va l.length vc) l h hl' r)
  have HIP := Lib.hid (fun W h => iTableDrop_all W (.slice va l.length vc) l h hl' r)
  have HTO := Lib.hid (fun W h => sTableOk_any W (.slice va l.length vc) l h hl')
  have HRO := Lib.hid (sRuleOk_any r.p r.s r.hs r.o r.t)
  have HLH := Lib.hid (fun W h => lxHas_any W (.slice va l.length vc) l r h hl')
  have hpl : (dropT r l).length ≤ 49 := by have := dropT_len r l; omega
  obtain ⟨d, hd⟩ : ∃ d, dropO r l = d := ⟨_, rfl⟩
  obtain ⟨T, hT⟩ : ∃ T, dropT r l = T := ⟨_, rfl⟩
  rw [hT] at hpl
  rw [hd, hT] at HSP HIP
  have HD := Lib.hid hd
  have HTT := Lib.hid hT
  clear hd hT
  go_wp2_with fail
  generalize hW : w1.alloc (.cells #[.int .i64 r.p, .string r.s, .int .i64 r.o, .int .i64 r.t] 25) = W at *
  have zW : w1.heap.size < W.heap.size := by rw [← hW]; simp
  clear hW
  have HQ : Hid (∀ W', Below W.heap.size W W' → Four W' w1.heap.size 0 r) := fun W' hb => fourOf ((hb.block _ zW).trans C0.out)
  have HX : Hid (∀ W', Below W.heap.size W W' → Rls W' W'.heap.size (.slice va l.length vc) l) := fun W' hb => (HX0.out.below hb (Nat.le_refl _)).mono hb.size
  have BW : Hid (∀ W', Below W.heap.size W W' → Below w.heap.size w W') := fun W' hb => B1.out.trans (hb.mono B1.out.size)
  generalize w1.heap.size = h at *
  clear C0 HX0 B1
  refine (HSP.out _ (HX.out _ (Below.refl _ _))).mono ?_
  rintro e w2 ⟨u, rfl, hrow, b2⟩
  have HU := Lib.hid hrow
  have B := Lib.hid b2
  have HQ2 := Lib.hid (HQ.out _ b2)
  obtain ⟨q0, q1, q2, q3⟩ := HQ2.out
  simp only [Nat.zero_add] at q1 q2 q3
  clear hrow b2 HQ2
  go_wp2_with fail
  refine (HIP.out _ (HX.out _ B.out) (HE.out.below (BW.out _ B.out))).mono ?_
  rintro e w3 ⟨x, rfl, hrow, b3⟩
  have HXX := Lib.hid hrow
  obtain ⟨xa, xc, rfl⟩ : ∃ xa xc, x = .slice xa T.length xc := by
    obtain ⟨xa, xc, rfl, -⟩ := hrow.rls
    exact ⟨xa, xc, rfl⟩
  replace HU := Lib.hid (HU.out.below b3)
  replace B := Lib.hid (belStep B.out b3)
  clear hrow b3 q0 q1 q2 q3 HSP HIP
  have HLX := Lib.hid (fun W h h' => lxRules_same W (.slice xa T.length xc) u T h h' (by omega))
  cases hk : (tOk l && okR r)
  · have hd : d = false := by rw [← HD.out]; unfold dropO; rw [hk]; rfl
    subst hd
    go_wp2_with fail
    refine (HLX.out _ HXX.out.rls HU.out.rls).mono ?_
    rintro e w4 ⟨rfl, b4⟩
    replace HXX := Lib.hid (HXX.out.below b4)
    replace HU := Lib.hid (HU.out.below b4)
    replace B := Lib.hid (belStep B.out b4)
    clear b4
    go_wp2_with fail
    refine (HTO.out _ (HX.out _ B.out)).mono ?_
    rintro e w5 ⟨rfl, b5⟩
    replace HXX := Lib.hid (HXX.out.below b5)
    replace HU := Lib.hid (HU.out.below b5)
    replace B := Lib.hid (belStep B.out b5)
    clear b5
    cases ht : tOk l
    · skip
      go_wp2_with fail
      refine (HLX.out _ HXX.out.rls HU.out.rls).mono ?_
      rintro e w6 ⟨rfl, b6⟩
      replace HXX := Lib.hid (HXX.out.below b6)
      replace HU := Lib.hid (HU.out.below b6)
      replace B := Lib.hid (belStep B.out b6)
      clear b6
      go_wp2
      go_ret
      exact ⟨rfl, BW.out _ B.out⟩
    · have ho : rOk r.p r.s r.o r.t = false := by rw [ht] at hk; exact hk
      obtain ⟨q0, q1, q2, q3⟩ := HQ.out _ B.out
      simp only [Nat.zero_add] at q1 q2 q3
      rw [ho] at HRO
      clear ho hk
      go_wp2_with fail
      refine (HRO.out _).mono ?_
      rintro e w6 ⟨rfl, b6⟩
      replace HXX := Lib.hid (HXX.out.below b6)
      replace HU := Lib.hid (HU.out.below b6)
      replace B := Lib.hid (belStep B.out b6)
      clear b6
      clear q0 q1 q2 q3
      go_wp2_with fail
      refine (HLX.out _ HXX.out.rls HU.out.rls).mono ?_
      rintro e w7 ⟨rfl, b7⟩
      replace HXX := Lib.hid (HXX.out.below b7)
      replace HU := Lib.hid (HU.out.below b7)
      replace B := Lib.hid (belStep B.out b7)
      clear b7
      go_wp2
      go_ret
      exact ⟨rfl, BW.out _ B.out⟩
  rw [Bool.and_eq_true] at hk
  obtain ⟨ht, ho⟩ := hk
  have ho' : rOk r.p r.s r.o r.t = true := ho
  rw [ht] at HTO
  rw [ho'] at HRO
  cases d
  · obtain ⟨e1, hor⟩ := dropO_no ht ho HD.out
    rw [HTT.out] at e1
    subst e1
    have HOR := Lib.hid hor
    clear hor ho ho' ht
    go_wp2_with fail
    refine (HLX.out _ HXX.out.rls HU.out.rls).mono ?_
    rintro e w4 ⟨rfl, b4⟩
    replace HXX := Lib.hid (HXX.out.below b4)
    replace HU := Lib.hid (HU.out.below b4)
    replace B := Lib.hid (belStep B.out b4)
    clear b4
    go_wp2_with fail
    refine (HTO.out _ (HX.out _ B.out)).mono ?_
    rintro e w5 ⟨rfl, b5⟩
    replace HXX := Lib.hid (HXX.out.below b5)
    replace HU := Lib.hid (HU.out.below b5)
    replace B := Lib.hid (belStep B.out b5)
    clear b5
    obtain ⟨q0, q1, q2, q3⟩ := HQ.out _ B.out
    simp only [Nat.zero_add] at q1 q2 q3
    go_wp2_with fail
    refine (HRO.out _).mono ?_
    rintro e w6 ⟨rfl, b6⟩
    replace HXX := Lib.hid (HXX.out.below b6)
    replace HU := Lib.hid (HU.out.below b6)
    replace B := Lib.hid (belStep B.out b6)
    clear b6
    clear q0 q1 q2 q3
    go_wp2_with fail
    refine (lxRules_same _ _ _ _ HXX.out.rls (HX.out _ B.out) hl').mono ?_
    rintro e w7 ⟨rfl, b7⟩
    replace HXX := Lib.hid (HXX.out.below b7)
    replace HU := Lib.hid (HU.out.below b7)
    replace B := Lib.hid (belStep B.out b7)
    clear b7
    obtain ⟨q0, q1, q2, q3⟩ := HQ.out _ B.out
    simp only [Nat.zero_add] at q1 q2 q3
    go_wp2_with fail
    refine (HLH.out _ (HX.out _ B.out) false (iff_of_false (by decide) HOR.out)).mono ?_
    rintro e w8 ⟨rfl, b8⟩
    replace HXX := Lib.hid (HXX.out.below b8)
    replace HU := Lib.hid (HU.out.below b8)
    replace B := Lib.hid (belStep B.out b8)
    clear b8
    clear q0 q1 q2 q3
    go_wp2
    go_ret
    exact ⟨rfl, BW.out _ B.out⟩
  · skip
    obtain ⟨-, -, hin⟩ := dropO_yes HD.out
    obtain ⟨k4, k5, k2, -⟩ := dropO_has ht ho hin
    obtain ⟨k1, k3⟩ := dropT_ok ht ho
    rw [HTT.out] at k1 k2 k3 k4 k5
    have HIN : Hid (r ∉ T) := fun e => ((k3 r).1 e).2 rfl
    have HDR := Lib.hid (fun W h => iTablePut_any W (.slice xa T.length xc) T h (by omega) r)
    rw [k4, k5] at HDR
    have HLX2 := Lib.hid (fun W h => lxHas_any W (.slice xa T.length xc) T r h (by omega) false (iff_of_false (by decide) HIN.out))
    have hln : ((T.length : Int) == (l.length : Int) - 1) = true := by simp; omega
    have HTX := Lib.hid (fun W h => iTableOk_any W (.slice xa T.length xc) T h (by omega))
    rw [k1] at HTX
    clear k1 k2 k3 k4 k5 ht ho ho' hin
    go_wp2_with fail
    refine (HLX.out _ HXX.out.rls HU.out.rls).mono ?_
    rintro e w4 ⟨rfl, b4⟩
    replace HXX := Lib.hid (HXX.out.below b4)
    replace HU := Lib.hid (HU.out.below b4)
    replace B := Lib.hid (belStep B.out b4)
    clear b4
    go_wp2_with fail
    refine (HTO.out _ (HX.out _ B.out)).mono ?_
    rintro e w5 ⟨rfl, b5⟩
    replace HXX := Lib.hid (HXX.out.below b5)
    replace HU := Lib.hid (HU.out.below b5)
    replace B := Lib.hid (belStep B.out b5)
    clear b5
    obtain ⟨q0, q1, q2, q3⟩ := HQ.out _ B.out
    simp only [Nat.zero_add] at q1 q2 q3
    go_wp2_with fail
    refine (HRO.out _).mono ?_
    rintro e w6 ⟨rfl, b6⟩
    replace HXX := Lib.hid (HXX.out.below b6)
    replace HU := Lib.hid (HU.out.below b6)
    replace B := Lib.hid (belStep B.out b6)
    clear b6
    clear q0 q1 q2 q3
    clear HU
    obtain ⟨q0, q1, q2, q3⟩ := HQ.out _ B.out
    simp only [Nat.zero_add] at q1 q2 q3
    go_wp2_with fail
    refine (HDR.out _ HXX.out.rls (HE.out.below (BW.out _ B.out))).mono ?_
    rintro e w7 ⟨y, rfl, hrow, b7⟩
    have HU := Lib.hid hrow
    clear hrow
    replace HXX := Lib.hid (HXX.out.below b7)
    replace B := Lib.hid (belStep B.out b7)
    clear b7
    clear q0 q1 q2 q3
    obtain ⟨q0, q1, q2, q3⟩ := HQ.out _ B.out
    simp only [Nat.zero_add] at q1 q2 q3
    go_wp2_with fail
    refine (HLX2.out _ HXX.out.rls).mono ?_
    rintro e w8 ⟨rfl, b8⟩
    replace HXX := Lib.hid (HXX.out.below b8)
    replace HU := Lib.hid (HU.out.below b8)
    replace B := Lib.hid (belStep B.out b8)
    clear b8
    clear q0 q1 q2 q3
    go_wp2_with fail
    refine (lxRules_same _ _ _ l HU.out.rls (HX.out _ B.out) hl').mono ?_
    rintro e w9 ⟨rfl, b9⟩
    replace HXX := Lib.hid (HXX.out.below b9)
    replace HU := Lib.hid (HU.out.below b9)
    replace B := Lib.hid (belStep B.out b9)
    clear b9
    go_wp2_with fail
    refine (HTX.out _ HXX.out.rls (HE.out.below (BW.out _ B.out))).mono ?_
    rintro e w10 ⟨rfl, b10⟩
    replace HXX := Lib.hid (HXX.out.below b10)
    replace HU := Lib.hid (HU.out.below b10)
    replace B := Lib.hid (belStep B.out b10)
    clear b10
    go_wp2
    go_ret
    exact ⟨rfl, BW.out _ B.out⟩

set_option maxRecDepth 100000 in
theorem contract_FnTableDrop (H : Type) (enc : TypeId × Value → H) (W : World) (base : Nat) (args : Array Value) (ds gs : List (DataW H)) (before : List MemPlace)
    (hval : ∀ (j : Nat) t v, Tryz.f4.params[j]? = some t → args[j]? = some v → Value.okWide Tryz.prog W .any base t v)
    (hW : DataW.Whole enc Tryz.prog Tryz.f4.params.toList Rows.fnTableDropSpec.vars false W args.toList ds gs before) (hE : EtOk W) :
    Calls Tryz.prog 4 args W fun e W' => ∃ v, e = .returned v ∧ Rows.fnTableDropSpec.post enc Tryz.prog Tryz.f4 false true false false W args v W' := by
  have hW' := hW
  obtain ⟨p, q, hA0, hV, rfl, hfz, hnd⟩ := hW
  have hA : DataW.TrodAll enc Tryz.prog W 0 (fun _ => true) true Tryz.f4.params.toList args.toList ds p := hA0
  rw [Tryz.params4] at hA hval
  obtain ⟨v0, vs0, d0, ds0, p0, q0, hargs, rfl, rfl, h0, r0⟩ := trodAll_cons hA
  obtain ⟨rfl, rfl, rfl⟩ := trodAll_nil r0
  obtain rfl : args = #[v0] := by cases args; simp_all
  obtain ⟨rfl, rfl⟩ := trodVars_none hV
  have k0 := h0
  have lt0 : ∀ x ∈ p0, x.block < W.heap.size := by obtain ⟨m, hm⟩ := k0; exact DataW.trod_lt m _ _ _ hm
  obtain ⟨a0, len0, cap0, rfl⟩ := okWide_slice Tryz.underlying22 (hval 0 22 v0 rfl rfl)
  have w0 : BytesIn W W.heap.size a0 len0 cap0 := isRow_of h0
  clear hA0
  refine (walk_FnTableDrop a0 len0 cap0 W w0 hE).mono fun e W' ⟨he, bel⟩ => ?_
  subst he
  exact ⟨_, rfl, _, _, _, [], _, [], hW', trodAll_mk1 (shut_bool Tryz.underlying4 _), (trodAll_cons_mk (Below.trod laidOut (by kernel_rfl) (of_decide_eq_true (by kernel_rfl)) k0 bel lt0) (trodAll_mk0)), rfl, bel.frame _, fun h => by cases h⟩

/-- A world for the witness: the settled one, with the listed variables as the text lays them. -/
noncomputable def laidWorld_FnTableDrop (os : Os) : World :=
  { World.holding Tryz.prog os ⟨#[], #[], []⟩ with heap := (((((World.holding Tryz.prog os ⟨#[], #[], []⟩).heap).modify 3 (fun | .cells _ t frozen => .cells #[.int .u8 0, .int .u8 1, .int .u8 28, .int .u8 2, .int .u8 29, .int .u8 14, .int .u8 24, .int .u8 3, .int .u8 30, .int .u8 22, .int .u8 20, .int .u8 15, .int .u8 25, .int .u8 17, .int .u8 4, .int .u8 8, .int .u8 31, .int .u8 27, .int .u8 13, .int .u8 23, .int .u8 21, .int .u8 19, .int .u8 16, .int .u8 7, .int .u8 26, .int .u8 12, .int .u8 18, .int .u8 6, .int .u8 11, .int .u8 5, .int .u8 10, .int .u8 9] t frozen | o => o)).modify 4 (fun | .cells _ t frozen => .cells #[.int .u8 0, .int .u8 1, .int .u8 56, .int .u8 2, .int .u8 57, .int .u8 49, .int .u8 28, .int .u8 3, .int .u8 61, .int .u8 58, .int .u8 42, .int .u8 50, .int .u8 38, .int .u8 29, .int .u8 17, .int .u8 4, .int .u8 62, .int .u8 47, .int .u8 59, .int .u8 36, .int .u8 45, .int .u8 43, .int .u8 51, .int .u8 22, .int .u8 53, .int .u8 39, .int .u8 33, .int .u8 30, .int .u8 24, .int .u8 18, .int .u8 12, .int .u8 5, .int .u8 63, .int .u8 55, .int .u8 48, .int .u8 27, .int .u8 60, .int .u8 41, .int .u8 37, .int .u8 16, .int .u8 46, .int .u8 35, .int .u8 44, .int .u8 21, .int .u8 52, .int .u8 32, .int .u8 23, .int .u8 11, .int .u8 54, .int .u8 26, .int .u8 40, .int .u8 15, .int .u8 34, .int .u8 20, .int .u8 31, .int .u8 10, .int .u8 25, .int .u8 14, .int .u8 19, .int .u8 9, .int .u8 13, .int .u8 8, .int .u8 7, .int .u8 6] t frozen | o => o)).modify 2 (fun | .cells _ t frozen => .cells #[.int .u64 1, .int .u64 10, .int .u64 100, .int .u64 1000, .int .u64 10000, .int .u64 100000, .int .u64 1000000, .int .u64 10000000, .int .u64 100000000, .int .u64 1000000000, .int .u64 10000000000, .int .u64 100000000000, .int .u64 1000000000000, .int .u64 10000000000000, .int .u64 100000000000000, .int .u64 1000000000000000, .int .u64 10000000000000000, .int .u64 100000000000000000, .int .u64 1000000000000000000, .int .u64 10000000000000000000] t frozen | o => o)).modify 0 (fun | .cells _ t frozen => .cells #[.iface 193 (.agg #[.pointer (some ⟨5, 130, none⟩)])] t frozen | o => o) }

theorem laidMet_FnTableDrop (os : Os) : laidMetH Tryz.prog Rows.fnTableDropRow.laid ((laidWorld_FnTableDrop os).forCall (fun _ _ => 0) ⟨#[], #[.slice none 0 0], []⟩).memory :=
  laidMetH_of_parts (laidMet_of_run' 8 (by kernel_rfl) (by kernel_rfl)) (by kernel_rfl)

theorem reads_FnTableDrop (os : Os) {H : Type} (enc : TypeId × Value → H) : ∃ places, DataW.whole enc Tryz.prog ((laidWorld_FnTableDrop os).forCall (fun _ _ => 0) ⟨#[], #[.slice none 0 0], []⟩).memory Tryz.f4.params.toList Rows.fnTableDropSpec.vars false (#[.slice none 0 0] : Array Value).toList 8 = some ([.nil], [], places) :=
  ⟨[], by kernel_rfl⟩

set_option maxRecDepth 100000 in
theorem lifted_FnTableDrop (os : Os) (started : os.Started) (H : Type) (enc : TypeId × Value → H) (F : Stop.Interp) :
    ReturnsInHanded {} Tryz.checked os 4 .any ((OpenSpec.ofChange Rows.fnTableDropSpec).preRow enc Tryz.prog Tryz.f4 Rows.fnTableDropRow.domain false Rows.fnTableDropRow.laid) (((OpenSpec.ofChange Rows.fnTableDropSpec).at F).post enc Tryz.prog Tryz.f4 false true false false) := by
  obtain ⟨places, hx⟩ := reads_FnTableDrop os enc
  refine returnsInHanded_of_row (C := Tryz.checked) (s := OpenSpec.ofChange Rows.fnTableDropSpec) own started (by kernel_rfl) Tryz.func4
    (witness_row_at (enc := enc) (C := Tryz.checked) false (laidWorld_FnTableDrop os) #[.slice none 0 0] rfl (by kernel_rfl) (by kernel_rfl) (by kernel_rfl)
      (OpenSpec.preRow_of_cond 8 hx (by kernel_rfl) (fun k hk => by cases hk) (by kernel_rfl) (laidMet_FnTableDrop os))) ?_
  intro W base args ds gs before hval hW _ _ _ hL _ _
  exact contract_FnTableDrop H enc W base args ds gs before hval hW (etOk_of hL (by simp [Rows.fnTableDropRow]))

theorem said_FnTableDrop : Rows.FnTableDropSaid :=
  OpenClaim.holds_of_cond 4 Tryz.f4 rfl rfl rfl rfl rfl rfl rfl ⟨rfl, rfl, rfl, rfl, rfl⟩ rfl rfl rfl rfl rfl (by kernel_rfl) Tryz.func4 (by kernel_rfl)
    (of_decide_eq_true (by kernel_rfl)) (by unfold Func.isWrapper; first | (rw [if_pos (by decide +kernel)]; kernel_rfl) | (rw [if_neg (by decide +kernel)]; exact ⟨rfl, rfl⟩))
    (fun os started H enc _ F => by rw [OpenClaim.pre_eq_preRow]; exact lifted_FnTableDrop os started H enc F)

theorem plain_FnTableDrop (f : FuncId) (fn : Func) (hf : Tryz.pinned.checked.prog.funcNamed "loop.example/crossbuck/laws.FnTableDrop" = some f) (hfn : Tryz.pinned.checked.prog.funcs[f]? = some fn) :
    true = Tryz.pinned.checked.prog.looks [] ∧ ∀ (j : Nat) t, fn.params[j]? = some t → Tryz.pinned.checked.prog.wantsStandIn t = false := by
  obtain rfl : f = 4 := Option.some.inj ((show Tryz.prog.funcNamed "loop.example/crossbuck/laws.FnTableDrop" = some 4 by kernel_rfl).symm.trans hf) |>.symm
  obtain rfl : fn = Tryz.f4 := (Option.some.inj (Tryz.func4.symm.trans hfn)).symm
  refine ⟨by kernel_rfl, fun j t ht => ?_⟩
  rw [Tryz.params4] at ht
  obtain rfl : t = 22 := by simpa using Array.mem_of_getElem? ht
  exact (show Tryz.prog.wantsStandIn 22 = false by kernel_rfl)

theorem proved_FnTableDrop : Rows.FnTableDropCardSaid :=
  Claim7.holds_tied_plain_at .later [] _ _ _ _ said_FnTableDrop (fun _ h => by cases h) (by kernel_rfl) (fun _ h => by cases h) fnTableDrop_row_tie rfl ⟨rfl, rfl⟩ (by kernel_rfl) rfl plain_FnTableDrop (by kernel_rfl)

end Go.Proofs.YtahobeigbjhbbaaGreatDoor
