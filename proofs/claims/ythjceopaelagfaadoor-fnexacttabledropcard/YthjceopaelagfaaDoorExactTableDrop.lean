/-
  Proved: TableDrop answers as its model at every argument; what it returns is its own, no argument is written, and the same call answers the same again. No condition but the card's own: the listed variables of the library stand as its text lays them.
-/
import Derived.Test.YthjceopaelagfaaDoorRuleCard
import Derived.Test.YthjceopaelagfaaDoorOwnB
import Derived.Test.YthjceopaelagfaaDoorRulMark
import Derived.Test.YthjceopaelagfaaDoorTabDropM
import Derived.Deep.RegionHeld3
namespace Go.Proofs.YthjceopaelagfaaDoor
open Go.ChangeShapes Go.WideShapes Go.ChangeAt Go.RowKit Go.Joins
set_option linter.unusedVariables false

set_option maxRecDepth 100000 in
set_option maxHeartbeats 8000000 in
theorem walk_FnExactTableDrop (v : Value) (n : Nat) (f : Nat → Int × ByteArray × Int × Int) (p : Int) (s : ByteArray) (o t : Int) (w : World) (hr : Raws w w.heap.size v n f) (hz : ∀ i, i < n → (f i).2.1.size ≤ maxLen) (wp : (Lit.int .i64 p).wf = true) (hs : s.size ≤ maxLen) (wo : (Lit.int .i64 o).wf = true) (wt : (Lit.int .i64 t).wf = true) (hE : EtOk w) :
    Calls Tryd.prog 4 #[v, .agg #[.int .i64 p, .string s, .int .i64 o, .int .i64 t]] w fun e w' => e = .returned (.bool true) ∧ Below w.heap.size w w' := by
  have HE := Lib.hid hE
  have HB0 : Hid (∀ W, Below (w.alloc (.cells #[.int .i64 p, .string s, .int .i64 o, .int .i64 t] 24)).heap.size (w.alloc (.cells #[.int .i64 p, .string s, .int .i64 o, .int .i64 t] 24)) W → Below w.heap.size w W ∧ w.heap.size < W.heap.size ∧ W.cell? ⟨w.heap.size, 0, none⟩ = some (.int .i64 p) ∧ W.cell? ⟨w.heap.size, 1, none⟩ = some (.string s) ∧ W.cell? ⟨w.heap.size, 2, none⟩ = some (.int .i64 o) ∧ W.cell? ⟨w.heap.size, 3, none⟩ = some (.int .i64 t)) := fun W hb => by
    have hs := hb.size
    simp at hs
    exact ⟨(below_alloc1 _ _).trans (hb.mono (by simp)), by omega, fourKept hb⟩
  have HSZ := Lib.hid (szRuleS_any (w.alloc (.cells #[.int .i64 p, .string s, .int .i64 o, .int .i64 t] 24)) v n 1048576 f ((hr.below (below_alloc1 w _) (Nat.le_refl _)).mono (below_alloc1 w (.cells #[.int .i64 p, .string s, .int .i64 o, .int .i64 t] 24)).size) hz (Nat.le_refl _))
  have HW : Hid ((∀ i, i < n → (f i).2.1.size ≤ 1048576) → ∀ W, Below w.heap.size w W → Rls W W.heap.size v ((List.range n).map (small f))) := fun hs W hb => ((hr.below hb (Nat.le_refl _)).mono hb.size).rls hs
  have hl : ((List.range n).map (small f)).length = n := by simp
  clear hr hz hE wp wo wt
  generalize (List.range n).map (small f) = l at *
  go_enter Tryd.func4, Tryd.ntmps4
  go_wp2_with fail
  refine HSZ.out.mono ?_
  rintro e w1 ⟨rfl | ⟨r, rfl, hr, hn, hsm⟩, b1⟩
  · go_wp2
    go_ret
    exact ⟨rfl, (HB0.out _ b1).1⟩
  have hr0 : ¬ ((r : Int) < 0) := by omega
  have HL := Lib.hid (HW.out hsm)
  have hlen : l.length ≤ 1048576 := by omega
  have B := Lib.hid b1
  have sz := b1.size
  simp at sz
  clear hsm b1 HSZ HW hl hn
  obtain ⟨-, q, k0, k1, k2, k3⟩ := HB0.out _ B.out
  go_wp2_with fail
  refine (szRule_any _ _ hs _ _ _ (by omega) (by omega) _).mono ?_
  rintro e w2 ⟨rfl, b2⟩
  replace B := Lib.hid (belStep B.out b2)
  have t2 := b2.size
  clear b2 k0 k1 k2 k3 q
  by_cases hbig : (r : Int) < s.size
  · rw [if_pos hbig]
    go_wp2
    go_ret
    exact ⟨rfl, (HB0.out _ B.out).1⟩
  rw [if_neg hbig]
  have hl0 : ¬ ((r : Int) - (s.size : Int) < 0) := by omega
  have hm : s.size ≤ 1048576 := by omega
  have HSP := Lib.hid (fun W u (h : Rls W W.heap.size u l) => sTableDrop_any W u l h hlen ⟨p, s, o, t, hm⟩)
  have HIP := Lib.hid (fun W u (h : Rls W W.heap.size u l) (hE : EtOk W) => iTableDrop_all W u l h hlen ⟨p, s, o, t, hm⟩ hE)
  dsimp only at HSP HIP
  have hP : (dropT ⟨p, s, o, t, hm⟩ l).length ≤ 1000 := by have := dropT_len ⟨p, s, o, t, hm⟩ l; omega
  generalize dropT ⟨p, s, o, t, hm⟩ l = P at *
  generalize dropO ⟨p, s, o, t, hm⟩ l = qq at *
  have BD := Lib.hid B.out.drew
  go_wp2_with fail
  go_region_held3 (fun W' => W'.cell? ⟨w.heap.size, 0, none⟩ = some (.int .i64 p) ∧ W'.cell? ⟨w.heap.size, 1, none⟩ = some (.string s) ∧ W'.cell? ⟨w.heap.size, 2, none⟩ = some (.int .i64 o) ∧ W'.cell? ⟨w.heap.size, 3, none⟩ = some (.int .i64 t))
    (first | exact (HB0.out _ BD.out).2.2 | exact (HB0.out _ B5.out).2.2 | exact (HB0.out _ B4.out).2.2 | exact (HB0.out _ B3.out).2.2)
    (first
      | (go_at_call 9; ((with_reducible refine (toRuleS_any _ _ l (HL.out _ (HB0.out _ BD.out).1) hlen).mono ?_); rintro e w3 ⟨ua, rfl, hrow, b3⟩; have RA := Lib.hid hrow; have B3 := Lib.hid (belStep BD.out b3); have T3 := Lib.hid b3.size; have G3 := Lib.hid b3; clear hrow b3))
      | (go_at_call 10; ((with_reducible refine (toRule_any _ _ _ _ _).mono ?_); rintro e w4 ⟨rfl, b4⟩; have RA3 := Lib.hid (RA.out.below b4); have B4 := Lib.hid (belStep B3.out b4); have G4 := Lib.hid (belStep G3.out b4); clear b4))
      | (go_at_call 15; ((with_reducible refine (HSP.out _ _ RA3.out.rls).mono ?_); rintro e w5 ⟨uRW, rfl, hrow, b5⟩; have RW := Lib.hid hrow; have T5 := Lib.hid b5.size; have B5 := Lib.hid (belStep B4.out b5); have G5 := Lib.hid (belStep G4.out b5); clear hrow b5)))
  have b5 := G5.out
  have t5 : w2.heap.size ≤ w5.heap.size := (G5.out).size
  have t4 : w2.heap.size ≤ w4.heap.size := G4.out.size
  replace B := Lib.hid B5.out
  clear RA RA3 B3 B4 B5 G3 G4 G5 b5 BD T3 T5
  have FW : Hid (∀ k, uRW.ownBlock = some k → k < w5.heap.size) := fun k hk => (World.ownsRow.lt RW.out k hk).2
  go_wp2_with fail
  refine (toRuleS_any _ _ l (HL.out _ (HB0.out _ B.out).1) hlen).mono ?_
  rintro e w6 ⟨uRX, rfl, hrow, b6⟩
  have t6 := b6.size
  replace RW := Lib.hid (RW.out.below b6)
  replace B := Lib.hid (belStep B.out b6)
  clear b6
  have RX := Lib.hid hrow
  clear hrow
  have FX : Hid (∀ k, uRX.ownBlock = some k → w5.heap.size ≤ k ∧ k < w6.heap.size) := fun k hk => World.ownsRow.lt RX.out k hk
  obtain ⟨-, q, k0, k1, k2, k3⟩ := HB0.out _ B.out
  go_wp2_with fail
  refine (toRule_any _ _ _ _ _).mono ?_
  rintro e w7 ⟨rfl, b7⟩
  have t7 := b7.size
  replace RW := Lib.hid (RW.out.below b7)
  replace RX := Lib.hid (RX.out.below b7)
  replace B := Lib.hid (belStep B.out b7)
  clear b7
  clear k0 k1 k2 k3 q
  go_wp2_with fail
  refine (HIP.out _ _ RX.out.rls (HE.out.below (HB0.out _ B.out).1)).mono ?_
  rintro e w8 ⟨uRG, rfl, hrow, b8⟩
  have t8 := b8.size
  replace RW := Lib.hid (RW.out.below b8)
  replace RX := Lib.hid (RX.out.below b8)
  replace B := Lib.hid (belStep B.out b8)
  clear b8
  have RG := Lib.hid hrow
  clear hrow
  have FG : Hid (∀ k, uRG.ownBlock = some k → w7.heap.size ≤ k) := fun k hk => (World.ownsRow.lt RG.out k hk).1
  go_wp2_with fail
  refine (eqRuleS_same _ _ _ P RG.out.rls RW.out.rls (by omega)).mono ?_
  rintro e w9 ⟨rfl, b9⟩
  have t9 := b9.size
  replace RW := Lib.hid (RW.out.below b9)
  replace RX := Lib.hid (RX.out.below b9)
  replace RG := Lib.hid (RG.out.below b9)
  replace B := Lib.hid (belStep B.out b9)
  clear b9
  go_wp2_with fail
  refine (toRuleS_any _ _ l (HL.out _ (HB0.out _ B.out).1) hlen).mono ?_
  rintro e w10 ⟨uRC, rfl, hrow, b10⟩
  have t10 := b10.size
  replace RW := Lib.hid (RW.out.below b10)
  replace RX := Lib.hid (RX.out.below b10)
  replace RG := Lib.hid (RG.out.below b10)
  replace B := Lib.hid (belStep B.out b10)
  clear b10
  have RC := Lib.hid hrow
  clear hrow
  go_wp2_with fail
  refine (eqRuleS_same _ _ _ l RX.out.rls RC.out.rls (by omega)).mono ?_
  rintro e w11 ⟨rfl, b11⟩
  have t11 := b11.size
  replace RW := Lib.hid (RW.out.below b11)
  replace RX := Lib.hid (RX.out.below b11)
  replace RG := Lib.hid (RG.out.below b11)
  replace RC := Lib.hid (RC.out.below b11)
  replace B := Lib.hid (belStep B.out b11)
  clear b11
  clear RC
  go_wp2_with fail
  refine (markRuleS_own _ _ 1 _ l RX.out (by omega) (by omega) (by have := (HB0.out _ B.out).1.size; omega)).mono ?_
  rintro e w12 ⟨rfl, hrow, b12, g12⟩
  have t12 := b12.size
  replace RW : Hid (RulRow w12 _ uRW _) := RW.out.apart g12 (fun k hk e => by have h1 := (FX.out k e).1; have h2 := FW.out k hk; omega)
  replace RG : Hid (RulRow w12 _ uRG _) := RG.out.apart g12 (fun k hk e => by have h1 := (FX.out k e).2; have h2 := FG.out k hk; omega)
  replace B : Hid (Below (w.alloc (.cells #[.int .i64 p, .string s, .int .i64 o, .int .i64 t] 24)).heap.size (w.alloc (.cells #[.int .i64 p, .string s, .int .i64 o, .int .i64 t] 24)) w12) := B.out.trans (b12.mono (by simp; omega))
  clear hrow b12 g12 RX
  have hk0 : ¬ ((1 + 4 * l.length : Nat) : Int) < 0 := by omega
  have hk1 : ¬ (1 + 4 * (l.length : Int)) < 0 := by omega
  go_wp2_with fail
  refine (eqRuleS_same _ _ _ P RG.out.rls RW.out.rls (by omega)).mono ?_
  rintro e w13 ⟨rfl, b13⟩
  have t13 := b13.size
  replace RW := Lib.hid (RW.out.below b13)
  replace RG := Lib.hid (RG.out.below b13)
  replace B := Lib.hid (belStep B.out b13)
  clear b13
  go_wp2_with fail
  refine (markRuleS_own _ _ 1 _ P RG.out (by omega) (by omega) (by omega)).mono ?_
  rintro e w14 ⟨rfl, hrow, b14, g14⟩
  have t14 := b14.size
  replace RW : Hid (RulRow w14 _ uRW _) := RW.out.apart g14 (fun k hk e => by have h1 := FG.out k e; have h2 := FW.out k hk; omega)
  have RM := Lib.hid hrow
  replace B : Hid (Below (w.alloc (.cells #[.int .i64 p, .string s, .int .i64 o, .int .i64 t] 24)).heap.size (w.alloc (.cells #[.int .i64 p, .string s, .int .i64 o, .int .i64 t] 24)) w14) := B.out.trans (b14.mono (by simp; omega))
  clear hrow b14 g14 RG
  have hp : ¬ ((1 + 4 * P.length : Nat) : Int) < 0 := by omega
  have hp' : ¬ (1 + 4 * (P.length : Int)) < 0 := by omega
  go_wp2_with fail
  refine (heldRuleS_at _ _ 1 P.length _ RM.out (by omega) (by omega)).mono ?_
  rintro e w15 ⟨rfl, b15⟩
  have t15 := b15.size
  replace RW := Lib.hid (RW.out.below b15)
  replace RM := Lib.hid (RM.out.below b15)
  replace B := Lib.hid (belStep B.out b15)
  clear b15
  have uRM : True := trivial
  have BD := Lib.hid B.out.drew
  have RW_ := Lib.hid (show RulRow _ _ uRW _ from RW.out)
  have RM_ := Lib.hid (show RulRow _ _ uRG _ from RM.out)
  go_wp2_with fail
  go_region_held3 (fun W' => W'.cell? ⟨w.heap.size, 0, none⟩ = some (.int .i64 p) ∧ W'.cell? ⟨w.heap.size, 1, none⟩ = some (.string s) ∧ W'.cell? ⟨w.heap.size, 2, none⟩ = some (.int .i64 o) ∧ W'.cell? ⟨w.heap.size, 3, none⟩ = some (.int .i64 t))
    (first | exact (HB0.out _ BD.out).2.2 | exact (HB0.out _ B18.out).2.2 | exact (HB0.out _ B17.out).2.2 | exact (HB0.out _ B16.out).2.2)
    (first
      | (go_at_call 9; ((with_reducible refine (toRuleS_any _ _ l (HL.out _ (HB0.out _ BD.out).1) hlen).mono ?_); rintro e w16 ⟨ua, rfl, hrow, b16⟩; have RA := Lib.hid hrow; have B16 := Lib.hid (belStep BD.out b16); have T16 := Lib.hid b16.size; have G16 := Lib.hid b16; clear hrow b16))
      | (go_at_call 10; ((with_reducible refine (toRule_any _ _ _ _ _).mono ?_); rintro e w17 ⟨rfl, b17⟩; have RA3 := Lib.hid (RA.out.below b17); have B17 := Lib.hid (belStep B16.out b17); have G17 := Lib.hid (belStep G16.out b17); clear b17))
      | (go_at_call 16; ((with_reducible refine (HIP.out _ _ RA3.out.rls (HE.out.below (HB0.out _ B17.out).1)).mono ?_); rintro e w18 ⟨uRH, rfl, hrow, b18⟩; have RH := Lib.hid hrow; have T18 := Lib.hid b18.size; have B18 := Lib.hid (belStep B17.out b18); have G18 := Lib.hid (belStep G17.out b18); clear hrow b18)))
  have b18 := G18.out
  have t18 : w15.heap.size ≤ w18.heap.size := (G18.out).size
  have t17 : w15.heap.size ≤ w17.heap.size := G17.out.size
  replace RW : Hid (RulRow w18 _ uRW _) := (RW.out.below (show Below _ _ _ from (Below.refl _ _).drew)).below b18
  replace RM : Hid (RulRow w18 _ uRG _) := (RM.out.below (show Below _ _ _ from (Below.refl _ _).drew)).below b18
  replace B := Lib.hid B18.out
  clear RA RA3 B16 B17 B18 G16 G17 G18 b18 BD T16 T18
  clear RW_
  clear RM_
  go_wp2_with fail
  refine (eqRuleS_same _ _ _ P RH.out.rls RW.out.rls (by omega)).mono ?_
  rintro e w19 ⟨rfl, b19⟩
  have t19 := b19.size
  replace RW := Lib.hid (RW.out.below b19)
  replace RM := Lib.hid (RM.out.below b19)
  replace RH := Lib.hid (RH.out.below b19)
  replace B := Lib.hid (belStep B.out b19)
  clear b19
  go_wp2_with fail
  refine (heldRuleS_at _ _ 1 P.length _ RM.out (by omega) (by omega)).mono ?_
  rintro e w20 ⟨rfl, b20⟩
  have t20 := b20.size
  replace RW := Lib.hid (RW.out.below b20)
  replace RM := Lib.hid (RM.out.below b20)
  replace RH := Lib.hid (RH.out.below b20)
  replace B := Lib.hid (belStep B.out b20)
  clear b20
  go_wp2
  go_ret
  exact ⟨rfl, (HB0.out _ B.out).1⟩

set_option maxRecDepth 100000 in
theorem contract_FnExactTableDrop (H : Type) (enc : TypeId × Value → H) (W : World) (base : Nat) (args : Array Value) (ds gs : List (DataW H)) (before : List MemPlace)
    (hval : ∀ (j : Nat) t v, Tryd.f4.params[j]? = some t → args[j]? = some v → Value.okWide Tryd.prog W .any base t v)
    (hW : DataW.Whole enc Tryd.prog Tryd.f4.params.toList Rows.fnExactTableDropSpec.vars false W args.toList ds gs before) (hE : EtOk W) :
    Calls Tryd.prog 4 args W fun e W' => ∃ v, e = .returned v ∧ Rows.fnExactTableDropSpec.post enc Tryd.prog Tryd.f4 false true false false W args v W' := by
  have hW' := hW
  obtain ⟨p, q, hA0, hV, rfl, hfz, hnd⟩ := hW
  have hA : DataW.TrodAll enc Tryd.prog W 0 (fun _ => true) true Tryd.f4.params.toList args.toList ds p := hA0
  rw [Tryd.params4] at hA hval
  obtain ⟨v0, vs0, d0, ds0, p0, q0, hargs, rfl, rfl, h0, r0⟩ := trodAll_cons hA
  obtain ⟨v1, vs1, d1, ds1, p1, q1, rfl, rfl, rfl, h1, r1⟩ := trodAll_cons r0
  obtain ⟨rfl, rfl, rfl⟩ := trodAll_nil r1
  obtain rfl : args = #[v0, v1] := by cases args; simp_all
  obtain ⟨rfl, rfl⟩ := trodVars_none hV
  have k0 := h0
  have lt0 : ∀ x ∈ p0, x.block < W.heap.size := by obtain ⟨m, hm⟩ := k0; exact DataW.trod_lt m _ _ _ hm
  have k1 := h1
  have lt1 : ∀ x ∈ p1, x.block < W.heap.size := by obtain ⟨m, hm⟩ := k1; exact DataW.trod_lt m _ _ _ hm
  obtain ⟨n0, f0, w0, z0⟩ := rules_of h0 (okWide_slice Tryd.underlying22 (hval 0 22 v0 rfl rfl))
  obtain ⟨x1, y1, z1, u1, ya1, yb1, yc1, yd1, m1, rfl, -, -, ha1, hb1, hc1, hd1⟩ := open_agg4 Tryd.underlying24 (by kernel_rfl) (show Tryd.prog.cellsOf 24 = 4 by kernel_rfl) (hval 1 24 v1 rfl rfl) h1
  obtain ⟨a1, ea1, -, wa1⟩ := DataW.trod_int Tryd.underlying3 ha1
  obtain ⟨b1, eb1, -, wb1⟩ := DataW.trod_string Tryd.underlying9 hb1
  obtain ⟨c1, ec1, -, wc1⟩ := DataW.trod_int Tryd.underlying3 hc1
  obtain ⟨d1', ed1, -, wd1⟩ := DataW.trod_int Tryd.underlying3 hd1
  simp at ea1 eb1 ec1 ed1
  subst ea1 eb1 ec1 ed1
  clear hA0
  refine (walk_FnExactTableDrop v0 n0 f0 a1 b1 c1 d1' W w0 z0 wa1 wb1 wc1 wd1 hE).mono fun e W' ⟨he, bel⟩ => ?_
  subst he
  exact ⟨_, rfl, _, _, _, [], _, [], hW', trodAll_mk1 (shut_bool Tryd.underlying4 _), (trodAll_cons_mk (Below.trod laidOut (by kernel_rfl) (of_decide_eq_true (by kernel_rfl)) k0 bel lt0) (trodAll_cons_mk (Below.trod laidOut (by kernel_rfl) (of_decide_eq_true (by kernel_rfl)) k1 bel lt1) (trodAll_mk0))), rfl, bel.frame _, fun h => by cases h⟩

/-- A world for the witness: the settled one, with the listed variables as the text lays them. -/
noncomputable def laidWorld_FnExactTableDrop (os : Os) : World :=
  { World.holding Tryd.prog os ⟨#[], #[], []⟩ with heap := (((((World.holding Tryd.prog os ⟨#[], #[], []⟩).heap).modify 3 (fun | .cells _ t frozen => .cells #[.int .u8 0, .int .u8 1, .int .u8 28, .int .u8 2, .int .u8 29, .int .u8 14, .int .u8 24, .int .u8 3, .int .u8 30, .int .u8 22, .int .u8 20, .int .u8 15, .int .u8 25, .int .u8 17, .int .u8 4, .int .u8 8, .int .u8 31, .int .u8 27, .int .u8 13, .int .u8 23, .int .u8 21, .int .u8 19, .int .u8 16, .int .u8 7, .int .u8 26, .int .u8 12, .int .u8 18, .int .u8 6, .int .u8 11, .int .u8 5, .int .u8 10, .int .u8 9] t frozen | o => o)).modify 4 (fun | .cells _ t frozen => .cells #[.int .u8 0, .int .u8 1, .int .u8 56, .int .u8 2, .int .u8 57, .int .u8 49, .int .u8 28, .int .u8 3, .int .u8 61, .int .u8 58, .int .u8 42, .int .u8 50, .int .u8 38, .int .u8 29, .int .u8 17, .int .u8 4, .int .u8 62, .int .u8 47, .int .u8 59, .int .u8 36, .int .u8 45, .int .u8 43, .int .u8 51, .int .u8 22, .int .u8 53, .int .u8 39, .int .u8 33, .int .u8 30, .int .u8 24, .int .u8 18, .int .u8 12, .int .u8 5, .int .u8 63, .int .u8 55, .int .u8 48, .int .u8 27, .int .u8 60, .int .u8 41, .int .u8 37, .int .u8 16, .int .u8 46, .int .u8 35, .int .u8 44, .int .u8 21, .int .u8 52, .int .u8 32, .int .u8 23, .int .u8 11, .int .u8 54, .int .u8 26, .int .u8 40, .int .u8 15, .int .u8 34, .int .u8 20, .int .u8 31, .int .u8 10, .int .u8 25, .int .u8 14, .int .u8 19, .int .u8 9, .int .u8 13, .int .u8 8, .int .u8 7, .int .u8 6] t frozen | o => o)).modify 2 (fun | .cells _ t frozen => .cells #[.int .u64 1, .int .u64 10, .int .u64 100, .int .u64 1000, .int .u64 10000, .int .u64 100000, .int .u64 1000000, .int .u64 10000000, .int .u64 100000000, .int .u64 1000000000, .int .u64 10000000000, .int .u64 100000000000, .int .u64 1000000000000, .int .u64 10000000000000, .int .u64 100000000000000, .int .u64 1000000000000000, .int .u64 10000000000000000, .int .u64 100000000000000000, .int .u64 1000000000000000000, .int .u64 10000000000000000000] t frozen | o => o)).modify 0 (fun | .cells _ t frozen => .cells #[.iface 111 (.agg #[.pointer (some ⟨5, 64, none⟩)])] t frozen | o => o) }

theorem laidMet_FnExactTableDrop (os : Os) : laidMetH Tryd.prog Rows.fnExactTableDropRow.laid ((laidWorld_FnExactTableDrop os).forCall (fun _ _ => 0) ⟨#[], #[.slice none 0 0, .agg #[.int .i64 0, .string ByteArray.empty, .int .i64 0, .int .i64 0]], []⟩).memory :=
  laidMetH_of_parts (laidMet_of_run' 8 (by kernel_rfl) (by kernel_rfl)) (by kernel_rfl)

theorem reads_FnExactTableDrop (os : Os) {H : Type} (enc : TypeId × Value → H) : ∃ places, DataW.whole enc Tryd.prog ((laidWorld_FnExactTableDrop os).forCall (fun _ _ => 0) ⟨#[], #[.slice none 0 0, .agg #[.int .i64 0, .string ByteArray.empty, .int .i64 0, .int .i64 0]], []⟩).memory Tryd.f4.params.toList Rows.fnExactTableDropSpec.vars false (#[.slice none 0 0, .agg #[.int .i64 0, .string ByteArray.empty, .int .i64 0, .int .i64 0]] : Array Value).toList 8 = some ([.nil, .agg [.lit (.int .i64 0), .lit (.string []), .lit (.int .i64 0), .lit (.int .i64 0)]], [], places) :=
  ⟨[], by kernel_rfl⟩

set_option maxRecDepth 100000 in
theorem lifted_FnExactTableDrop (os : Os) (started : os.Started) (H : Type) (enc : TypeId × Value → H) (F : Stop.Interp) :
    ReturnsInHanded {} Tryd.checked os 4 .any ((OpenSpec.ofChange Rows.fnExactTableDropSpec).preRow enc Tryd.prog Tryd.f4 Rows.fnExactTableDropRow.domain false Rows.fnExactTableDropRow.laid) (((OpenSpec.ofChange Rows.fnExactTableDropSpec).at F).post enc Tryd.prog Tryd.f4 false true false false) := by
  obtain ⟨places, hx⟩ := reads_FnExactTableDrop os enc
  refine returnsInHanded_of_row (C := Tryd.checked) (s := OpenSpec.ofChange Rows.fnExactTableDropSpec) own started (by kernel_rfl) Tryd.func4
    (witness_row_at (enc := enc) (C := Tryd.checked) false (laidWorld_FnExactTableDrop os) #[.slice none 0 0, .agg #[.int .i64 0, .string ByteArray.empty, .int .i64 0, .int .i64 0]] rfl (by kernel_rfl) (by kernel_rfl) (by kernel_rfl)
      (OpenSpec.preRow_of_cond 8 hx (by kernel_rfl) (fun k hk => by cases hk) (by kernel_rfl) (laidMet_FnExactTableDrop os))) ?_
  intro W base args ds gs before hval hW _ _ _ hL _ _
  exact contract_FnExactTableDrop H enc W base args ds gs before hval hW (etOk_of hL (by simp [Rows.fnExactTableDropRow]))

theorem said_FnExactTableDrop : Rows.FnExactTableDropSaid :=
  OpenClaim.holds_of_cond 4 Tryd.f4 rfl rfl rfl rfl rfl rfl rfl ⟨rfl, rfl, rfl, rfl, rfl⟩ rfl rfl rfl rfl rfl (by kernel_rfl) Tryd.func4 (by kernel_rfl)
    (of_decide_eq_true (by kernel_rfl)) (by unfold Func.isWrapper; first | (rw [if_pos (by decide +kernel)]; kernel_rfl) | (rw [if_neg (by decide +kernel)]; exact ⟨rfl, rfl⟩))
    (fun os started H enc _ F => by rw [OpenClaim.pre_eq_preRow]; exact lifted_FnExactTableDrop os started H enc F)

theorem plain_FnExactTableDrop (f : FuncId) (fn : Func) (hf : Tryd.pinned.checked.prog.funcNamed "loop.example/crossbuck/laws.FnExactTableDrop" = some f) (hfn : Tryd.pinned.checked.prog.funcs[f]? = some fn) :
    true = Tryd.pinned.checked.prog.looks [] ∧ ∀ (j : Nat) t, fn.params[j]? = some t → Tryd.pinned.checked.prog.wantsStandIn t = false := by
  obtain rfl : f = 4 := Option.some.inj ((show Tryd.prog.funcNamed "loop.example/crossbuck/laws.FnExactTableDrop" = some 4 by kernel_rfl).symm.trans hf) |>.symm
  obtain rfl : fn = Tryd.f4 := (Option.some.inj (Tryd.func4.symm.trans hfn)).symm
  refine ⟨by kernel_rfl, fun j t ht => ?_⟩
  rw [Tryd.params4] at ht
  have hm : t = 22 ∨ t = 24 := by simpa using Array.mem_of_getElem? ht
  rcases hm with rfl | rfl
  · exact (show Tryd.prog.wantsStandIn 22 = false by kernel_rfl)
  · exact (show Tryd.prog.wantsStandIn 24 = false by kernel_rfl)

theorem proved_FnExactTableDrop : Rows.FnExactTableDropCardSaid :=
  Claim7.holds_tied_plain_at .later [] _ _ _ _ said_FnExactTableDrop (fun _ h => by cases h) (by kernel_rfl) (fun _ h => by cases h) fnExactTableDrop_row_tie rfl ⟨rfl, rfl⟩ (by kernel_rfl) rfl plain_FnExactTableDrop (by kernel_rfl)

end Go.Proofs.YthjceopaelagfaaDoor
