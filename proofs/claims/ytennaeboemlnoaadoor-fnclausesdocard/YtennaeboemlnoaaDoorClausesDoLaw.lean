/-
  Proved: promise 59 (the first clause that fits counts), at every code from which clauses and a head are drawn; the code reads on as it did. No condition but the card's own: the program's error value stands as its text lays it.
-/
import Derived.Test.YtennaeboemlnoaaDoorPredCard
import Derived.Test.YtennaeboemlnoaaDoorOwnB
import Derived.Test.YtennaeboemlnoaaDoorClaDo
import Derived.Test.YtennaeboemlnoaaDoorClaDrB
namespace Go.Proofs.YtennaeboemlnoaaDoor
open Go.ChangeShapes Go.WideShapes Go.ChangeAt Go.RowKit Go.Joins
set_option linter.unusedVariables false

theorem hasL_fit (q : C3) {x y z : Int} (h : okB x y z = true) : hasL q.s.data.toList x y z = fitC q x y z := by
  unfold hasL fitC C3.cnd
  cases whole q.s.data.toList with
  | none => rfl
  | some c => simp [h]
theorem head_kept {w W : World} {t : TypeId} {a b c : Value} (hb : Below (w.alloc (.cells #[a, b, c] t)).heap.size (w.alloc (.cells #[a, b, c] t)) W) : W.cell? ⟨w.heap.size, 0, none⟩ = some a ∧ W.cell? ⟨w.heap.size, 1, none⟩ = some b ∧ W.cell? ⟨w.heap.size, 2, none⟩ = some c ∧ w.heap.size < W.heap.size := by
  have hn := (hb.block w.heap.size (by simp)).trans (heap_alloc_new w (.cells #[a, b, c] t))
  obtain ⟨h0, h1, h2, -⟩ := three_cells hn
  exact ⟨h0, h1, h2, (Array.getElem?_eq_some_iff.1 hn).1⟩

set_option maxRecDepth 100000 in
set_option maxHeartbeats 8000000 in
theorem walk_FnClausesDo (a : Option Addr) (len cap : Nat) (w : World) (hb : BytesIn w w.heap.size a len cap) (ep : Addr) (hE : w.cell? ⟨0, 0, none⟩ = some (errV ep)) :
    Calls Tryd.prog 6 #[.slice a len cap] w fun e w' => e = .returned (.bool true) ∧ Below w.heap.size w w' := by
  have HB := Lib.hid hb
  have hm : (len : Int) ≤ maxLen := by have := hb.1; have := hb.2.1; omega
  unfold maxLen at hm
  have HE : Hid (∀ W, Below w.heap.size w W → W.cell? ⟨0, 0, none⟩ = some (errV ep)) := fun W hb => cellLater hE hb
  clear hb hE
  by_cases hlen : (1048576 : Int) < (len : Int)
  · go_enter Tryd.func6, Tryd.ntmps6
    go_wp2
    go_ret
    exact ⟨rfl, Below.refl _ _⟩
  go_enter Tryd.func6, Tryd.ntmps6
  go_wp2_with fail
  refine (drawClausesDo_any _ _ _ _ HB.out).mono ?_
  rintro e w1 ⟨v, l, x, y, z, rfl, hl, hrow, b1⟩
  have hn : l.length ≤ 1048576 := by omega
  have HROW := Lib.hid hrow
  have HL : Hid (∀ W, Below w1.heap.size w1 W → Cls W W.heap.size v l) := fun W hb => (hrow.cls.below hb (Nat.le_refl _)).mono hb.size
  have HE1 : Hid (∀ W, Below w1.heap.size w1 W → W.cell? ⟨0, 0, none⟩ = some (errV ep)) := fun W hb => HE.out W (belStep b1 hb)
  have HS : Hid (∀ W, Below w1.heap.size w1 W → Calls Tryd.prog 17 #[v, .agg #[.int .i64 x, .int .i64 y, .int .i64 z]] W fun e w' => e = .returned (cdV (cd4 l x y z)) ∧ Below W.heap.size W w') := fun W h => sClausesDo_any W v l (HL.out W h) hn x y z
  have HI : Hid (∀ W, Below w1.heap.size w1 W → Calls Tryd.prog 19 #[v, .agg #[.int .i64 x, .int .i64 y, .int .i64 z]] W fun e w' => e = .returned (cdV (cd4 l x y z)) ∧ Below W.heap.size W w') := fun W h => iClausesDo_any W v l (HL.out W h) hn x y z ep (HE1.out W h)
  have HO : Hid (∀ W, Below w1.heap.size w1 W → Calls Tryd.prog 13 #[v] W fun e w' => e = .returned (.bool (clB l)) ∧ Below W.heap.size W w') := fun W h => sClausesOk_any W v l (HL.out W h) hn
  have HHO := Lib.hid (fun W => sHeadOk_any x y z W)
  have HPH : Hid (∀ (q : C3) W, Below w1.heap.size w1 W → Calls Tryd.prog 29 #[.string q.s, .agg #[.int .i64 x, .int .i64 y, .int .i64 z]] W fun e w' => e = .returned (.bool (hasL q.s.data.toList x y z)) ∧ Below W.heap.size W w') := fun q W h => by
    have := iPredHas_any q.s.data.toList q.short x y z ep W (HE1.out W h)
    rwa [bs_list] at this
  have HDR : Hid (∀ k, k < l.length → doC (l.drop k) x y z = if fitC (clAt l k) x y z = true then (tagTo (clAt l k).t z, (clAt l k).o) else doC (l.drop (k + 1)) x y z) := fun k hk => doC_drop hk x y z
  have HD0 : Hid (doC (l.drop 0) x y z = doC l x y z) := by show _ = _; rw [List.drop_zero]
  have HDN : Hid (doC (l.drop l.length) x y z = (z, 0)) := by show _ = _; rw [List.drop_length]; rfl
  have BW : Hid (∀ W, Below w1.heap.size w1 W → Below w.heap.size w W) := fun W hb => belStep b1 hb
  obtain ⟨va, vc, rfl⟩ := hrow.shape
  clear hrow b1 HB HL HE HE1
  generalize hN : l.length = n at *
  have HN := Lib.hid hN
  clear hN
  have HFC : Hid (∀ k, k < n → ∃ b, va = some ⟨b, 0, none⟩ ∧ ∀ W, Below w1.heap.size w1 W → Thr W b (k * 3) (clAt l k)) := by
    intro k hk
    rcases HROW.out.form with ⟨-, h'⟩ | ⟨b, cap', h, -⟩
    · have := HN.out
      rw [h'] at this
      simp at this
      omega
    · rw [HN.out] at h
      simp at h
      obtain ⟨rfl, rfl⟩ := h
      have hb := (World.ownsRow.lt HROW.out b rfl).2
      exact ⟨b, rfl, fun W hW => ((HROW.out.cells HN.out).1 k hk).below hW hb⟩
  clear HROW
  have HCD : Hid (clB l = true → okB x y z = true → cd4 l x y z = (x, y, (doC l x y z).1, (doC l x y z).2)) := fun h1 h2 => by unfold cd4; rw [h1, h2]; rfl
  unfold cdV at HS HI
  generalize hcd : cd4 l x y z = cd at *
  clear hcd
  obtain ⟨q0, q1, q2, q3⟩ := cd
  dsimp only at HS HI
  have HA1 := Lib.hid (below_alloc1 w1 (.cells #[.int .i64 x, .int .i64 y, .int .i64 z] 31))
  go_wp2_with fail
  refine (HS.out _ HA1.out).mono ?_
  rintro e w2 ⟨rfl, b2⟩
  obtain ⟨h0, h1, h2, h3⟩ := head_kept b2
  have HK2 : Hid (∀ W, Below w2.heap.size w2 W → W.cell? ⟨w1.heap.size, 0, none⟩ = some (.int .i64 x) ∧ W.cell? ⟨w1.heap.size, 1, none⟩ = some (.int .i64 y) ∧ W.cell? ⟨w1.heap.size, 2, none⟩ = some (.int .i64 z) ∧ w1.heap.size < W.heap.size) := fun W hW => ⟨(belCell hW _ _ h3).trans h0, (belCell hW _ _ h3).trans h1, (belCell hW _ _ h3).trans h2, Nat.lt_of_lt_of_le h3 hW.size⟩
  have B2 := Lib.hid (belStep HA1.out b2)
  have HA2 := Lib.hid (below_alloc1 w2 (.cells #[.int .i64 q0, .int .i64 q1, .int .i64 q2] 31))
  clear b2 HS
  go_wp2_with fail
  refine (HI.out _ (belStep B2.out HA2.out)).mono ?_
  rintro e w3 ⟨rfl, b3⟩
  obtain ⟨k0, k1, k2, k3⟩ := head_kept b3
  have B3 := Lib.hid (belStep B2.out (belStep HA2.out b3))
  have B23 := Lib.hid (belStep HA2.out b3)
  have HK3 : Hid (∀ W, Below w3.heap.size w3 W → W.cell? ⟨w2.heap.size, 0, none⟩ = some (.int .i64 q0) ∧ W.cell? ⟨w2.heap.size, 1, none⟩ = some (.int .i64 q1) ∧ W.cell? ⟨w2.heap.size, 2, none⟩ = some (.int .i64 q2) ∧ w2.heap.size < W.heap.size) := fun W hW => ⟨(belCell hW _ _ k3).trans k0, (belCell hW _ _ k3).trans k1, (belCell hW _ _ k3).trans k2, Nat.lt_of_lt_of_le k3 hW.size⟩
  have HA3 := Lib.hid (below_alloc1 w3 (.cells #[.int .i64 q0, .int .i64 q1, .int .i64 q2] 31))
  clear b3 HI h0 h1 h2 h3
  go_wp2_with fail
  have HK4 : Hid (∀ W, Below (w3.alloc (.cells #[.int .i64 q0, .int .i64 q1, .int .i64 q2] 31)).heap.size (w3.alloc (.cells #[.int .i64 q0, .int .i64 q1, .int .i64 q2] 31)) W →
      (W.cell? ⟨w1.heap.size, 0, none⟩ = some (.int .i64 x) ∧ W.cell? ⟨w1.heap.size, 1, none⟩ = some (.int .i64 y) ∧ W.cell? ⟨w1.heap.size, 2, none⟩ = some (.int .i64 z) ∧ w1.heap.size < W.heap.size) ∧
      (W.cell? ⟨w2.heap.size, 0, none⟩ = some (.int .i64 q0) ∧ W.cell? ⟨w2.heap.size, 1, none⟩ = some (.int .i64 q1) ∧ W.cell? ⟨w2.heap.size, 2, none⟩ = some (.int .i64 q2) ∧ w2.heap.size < W.heap.size) ∧
      (W.cell? ⟨w3.heap.size, 0, none⟩ = some (.int .i64 q0) ∧ W.cell? ⟨w3.heap.size, 1, none⟩ = some (.int .i64 q1) ∧ W.cell? ⟨w3.heap.size, 2, none⟩ = some (.int .i64 q2) ∧ w3.heap.size < W.heap.size) ∧ Below w1.heap.size w1 W) := fun W hW =>
    ⟨HK2.out W (belStep B23.out (belStep HA3.out hW)), HK3.out W (belStep HA3.out hW), head_kept hW, belStep B3.out (belStep HA3.out hW)⟩
  clear k0 k1 k2 k3 HK2 HK3 B2 HA2 B23
  generalize w3.alloc (.cells #[.int .i64 q0, .int .i64 q1, .int .i64 q2] 31) = W3 at *
  generalize w3.heap.size = p3 at *
  generalize w2.heap.size = p2 at *
  have HEND : Hid (∀ W, Below W3.heap.size W3 W → Below w.heap.size w W) := fun W hW => BW.out W (HK4.out W hW).2.2.2
  refine (HO.out _ (HK4.out _ (Below.refl _ _)).2.2.2).mono ?_
  rintro e w4 ⟨rfl, b4⟩
  have B4 := Lib.hid b4
  clear b4
  obtain ⟨⟨h0, h1, h2, h3⟩, ⟨k0, k1, k2, k3⟩, ⟨m0, m1, m2, m3⟩, -⟩ := HK4.out _ B4.out
  cases hok : clB l
  · go_wp2
    go_ret
    exact ⟨by simp, HEND.out _ B4.out⟩
  clear k0 k1 k2 k3 m0 m1 m2 m3
  go_wp2_with fail
  refine (HHO.out _).mono ?_
  rintro e w5 ⟨rfl, b5⟩
  have B5 := Lib.hid (belStep B4.out b5)
  clear b5 B4 h0 h1 h2 h3
  obtain ⟨⟨h0, h1, h2, h3⟩, ⟨k0, k1, k2, k3⟩, ⟨m0, m1, m2, m3⟩, -⟩ := HK4.out _ B5.out
  cases hok2 : okB x y z
  · go_wp2
    go_ret
    exact ⟨by simp, HEND.out _ B5.out⟩
  have hcd := HCD.out hok hok2
  simp only [Prod.mk.injEq] at hcd
  obtain ⟨rfl, rfl, e2, e3⟩ := hcd
  have HQ2 := Lib.hid e2
  have HQ3 := Lib.hid e3
  have HPF : Hid (∀ (q : C3) W, Below w1.heap.size w1 W → Calls Tryd.prog 29 #[.string q.s, .agg #[.int .i64 q0, .int .i64 q1, .int .i64 z]] W fun e w' => e = .returned (.bool (fitC q q0 q1 z)) ∧ Below W.heap.size W w') := fun q W h => by
    have := HPH.out q W h
    rwa [hasL_fit q hok2] at this
  clear e2 e3 HPH HCD HO HHO hok hok2
  generalize hDF : (fun k => doC (l.drop k) q0 q1 z) = DF at *
  have HDR' : Hid (∀ k, k < n → DF k = if fitC (clAt l k) q0 q1 z = true then (tagTo (clAt l k).t z, (clAt l k).o) else DF (k + 1)) := by rw [← hDF]; exact HDR
  have HD0' : Hid (DF 0 = (q2, q3)) := by
    show _ = _
    rw [HQ2.out, HQ3.out, ← hDF]
    exact HD0.out
  have HDN' : Hid (DF n = (z, 0)) := by rw [← hDF]; exact HDN
  clear HDR HD0 HDN hDF HQ2 HQ3 h0 h1 h2 h3 k0 k1 k2 k3 m0 m1 m2 m3
  go_wp2
  go_loopw [9] (fun i wr => ∃ k : Nat, k ≤ n ∧ i = .int .i64 (k : Int) ∧ DF k = (q2, q3) ∧ Below W3.heap.size W3 wr) (fun i _ => n - (intOf i).toNat)
  case atStart => exact ⟨0, Nat.zero_le _, rfl, HD0'.out, B5.out⟩
  case round =>
    obtain ⟨k, hk, rfl, hans, hbel⟩ := hrel
    have HAN := Lib.hid hans
    have HBL := Lib.hid hbel
    clear hans hbel
    obtain ⟨⟨h0, h1, h2, h3⟩, ⟨k0, k1, k2, k3⟩, ⟨m0, m1, m2, m3⟩, hbw⟩ := HK4.out _ HBL.out
    have HBW := Lib.hid hbw
    clear hbw
    by_cases hlt : k < n
    · have hz : (k : Int) < (n : Int) := by omega
      have hw1 : IntKind.i64.wrap ((k : Int) + 1) = (k : Int) + 1 := by rw [IntKind.wrap_i64]; omega
      obtain ⟨b, rfl, hf⟩ := HFC.out k hlt
      obtain ⟨d0, d1, d2⟩ := hf _ HBW.out
      have HT := Lib.hid hf
      have HDK := Lib.hid (HDR'.out k hlt)
      have HPQ := Lib.hid (fun W h => HPF.out (clAt l k) W h)
      have hbr : b < wr.heap.size := World.block_lt_of_cell? _ _ d0
      clear hf
      generalize clAt l k = q at *
      have r0 := fun m : Ext wr => m.cell hbr d0
      have r1 := fun m : Ext wr => m.cell h3 h0
      have r2 := fun m : Ext wr => m.cell h3 h1
      have r3 := fun m : Ext wr => m.cell h3 h2
      clear d0 d1 d2 h0 h1 h2 h3 k0 k1 k2 k3 m0 m1 m2 m3
      go_wp2_with fail
      refine wp_region_ext (w0 := wr) (by kernel_rfl) (by kernel_rfl) (Below.refl _ _) ?_
      repeat (go_big_quiet_step (first | (go_at_call 29; exact ext_of (HPQ.out _ (belStep HBW.out (Ext.h _))))))
      refine wpQuiet_nil ?_
      intro w6 hx6
      have hb6 := ext_out hx6
      have HB6 := Lib.hid (belStep HBL.out hb6)
      have HBW6 := Lib.hid (belStep HBW.out hb6)
      clear hx6 hb6 r0 r1 r2 r3 HPQ
      obtain ⟨d0, d1, d2⟩ := HT.out _ HBW6.out
      obtain ⟨⟨h0, h1, h2, h3⟩, ⟨k0, k1, k2, k3⟩, ⟨m0, m1, m2, m3⟩, -⟩ := HK4.out _ HB6.out
      have hb6 : b < w6.heap.size := World.block_lt_of_cell? _ _ d0
      generalize fitC q q0 q1 z = fit at *
      cases fit
      · have HDK' : Hid (DF (k + 1) = (q2, q3)) := by show _ = _; rw [← HAN.out, HDK.out]; rfl
        clear d0 d1 d2 h0 h1 h2 h3 k0 k1 k2 k3 m0 m1 m2 m3
        go_wp2
        go_roundw
        case rel => exact ⟨k + 1, by omega, by go_num, HDK'.out, HB6.out⟩
        case measure => simp [intOf]; omega
      · have HDK' : (q2, q3) = (tagTo q.t z, q.o) := by rw [← HAN.out, HDK.out]; rfl
        simp only [Prod.mk.injEq] at HDK'
        obtain ⟨e2, e3⟩ := HDK'
        have HW := Lib.hid (HEND.out _ HB6.out)
        by_cases ht : 0 ≤ q.t
        · have e2' : q2 = q.t := by rw [e2]; exact if_pos ht
          subst e2' e3
          clear e2
          go_wp2
          go_ret
          exact ⟨by first | rfl | (simp; done), by first | exact HW.out.alloc HW.out.size _ | exact (HW.out.alloc HW.out.size _).setCell (by have := HW.out.size; dsimp only; omega) _⟩
        · have e2' : q2 = z := by rw [e2]; exact if_neg ht
          subst e2' e3
          clear e2
          have ht' : decide (0 ≤ q.t) = false := by simpa using ht
          go_wp2
          go_ret
          exact ⟨by first | rfl | (simp; done), by first | exact HW.out.alloc HW.out.size _ | exact (HW.out.alloc HW.out.size _).setCell (by have := HW.out.size; dsimp only; omega) _⟩
    · obtain rfl : k = n := by omega
      have h1' : ¬ (k : Int) < (k : Int) := by omega
      have e := HAN.out.symm.trans HDN'.out
      simp only [Prod.mk.injEq] at e
      obtain ⟨rfl, rfl⟩ := e
      go_wp2
      go_ret
      exact ⟨by first | rfl | (simp; done), HEND.out _ HBL.out⟩

set_option maxRecDepth 100000 in
theorem contract_FnClausesDo (H : Type) (enc : TypeId × Value → H) (W : World) (base : Nat) (args : Array Value) (ds gs : List (DataW H)) (before : List MemPlace)
    (hval : ∀ (j : Nat) t v, Tryd.f6.params[j]? = some t → args[j]? = some v → Value.okWide Tryd.prog W .any base t v)
    (hW : DataW.Whole enc Tryd.prog Tryd.f6.params.toList Rows.fnClausesDoSpec.vars false W args.toList ds gs before) (hL : laidMet Tryd.prog [("loop.example/crossbuck/impl.errPred", Rows.laid_loop_example_crossbuck_impl_errPred)] W) :
    Calls Tryd.prog 6 args W fun e W' => ∃ v, e = .returned v ∧ Rows.fnClausesDoSpec.post enc Tryd.prog Tryd.f6 false true false false W args v W' := by
  have hW' := hW
  obtain ⟨p, q, hA0, hV0, rfl, hfz, hnd⟩ := hW
  have hA : DataW.TrodAll enc Tryd.prog W 0 (fun _ => true) true Tryd.f6.params.toList args.toList ds p := hA0
  have hV : DataW.TrodVars enc Tryd.prog W (fun _ => true) ["loop.example/crossbuck/impl.errPred"] gs q := hV0
  rw [Tryd.params6] at hA hval
  obtain ⟨v0, vs0, d0, ds0, p0, q0, hargs, rfl, rfl, h0, r0⟩ := trodAll_cons hA
  obtain ⟨rfl, rfl, rfl⟩ := trodAll_nil r0
  obtain rfl : args = #[v0] := by cases args; simp_all
  obtain ⟨ep, hv⟩ := laidErr hL
  obtain ⟨rfl, rfl⟩ := hV.unique (vars_read1 enc gE gEt Tryd.underlying87 hv trivial _)
  have k0 := h0
  have lt0 : ∀ x ∈ p0, x.block < W.heap.size := by obtain ⟨m, hm⟩ := k0; exact DataW.trod_lt m _ _ _ hm
  obtain ⟨a0, len0, cap0, rfl⟩ := okWide_slice Tryd.underlying43 (hval 0 43 v0 rfl rfl)
  have w0 : BytesIn W W.heap.size a0 len0 cap0 := isRow_of h0
  clear hA0 hV0
  refine (walk_FnClausesDo a0 len0 cap0 W w0 ep (varCell hv)).mono fun e W' ⟨he, bel⟩ => ?_
  subst he
  exact ⟨_, rfl, _, _, _, [], _, _, hW', trodAll_mk1 (shut_bool Tryd.underlying4 _), (trodAll_cons_mk (Below.trod laidOut (by kernel_rfl) (of_decide_eq_true (by kernel_rfl)) k0 bel lt0) (trodAll_mk0)), vars_read1 enc gE gEt Tryd.underlying87 (varLater hv bel) trivial _, bel.frame _, fun h => by cases h⟩

noncomputable def low_FnClausesDo : Nat := (World.holding Tryd.prog default ⟨#[], #[], []⟩).heap.size
/-- A world for the witness: the settled one, with the error value as the text lays it. -/
noncomputable def laidWorld_FnClausesDo (os : Os) : World :=
  { World.holding Tryd.prog os ⟨#[.cells #[.string ⟨#[110, 111, 32, 99, 111, 110, 100, 105, 116, 105, 111, 110]⟩] 253], #[], []⟩ with heap := (World.holding Tryd.prog os ⟨#[.cells #[.string ⟨#[110, 111, 32, 99, 111, 110, 100, 105, 116, 105, 111, 110]⟩] 253], #[], []⟩).heap.modify 0 (fun | .cells _ t frozen => .cells #[.iface 232 (.pointer (some ⟨low_FnClausesDo, 0, none⟩))] t frozen | o => o) }

theorem laidMet_FnClausesDo (os : Os) : laidMet Tryd.prog Rows.fnClausesDoRow.laid ((laidWorld_FnClausesDo os).forCall (fun _ _ => 0) ⟨#[], #[.slice none 0 0], []⟩).memory :=
  laidMet_of_run' 8 (by kernel_rfl) (by kernel_rfl)

set_option maxRecDepth 100000 in
theorem lifted_FnClausesDo (os : Os) (started : os.Started) (H : Type) (enc : TypeId × Value → H) (F : Stop.Interp) :
    ReturnsInHanded {} Tryd.checked os 6 .any ((OpenSpec.ofChange Rows.fnClausesDoSpec).preRow enc Tryd.prog Tryd.f6 Rows.fnClausesDoRow.domain false Rows.fnClausesDoRow.laid) (((OpenSpec.ofChange Rows.fnClausesDoSpec).at F).post enc Tryd.prog Tryd.f6 false true false false) := by
  refine returnsInHanded_of_row (C := Tryd.checked) (s := OpenSpec.ofChange Rows.fnClausesDoSpec) own started (by kernel_rfl) Tryd.func6
    (witness_row_at (enc := enc) (C := Tryd.checked) false (laidWorld_FnClausesDo os) #[.slice none 0 0] rfl (by kernel_rfl) (by kernel_rfl) (by kernel_rfl)
      (OpenSpec.preRow_of_B rfl 8 (by kernel_rfl) (by kernel_rfl) (laidMet_FnClausesDo os))) ?_
  intro W base args ds gs before hval hW _ _ _ hL _ _
  exact contract_FnClausesDo H enc W base args ds gs before hval hW hL

theorem said_FnClausesDo : Rows.FnClausesDoSaid :=
  OpenClaim.holds_of_cond 6 Tryd.f6 rfl rfl rfl rfl rfl rfl rfl ⟨rfl, rfl, rfl, rfl, rfl⟩ rfl rfl rfl rfl rfl (by kernel_rfl) Tryd.func6 (by kernel_rfl)
    (of_decide_eq_true (by kernel_rfl)) (by unfold Func.isWrapper; first | (rw [if_pos (by decide +kernel)]; kernel_rfl) | (rw [if_neg (by decide +kernel)]; exact ⟨rfl, rfl⟩))
    (fun os started H enc _ F => by rw [OpenClaim.pre_eq_preRow]; exact lifted_FnClausesDo os started H enc F)

theorem plain_FnClausesDo (f : FuncId) (fn : Func) (hf : Tryd.pinned.checked.prog.funcNamed "loop.example/crossbuck/laws.FnClausesDo" = some f) (hfn : Tryd.pinned.checked.prog.funcs[f]? = some fn) :
    true = Tryd.pinned.checked.prog.looks [] ∧ ∀ (j : Nat) t, fn.params[j]? = some t → Tryd.pinned.checked.prog.wantsStandIn t = false := by
  obtain rfl : f = 6 := Option.some.inj ((show Tryd.prog.funcNamed "loop.example/crossbuck/laws.FnClausesDo" = some 6 by kernel_rfl).symm.trans hf) |>.symm
  obtain rfl : fn = Tryd.f6 := (Option.some.inj (Tryd.func6.symm.trans hfn)).symm
  refine ⟨by kernel_rfl, fun j t ht => ?_⟩
  rw [Tryd.params6] at ht
  obtain rfl : t = 43 := by simpa using Array.mem_of_getElem? ht
  exact (show Tryd.prog.wantsStandIn 43 = false by kernel_rfl)

theorem proved_FnClausesDo : Rows.FnClausesDoCardSaid :=
  Claim7.holds_tied_plain_at .later [] _ _ _ _ said_FnClausesDo (fun _ h => by cases h) (by kernel_rfl) (fun _ h => by cases h) fnClausesDo_row_tie rfl ⟨rfl, rfl⟩ (by kernel_rfl) rfl plain_FnClausesDo (by kernel_rfl)

end Go.Proofs.YtennaeboemlnoaaDoor
