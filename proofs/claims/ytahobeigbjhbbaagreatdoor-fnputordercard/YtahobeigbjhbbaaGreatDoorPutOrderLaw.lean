/-
  Proved: promise 46 (rules are put in any order), at every two codes from which the table and the rules are drawn; the codes read on as they did. No condition but the card's own: the listed variables of the library stand as its text lays them.
-/
import Derived.Test.YtahobeigbjhbbaaGreatDoorRuleCard
import Derived.Test.YtahobeigbjhbbaaGreatDoorOwnB
import Derived.Test.YtahobeigbjhbbaaGreatDoorTabPD
import Derived.Test.YtahobeigbjhbbaaGreatDoorTabDr
import Derived.Test.YtahobeigbjhbbaaGreatDoorRuleDrawD
namespace Go.Proofs.YtahobeigbjhbbaaGreatDoor
open Go.ChangeShapes Go.WideShapes Go.ChangeAt Go.RowKit Go.Joins
set_option linter.unusedVariables false

set_option maxRecDepth 100000 in
set_option maxHeartbeats 8000000 in
theorem walk_FnPutOrder (a : Option Addr) (len cap : Nat) (a' : Option Addr) (len' cap' : Nat) (w : World) (hb : BytesIn w w.heap.size a len cap) (hb' : BytesIn w w.heap.size a' len' cap') (hE : EtOk w) :
    Calls Tryz.prog 5 #[.slice a len cap, .slice a' len' cap'] w fun e w' => e = .returned (.bool true) ∧ Below w.heap.size w w' := by
  have HB := Lib.hid hb
  have HB' := Lib.hid hb'
  have HE := Lib.hid hE
  have hm : (len : Int) ≤ maxLen := by have := hb.1; have := hb.2.1; omega
  have hm' : (len' : Int) ≤ maxLen := by have := hb'.1; have := hb'.2.1; omega
  unfold maxLen at hm hm'
  clear hb hb' hE
  by_cases hlen : (1048576 : Int) < (len : Int)
  · go_enter Tryz.func5, Tryz.ntmps5
    go_wp2
    go_ret
    exact ⟨rfl, Below.refl _ _⟩
  have hl1 : decide ((1048576 : Int) < (len : Int)) = false := by simp; omega
  have hl1n : decide ((1048576 : Nat) < len) = false := by simp; omega
  by_cases hlen' : (1048576 : Int) < (len' : Int)
  · go_enter Tryz.func5, Tryz.ntmps5
    go_wp2
    go_ret
    exact ⟨rfl, Below.refl _ _⟩
  have hl2 : decide ((1048576 : Int) < (len' : Int)) = false := by simp; omega
  have hl2n : decide ((1048576 : Nat) < len') = false := by simp; omega
  go_enter Tryz.func5, Tryz.ntmps5
  go_wp2_with fail
  refine (drawTablePut_any _ _ _ _ HB.out).mono ?_
  rintro e w1 ⟨v, l, r, rfl, hl, hx, b1⟩
  have s1 := b1.size
  have hl' : l.length ≤ 1048576 := by omega
  have B1 : Hid (Below w.heap.size w (w1.alloc (.cells #[.int .i64 r.p, .string r.s, .int .i64 r.o, .int .i64 r.t] 25))) := b1.alloc s1 _
  have HX0 : Hid (Rls (w1.alloc (.cells #[.int .i64 r.p, .string r.s, .int .i64 r.o, .int .i64 r.t] 25)) (w1.alloc (.cells #[.int .i64 r.p, .string r.s, .int .i64 r.o, .int .i64 r.t] 25)).heap.size v l) := (hx.below (below_alloc1 _ _)).rls
  have C0 := Lib.hid (newBlockM w1 (.cells #[.int .i64 r.p, .string r.s, .int .i64 r.o, .int .i64 r.t] 25))
  clear hx b1
  have HSP := Lib.hid (fun W h => sTablePut_any W v l h hl' r)
  have HIP := Lib.hid (fun W h => iTablePut_any W v l h hl' r)
  have HPQ := Lib.hid (fun (q : R4) W h => iTablePut_any W v l h hl' q)
  have hpl : (putT r l).length ≤ 49 := by have := putT_len r l; omega
  obtain ⟨d, hd⟩ : ∃ d, putO r l = d := ⟨_, rfl⟩
  obtain ⟨T, hT⟩ : ∃ T, putT r l = T := ⟨_, rfl⟩
  rw [hT] at hpl
  rw [hd, hT] at HSP HIP
  have HD := Lib.hid hd
  have HTT := Lib.hid hT
  clear hd hT
  go_wp2_with fail
  generalize hW : w1.alloc (.cells #[.int .i64 r.p, .string r.s, .int .i64 r.o, .int .i64 r.t] 25) = W at *
  have zW : w1.heap.size < W.heap.size := by rw [← hW]; simp
  clear hW
  have HQ : Hid (∀ W', Below W.heap.size W W' → Four W' w1.heap.size 0 r) := fun W' hb => fourOf ((hb.block _ zW).trans C0.out)
  have HX : Hid (∀ W', Below W.heap.size W W' → Rls W' W'.heap.size v l) := fun W' hb => (HX0.out.below hb (Nat.le_refl _)).mono hb.size
  have BW : Hid (∀ W', Below W.heap.size W W' → Below w.heap.size w W') := fun W' hb => B1.out.trans (hb.mono B1.out.size)
  generalize w1.heap.size = h at *
  clear C0 HX0 B1
  refine (HSP.out _ (HX.out _ (Below.refl _ _))).mono ?_
  rintro e w2 ⟨u, rfl, hrow, b2⟩
  have HU := Lib.hid hrow
  have B := Lib.hid b2
  obtain ⟨q0, q1, q2, q3⟩ := HQ.out _ b2
  simp only [Nat.zero_add] at q1 q2 q3
  clear hrow b2
  go_wp2_with fail
  refine (HIP.out _ (HX.out _ B.out) (HE.out.below (BW.out _ B.out))).mono ?_
  rintro e w3 ⟨x, rfl, hrow, b3⟩
  have HXX := Lib.hid hrow
  replace HU := Lib.hid (HU.out.below b3)
  replace B := Lib.hid (belStep B.out b3)
  clear hrow b3 q0 q1 q2 q3 HSP HIP
  have HLX := Lib.hid (fun W h h' => lxRules_same W x u T h h' (by omega))
  cases d
  · go_wp2_with fail
    refine (HLX.out _ HXX.out.rls HU.out.rls).mono ?_
    rintro e w4 ⟨rfl, b4⟩
    replace HXX := Lib.hid (HXX.out.below b4)
    replace HU := Lib.hid (HU.out.below b4)
    replace B := Lib.hid (belStep B.out b4)
    clear b4
    go_wp2_with fail
    refine (HLX.out _ HXX.out.rls HU.out.rls).mono ?_
    rintro e w5 ⟨rfl, b5⟩
    replace B := Lib.hid (belStep B.out b5)
    clear b5
    go_wp2
    go_ret
    exact ⟨rfl, BW.out _ B.out⟩
  · go_wp2_with fail
    refine (HLX.out _ HXX.out.rls HU.out.rls).mono ?_
    rintro e w4 ⟨rfl, b4⟩
    replace HXX := Lib.hid (HXX.out.below b4)
    replace B := Lib.hid (belStep B.out b4)
    have HB4 := Lib.hid ((HB'.out.keep (w' := w4) (fun k hk => (BW.out _ B.out).block k hk)).up (g' := w4.heap.size) (BW.out _ B.out).size)
    clear b4 HU HLX
    go_wp2_with fail
    refine (drawRuleDo_any _ _ _ _ HB4.out).mono ?_
    rintro e w5 ⟨p, s, o, t, y0, y1, y2, hs, hnr, rfl, b5⟩
    have hs7 : s.size ≤ 1048576 := by have := hs.2.1; omega
    replace HXX := Lib.hid (HXX.out.below b5)
    replace B := Lib.hid (belStep B.out b5)
    clear b5 hs hnr HB4 HB HB'
    have s5 := B.out.size
    have BB : Hid (Below W.heap.size W ((w5.alloc (.cells #[.int .i64 p, .string s, .int .i64 o, .int .i64 t] 25)).alloc (.cells #[.int .i64 y0, .int .i64 y1, .int .i64 y2] 36))) := (B.out.alloc s5 _).alloc (by simp; omega) _
    have HXB := Lib.hid (HXX.out.below (below_alloc2 w5 (.cells #[.int .i64 p, .string s, .int .i64 o, .int .i64 t] 25) (.cells #[.int .i64 y0, .int .i64 y1, .int .i64 y2] 36)))
    have C5 : Hid (((w5.alloc (.cells #[.int .i64 p, .string s, .int .i64 o, .int .i64 t] 25)).alloc (.cells #[.int .i64 y0, .int .i64 y1, .int .i64 y2] 36)).heap[w5.heap.size]? = some (.cells #[.int .i64 p, .string s, .int .i64 o, .int .i64 t] 25)) := (Below.heap_alloc _ _ _ (by simp)).trans (newBlockM w5 _)
    clear HXX B s5
    have HPX := Lib.hid (fun W h => iTablePut_any W x T h (by omega) ⟨p, s, o, t, hs7⟩)
    have HPL := Lib.hid (HPQ.out ⟨p, s, o, t, hs7⟩)
    have HTW := Lib.hid (put_two (r := r) (q := ⟨p, s, o, t, hs7⟩) (l := l) HD.out)
    rw [HTT.out] at HTW
    have hp2 : (putT ⟨p, s, o, t, hs7⟩ T).length ≤ 49 := by have := putT_len ⟨p, s, o, t, hs7⟩ T; omega
    have hp3 : (putT ⟨p, s, o, t, hs7⟩ l).length ≤ 49 := by have := putT_len ⟨p, s, o, t, hs7⟩ l; omega
    obtain ⟨e1, he1⟩ : ∃ e1, putO ⟨p, s, o, t, hs7⟩ T = e1 := ⟨_, rfl⟩
    obtain ⟨Y, hY⟩ : ∃ Y, putT ⟨p, s, o, t, hs7⟩ T = Y := ⟨_, rfl⟩
    obtain ⟨e2, he2⟩ : ∃ e2, putO ⟨p, s, o, t, hs7⟩ l = e2 := ⟨_, rfl⟩
    obtain ⟨Z, hZ⟩ : ∃ Z, putT ⟨p, s, o, t, hs7⟩ l = Z := ⟨_, rfl⟩
    rw [hY] at hp2
    rw [hZ] at hp3
    rw [he1, he2, hY, hZ] at HTW
    rw [he1, hY] at HPX
    rw [he2, hZ] at HPL
    clear he1 hY he2 hZ HPQ HD HTT
    dsimp only at HPX HPL
    go_wp2_with fail
    generalize hW5 : (w5.alloc (.cells #[.int .i64 p, .string s, .int .i64 o, .int .i64 t] 25)).alloc (.cells #[.int .i64 y0, .int .i64 y1, .int .i64 y2] 36) = W5 at *
    have z5 : w5.heap.size < W5.heap.size := by rw [← hW5]; simp; omega
    clear hW5
    have HQ5 : Hid (∀ W', Below W5.heap.size W5 W' → Four W' w5.heap.size 0 ⟨p, s, o, t, hs7⟩ ∧ Below W.heap.size W W') := fun W' hb => ⟨fourOf (r := ⟨p, s, o, t, hs7⟩) ((hb.block _ z5).trans C5.out), belStep BB.out hb⟩
    generalize w5.heap.size = h5 at *
    clear C5
    refine (HPX.out _ HXB.out.rls (HE.out.below (BW.out _ BB.out))).mono ?_
    rintro e w6 ⟨y, rfl, hrow, b6⟩
    have HYY := Lib.hid hrow
    have B6 := Lib.hid b6
    clear hrow b6 HXB HPX BB
    obtain ⟨⟨q0, q1, q2, q3⟩, bw6⟩ := HQ5.out _ B6.out
    dsimp only at q0 q1 q2 q3
    simp only [Nat.zero_add] at q1 q2 q3
    have BW6 := Lib.hid bw6
    clear bw6
    go_wp2_with fail
    refine (HPL.out _ (HX.out _ BW6.out) (HE.out.below (BW.out _ BW6.out))).mono ?_
    rintro e w7 ⟨z, rfl, hrow, b7⟩
    have HZZ := Lib.hid hrow
    replace HYY := Lib.hid (HYY.out.below b7)
    replace B6 := Lib.hid (belStep B6.out b7)
    clear hrow b7 q0 q1 q2 q3 BW6 HPL
    have HPZ := Lib.hid (fun W h => iTablePut_any W z Z h (by omega) r)
    have hp4 : (putT r Z).length ≤ 49 := by have := putT_len r Z; omega
    obtain ⟨e3, he3⟩ : ∃ e3, putO r Z = e3 := ⟨_, rfl⟩
    obtain ⟨U, hU⟩ : ∃ U, putT r Z = U := ⟨_, rfl⟩
    rw [hU] at hp4
    rw [he3, hU] at HPZ HTW
    clear he3 hU
    have bw7 := (HQ5.out _ B6.out).2
    obtain ⟨q0, q1, q2, q3⟩ := HQ.out _ bw7
    simp only [Nat.zero_add] at q1 q2 q3
    have BW7 := Lib.hid bw7
    clear bw7
    go_wp2_with fail
    refine (HPZ.out _ HZZ.out.rls (HE.out.below (BW.out _ BW7.out))).mono ?_
    rintro e w8 ⟨uu, rfl, hrow, b8⟩
    have HUU := Lib.hid hrow
    replace HYY := Lib.hid (HYY.out.below b8)
    have BW8 := Lib.hid (belStep BW7.out b8)
    clear hrow b8 q0 q1 q2 q3 HPZ BW7 HZZ
    cases e1
    · go_wp2
      go_ret
      exact ⟨rfl, BW.out _ BW8.out⟩
    · obtain ⟨rfl, rfl, rfl⟩ := HTW.out rfl
      clear HTW
      go_wp2_with fail
      refine (lxRules_same _ _ _ _ HYY.out.rls HUU.out.rls (by omega)).mono ?_
      rintro e w9 ⟨rfl, b9⟩
      replace BW8 := Lib.hid (belStep BW8.out b9)
      clear b9
      go_wp2
      go_ret
      exact ⟨rfl, BW.out _ BW8.out⟩

set_option maxRecDepth 100000 in
theorem contract_FnPutOrder (H : Type) (enc : TypeId × Value → H) (W : World) (base : Nat) (args : Array Value) (ds gs : List (DataW H)) (before : List MemPlace)
    (hval : ∀ (j : Nat) t v, Tryz.f5.params[j]? = some t → args[j]? = some v → Value.okWide Tryz.prog W .any base t v)
    (hW : DataW.Whole enc Tryz.prog Tryz.f5.params.toList Rows.fnPutOrderSpec.vars false W args.toList ds gs before) (hE : EtOk W) :
    Calls Tryz.prog 5 args W fun e W' => ∃ v, e = .returned v ∧ Rows.fnPutOrderSpec.post enc Tryz.prog Tryz.f5 false true false false W args v W' := by
  have hW' := hW
  obtain ⟨p, q, hA0, hV, rfl, hfz, hnd⟩ := hW
  have hA : DataW.TrodAll enc Tryz.prog W 0 (fun _ => true) true Tryz.f5.params.toList args.toList ds p := hA0
  rw [Tryz.params5] at hA hval
  obtain ⟨v0, vs0, d0, ds0, p0, q0, hargs, rfl, rfl, h0, r0⟩ := trodAll_cons hA
  obtain ⟨v1, vs1, d1, ds1, p1, q1, rfl, rfl, rfl, h1, r1⟩ := trodAll_cons r0
  obtain ⟨rfl, rfl, rfl⟩ := trodAll_nil r1
  obtain rfl : args = #[v0, v1] := by cases args; simp_all
  obtain ⟨rfl, rfl⟩ := trodVars_none hV
  have k0 := h0
  have lt0 : ∀ x ∈ p0, x.block < W.heap.size := by obtain ⟨m, hm⟩ := k0; exact DataW.trod_lt m _ _ _ hm
  have k1 := h1
  have lt1 : ∀ x ∈ p1, x.block < W.heap.size := by obtain ⟨m, hm⟩ := k1; exact DataW.trod_lt m _ _ _ hm
  obtain ⟨a0, len0, cap0, rfl⟩ := okWide_slice Tryz.underlying22 (hval 0 22 v0 rfl rfl)
  have w0 : BytesIn W W.heap.size a0 len0 cap0 := isRow_of h0
  obtain ⟨a1, len1, cap1, rfl⟩ := okWide_slice Tryz.underlying22 (hval 1 22 v1 rfl rfl)
  have w1 : BytesIn W W.heap.size a1 len1 cap1 := isRow_of h1
  clear hA0
  refine (walk_FnPutOrder a0 len0 cap0 a1 len1 cap1 W w0 w1 hE).mono fun e W' ⟨he, bel⟩ => ?_
  subst he
  exact ⟨_, rfl, _, _, _, [], _, [], hW', trodAll_mk1 (shut_bool Tryz.underlying4 _), (trodAll_cons_mk (Below.trod laidOut (by kernel_rfl) (of_decide_eq_true (by kernel_rfl)) k0 bel lt0) (trodAll_cons_mk (Below.trod laidOut (by kernel_rfl) (of_decide_eq_true (by kernel_rfl)) k1 bel lt1) (trodAll_mk0))), rfl, bel.frame _, fun h => by cases h⟩

/-- A world for the witness: the settled one, with the listed variables as the text lays them. -/
noncomputable def laidWorld_FnPutOrder (os : Os) : World :=
  { World.holding Tryz.prog os ⟨#[], #[], []⟩ with heap := (((((World.holding Tryz.prog os ⟨#[], #[], []⟩).heap).modify 3 (fun | .cells _ t frozen => .cells #[.int .u8 0, .int .u8 1, .int .u8 28, .int .u8 2, .int .u8 29, .int .u8 14, .int .u8 24, .int .u8 3, .int .u8 30, .int .u8 22, .int .u8 20, .int .u8 15, .int .u8 25, .int .u8 17, .int .u8 4, .int .u8 8, .int .u8 31, .int .u8 27, .int .u8 13, .int .u8 23, .int .u8 21, .int .u8 19, .int .u8 16, .int .u8 7, .int .u8 26, .int .u8 12, .int .u8 18, .int .u8 6, .int .u8 11, .int .u8 5, .int .u8 10, .int .u8 9] t frozen | o => o)).modify 4 (fun | .cells _ t frozen => .cells #[.int .u8 0, .int .u8 1, .int .u8 56, .int .u8 2, .int .u8 57, .int .u8 49, .int .u8 28, .int .u8 3, .int .u8 61, .int .u8 58, .int .u8 42, .int .u8 50, .int .u8 38, .int .u8 29, .int .u8 17, .int .u8 4, .int .u8 62, .int .u8 47, .int .u8 59, .int .u8 36, .int .u8 45, .int .u8 43, .int .u8 51, .int .u8 22, .int .u8 53, .int .u8 39, .int .u8 33, .int .u8 30, .int .u8 24, .int .u8 18, .int .u8 12, .int .u8 5, .int .u8 63, .int .u8 55, .int .u8 48, .int .u8 27, .int .u8 60, .int .u8 41, .int .u8 37, .int .u8 16, .int .u8 46, .int .u8 35, .int .u8 44, .int .u8 21, .int .u8 52, .int .u8 32, .int .u8 23, .int .u8 11, .int .u8 54, .int .u8 26, .int .u8 40, .int .u8 15, .int .u8 34, .int .u8 20, .int .u8 31, .int .u8 10, .int .u8 25, .int .u8 14, .int .u8 19, .int .u8 9, .int .u8 13, .int .u8 8, .int .u8 7, .int .u8 6] t frozen | o => o)).modify 2 (fun | .cells _ t frozen => .cells #[.int .u64 1, .int .u64 10, .int .u64 100, .int .u64 1000, .int .u64 10000, .int .u64 100000, .int .u64 1000000, .int .u64 10000000, .int .u64 100000000, .int .u64 1000000000, .int .u64 10000000000, .int .u64 100000000000, .int .u64 1000000000000, .int .u64 10000000000000, .int .u64 100000000000000, .int .u64 1000000000000000, .int .u64 10000000000000000, .int .u64 100000000000000000, .int .u64 1000000000000000000, .int .u64 10000000000000000000] t frozen | o => o)).modify 0 (fun | .cells _ t frozen => .cells #[.iface 193 (.agg #[.pointer (some ⟨5, 130, none⟩)])] t frozen | o => o) }

theorem laidMet_FnPutOrder (os : Os) : laidMetH Tryz.prog Rows.fnPutOrderRow.laid ((laidWorld_FnPutOrder os).forCall (fun _ _ => 0) ⟨#[], #[.slice none 0 0, .slice none 0 0], []⟩).memory :=
  laidMetH_of_parts (laidMet_of_run' 8 (by kernel_rfl) (by kernel_rfl)) (by kernel_rfl)

theorem reads_FnPutOrder (os : Os) {H : Type} (enc : TypeId × Value → H) : ∃ places, DataW.whole enc Tryz.prog ((laidWorld_FnPutOrder os).forCall (fun _ _ => 0) ⟨#[], #[.slice none 0 0, .slice none 0 0], []⟩).memory Tryz.f5.params.toList Rows.fnPutOrderSpec.vars false (#[.slice none 0 0, .slice none 0 0] : Array Value).toList 8 = some ([.nil, .nil], [], places) :=
  ⟨[], by kernel_rfl⟩

set_option maxRecDepth 100000 in
theorem lifted_FnPutOrder (os : Os) (started : os.Started) (H : Type) (enc : TypeId × Value → H) (F : Stop.Interp) :
    ReturnsInHanded {} Tryz.checked os 5 .any ((OpenSpec.ofChange Rows.fnPutOrderSpec).preRow enc Tryz.prog Tryz.f5 Rows.fnPutOrderRow.domain false Rows.fnPutOrderRow.laid) (((OpenSpec.ofChange Rows.fnPutOrderSpec).at F).post enc Tryz.prog Tryz.f5 false true false false) := by
  obtain ⟨places, hx⟩ := reads_FnPutOrder os enc
  refine returnsInHanded_of_row (C := Tryz.checked) (s := OpenSpec.ofChange Rows.fnPutOrderSpec) own started (by kernel_rfl) Tryz.func5
    (witness_row_at (enc := enc) (C := Tryz.checked) false (laidWorld_FnPutOrder os) #[.slice none 0 0, .slice none 0 0] rfl (by kernel_rfl) (by kernel_rfl) (by kernel_rfl)
      (OpenSpec.preRow_of_cond 8 hx (by kernel_rfl) (fun k hk => by cases hk) (by kernel_rfl) (laidMet_FnPutOrder os))) ?_
  intro W base args ds gs before hval hW _ _ _ hL _ _
  exact contract_FnPutOrder H enc W base args ds gs before hval hW (etOk_of hL (by simp [Rows.fnPutOrderRow]))

theorem said_FnPutOrder : Rows.FnPutOrderSaid :=
  OpenClaim.holds_of_cond 5 Tryz.f5 rfl rfl rfl rfl rfl rfl rfl ⟨rfl, rfl, rfl, rfl, rfl⟩ rfl rfl rfl rfl rfl (by kernel_rfl) Tryz.func5 (by kernel_rfl)
    (of_decide_eq_true (by kernel_rfl)) (by unfold Func.isWrapper; first | (rw [if_pos (by decide +kernel)]; kernel_rfl) | (rw [if_neg (by decide +kernel)]; exact ⟨rfl, rfl⟩))
    (fun os started H enc _ F => by rw [OpenClaim.pre_eq_preRow]; exact lifted_FnPutOrder os started H enc F)

theorem plain_FnPutOrder (f : FuncId) (fn : Func) (hf : Tryz.pinned.checked.prog.funcNamed "loop.example/crossbuck/laws.FnPutOrder" = some f) (hfn : Tryz.pinned.checked.prog.funcs[f]? = some fn) :
    true = Tryz.pinned.checked.prog.looks [] ∧ ∀ (j : Nat) t, fn.params[j]? = some t → Tryz.pinned.checked.prog.wantsStandIn t = false := by
  obtain rfl : f = 5 := Option.some.inj ((show Tryz.prog.funcNamed "loop.example/crossbuck/laws.FnPutOrder" = some 5 by kernel_rfl).symm.trans hf) |>.symm
  obtain rfl : fn = Tryz.f5 := (Option.some.inj (Tryz.func5.symm.trans hfn)).symm
  refine ⟨by kernel_rfl, fun j t ht => ?_⟩
  rw [Tryz.params5] at ht
  obtain rfl : t = 22 := by simpa using Array.mem_of_getElem? ht
  exact (show Tryz.prog.wantsStandIn 22 = false by kernel_rfl)

theorem proved_FnPutOrder : Rows.FnPutOrderCardSaid :=
  Claim7.holds_tied_plain_at .later [] _ _ _ _ said_FnPutOrder (fun _ h => by cases h) (by kernel_rfl) (fun _ h => by cases h) fnPutOrder_row_tie rfl ⟨rfl, rfl⟩ (by kernel_rfl) rfl plain_FnPutOrder (by kernel_rfl)

end Go.Proofs.YtahobeigbjhbbaaGreatDoor
