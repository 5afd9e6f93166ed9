/-
  Proved: promise 30 (a head fits a condition by its parts), at every code from which the condition and the head are drawn; the code reads on as it did. No condition but the card's own: the program's error value stands as its text lays it.
-/
import Derived.Test.YtddkpimmcmnogaaDoorPredCard
import Derived.Test.YtddkpimmcmnogaaDoorPredDrawC
import Derived.Test.YtddkpimmcmnogaaDoorPredLx
namespace Go.Proofs.YtddkpimmcmnogaaDoor
open Go.ChangeShapes Go.WideShapes Go.ChangeAt Go.RowKit Go.Joins
set_option linter.unusedVariables false

theorem headKept (w1 : World) (x y z : Int) (t : TypeId) (W : World) (hW : Below (w1.alloc (.cells #[.int .i64 x, .int .i64 y, .int .i64 z] t)).heap.size (w1.alloc (.cells #[.int .i64 x, .int .i64 y, .int .i64 z] t)) W) :
    W.cell? ⟨w1.heap.size, 0, none⟩ = some (.int .i64 x) ∧ W.cell? ⟨w1.heap.size, 1, none⟩ = some (.int .i64 y) ∧ W.cell? ⟨w1.heap.size, 2, none⟩ = some (.int .i64 z) :=
  ⟨(belCell hW _ 0 (by simp)).trans (by simp), (belCell hW _ 1 (by simp)).trans (by simp), (belCell hW _ 2 (by simp)).trans (by simp)⟩

theorem hasL_txt {c : Cnd} (hk : c.ok = true) (h16 : c.txt.length ≤ 16) {x y z : Int} (ho : okB x y z = true) : hasL (lB (bs c.txt)) x y z = c.ev x y z := by
  rw [lB_bs]
  unfold hasL
  rw [whole_of hk h16]
  simp only
  rw [ho, Bool.true_and]

set_option maxRecDepth 100000 in
set_option maxHeartbeats 40000000 in
theorem walk_FnPredHas (a : Option Addr) (len cap : Nat) (w : World) (hb : BytesIn w w.heap.size a len cap) (ep : Addr) (hE : w.cell? ⟨0, 0, none⟩ = some (errV ep)) :
    Calls Tryd.prog 14 #[.slice a len cap] w fun e w' => e = .returned (.bool true) ∧ Below w.heap.size w w' := by
  have HB := Lib.hid hb
  have HE := Lib.hid hE
  have hm : (len : Int) ≤ maxLen := by have := hb.1; have := hb.2.1; omega
  unfold maxLen at hm
  clear hb hE
  by_cases hlen : (1048576 : Int) < (len : Int)
  · go_enter Tryd.func14, Tryd.ntmps14
    go_wp2
    go_ret
    exact ⟨rfl, Below.refl _ _⟩
  go_enter Tryd.func14, Tryd.ntmps14
  go_wp2_with fail
  refine (drawPredHas_any _ _ _ _ HB.out).mono ?_
  rintro e w1 ⟨s, x, y, z, hs, rfl, b1⟩
  have s1 := b1.size
  have B1 : Hid (Below w.heap.size w (w1.alloc (.cells #[.int .i64 x, .int .i64 y, .int .i64 z] 30))) := b1.alloc s1 _
  have HC := Lib.hid (headKept w1 x y z 30)
  have IH : Hid (∀ W : World, Below w.heap.size w W → Calls Tryd.prog 24 #[.string s, .agg #[.int .i64 x, .int .i64 y, .int .i64 z]] W fun e w' => e = .returned (.bool (hasL (lB s) x y z)) ∧ Below W.heap.size W w') := fun W hb => iHas_at s (by omega) x y z ep W (cellLater HE.out hb)
  have SH : Hid (∀ W : World, Calls Tryd.prog 22 #[.string s, .agg #[.int .i64 x, .int .i64 y, .int .i64 z]] W fun e w' => e = .returned (.bool (hasL (lB s) x y z)) ∧ Below W.heap.size W w') := fun W => sHas_at s (by omega) x y z W
  have SO : Hid (∀ W : World, Calls Tryd.prog 15 #[.string s] W fun e w' => e = .returned (.bool (whole (lB s)).isSome) ∧ Below W.heap.size W w') := fun W => sOk_at s (by omega) W
  have IP : Hid (∀ W : World, Below w.heap.size w W → Calls Tryd.prog 18 #[.string s] W fun e w' => ∃ v, e = .returned v ∧ StrRow w' W.heap.size v (partsT (lB s)) ∧ Below W.heap.size W w') := fun W hb => iParts_at s (by omega) ep W (cellLater HE.out hb)
  have IA : Hid (∀ (t : ByteArray) (W : World), t.size ≤ 1000 → Below w.heap.size w W → Calls Tryd.prog 24 #[.string t, .agg #[.int .i64 x, .int .i64 y, .int .i64 z]] W fun e w' => e = .returned (.bool (hasL (lB t) x y z)) ∧ Below W.heap.size W w') := fun t W ht hb => iHas_at t ht x y z ep W (cellLater HE.out hb)
  clear b1 HB HE
  go_wp2_with fail
  generalize w1.alloc (.cells #[.int .i64 x, .int .i64 y, .int .i64 z] 30) = W at *
  have BW : Hid (∀ W', Below W.heap.size W W' → Below w.heap.size w W') := fun W' hb => B1.out.trans (hb.mono B1.out.size)
  generalize w1.heap.size = h at *
  refine (IH.out _ B1.out).mono ?_
  rintro e w2 ⟨rfl, b2⟩
  obtain ⟨q0, q1, q2⟩ := HC.out _ b2
  clear B1 IH
  go_wp2_with fail
  refine (SH.out _).mono ?_
  rintro e w3 ⟨rfl, b3⟩
  have b3' := belStep b2 b3
  clear q0 q1 q2 b2 b3
  obtain ⟨q0, q1, q2⟩ := HC.out _ b3'
  go_wp2_with fail
  refine (SO.out _).mono ?_
  rintro e w4 ⟨rfl, b4⟩
  have b4' := belStep b3' b4
  clear q0 q1 q2 b3' b4 SO
  obtain ⟨q0, q1, q2⟩ := HC.out _ b4'
  cases hw : whole (lB s) with
  | none =>
    simp only [Option.isSome_none]
    clear hw
    go_wp2_with fail
    refine (SH.out _).mono ?_
    rintro e w5 ⟨rfl, b5⟩
    go_wp2
    go_ret
    exact ⟨by simp, BW.out _ (belStep b4' b5)⟩
  | some c =>
    simp only [Option.isSome_some]
    go_wp2_with fail
    refine (sHeadOk_any x y z _).mono ?_
    rintro e w5 ⟨rfl, b5⟩
    have b5' := belStep b4' b5
    clear q0 q1 q2 b4' b5
    cases ho : okB x y z
    · obtain ⟨q0, q1, q2⟩ := HC.out _ b5'
      clear hw
      go_wp2_with fail
      refine (SH.out _).mono ?_
      rintro e w6 ⟨rfl, b6⟩
      go_wp2
      go_ret
      exact ⟨by simp, BW.out _ (belStep b5' b6)⟩
    obtain ⟨hl, hk, h16⟩ := whole_some hw
    rw [hl] at h16
    have HV : Hid (hasL (lB s) x y z = c.ev x y z) := by
      show _ = _
      unfold hasL
      rw [hw]
      simp only
      rw [ho, Bool.true_and]
    have HT : Hid (partsT (lB s) = c.parts.map bs) := by show _ = _; unfold partsT; rw [hw]
    have IX : Hid (∀ (b : Cnd) (W' : World), b.ok = true → b.txt.length ≤ 16 → Below W.heap.size W W' → Calls Tryd.prog 24 #[.string (bs b.txt), .agg #[.int .i64 x, .int .i64 y, .int .i64 z]] W' fun e w' => e = .returned (.bool (b.ev x y z)) ∧ Below W'.heap.size W' w') := fun b W' hb h16 hB => by
      have := IA.out (bs b.txt) W' (by rw [bs_size]; omega) (BW.out _ hB)
      rwa [hasL_txt hb h16 ho] at this
    rw [HV.out]
    clear IA SH ho
    go_wp2_with fail
    refine (IP.out _ (BW.out _ b5')).mono ?_
    rintro e w6 ⟨v, rfl, r6, b6⟩
    have z5 := b5'.size
    have B6 := Lib.hid (belStep b5' b6)
    rw [HT.out] at r6
    clear b5' b6 HT HV IP
    cases c with
    | one b =>
      have hsb : s = ⟨#[if b then 49 else 48]⟩ := by rw [← bs_lB s, hl]; rfl
      clear hl hw
      subst hsb
      obtain ⟨g, q, rfl, hgb, hgl, hq, hqm, hc⟩ := rowForm r6 (by simp [Cnd.parts])
      have c1 := hc 0 (bs (Cnd.one b).txt) rfl
      clear hc r6
      simp only [Cnd.parts, List.map_cons, List.map_nil, List.length_cons, List.length_nil] at *
      cases b
      · replace c1 : w6.cell? ⟨g, 0, none⟩ = some (.string ⟨#[48]⟩) := c1
        simp only [Cnd.ev, if_false, Bool.false_eq_true]
        go_wp2
        go_ret
        exact ⟨rfl, BW.out _ B6.out⟩
      · replace c1 : w6.cell? ⟨g, 0, none⟩ = some (.string ⟨#[49]⟩) := c1
        simp only [Cnd.ev, if_true]
        go_wp2
        go_ret
        exact ⟨rfl, BW.out _ B6.out⟩
    | fld k d =>
      simp [Cnd.ok] at hk
      have hsb : s = bs [k, d] := by rw [← bs_lB s, hl]; rfl
      have hs2 : s.size = 2 := by rw [hsb, bs_size]; rfl
      have z0 : 0 < s.size := by omega
      have z1 : 1 < s.size := by omega
      have x0 : s[0]'z0 = k := by subst hsb; rfl
      have x1 : s[1]'z1 = d := by subst hsb; rfl
      have hL : s.toList = [k, d] := by rw [hsb, bs_toList]
      have q33 : (s.toList == [33]) = false := by rw [hL]; simp
      have q38 : (s.toList == [38]) = false := by rw [hL]; simp
      have q124 : (s.toList == [124]) = false := by rw [hL]; simp
      have q49 : (s.toList == [49]) = false := by rw [hL]; simp
      have q48 : (s.toList == [48]) = false := by rw [hL]; simp
      obtain ⟨g, q, rfl, hgb, hgl, hq, hqm, hc⟩ := rowForm r6 (by simp [Cnd.parts])
      have c0 : w6.cell? ⟨g, 0, none⟩ = some (.string s) := by rw [hsb]; exact hc 0 (bs (Cnd.fld k d).txt) rfl
      clear hc r6 hL hsb hl hw h16 IX
      obtain ⟨hd0, hd1⟩ := isD_cases hk.2
      simp only [Cnd.parts, List.map_cons, List.map_nil, List.length_cons, List.length_nil] at *
      have hsz : (s.size : Int) = 2 := by omega
      obtain ⟨h0, h1, h2⟩ := HC.out _ B6.out
      have BB := Lib.hid (BW.out _ B6.out)
      clear BW HC B6 hs2
      rcases isF_cases hk.1 with rfl | rfl | rfl
      · rw [show Cnd.ev x y z (.fld 115 d) = (x == (d.toNat : Int) - 48) from rfl]
        clear hk
        cases hv : (x == (d.toNat : Int) - 48)
        all_goals
          go_wp2
          go_ret
          exact ⟨rfl, BB.out⟩
      · rw [show Cnd.ev x y z (.fld 100 d) = (y == (d.toNat : Int) - 48) from rfl]
        clear hk
        cases hv : (y == (d.toNat : Int) - 48)
        all_goals
          go_wp2
          go_ret
          exact ⟨rfl, BB.out⟩
      · rw [show Cnd.ev x y z (.fld 116 d) = (z == (d.toNat : Int) - 48) from rfl]
        clear hk
        cases hv : (z == (d.toNat : Int) - 48)
        all_goals
          go_wp2
          go_ret
          exact ⟨rfl, BB.out⟩
    | neg a =>
      obtain ⟨g, q, rfl, hgb, hgl, hq, hqm, hc⟩ := rowForm r6 (by simp [Cnd.parts])
      have c0 : w6.cell? ⟨g, 0, none⟩ = some (.string ⟨#[33]⟩) := hc 0 (bs [33]) rfl
      have c1 := hc 1 (bs a.txt) rfl
      clear hc r6
      have CA := Lib.hid (fun W' hW => IX.out a W' hk (by simp [Cnd.txt] at h16; omega) hW)
      simp only [Cnd.parts, List.map_cons, List.map_nil, List.length_cons, List.length_nil, Cnd.ev] at *
      generalize bs a.txt = t at *
      generalize a.ev x y z = A at *
      have HCL : Hid (∀ W', Below w6.heap.size w6 W' → W'.cell? ⟨h, 0, none⟩ = some (.int .i64 x) ∧ W'.cell? ⟨h, 1, none⟩ = some (.int .i64 y) ∧ W'.cell? ⟨h, 2, none⟩ = some (.int .i64 z) ∧ W'.cell? ⟨g, 1, none⟩ = some (.string t)) := fun W' hb =>
        have hq := HC.out _ (belStep B6.out hb)
        ⟨hq.1, hq.2.1, hq.2.2, cellLater c1 hb⟩
      have D0 := Lib.hid (Below.refl w6.heap.size w6)
      clear IX hl hw h16 hk c1 HC
      go_wp2_with fail
      clear c0
      go_region_held3 (fun W' => W'.cell? ⟨h, 0, none⟩ = some (.int .i64 x) ∧ W'.cell? ⟨h, 1, none⟩ = some (.int .i64 y) ∧ W'.cell? ⟨h, 2, none⟩ = some (.int .i64 z) ∧ W'.cell? ⟨g, 1, none⟩ = some (.string t))
        (first | exact HCL.out _ D0.out.drew | exact HCL.out _ D0.out | exact HCL.out _ D1.out)
        (first | (go_at_call 24; ((with_reducible refine (CA.out _ (belStep B6.out D0.out.drew)).mono ?_); rintro e w8 ⟨rfl, b8⟩; have D1 : Hid (Below w6.heap.size w6 w8) := belStep D0.out.drew b8; clear b8)))
      go_wp2
      go_ret
      exact ⟨by first | rfl | simp, BW.out _ (belStep B6.out D1.out)⟩
    | two k a b =>
      obtain ⟨g, q, rfl, hgb, hgl, hq, hqm, hc⟩ := rowForm r6 (by simp [Cnd.parts])
      have c0 := hc 0 (bs [k]) rfl
      have c1 := hc 1 (bs a.txt) rfl
      have c2 := hc 2 (bs b.txt) rfl
      clear hc r6
      simp [Cnd.ok] at hk
      have CA := Lib.hid (fun W' hW => IX.out a W' hk.2.1 (by simp [Cnd.txt] at h16; omega) hW)
      have CB := Lib.hid (fun W' hW => IX.out b W' hk.2.2 (by simp [Cnd.txt] at h16; omega) hW)
      have hkk := hk.1
      clear IX hl hw h16 hk
      generalize bs a.txt = t at *
      generalize bs b.txt = t' at *
      have HCL : Hid (∀ W', Below w6.heap.size w6 W' → W'.cell? ⟨h, 0, none⟩ = some (.int .i64 x) ∧ W'.cell? ⟨h, 1, none⟩ = some (.int .i64 y) ∧ W'.cell? ⟨h, 2, none⟩ = some (.int .i64 z) ∧ W'.cell? ⟨g, 1, none⟩ = some (.string t) ∧ W'.cell? ⟨g, 2, none⟩ = some (.string t')) := fun W' hb =>
        have hq := HC.out _ (belStep B6.out hb)
        ⟨hq.1, hq.2.1, hq.2.2, cellLater c1 hb, cellLater c2 hb⟩
      have D0 : Hid (Below w6.heap.size w6 w6.drew) := (Below.refl _ _).drew
      clear c1 c2 HC
      rcases isT_cases hkk with rfl | rfl
      · replace c0 : w6.cell? ⟨g, 0, none⟩ = some (.string ⟨#[38]⟩) := c0
        simp only [Cnd.parts, List.map_cons, List.map_nil, List.length_cons, List.length_nil, Cnd.ev, if_true] at *
        generalize a.ev x y z = A at *
        generalize b.ev x y z = B at *
        go_wp2_with fail
        clear c0
        cases A
        · rw [Bool.false_and]
          obtain ⟨q0, q1, q2, q3, q4⟩ := HCL.out _ D0.out
          first
            | go_region_with (first
                | (go_at_call 24; ((with_reducible refine (CA.out _ (belStep B6.out D0.out)).mono ?_); rintro e w8 ⟨rfl, b8⟩; have D1 : Hid (Below w6.heap.size w6 w8) := belStep D0.out b8; obtain ⟨q0, q1, q2, q3, q4⟩ := HCL.out _ D1.out; clear b8)))
            | fail
          all_goals
            go_wp2
            go_ret
            exact ⟨by first | rfl | simp, BW.out _ (belStep B6.out D1.out)⟩
        · rw [Bool.true_and]
          go_region_held3 (fun W' => W'.cell? ⟨h, 0, none⟩ = some (.int .i64 x) ∧ W'.cell? ⟨h, 1, none⟩ = some (.int .i64 y) ∧ W'.cell? ⟨h, 2, none⟩ = some (.int .i64 z) ∧ W'.cell? ⟨g, 1, none⟩ = some (.string t) ∧ W'.cell? ⟨g, 2, none⟩ = some (.string t'))
            (first | exact HCL.out _ D0.out | exact HCL.out _ D2.out | exact HCL.out _ D1.out)
            (first
              | (go_at_call 24; ((with_reducible refine (CA.out _ (belStep B6.out D0.out)).mono ?_); rintro e w8 ⟨rfl, b8⟩; have D1 : Hid (Below w6.heap.size w6 w8) := belStep D0.out b8; clear b8))
              | (go_at_call 24; ((with_reducible refine (CB.out _ (belStep B6.out D1.out)).mono ?_); rintro e w9 ⟨rfl, b9⟩; have D2 : Hid (Below w6.heap.size w6 w9) := belStep D1.out b9; clear b9)))
          go_wp2
          go_ret
          exact ⟨by simp, BW.out _ (belStep B6.out D2.out)⟩
      · replace c0 : w6.cell? ⟨g, 0, none⟩ = some (.string ⟨#[124]⟩) := c0
        rw [show Cnd.ev x y z (.two 124 a b) = (a.ev x y z || b.ev x y z) from rfl]
        simp only [Cnd.parts, List.map_cons, List.map_nil, List.length_cons, List.length_nil] at *
        generalize a.ev x y z = A at *
        generalize b.ev x y z = B at *
        go_wp2_with fail
        clear c0
        cases A
        · rw [Bool.false_or]
          go_region_held3 (fun W' => W'.cell? ⟨h, 0, none⟩ = some (.int .i64 x) ∧ W'.cell? ⟨h, 1, none⟩ = some (.int .i64 y) ∧ W'.cell? ⟨h, 2, none⟩ = some (.int .i64 z) ∧ W'.cell? ⟨g, 1, none⟩ = some (.string t) ∧ W'.cell? ⟨g, 2, none⟩ = some (.string t'))
            (first | exact HCL.out _ D0.out | exact HCL.out _ D2.out | exact HCL.out _ D1.out)
            (first
              | (go_at_call 24; ((with_reducible refine (CA.out _ (belStep B6.out D0.out)).mono ?_); rintro e w8 ⟨rfl, b8⟩; have D1 : Hid (Below w6.heap.size w6 w8) := belStep D0.out b8; clear b8))
              | (go_at_call 24; ((with_reducible refine (CB.out _ (belStep B6.out D1.out)).mono ?_); rintro e w9 ⟨rfl, b9⟩; have D2 : Hid (Below w6.heap.size w6 w9) := belStep D1.out b9; clear b9)))
          go_wp2
          go_ret
          exact ⟨by simp, BW.out _ (belStep B6.out D2.out)⟩
        · rw [Bool.true_or]
          obtain ⟨q0, q1, q2, q3, q4⟩ := HCL.out _ D0.out
          first
            | go_region_with (first
                | (go_at_call 24; ((with_reducible refine (CA.out _ (belStep B6.out D0.out)).mono ?_); rintro e w8 ⟨rfl, b8⟩; have D1 : Hid (Below w6.heap.size w6 w8) := belStep D0.out b8; obtain ⟨q0, q1, q2, q3, q4⟩ := HCL.out _ D1.out; clear b8)))
            | fail
          all_goals
            go_wp2
            go_ret
            exact ⟨by first | rfl | simp, BW.out _ (belStep B6.out D1.out)⟩

set_option maxRecDepth 100000 in
theorem contract_FnPredHas (H : Type) (enc : TypeId × Value → H) (W : World) (base : Nat) (args : Array Value) (ds gs : List (DataW H)) (before : List MemPlace)
    (hval : ∀ (j : Nat) t v, Tryd.f14.params[j]? = some t → args[j]? = some v → Value.okWide Tryd.prog W .any base t v)
    (hW : DataW.Whole enc Tryd.prog Tryd.f14.params.toList Rows.fnPredHasSpec.vars false W args.toList ds gs before) (hL : laidMet Tryd.prog [("loop.example/crossbuck/impl.errPred", Rows.laid_loop_example_crossbuck_impl_errPred)] W) :
    Calls Tryd.prog 14 args W fun e W' => ∃ v, e = .returned v ∧ Rows.fnPredHasSpec.post enc Tryd.prog Tryd.f14 false true false false W args v W' := by
  have hW' := hW
  obtain ⟨p, q, hA0, hV0, rfl, hfz, hnd⟩ := hW
  have hA : DataW.TrodAll enc Tryd.prog W 0 (fun _ => true) true Tryd.f14.params.toList args.toList ds p := hA0
  have hV : DataW.TrodVars enc Tryd.prog W (fun _ => true) ["loop.example/crossbuck/impl.errPred"] gs q := hV0
  rw [Tryd.params14] at hA hval
  obtain ⟨v0, vs0, d0, ds0, p0, q0, hargs, rfl, rfl, h0, r0⟩ := trodAll_cons hA
  obtain ⟨rfl, rfl, rfl⟩ := trodAll_nil r0
  obtain rfl : args = #[v0] := by cases args; simp_all
  obtain ⟨ep, hv⟩ := laidErr hL
  obtain ⟨rfl, rfl⟩ := hV.unique (vars_read1 enc gE gEt Tryd.underlying49 hv trivial _)
  have k0 := h0
  have lt0 : ∀ x ∈ p0, x.block < W.heap.size := by obtain ⟨m, hm⟩ := k0; exact DataW.trod_lt m _ _ _ hm
  obtain ⟨a0, len0, cap0, rfl⟩ := okWide_slice Tryd.underlying35 (hval 0 35 v0 rfl rfl)
  have w0 : BytesIn W W.heap.size a0 len0 cap0 := isRow_of h0
  clear hA0 hV0
  refine (walk_FnPredHas a0 len0 cap0 W w0 ep (varCell hv)).mono fun e W' ⟨he, bel⟩ => ?_
  subst he
  exact ⟨_, rfl, _, _, _, [], _, _, hW', trodAll_mk1 (shut_bool Tryd.underlying4 _), (trodAll_cons_mk (Below.trod laidOut (by kernel_rfl) (of_decide_eq_true (by kernel_rfl)) k0 bel lt0) (trodAll_mk0)), vars_read1 enc gE gEt Tryd.underlying49 (varLater hv bel) trivial _, bel.frame _, fun h => by cases h⟩

noncomputable def low_FnPredHas : Nat := (World.holding Tryd.prog default ⟨#[], #[], []⟩).heap.size
/-- A world for the witness: the settled one, with the error value as the text lays it. -/
noncomputable def laidWorld_FnPredHas (os : Os) : World :=
  { World.holding Tryd.prog os ⟨#[.cells #[.string ⟨#[110, 111, 32, 99, 111, 110, 100, 105, 116, 105, 111, 110]⟩] 150], #[], []⟩ with heap := (World.holding Tryd.prog os ⟨#[.cells #[.string ⟨#[110, 111, 32, 99, 111, 110, 100, 105, 116, 105, 111, 110]⟩] 150], #[], []⟩).heap.modify 0 (fun | .cells _ t frozen => .cells #[.iface 126 (.pointer (some ⟨low_FnPredHas, 0, none⟩))] t frozen | o => o) }

theorem laidMet_FnPredHas (os : Os) : laidMet Tryd.prog Rows.fnPredHasRow.laid ((laidWorld_FnPredHas os).forCall (fun _ _ => 0) ⟨#[], #[.slice none 0 0], []⟩).memory :=
  laidMet_of_run' 8 (by kernel_rfl) (by kernel_rfl)

set_option maxRecDepth 100000 in
theorem lifted_FnPredHas (os : Os) (started : os.Started) (H : Type) (enc : TypeId × Value → H) (F : Stop.Interp) :
    ReturnsInHanded {} Tryd.checked os 14 .any ((OpenSpec.ofChange Rows.fnPredHasSpec).preRow enc Tryd.prog Tryd.f14 Rows.fnPredHasRow.domain false Rows.fnPredHasRow.laid) (((OpenSpec.ofChange Rows.fnPredHasSpec).at F).post enc Tryd.prog Tryd.f14 false true false false) := by
  refine returnsInHanded_of_row (C := Tryd.checked) (s := OpenSpec.ofChange Rows.fnPredHasSpec) own started (by kernel_rfl) Tryd.func14
    (witness_row_at (enc := enc) (C := Tryd.checked) false (laidWorld_FnPredHas os) #[.slice none 0 0] rfl (by kernel_rfl) (by kernel_rfl) (by kernel_rfl)
      (OpenSpec.preRow_of_B rfl 8 (by kernel_rfl) (by kernel_rfl) (laidMet_FnPredHas os))) ?_
  intro W base args ds gs before hval hW _ _ _ hL _ _
  exact contract_FnPredHas H enc W base args ds gs before hval hW hL

theorem said_FnPredHas : Rows.FnPredHasSaid :=
  OpenClaim.holds_of_cond 14 Tryd.f14 rfl rfl rfl rfl rfl rfl rfl ⟨rfl, rfl, rfl, rfl, rfl⟩ rfl rfl rfl rfl rfl (by kernel_rfl) Tryd.func14 (by kernel_rfl)
    (of_decide_eq_true (by kernel_rfl)) (by unfold Func.isWrapper; first | (rw [if_pos (by decide +kernel)]; kernel_rfl) | (rw [if_neg (by decide +kernel)]; exact ⟨rfl, rfl⟩))
    (fun os started H enc _ F => by rw [OpenClaim.pre_eq_preRow]; exact lifted_FnPredHas os started H enc F)

theorem plain_FnPredHas (f : FuncId) (fn : Func) (hf : Tryd.pinned.checked.prog.funcNamed "loop.example/crossbuck/laws.FnPredHas" = some f) (hfn : Tryd.pinned.checked.prog.funcs[f]? = some fn) :
    true = Tryd.pinned.checked.prog.looks [] ∧ ∀ (j : Nat) t, fn.params[j]? = some t → Tryd.pinned.checked.prog.wantsStandIn t = false := by
  obtain rfl : f = 14 := Option.some.inj ((show Tryd.prog.funcNamed "loop.example/crossbuck/laws.FnPredHas" = some 14 by kernel_rfl).symm.trans hf) |>.symm
  obtain rfl : fn = Tryd.f14 := (Option.some.inj (Tryd.func14.symm.trans hfn)).symm
  refine ⟨by kernel_rfl, fun j t ht => ?_⟩
  rw [Tryd.params14] at ht
  obtain rfl : t = 35 := by simpa using Array.mem_of_getElem? ht
  exact (show Tryd.prog.wantsStandIn 35 = false by kernel_rfl)

theorem proved_FnPredHas : Rows.FnPredHasCardSaid :=
  Claim7.holds_tied_plain_at .later [] _ _ _ _ said_FnPredHas (fun _ h => by cases h) (by kernel_rfl) (fun _ h => by cases h) fnPredHas_row_tie rfl ⟨rfl, rfl⟩ (by kernel_rfl) rfl plain_FnPredHas (by kernel_rfl)

end Go.Proofs.YtddkpimmcmnogaaDoor
