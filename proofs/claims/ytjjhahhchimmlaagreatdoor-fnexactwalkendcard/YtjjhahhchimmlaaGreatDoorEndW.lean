/-
  The statement on WalkEnd: its walk.
-/
import Derived.Test.YtjjhahhchimmlaaGreatDoorStepW
import Derived.Test.YtjjhahhchimmlaaGreatDoorWalkWX
namespace Go.Proofs.YtjjhahhchimmlaaGreatDoor
open Go.ChangeShapes Go.WideShapes Go.ChangeAt Go.RowKit Go.Joins
set_option linter.unusedVariables false

set_option maxRecDepth 100000 in
set_option maxHeartbeats 40000000 in
theorem walk_FnExactWalkEnd (v : Value) (l : List K4) (u : Value) (n : Nat) (ms : Nat → Nat) (f : Nat → Nat → Int × ByteArray × Int × Int) (x a b c : Int) (w : World) (hl : Lks w w.heap.size v l) (hr : RawF w w.heap.size u n ms f) (hz : ∀ i, i < n → ∀ j, j < ms i → (f i j).2.1.size ≤ maxLen) (hE : EtOk w) :
    Calls Tryz.prog 5 #[v, u, .agg #[.int .i64 x, .int .i64 a, .int .i64 b, .int .i64 c]] w fun e w' => e = .returned (.bool true) ∧ Below w.heap.size w w' := by
  have HE := Lib.hid hE
  have hA := below_alloc1 w (.cells #[.int .i64 x, .int .i64 a, .int .i64 b, .int .i64 c] 27)
  have HB0 : Hid (∀ w', Below (w.alloc (.cells #[.int .i64 x, .int .i64 a, .int .i64 b, .int .i64 c] 27)).heap.size (w.alloc (.cells #[.int .i64 x, .int .i64 a, .int .i64 b, .int .i64 c] 27)) w' → Below w.heap.size w w' ∧ w.heap.size < w'.heap.size ∧ w'.cell? ⟨w.heap.size, 0, none⟩ = some (.int .i64 x) ∧ w'.cell? ⟨w.heap.size, 1, none⟩ = some (.int .i64 a) ∧ w'.cell? ⟨w.heap.size, 2, none⟩ = some (.int .i64 b) ∧ w'.cell? ⟨w.heap.size, 3, none⟩ = some (.int .i64 c)) := fun w' hb => by
    have hs := hb.size
    simp at hs
    exact ⟨hA.trans (hb.mono (by simp)), by omega, quadN ((hb.block _ (by simp)).trans (newBlockM w _))⟩
  have HSZ := Lib.hid (szLinkS_le (w.alloc (.cells #[.int .i64 x, .int .i64 a, .int .i64 b, .int .i64 c] 27)) v l 1048576 (lksC hl hA) (Nat.le_refl _))
  have HSR : Hid (∀ k, k ≤ 1048576 → Calls Tryz.prog 7 #[u, .int .i64 (k : Nat)] (w.alloc (.cells #[.int .i64 x, .int .i64 a, .int .i64 b, .int .i64 c] 27)) fun e w' => (e = .returned (.int .i64 (-1)) ∨ ∃ r : Nat, e = .returned (.int .i64 r) ∧ r ≤ k ∧ n ≤ k ∧ ∀ i, i < n → ms i ≤ k ∧ ∀ j, j < ms i → (f i j).2.1.size ≤ k) ∧ Below (w.alloc (.cells #[.int .i64 x, .int .i64 a, .int .i64 b, .int .i64 c] 27)).heap.size (w.alloc (.cells #[.int .i64 x, .int .i64 a, .int .i64 b, .int .i64 c] 27)) w') := fun k hk => szRuleSS_any _ u n k ms f ((hr.below hA (Nat.le_refl _)).mono hA.size) hz hk
  have HL : Hid (∀ W, Below w.heap.size w W → Lks W W.heap.size v l) := fun W hb => lksC hl hb
  have HW : Hid ((∀ i, i < n → ∀ j, j < ms i → (f i j).2.1.size ≤ 1048576) → ∀ W, Below w.heap.size w W → Cfs W W.heap.size u ((List.range n).map (smallF ms f))) := fun hs W hb => ((hr.below hb (Nat.le_refl _)).mono hb.size).cfs hs
  have hll : ((List.range n).map (smallF ms f)).length = n := by simp
  have hlt : (∀ i, i < n → ms i ≤ 1048576) → ∀ i, i < ((List.range n).map (smallF ms f)).length → (tbAt ((List.range n).map (smallF ms f)) i).length ≤ 1048576 := fun hm i hi => by
    have hi' : i < n := by rw [hll] at hi; exact hi
    have e : tbAt ((List.range n).map (smallF ms f)) i = smallF ms f i := by
      unfold tbAt
      rw [List.getD_eq_getElem?_getD, List.getElem?_eq_getElem hi]
      simp
    rw [e]
    simpa [smallF] using hm i hi'
  clear hr hz hE hl hA
  generalize (List.range n).map (smallF ms f) = L at *
  go_enter Tryz.func5, Tryz.ntmps5
  go_wp2_with fail
  refine HSZ.out.mono ?_
  rintro e w1 ⟨rfl | ⟨k, rfl, hk, hkl⟩, rfl⟩
  · go_wp2
    go_ret
    exact ⟨rfl, (HB0.out _ (Below.refl _ _)).1⟩
  have hk0 : ¬ ((k : Int) < 0) := by omega
  have HN : Hid (l.length ≤ 1048576) := hkl
  go_wp2_with fail
  refine (HSR.out k hk).mono ?_
  rintro e w1 ⟨rfl | ⟨r, rfl, hr, hn, hsz⟩, b1⟩
  · go_wp2
    go_ret
    exact ⟨rfl, (HB0.out _ b1).1⟩
  have hr0 : ¬ ((r : Int) < 0) := by omega
  have HU := Lib.hid (HW.out fun i hi j hj => Nat.le_trans ((hsz i hi).2 j hj) hk)
  have HLT := Lib.hid (hlt fun i hi => Nat.le_trans (hsz i hi).1 hk)
  have HN2 : Hid (L.length ≤ 1048576) := by show _ ≤ _; omega
  have HS : Hid (∀ w' : World, Below w1.heap.size w1 w' → (w'.cell? ⟨w.heap.size, 0, none⟩ = some (.int .i64 x) ∧ w'.cell? ⟨w.heap.size, 1, none⟩ = some (.int .i64 a) ∧ w'.cell? ⟨w.heap.size, 2, none⟩ = some (.int .i64 b) ∧ w'.cell? ⟨w.heap.size, 3, none⟩ = some (.int .i64 c) ∧ Below w1.heap.size w1 w')) := fun w' hb => by
    obtain ⟨-, -, k0, k1, k2, k3⟩ := HB0.out _ (belStep b1 hb)
    exact ⟨k0, k1, k2, k3, hb⟩
  have BW1 := Lib.hid (HB0.out _ b1).1
  have HS2 : Hid (∀ w' : World, Below w1.heap.size w1 w' → (w'.cell? ⟨w.heap.size, 0, none⟩ = some (.int .i64 x) ∧ w'.cell? ⟨w.heap.size, 1, none⟩ = some (.int .i64 a) ∧ w'.cell? ⟨w.heap.size, 2, none⟩ = some (.int .i64 b) ∧ w'.cell? ⟨w.heap.size, 3, none⟩ = some (.int .i64 c) ∧ Below w.heap.size w w' ∧ w.heap.size < w'.heap.size)) := fun w' hb => by
    obtain ⟨hbw, hlt', k0, k1, k2, k3⟩ := HB0.out _ (belStep b1 hb)
    exact ⟨k0, k1, k2, k3, hbw, hlt'⟩
  have gw : w.heap.size < w1.heap.size := (HB0.out _ b1).2.1
  clear hsz b1 HSZ HSR HW hll hlt hn HB0 hkl
  have HSD := Lib.hid (fun w v u h1 h2 => sWalkEnd_any w v u l L h1 h2 HN.out HN2.out HLT.out x a b c)
  have HID := Lib.hid (fun w v u h1 h2 h3 => iWalkEnd_any w v u l L h1 h2 HN2.out HLT.out h3 x a b c)
  generalize weI l L x a b c = z at *
  have hzz : (z != z) = false := by simp
  go_wp2
  go_region_held3 (fun w' => w'.cell? ⟨w.heap.size, 0, none⟩ = some (.int .i64 x) ∧ w'.cell? ⟨w.heap.size, 1, none⟩ = some (.int .i64 a) ∧ w'.cell? ⟨w.heap.size, 2, none⟩ = some (.int .i64 b) ∧ w'.cell? ⟨w.heap.size, 3, none⟩ = some (.int .i64 c) ∧ Below w1.heap.size w1 w')
    (first | assumption | exact HS.out _ ((Below.refl _ _).drew) | exact HS.out _ Bd.out | exact HS.out _ Bc.out | exact HS.out _ Bb.out | exact HS.out _ Ba.out | exact HS.out _ (Below.alloc Bd.out (Below.size Bd.out) _) | exact HS.out _ (Below.alloc Bc.out (Below.size Bc.out) _) | exact HS.out _ (Below.alloc Bb.out (Below.size Bb.out) _) | exact HS.out _ (Below.alloc Ba.out (Below.size Ba.out) _) | exact HS.out _ (Below.alloc ((Below.refl _ _).drew) (Nat.le_refl _) _) | exact HS.out _ ((((Bd.out.setCell (by dsimp only; first | exact Nat.le_refl _ | exact Ba.out.size | exact Bb.out.size | exact Bc.out.size) _).setCell (by dsimp only; first | exact Nat.le_refl _ | exact Ba.out.size | exact Bb.out.size | exact Bc.out.size) _).setCell (by dsimp only; first | exact Nat.le_refl _ | exact Ba.out.size | exact Bb.out.size | exact Bc.out.size) _).setCell (by dsimp only; first | exact Nat.le_refl _ | exact Ba.out.size | exact Bb.out.size | exact Bc.out.size) _))
    (first
      | (go_at_call 9; ((with_reducible refine (toLinkS_any _ _ l ?_ HN.out).mono ?_); (go_split_ands; exact HL.out _ (belStep BW1.out (by assumption))); rintro e wa ⟨ua, rfl, hrow, hq⟩; go_split_ands; have Ba := Lib.hid (belStep (show Below w1.heap.size w1 _ by assumption) hq); (first | have NX := Lib.hid (qNew hq) | have NX := Lib.hid (qNewD hq) | have NX := Lib.hid (qOld hq (Hid.out (by assumption))) | skip); (first | obtain ⟨n0, n1, n2, n3, nf⟩ := NX.out | skip); have HRa := Lib.hid hrow.lks; clear hrow))
      | (go_at_call 10; ((with_reducible refine (toRuleSS_any _ _ L ?_ HN2.out HLT.out).mono ?_); (go_split_ands; exact HU.out _ (belStep BW1.out (by assumption))); rintro e wb ⟨ub, rfl, hrow, hq⟩; go_split_ands; have Bb := Lib.hid (belStep (show Below w1.heap.size w1 _ by assumption) hq); (first | have NX := Lib.hid (qNew hq) | have NX := Lib.hid (qNewD hq) | have NX := Lib.hid (qOld hq (Hid.out (by assumption))) | skip); (first | obtain ⟨n0, n1, n2, n3, nf⟩ := NX.out | skip); have HCb := Lib.hid hrow; (first | have HRb := Lib.hid (lksC HRa.out hq) | have HRb := Lib.hid (lksC HRa.out (belA hq))); clear hrow))
      | (go_at_call 11; ((with_reducible refine (toSpot_any _ _ _ _ _).mono ?_); rintro e wc ⟨rfl, hq⟩; go_split_ands; have Bc := Lib.hid (belStep (show Below w1.heap.size w1 _ by assumption) hq); (first | have NX := Lib.hid (qNew hq) | have NX := Lib.hid (qNewD hq) | have NX := Lib.hid (qOld hq (Hid.out (by assumption))) | skip); (first | obtain ⟨n0, n1, n2, n3, nf⟩ := NX.out | skip); (first | have HRc := Lib.hid (lksC HRb.out hq) | have HRc := Lib.hid (lksC HRb.out (belA hq))); (first | have HCc := Lib.hid (cfsC HCb.out hq) | have HCc := Lib.hid (cfsC HCb.out (belA hq)))))
      | (go_at_call 23; ((with_reducible refine (HSD.out _ _ _ ?_ ?_).mono ?_); (first | exact HRc.out | exact lksC HRc.out (below_alloc1 _ _)); (first | exact HCc.out | exact cfsC HCc.out (below_alloc1 _ _)); rintro e wd ⟨rfl, hq⟩; go_split_ands; have Bd := Lib.hid (belStep (show Below w1.heap.size w1 _ by assumption) hq); (first | have NX := Lib.hid (qNew hq) | have NX := Lib.hid (qNewD hq) | have NX := Lib.hid (qOld hq (Hid.out (by assumption))) | skip); (first | obtain ⟨n0, n1, n2, n3, nf⟩ := NX.out | skip))))
  have F := Lib.hid (HS2.out _ Bd.out)
  clear Bd
  generalize wd = D at F ⊢
  obtain ⟨s0, s1, s2, s3, bwd, gD⟩ := F.out
  have BWD := Lib.hid bwd
  have HP : Hid (∀ w', Below D.heap.size D w' → w'.cell? ⟨w.heap.size, 0, none⟩ = some (.int .i64 x) ∧ w'.cell? ⟨w.heap.size, 1, none⟩ = some (.int .i64 a) ∧ w'.cell? ⟨w.heap.size, 2, none⟩ = some (.int .i64 b) ∧ w'.cell? ⟨w.heap.size, 3, none⟩ = some (.int .i64 c)) := fun w' hb' => ⟨(belCell hb' _ _ gD).trans s0, (belCell hb' _ _ gD).trans s1, (belCell hb' _ _ gD).trans s2, (belCell hb' _ _ gD).trans s3⟩
  clear F HS HS2 bwd BW1 gw s0 s1 s2 s3
  go_wp2_with fail
  refine (toLinkS_any _ _ l (HL.out _ BWD.out) HN.out).mono ?_
  rintro e we ⟨v1, rfl, hrow, be⟩
  have HXe := Lib.hid hrow.lks
  have BWe := Lib.hid (belStep BWD.out be)
  have BE := Lib.hid be
  clear hrow be
  go_wp2_with fail
  refine (toRuleSS_any _ _ L (HU.out _ BWe.out) HN2.out HLT.out).mono ?_
  rintro e wf ⟨u1, rfl, hrow, bf⟩
  have HXf := Lib.hid (lksC HXe.out bf)
  have HYf := Lib.hid hrow
  have BWf := Lib.hid (belStep BWe.out bf)
  have BF := Lib.hid (belStep BE.out bf)
  obtain ⟨s0, s1, s2, s3⟩ := HP.out _ BF.out
  have gf : w.heap.size < wf.heap.size := Nat.lt_of_lt_of_le gD BF.out.size
  clear hrow bf HXe BWe BE
  go_wp2_with fail
  refine (toSpot_any _ _ _ _ _).mono ?_
  rintro e wg ⟨rfl, bg⟩
  have HXg := Lib.hid (lksC HXf.out bg)
  have HYg := Lib.hid (cfsC HYf.out bg)
  have BWg := Lib.hid (belStep BWf.out bg)
  have BG := Lib.hid (belStep BF.out bg)
  clear bg HXf HYf BWf BF s0 s1 s2 s3 gf HP
  go_wp2_with fail
  refine (HID.out _ _ _ HXg.out HYg.out (HE.out.below BWg.out)).mono ?_
  rintro e wi ⟨rfl, bi⟩
  have HXj := Lib.hid (lksC HXg.out bi)
  have HYj := Lib.hid (cfsC HYg.out bi)
  have BWj := Lib.hid (belStep BWg.out bi)
  clear bi HXg HYg BWg BG
  go_wp2_with fail
  refine (toLinkS_any _ _ l (HL.out _ BWj.out) HN.out).mono ?_
  rintro e wk ⟨v2, rfl, hrow, bk⟩
  have HXk := Lib.hid (lksC HXj.out bk)
  have HYk := Lib.hid (cfsC HYj.out bk)
  have HVk := Lib.hid hrow.lks
  have BWk := Lib.hid (belStep BWj.out bk)
  clear hrow bk HXj HYj BWj
  go_wp2_with fail
  refine (eqLinkS_same _ _ _ l HXk.out HVk.out HN.out).mono ?_
  rintro e wl ⟨rfl, bl⟩
  have HYl := Lib.hid (cfsC HYk.out bl)
  have BWl := Lib.hid (belStep BWk.out bl)
  clear bl HXk HYk HVk BWk
  go_wp2_with fail
  refine (toRuleSS_any _ _ L (HU.out _ BWl.out) HN2.out HLT.out).mono ?_
  rintro e wm ⟨u2, rfl, hrow, bm⟩
  have HYm := Lib.hid (cfsC HYl.out bm)
  have HUm := Lib.hid hrow
  have BWm := Lib.hid (belStep BWl.out bm)
  clear hrow bm HYl BWl
  go_wp2_with fail
  refine (eqRuleSS_same _ _ _ L HYm.out HUm.out HN2.out HLT.out).mono ?_
  rintro e wo ⟨rfl, bo⟩
  go_wp2
  go_ret
  exact ⟨rfl, belStep BWm.out bo⟩

end Go.Proofs.YtjjhahhchimmlaaGreatDoor
