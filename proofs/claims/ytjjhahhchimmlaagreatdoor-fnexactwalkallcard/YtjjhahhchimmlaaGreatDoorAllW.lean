/-
  The statement on WalkAll: its walk.
-/
import Derived.Test.YtjjhahhchimmlaaGreatDoorStepW
import Derived.Test.YtjjhahhchimmlaaGreatDoorWalkWX
import Derived.Test.YtjjhahhchimmlaaGreatDoorSpotS
import Derived.Test.YtjjhahhchimmlaaGreatDoorConfM
namespace Go.Proofs.YtjjhahhchimmlaaGreatDoor
open Go.ChangeShapes Go.WideShapes Go.ChangeAt Go.RowKit Go.Joins
set_option linter.unusedVariables false

theorem wk_len (l : List K4) (L : List (List R4)) : ∀ (n : Nat) (s : Pk), (wkL l L n s).1.length ≤ n
  | 0, s => Nat.le_refl _
  | n + 1, s => by
    rw [wkL]
    split
    · have := wk_len l L n (stP l L s).1
      simp; omega
    · simp
theorem wa_len (l : List K4) (L : List (List R4)) (x a b c : Int) : (waR l L x a b c).1.length ≤ 16 := by
  unfold waR
  cases netB l && (cfB L && spB x a b c)
  · exact Nat.zero_le _
  · exact wk_len l L 16 _
set_option maxHeartbeats 2000000 in
theorem szLinkS_sum (w : World) (v : Value) (l : List K4) (n : Nat) (h : Lks w w.heap.size v l) (hn : n ≤ 1048576) :
    Calls Tryz.prog 6 #[v, .int .i64 n] w fun e w' => (e = .returned (.int .i64 (-1)) ∨ ∃ r : Nat, e = .returned (.int .i64 r) ∧ r + l.length ≤ n) ∧ w = w' := by
  obtain ⟨a, cap, rfl, hc, hm, hh⟩ := h
  clear hh
  unfold maxLen at hm
  generalize l.length = m at *
  by_cases h0 : n < m
  · have hz : (n : Int) - (m : Int) < 0 := by omega
    go_enter Tryz.func6, Tryz.ntmps6
    go_wp2
    go_ret
    exact ⟨.inl rfl, rfl⟩
  · have hz : ¬ (n : Int) - (m : Int) < 0 := by omega
    have e : (n : Int) - (m : Int) = ((n - m : Nat) : Int) := by omega
    go_enter Tryz.func6, Tryz.ntmps6
    go_wp2
    refine bodyPost_ret (v := .int .i64 ((n - m : Nat) : Int)) (by simp [results, Tryz.results6, go_sem]) rfl ⟨.inr ⟨n - m, rfl, by omega⟩, rfl⟩
theorem qLt {A wq : World} {xb : Nat} {u v z q : Value} (h : Below A.heap.size A wq) (k : A.cell? ⟨xb, 0, none⟩ = some u ∧ A.cell? ⟨xb, 1, none⟩ = some v ∧ A.cell? ⟨xb, 2, none⟩ = some z ∧ A.cell? ⟨xb, 3, none⟩ = some q ∧ ∀ o, A.frozen? ⟨xb, o, none⟩ = false) : xb < A.heap.size := World.block_lt_of_cell? A ⟨xb, 0, none⟩ k.1
theorem qLtA {X wq : World} {o : Obj} (h : Below (X.alloc o).heap.size (X.alloc o) wq) : X.heap.size < (X.alloc o).heap.size := by simp
theorem qLtD {X wq : World} {o : Obj} (h : Below (X.alloc o).drew.heap.size (X.alloc o).drew wq) : X.heap.size < (X.alloc o).drew.heap.size := by simp [World.drew]
/-- What the statement keeps: the model's answers below, the program's row and its packet's block. -/
structure AllC (D W : World) (g gb : Nat) (r1 : Value) (Q : List K4) (t : Pk) : Prop where
  bel : Below D.heap.size D W
  row : SkRow W g r1 Q
  cb : W.heap[gb]? = some (.cells #[.int .i64 t.x, .int .i64 t.a, .int .i64 t.b, .int .i64 t.c] 32)
  hg : D.heap.size ≤ g
  hgb : g ≤ gb
  rne : ∀ q, r1.ownBlock = some q → q < gb
theorem AllC.lt {D W : World} {g gb : Nat} {r1 : Value} {Q : List K4} {t : Pk} (h : AllC D W g gb r1 Q t) : gb < W.heap.size := (Array.getElem?_eq_some_iff.1 h.cb).1
theorem AllC.below {D W W' : World} {g gb : Nat} {r1 : Value} {Q : List K4} {t : Pk} (h : AllC D W g gb r1 Q t) (hb : Below W.heap.size W W') : AllC D W' g gb r1 Q t :=
  ⟨belStep h.bel hb, h.row.below hb, (hb.block _ h.lt).trans h.cb, h.hg, h.hgb, h.rne⟩
theorem AllC.grow {D W W' : World} {g gb : Nat} {r1 : Value} {Q : List K4} {t : Pk} {row : Option Nat} (h : AllC D W g gb r1 Q t) (hg : W.grownBy W' row) (hr : ∀ q, row = some q → D.heap.size ≤ q ∧ q < g) : AllC D W' g gb r1 Q t := by
  have hlt := h.lt
  have h1 := h.hg
  have h2 := h.hgb
  refine ⟨h.bel.trans ⟨hg.os, hg.tape, hg.output, hg.size, fun j hj => hg.block j (by omega) (fun e => by have := hr j e.symm; omega)⟩, World.ownsRow.kept h.row hg ?_, (hg.block _ hlt (fun e => by have := hr _ e.symm; omega)).trans h.cb, h.hg, h.hgb, h.rne⟩
  cases hq : r1.ownBlock with
  | none => exact .inl rfl
  | some q => exact .inr (fun e => by have := hr q e.symm; have := (World.ownsRow.lt h.row q hq).1; omega)
theorem AllC.mark {D W W' : World} {g gb : Nat} {r1 : Value} {Q Q' : List K4} {t : Pk} (h : AllC D W g gb r1 Q t) (hr : SkRow W' g r1 Q') (hg : W.grownBy W' r1.ownBlock) (hb : Below g W W') : AllC D W' g gb r1 Q' t :=
  ⟨h.bel.trans (hb.mono h.hg), hr, (hg.block _ h.lt (fun e => by have := h.rne _ e.symm; omega)).trans h.cb, h.hg, h.hgb, h.rne⟩
theorem pkFar4 {w : World} {base g : Nat} {v : Value} {l : List Pk} (t : Pk) (h : PkRow w base v l) (hb : g < base) : PkRow ((((w.setCell ⟨g, 0, none⟩ (.int .i64 t.x)).setCell ⟨g, 1, none⟩ (.int .i64 t.a)).setCell ⟨g, 2, none⟩ (.int .i64 t.b)).setCell ⟨g, 3, none⟩ (.int .i64 t.c)) base v l :=
  pkFar (pkFar (pkFar (pkFar h hb) hb) hb) hb

set_option maxRecDepth 100000 in
set_option maxHeartbeats 40000000 in
theorem walk_FnExactWalkAll (v : Value) (l : List K4) (u : Value) (n : Nat) (ms : Nat → Nat) (f : Nat → Nat → Int × ByteArray × Int × Int) (x a b c : Int) (w : World) (hl : Lks w w.heap.size v l) (hr : RawF w w.heap.size u n ms f) (hz : ∀ i, i < n → ∀ j, j < ms i → (f i j).2.1.size ≤ maxLen) (hE : EtOk w) :
    Calls Tryz.prog 4 #[v, u, .agg #[.int .i64 x, .int .i64 a, .int .i64 b, .int .i64 c]] w fun e w' => e = .returned (.bool true) ∧ Below w.heap.size w w' := by
  have HE := Lib.hid hE
  have hA := below_alloc1 w (.cells #[.int .i64 x, .int .i64 a, .int .i64 b, .int .i64 c] 27)
  have HB0 : Hid (∀ w', Below (w.alloc (.cells #[.int .i64 x, .int .i64 a, .int .i64 b, .int .i64 c] 27)).heap.size (w.alloc (.cells #[.int .i64 x, .int .i64 a, .int .i64 b, .int .i64 c] 27)) w' → Below w.heap.size w w' ∧ w.heap.size < w'.heap.size ∧ w'.cell? ⟨w.heap.size, 0, none⟩ = some (.int .i64 x) ∧ w'.cell? ⟨w.heap.size, 1, none⟩ = some (.int .i64 a) ∧ w'.cell? ⟨w.heap.size, 2, none⟩ = some (.int .i64 b) ∧ w'.cell? ⟨w.heap.size, 3, none⟩ = some (.int .i64 c)) := fun w' hb => by
    have hs := hb.size
    simp at hs
    exact ⟨hA.trans (hb.mono (by simp)), by omega, quadN ((hb.block _ (by simp)).trans (newBlockM w _))⟩
  have HSZ := Lib.hid (szLinkS_sum (w.alloc (.cells #[.int .i64 x, .int .i64 a, .int .i64 b, .int .i64 c] 27)) v l 1048576 (lksC hl hA) (Nat.le_refl _))
  have HSR : Hid (∀ k, k ≤ 1048576 → Calls Tryz.prog 7 #[u, .int .i64 (k : Nat)] (w.alloc (.cells #[.int .i64 x, .int .i64 a, .int .i64 b, .int .i64 c] 27)) fun e w' => (e = .returned (.int .i64 (-1)) ∨ ∃ r : Nat, e = .returned (.int .i64 r) ∧ r + sumTo ms n ≤ k ∧ n ≤ k ∧ ∀ i, i < n → ms i ≤ k ∧ ∀ j, j < ms i → (f i j).2.1.size ≤ k) ∧ Below (w.alloc (.cells #[.int .i64 x, .int .i64 a, .int .i64 b, .int .i64 c] 27)).heap.size (w.alloc (.cells #[.int .i64 x, .int .i64 a, .int .i64 b, .int .i64 c] 27)) w') := fun k hk => szRuleSS_sum _ u n k ms f ((hr.below hA (Nat.le_refl _)).mono hA.size) hz hk
  have HL : Hid (∀ W, Below w.heap.size w W → Lks W W.heap.size v l) := fun W hb => lksC hl hb
  have HW : Hid ((∀ i, i < n → ∀ j, j < ms i → (f i j).2.1.size ≤ 1048576) → ∀ W, Below w.heap.size w W → Cfs W W.heap.size u ((List.range n).map (smallF ms f))) := fun hs W hb => ((hr.below hb (Nat.le_refl _)).mono hb.size).cfs hs
  have hll : ((List.range n).map (smallF ms f)).length = n := by simp
  have hlt : (∀ i, i < n → ms i ≤ 1048576) → ∀ i, i < ((List.range n).map (smallF ms f)).length → (tbAt ((List.range n).map (smallF ms f)) i).length ≤ 1048576 := fun hm i hi => by
    have hi' : i < n := by rw [hll] at hi; exact hi
    have e : tbAt ((List.range n).map (smallF ms f)) i = smallF ms f i := by
      unfold tbAt
      rw [List.getD_eq_getElem?_getD, List.getElem?_eq_getElem hi]
      simp
    rw [e]
    simpa [smallF] using hm i hi'
  have hts : sumTo (fun i => (tbAt ((List.range n).map (smallF ms f)) i).length) ((List.range n).map (smallF ms f)).length = sumTo ms n := by
    rw [hll]
    refine sumTo_congr fun i hi => ?_
    unfold tbAt
    rw [List.getD_eq_getElem?_getD, List.getElem?_eq_getElem (by rw [hll]; exact hi)]
    simp [smallF]
  clear hr hz hE hl hA
  generalize (List.range n).map (smallF ms f) = L at *
  go_enter Tryz.func4, Tryz.ntmps4
  go_wp2_with fail
  refine HSZ.out.mono ?_
  rintro e w1 ⟨rfl | ⟨k, rfl, hkk⟩, rfl⟩
  · go_wp2
    go_ret
    exact ⟨rfl, (HB0.out _ (Below.refl _ _)).1⟩
  have hk0 : ¬ ((k : Int) < 0) := by omega
  have hk : k ≤ 1048576 := by omega
  have HN : Hid (l.length ≤ 1048576) := by show _ ≤ _; omega
  go_wp2_with fail
  refine (HSR.out k hk).mono ?_
  rintro e w1 ⟨rfl | ⟨r, rfl, hrr, hn, hsz⟩, b1⟩
  · go_wp2
    go_ret
    exact ⟨rfl, (HB0.out _ b1).1⟩
  have hr0 : ¬ ((r : Int) < 0) := by omega
  have HSUM : Hid (1 + 4 * l.length + 4 * sumTo (fun i => (tbAt L i).length) L.length ≤ 8000000) := by show _ ≤ _; rw [hts]; omega
  clear hrr hkk hts
  have HU := Lib.hid (HW.out fun i hi j hj => Nat.le_trans ((hsz i hi).2 j hj) hk)
  have HLT := Lib.hid (hlt fun i hi => Nat.le_trans (hsz i hi).1 hk)
  have HN2 : Hid (L.length ≤ 1048576) := by show _ ≤ _; omega
  have HS : Hid (∀ w' : World, Below w1.heap.size w1 w' → (w'.cell? ⟨w.heap.size, 0, none⟩ = some (.int .i64 x) ∧ w'.cell? ⟨w.heap.size, 1, none⟩ = some (.int .i64 a) ∧ w'.cell? ⟨w.heap.size, 2, none⟩ = some (.int .i64 b) ∧ w'.cell? ⟨w.heap.size, 3, none⟩ = some (.int .i64 c) ∧ Below w1.heap.size w1 w')) := fun w' hb => by
    obtain ⟨-, -, k0, k1, k2, k3⟩ := HB0.out _ (belStep b1 hb)
    exact ⟨k0, k1, k2, k3, hb⟩
  have BW1 := Lib.hid (HB0.out _ b1).1
  have HS2 : Hid (∀ w' : World, Below w1.heap.size w1 w' → (w'.cell? ⟨w.heap.size, 0, none⟩ = some (.int .i64 x) ∧ w'.cell? ⟨w.heap.size, 1, none⟩ = some (.int .i64 a) ∧ w'.cell? ⟨w.heap.size, 2, none⟩ = some (.int .i64 b) ∧ w'.cell? ⟨w.heap.size, 3, none⟩ = some (.int .i64 c) ∧ Below w.heap.size w w' ∧ w.heap.size < w'.heap.size)) := fun w' hb => by
    obtain ⟨hbw, hlt', k0, k1, k2, k3⟩ := HB0.out _ (belStep b1 hb)
    exact ⟨k0, k1, k2, k3, hbw, hlt'⟩
  have gw : w.heap.size < w1.heap.size := (HB0.out _ b1).2.1
  clear hsz b1 HSZ HSR HW hll hlt hn HB0
  have HSD := Lib.hid (fun w v u h1 h2 => sWalkAll_any w v u l L h1 h2 HN.out HN2.out HLT.out x a b c)
  have HID := Lib.hid (fun w v u h1 h2 h3 => iWalkAll_any w v u l L h1 h2 HN2.out HLT.out h3 x a b c)
  have HPL := Lib.hid (wa_len l L x a b c)
  unfold Pk.v at HSD HID
  generalize waR l L x a b c = R at *
  obtain ⟨P, t, how⟩ := R
  dsimp only at HSD HID HPL
  have hww : (how != how) = false := by simp
  go_wp2
  go_region_held3 (fun w' => w'.cell? ⟨w.heap.size, 0, none⟩ = some (.int .i64 x) ∧ w'.cell? ⟨w.heap.size, 1, none⟩ = some (.int .i64 a) ∧ w'.cell? ⟨w.heap.size, 2, none⟩ = some (.int .i64 b) ∧ w'.cell? ⟨w.heap.size, 3, none⟩ = some (.int .i64 c) ∧ Below w1.heap.size w1 w')
    (first | assumption | exact HS.out _ ((Below.refl _ _).drew) | exact HS.out _ Bd.out | exact HS.out _ Bc.out | exact HS.out _ Bb.out | exact HS.out _ Ba.out | exact HS.out _ (Below.alloc Bd.out (Below.size Bd.out) _) | exact HS.out _ (Below.alloc Bc.out (Below.size Bc.out) _) | exact HS.out _ (Below.alloc Bb.out (Below.size Bb.out) _) | exact HS.out _ (Below.alloc Ba.out (Below.size Ba.out) _) | exact HS.out _ (Below.alloc ((Below.refl _ _).drew) (Nat.le_refl _) _) | exact HS.out _ ((((Bd.out.setCell (by dsimp only; first | exact Nat.le_refl _ | exact Ba.out.size | exact Bb.out.size | exact Bc.out.size) _).setCell (by dsimp only; first | exact Nat.le_refl _ | exact Ba.out.size | exact Bb.out.size | exact Bc.out.size) _).setCell (by dsimp only; first | exact Nat.le_refl _ | exact Ba.out.size | exact Bb.out.size | exact Bc.out.size) _).setCell (by dsimp only; first | exact Nat.le_refl _ | exact Ba.out.size | exact Bb.out.size | exact Bc.out.size) _))
    (first
      | (go_at_call 9; ((with_reducible refine (toLinkS_any _ _ l ?_ HN.out).mono ?_); (go_split_ands; exact HL.out _ (belStep BW1.out (by assumption))); rintro e wa ⟨ua, rfl, hrow, hq⟩; go_split_ands; have Ba := Lib.hid (belStep (show Below w1.heap.size w1 _ by assumption) hq); (first | have NX := Lib.hid (qNew hq) | have NX := Lib.hid (qNewD hq) | have NX := Lib.hid (qOld hq (Hid.out (by assumption))) | skip); (first | obtain ⟨n0, n1, n2, n3, nf⟩ := NX.out | skip); have HRa := Lib.hid hrow.lks; clear hrow))
      | (go_at_call 10; ((with_reducible refine (toRuleSS_any _ _ L ?_ HN2.out HLT.out).mono ?_); (go_split_ands; exact HU.out _ (belStep BW1.out (by assumption))); rintro e wb ⟨ub, rfl, hrow, hq⟩; go_split_ands; have Bb := Lib.hid (belStep (show Below w1.heap.size w1 _ by assumption) hq); (first | have NX := Lib.hid (qNew hq) | have NX := Lib.hid (qNewD hq) | have NX := Lib.hid (qOld hq (Hid.out (by assumption))) | skip); (first | obtain ⟨n0, n1, n2, n3, nf⟩ := NX.out | skip); have HCb := Lib.hid hrow; (first | have HRb := Lib.hid (lksC HRa.out hq) | have HRb := Lib.hid (lksC HRa.out (belA hq))); clear hrow))
      | (go_at_call 11; ((with_reducible refine (toSpot_any _ _ _ _ _).mono ?_); rintro e wc ⟨rfl, hq⟩; go_split_ands; have Bc := Lib.hid (belStep (show Below w1.heap.size w1 _ by assumption) hq); (first | have NX := Lib.hid (qNew hq) | have NX := Lib.hid (qNewD hq) | have NX := Lib.hid (qOld hq (Hid.out (by assumption))) | skip); (first | obtain ⟨n0, n1, n2, n3, nf⟩ := NX.out | skip); (first | have HRc := Lib.hid (lksC HRb.out hq) | have HRc := Lib.hid (lksC HRb.out (belA hq))); (first | have HCc := Lib.hid (cfsC HCb.out hq) | have HCc := Lib.hid (cfsC HCb.out (belA hq)))))
      | (go_at_call 16; ((with_reducible refine (HSD.out _ _ _ ?_ ?_).mono ?_); (first | exact HRc.out | exact lksC HRc.out (below_alloc1 _ _)); (first | exact HCc.out | exact cfsC HCc.out (below_alloc1 _ _)); rintro e wd ⟨rS, rfl, hrowS, hq⟩; go_split_ands; have Bd := Lib.hid (belStep (show Below w1.heap.size w1 _ by assumption) hq); (first | have HBL := Lib.hid (qLt hq (Hid.out (by assumption))) | have HBL := Lib.hid (qLtA hq) | have HBL := Lib.hid (qLtD hq) | skip); have HRS := Lib.hid hrowS; clear hrowS; (first | have NX := Lib.hid (qNew hq) | have NX := Lib.hid (qNewD hq) | have NX := Lib.hid (qOld hq (Hid.out (by assumption))) | skip); (first | obtain ⟨n0, n1, n2, n3, nf⟩ := NX.out | skip))))
  have F := Lib.hid (And.intro (quadN (newBlockM wd (.cells #[.int .i64 t.x, .int .i64 t.a, .int .i64 t.b, .int .i64 t.c] 32))) (And.intro (HS2.out _ (Bd.out.alloc Bd.out.size (.cells #[.int .i64 t.x, .int .i64 t.a, .int .i64 t.b, .int .i64 t.c] 32))) (HRS.out.below (below_alloc1 wd (.cells #[.int .i64 t.x, .int .i64 t.a, .int .i64 t.b, .int .i64 t.c] 32))).lks))
  generalize (wd.alloc (.cells #[.int .i64 t.x, .int .i64 t.a, .int .i64 t.b, .int .i64 t.c] 32)) = D at F ⊢
  generalize wd.heap.size = hb at F ⊢
  clear Bd HRS HRc HCc Bc HRb HCb Bb HRa Ba
  repeat (first | clear hq | (rename_i h9; first | (have h8 : Below _ _ _ := h9; clear h8 h9) | (have h8 : _ ∧ _ := h9; clear h8 h9) | (have h8 : World.cell? _ _ = _ := h9; clear h8 h9) | (have h8 : World.frozen? _ _ = _ := h9; clear h8 h9) | (have h8 : World := h9; clear h8 h9) | (have h8 : _ ≤ _ := h9; clear h8 h9) | (have h8 : _ < _ := h9; clear h8 h9)))
  revert F
  revert D
  revert hb
  revert rS
  revert ub
  revert ua
  clear wd wc wb wa
  refine ?rest
  rotate_left
  have F := Lib.hid (And.intro (qSet (x := .int .i64 t.x) (y := .int .i64 t.a) (q := .int .i64 t.b) (r := .int .i64 t.c) n0 n1 n2 n3) (And.intro (HS2.out _ ((((Bd.out.setCell (p := ⟨wc.heap.size, 0, none⟩) (by dsimp only; first | exact Nat.le_refl _ | exact Ba.out.size | exact Bb.out.size | exact Bc.out.size) (.int .i64 t.x)).setCell (p := ⟨wc.heap.size, 1, none⟩) (by dsimp only; first | exact Nat.le_refl _ | exact Ba.out.size | exact Bb.out.size | exact Bc.out.size) (.int .i64 t.a)).setCell (p := ⟨wc.heap.size, 2, none⟩) (by dsimp only; first | exact Nat.le_refl _ | exact Ba.out.size | exact Bb.out.size | exact Bc.out.size) (.int .i64 t.b)).setCell (p := ⟨wc.heap.size, 3, none⟩) (by dsimp only; first | exact Nat.le_refl _ | exact Ba.out.size | exact Bb.out.size | exact Bc.out.size) (.int .i64 t.c))) (pkFar4 t HRS.out HBL.out).lks))
  generalize ((((wd.setCell ⟨wc.heap.size, 0, none⟩ (.int .i64 t.x)).setCell ⟨wc.heap.size, 1, none⟩ (.int .i64 t.a)).setCell ⟨wc.heap.size, 2, none⟩ (.int .i64 t.b)).setCell ⟨wc.heap.size, 3, none⟩ (.int .i64 t.c)) = D at F ⊢
  generalize wc.heap.size = hb at F ⊢
  clear Bd HRS HRc HCc Bc HRb HCb Bb HRa Ba
  repeat (first | clear hq | (rename_i h9; first | (have h8 : Below _ _ _ := h9; clear h8 h9) | (have h8 : _ ∧ _ := h9; clear h8 h9) | (have h8 : World.cell? _ _ = _ := h9; clear h8 h9) | (have h8 : World.frozen? _ _ = _ := h9; clear h8 h9) | (have h8 : World := h9; clear h8 h9) | (have h8 : _ ≤ _ := h9; clear h8 h9) | (have h8 : _ < _ := h9; clear h8 h9)))
  clear HBL NX n0 n1 n2 n3 nf
  repeat (first | clear hq | (rename_i h9; first | (have h8 : Below _ _ _ := h9; clear h8 h9) | (have h8 : _ ∧ _ := h9; clear h8 h9) | (have h8 : World.cell? _ _ = _ := h9; clear h8 h9) | (have h8 : World.frozen? _ _ = _ := h9; clear h8 h9) | (have h8 : World := h9; clear h8 h9) | (have h8 : _ ≤ _ := h9; clear h8 h9) | (have h8 : _ < _ := h9; clear h8 h9)))
  revert F
  revert D
  revert hb
  revert rS
  revert ub
  revert ua
  exact ?rest
  have F := Lib.hid (And.intro (qSet (x := .int .i64 t.x) (y := .int .i64 t.a) (q := .int .i64 t.b) (r := .int .i64 t.c) n0 n1 n2 n3) (And.intro (HS2.out _ ((((Bd.out.setCell (p := ⟨wb.heap.size, 0, none⟩) (by dsimp only; first | exact Nat.le_refl _ | exact Ba.out.size | exact Bb.out.size | exact Bc.out.size) (.int .i64 t.x)).setCell (p := ⟨wb.heap.size, 1, none⟩) (by dsimp only; first | exact Nat.le_refl _ | exact Ba.out.size | exact Bb.out.size | exact Bc.out.size) (.int .i64 t.a)).setCell (p := ⟨wb.heap.size, 2, none⟩) (by dsimp only; first | exact Nat.le_refl _ | exact Ba.out.size | exact Bb.out.size | exact Bc.out.size) (.int .i64 t.b)).setCell (p := ⟨wb.heap.size, 3, none⟩) (by dsimp only; first | exact Nat.le_refl _ | exact Ba.out.size | exact Bb.out.size | exact Bc.out.size) (.int .i64 t.c))) (pkFar4 t HRS.out HBL.out).lks))
  generalize ((((wd.setCell ⟨wb.heap.size, 0, none⟩ (.int .i64 t.x)).setCell ⟨wb.heap.size, 1, none⟩ (.int .i64 t.a)).setCell ⟨wb.heap.size, 2, none⟩ (.int .i64 t.b)).setCell ⟨wb.heap.size, 3, none⟩ (.int .i64 t.c)) = D at F ⊢
  generalize wb.heap.size = hb at F ⊢
  clear Bd HRS HRc HCc Bc HRb HCb Bb HRa Ba
  repeat (first | clear hq | (rename_i h9; first | (have h8 : Below _ _ _ := h9; clear h8 h9) | (have h8 : _ ∧ _ := h9; clear h8 h9) | (have h8 : World.cell? _ _ = _ := h9; clear h8 h9) | (have h8 : World.frozen? _ _ = _ := h9; clear h8 h9) | (have h8 : World := h9; clear h8 h9) | (have h8 : _ ≤ _ := h9; clear h8 h9) | (have h8 : _ < _ := h9; clear h8 h9)))
  clear HBL NX n0 n1 n2 n3 nf
  repeat (first | clear hq | (rename_i h9; first | (have h8 : Below _ _ _ := h9; clear h8 h9) | (have h8 : _ ∧ _ := h9; clear h8 h9) | (have h8 : World.cell? _ _ = _ := h9; clear h8 h9) | (have h8 : World.frozen? _ _ = _ := h9; clear h8 h9) | (have h8 : World := h9; clear h8 h9) | (have h8 : _ ≤ _ := h9; clear h8 h9) | (have h8 : _ < _ := h9; clear h8 h9)))
  revert F
  revert D
  revert hb
  revert rS
  revert ub
  revert ua
  exact ?rest
  have F := Lib.hid (And.intro (qSet (x := .int .i64 t.x) (y := .int .i64 t.a) (q := .int .i64 t.b) (r := .int .i64 t.c) n0 n1 n2 n3) (And.intro (HS2.out _ ((((Bd.out.setCell (p := ⟨wa.heap.size, 0, none⟩) (by dsimp only; first | exact Nat.le_refl _ | exact Ba.out.size | exact Bb.out.size | exact Bc.out.size) (.int .i64 t.x)).setCell (p := ⟨wa.heap.size, 1, none⟩) (by dsimp only; first | exact Nat.le_refl _ | exact Ba.out.size | exact Bb.out.size | exact Bc.out.size) (.int .i64 t.a)).setCell (p := ⟨wa.heap.size, 2, none⟩) (by dsimp only; first | exact Nat.le_refl _ | exact Ba.out.size | exact Bb.out.size | exact Bc.out.size) (.int .i64 t.b)).setCell (p := ⟨wa.heap.size, 3, none⟩) (by dsimp only; first | exact Nat.le_refl _ | exact Ba.out.size | exact Bb.out.size | exact Bc.out.size) (.int .i64 t.c))) (pkFar4 t HRS.out HBL.out).lks))
  generalize ((((wd.setCell ⟨wa.heap.size, 0, none⟩ (.int .i64 t.x)).setCell ⟨wa.heap.size, 1, none⟩ (.int .i64 t.a)).setCell ⟨wa.heap.size, 2, none⟩ (.int .i64 t.b)).setCell ⟨wa.heap.size, 3, none⟩ (.int .i64 t.c)) = D at F ⊢
  generalize wa.heap.size = hb at F ⊢
  clear Bd HRS HRc HCc Bc HRb HCb Bb HRa Ba
  repeat (first | clear hq | (rename_i h9; first | (have h8 : Below _ _ _ := h9; clear h8 h9) | (have h8 : _ ∧ _ := h9; clear h8 h9) | (have h8 : World.cell? _ _ = _ := h9; clear h8 h9) | (have h8 : World.frozen? _ _ = _ := h9; clear h8 h9) | (have h8 : World := h9; clear h8 h9) | (have h8 : _ ≤ _ := h9; clear h8 h9) | (have h8 : _ < _ := h9; clear h8 h9)))
  clear HBL NX n0 n1 n2 n3 nf
  repeat (first | clear hq | (rename_i h9; first | (have h8 : Below _ _ _ := h9; clear h8 h9) | (have h8 : _ ∧ _ := h9; clear h8 h9) | (have h8 : World.cell? _ _ = _ := h9; clear h8 h9) | (have h8 : World.frozen? _ _ = _ := h9; clear h8 h9) | (have h8 : World := h9; clear h8 h9) | (have h8 : _ ≤ _ := h9; clear h8 h9) | (have h8 : _ < _ := h9; clear h8 h9)))
  revert F
  revert D
  revert hb
  revert rS
  revert ub
  revert ua
  exact ?rest
  have F := Lib.hid (And.intro (qSet (x := .int .i64 t.x) (y := .int .i64 t.a) (q := .int .i64 t.b) (r := .int .i64 t.c) n0 n1 n2 n3) (And.intro (HS2.out _ ((((Bd.out.setCell (p := ⟨w1.heap.size, 0, none⟩) (by dsimp only; first | exact Nat.le_refl _ | exact Ba.out.size | exact Bb.out.size | exact Bc.out.size) (.int .i64 t.x)).setCell (p := ⟨w1.heap.size, 1, none⟩) (by dsimp only; first | exact Nat.le_refl _ | exact Ba.out.size | exact Bb.out.size | exact Bc.out.size) (.int .i64 t.a)).setCell (p := ⟨w1.heap.size, 2, none⟩) (by dsimp only; first | exact Nat.le_refl _ | exact Ba.out.size | exact Bb.out.size | exact Bc.out.size) (.int .i64 t.b)).setCell (p := ⟨w1.heap.size, 3, none⟩) (by dsimp only; first | exact Nat.le_refl _ | exact Ba.out.size | exact Bb.out.size | exact Bc.out.size) (.int .i64 t.c))) (pkFar4 t HRS.out HBL.out).lks))
  generalize ((((wd.setCell ⟨w1.heap.size, 0, none⟩ (.int .i64 t.x)).setCell ⟨w1.heap.size, 1, none⟩ (.int .i64 t.a)).setCell ⟨w1.heap.size, 2, none⟩ (.int .i64 t.b)).setCell ⟨w1.heap.size, 3, none⟩ (.int .i64 t.c)) = D at F ⊢
  generalize w1.heap.size = hb at F ⊢
  clear Bd HRS HRc HCc Bc HRb HCb Bb HRa Ba
  repeat (first | clear hq | (rename_i h9; first | (have h8 : Below _ _ _ := h9; clear h8 h9) | (have h8 : _ ∧ _ := h9; clear h8 h9) | (have h8 : World.cell? _ _ = _ := h9; clear h8 h9) | (have h8 : World.frozen? _ _ = _ := h9; clear h8 h9) | (have h8 : World := h9; clear h8 h9) | (have h8 : _ ≤ _ := h9; clear h8 h9) | (have h8 : _ < _ := h9; clear h8 h9)))
  clear HBL NX n0 n1 n2 n3 nf
  repeat (first | clear hq | (rename_i h9; first | (have h8 : Below _ _ _ := h9; clear h8 h9) | (have h8 : _ ∧ _ := h9; clear h8 h9) | (have h8 : World.cell? _ _ = _ := h9; clear h8 h9) | (have h8 : World.frozen? _ _ = _ := h9; clear h8 h9) | (have h8 : World := h9; clear h8 h9) | (have h8 : _ ≤ _ := h9; clear h8 h9) | (have h8 : _ < _ := h9; clear h8 h9)))
  revert F
  revert D
  revert hb
  revert rS
  revert ub
  revert ua
  exact ?rest
  case rest =>
    intro ua ub rS hb D F
    obtain ⟨⟨h0, h1, h2, h3⟩, ⟨s0, s1, s2, s3, bwd, gD⟩, hls⟩ := F.out
    have BWD := Lib.hid bwd
    have gh : hb < D.heap.size := World.block_lt_of_cell? D ⟨hb, 0, none⟩ h0
    have HP : Hid (∀ w', Below D.heap.size D w' → (w'.cell? ⟨w.heap.size, 0, none⟩ = some (.int .i64 x) ∧ w'.cell? ⟨w.heap.size, 1, none⟩ = some (.int .i64 a) ∧ w'.cell? ⟨w.heap.size, 2, none⟩ = some (.int .i64 b) ∧ w'.cell? ⟨w.heap.size, 3, none⟩ = some (.int .i64 c)) ∧ (w'.cell? ⟨hb, 0, none⟩ = some (.int .i64 t.x) ∧ w'.cell? ⟨hb, 1, none⟩ = some (.int .i64 t.a) ∧ w'.cell? ⟨hb, 2, none⟩ = some (.int .i64 t.b) ∧ w'.cell? ⟨hb, 3, none⟩ = some (.int .i64 t.c)) ∧ w.heap.size < w'.heap.size ∧ hb < w'.heap.size ∧ Lks w' w'.heap.size rS (P.map Pk.k) ∧ Below w.heap.size w w') := fun w' hb' => by
      have k := belCell hb'
      have hsz := hb'.size
      exact ⟨⟨(k _ _ gD).trans s0, (k _ _ gD).trans s1, (k _ _ gD).trans s2, (k _ _ gD).trans s3⟩, ⟨(k _ _ gh).trans h0, (k _ _ gh).trans h1, (k _ _ gh).trans h2, (k _ _ gh).trans h3⟩, by omega, by omega, (hls.below hb' (Nat.le_refl _)).mono hsz, belStep bwd hb'⟩
    have HQ0 : Hid ((P.map Pk.k).length ≤ 16) := by show _ ≤ _; rw [List.length_map]; exact HPL.out
    have HQ1 : Hid ((P.map Pk.k).length ≤ 1048576) := Nat.le_trans HQ0.out (by decide)
    clear F bwd h0 h1 h2 h3 s0 s1 s2 s3 hls gh gD BW1 gw
    generalize hQ : P.map Pk.k = Q0 at *
    go_wp2_with fail
    refine (toLinkS_any _ _ l (HL.out _ BWD.out) HN.out).mono ?_
    rintro e we ⟨v1, rfl, hrow, be⟩
    have X0 := Lib.hid hrow
    have X0L : Hid (∀ q, v1.ownBlock = some q → D.heap.size ≤ q ∧ q < we.heap.size) := fun q hq => World.ownsRow.lt hrow q hq
    have BE := Lib.hid be
    have BED : Hid (D.heap.size ≤ we.heap.size) := be.size
    clear hrow be
    go_wp2_with fail
    refine (toRuleSS_own _ _ L (HU.out _ (HP.out _ BE.out).2.2.2.2.2) HN2.out HLT.out).mono ?_
    rintro e wf ⟨u1, us, rfl, hcf, bf⟩
    have X1 := Lib.hid hcf
    have HTOP : Hid (∀ (j : Nat) (u : Value), us[j]? = some u → ∀ q, u.ownBlock = some q → q < wf.heap.size) := hcf.top
    have X0f := Lib.hid (X0.out.below bf)
    have BF := Lib.hid (belStep BE.out bf)
    have gef := bf.size
    obtain ⟨⟨s0, s1, s2, s3⟩, -, gf, -, -, -⟩ := HP.out _ BF.out
    clear hcf bf X0
    go_wp2_with fail
    refine (toSpot_any _ _ _ _ _).mono ?_
    rintro e wg ⟨rfl, bg⟩
    have X0g := Lib.hid (X0f.out.below bg)
    have X1g := Lib.hid (X1.out.below bg)
    have BG := Lib.hid (belStep BF.out bg)
    have gfg := bg.size
    clear bg X0f X1 BF s0 s1 s2 s3 gf
    go_wp2_with fail
    refine (HID.out _ _ _ X0g.out.lks X1g.out.cfs (HE.out.below (HP.out _ BG.out).2.2.2.2.2)).mono ?_
    rintro e wi ⟨r1, rfl, hrow, bi⟩
    have C0 : Hid (AllC D (wi.alloc (.cells #[.int .i64 t.x, .int .i64 t.a, .int .i64 t.b, .int .i64 t.c] 32)) wg.heap.size wi.heap.size r1 Q0 t) := by
      have hA := below_alloc1 wi (.cells #[.int .i64 t.x, .int .i64 t.a, .int .i64 t.b, .int .i64 t.c] 32)
      have hs1 := bi.size
      have hs2 := BG.out.size
      refine ⟨belStep BG.out (belStep bi hA), ?_, newBlockM wi _, hs2, hs1, fun q hq => (World.ownsRow.lt hrow q hq).2⟩
      rw [← hQ]
      exact (hrow.below hA).sk
    have X00 := Lib.hid ((X0g.out.below bi).below (below_alloc1 wi (.cells #[.int .i64 t.x, .int .i64 t.a, .int .i64 t.b, .int .i64 t.c] 32)))
    have X10 := Lib.hid ((X1g.out.below bi).below (below_alloc1 wi (.cells #[.int .i64 t.x, .int .i64 t.a, .int .i64 t.b, .int .i64 t.c] 32)))
    clear hrow bi X0g X1g BG BE
    go_wp2_with fail
    refine (eqSpotS_same _ _ _ Q0 C0.out.row.lks (HP.out _ C0.out.bel).2.2.2.2.1 HQ1.out).mono ?_
    rintro e k1 ⟨rfl, b1⟩
    have C1 := Lib.hid (C0.out.below b1)
    have X1 := Lib.hid (X00.out.below b1)
    have Y1 := Lib.hid (X10.out.below b1)
    clear b1 C0 X00 X10
    obtain ⟨y0, y1, y2, y3, -⟩ := quad4 C1.out.cb
    obtain ⟨-, ⟨z0, z1, z2, z3⟩, -, gh, -, -⟩ := HP.out _ C1.out.bel
    have gc := C1.out.lt
    go_wp2_with fail
    refine (eqSpot_same _ _ _ _ _).mono ?_
    rintro e k2 ⟨rfl, b2⟩
    have C2 := Lib.hid (C1.out.below b2)
    have X2 := Lib.hid (X1.out.below b2)
    have Y2 := Lib.hid (Y1.out.below b2)
    clear b2 C1 X1 Y1
    clear y0 y1 y2 y3 z0 z1 z2 z3 gh gc
    go_wp2_with fail
    refine (toLinkS_any _ _ l (HL.out _ (HP.out _ C2.out.bel).2.2.2.2.2) HN.out).mono ?_
    rintro e k3 ⟨v2, rfl, hrow, b3⟩
    have Hv2 := Lib.hid hrow.lks
    have C3 := Lib.hid (C2.out.below b3)
    have X3 := Lib.hid (X2.out.below b3)
    have Y3 := Lib.hid (Y2.out.below b3)
    clear hrow b3 C2 X2 Y2
    go_wp2_with fail
    refine (eqLinkS_same _ _ _ l X3.out.lks Hv2.out HN.out).mono ?_
    rintro e k4 ⟨rfl, b4⟩
    have C4 := Lib.hid (C3.out.below b4)
    have X4 := Lib.hid (X3.out.below b4)
    have Y4 := Lib.hid (Y3.out.below b4)
    clear b4 C3 X3 Y3
    clear Hv2
    go_wp2_with fail
    refine (toRuleSS_any _ _ L (HU.out _ (HP.out _ C4.out.bel).2.2.2.2.2) HN2.out HLT.out).mono ?_
    rintro e k5 ⟨u2, rfl, hrow, b5⟩
    have Hu2 := Lib.hid hrow
    have C5 := Lib.hid (C4.out.below b5)
    have X5 := Lib.hid (X4.out.below b5)
    have Y5 := Lib.hid (Y4.out.below b5)
    clear hrow b5 C4 X4 Y4
    go_wp2_with fail
    refine (eqRuleSS_same _ _ _ L Y5.out.cfs Hu2.out HN2.out HLT.out).mono ?_
    rintro e k6 ⟨rfl, b6⟩
    have C6 := Lib.hid (C5.out.below b6)
    have X6 := Lib.hid (X5.out.below b6)
    have Y6 := Lib.hid (Y5.out.below b6)
    clear b6 C5 X5 Y5
    clear Hu2
    have hsum := HSUM.out
    go_wp2_with fail
    refine (markLinkS_own _ D.heap.size 1 v1 l X6.out (by omega) (by omega) C6.out.bel.size).mono ?_
    rintro e wm ⟨rfl, -, bm, gm⟩
    have CM := Lib.hid (C6.out.grow gm (fun q hq => by have := X0L.out q hq; omega))
    have XM := Lib.hid (Y6.out.grown gm (fun q hq => (X0L.out q hq).2))
    clear bm gm C6 X6 Y6
    go_wp2_with fail
    refine (markRuleSS_own _ we.heap.size (1 + 4 * l.length) u1 L us XM.out (by omega) HSUM.out wf.heap.size HTOP.out (fun W => AllC D W wg.heap.size wi.heap.size r1 Q0 t) CM.out (fun W W' row hr hg hq => hq.grow hg (fun q hq' => by have := hr q hq'; have := (XM.out.form); have hd := BED.out; omega))).mono ?_
    rintro e wn ⟨rfl, -, hc⟩
    have CN : Hid (AllC D wn wg.heap.size wi.heap.size r1 Q0 t) := hc
    have hk2 : ¬ (((1 + 4 * l.length + 4 * sumTo (fun i => (tbAt L i).length) L.length : Nat) : Int) < 0) := by omega
    clear CM XM hc hsum
    generalize 1 + 4 * l.length + 4 * sumTo (fun i => (tbAt L i).length) L.length = K2 at *
    go_wp2_with fail
    refine (eqSpotS_same _ _ _ Q0 CN.out.row.lks (HP.out _ CN.out.bel).2.2.2.2.1 HQ1.out).mono ?_
    rintro e k7 ⟨rfl, b7⟩
    have C7 := Lib.hid (CN.out.below b7)
    clear b7 CN
    obtain ⟨y0, y1, y2, y3, -⟩ := quad4 C7.out.cb
    obtain ⟨-, ⟨z0, z1, z2, z3⟩, -, gh, -, -⟩ := HP.out _ C7.out.bel
    have gc := C7.out.lt
    go_wp2_with fail
    refine (eqSpot_same _ _ _ _ _).mono ?_
    rintro e k8 ⟨rfl, b8⟩
    have C8 := Lib.hid (C7.out.below b8)
    clear b8 C7
    clear y0 y1 y2 y3 z0 z1 z2 z3 gh gc
    clear hk2
    go_wp2_with fail
    refine (markSpotS_own _ wg.heap.size 1 r1 Q0 C8.out.row (by omega) (by have := HQ0.out; omega) (Nat.le_trans C8.out.hgb (Nat.le_of_lt C8.out.lt))).mono ?_
    rintro e wp ⟨rfl, hrow, bp, gp⟩
    have CP := Lib.hid (C8.out.mark hrow gp bp)
    clear hrow bp gp C8
    have hm0 : ¬ (((1 + 4 * Q0.length : Nat) : Int) < 0) := by omega
    have hm1 : (((1 + 4 * Q0.length : Nat) : Int) != ((1 + 4 * Q0.length : Nat) : Int)) = false := by simp
    have HH : Hid (∀ W, AllC D W wg.heap.size wi.heap.size r1 (marksK 1 Q0.length) t → Calls Tryz.prog 22 #[r1, .int .i64 1] W fun e w' => e = .returned (.int .i64 ((1 + 4 * Q0.length : Nat) : Int)) ∧ Below W.heap.size W w') := fun W hW => heldSpotS_at W wg.heap.size 1 Q0.length r1 hW.row (by omega) (by have := HQ0.out; omega)
    generalize hM : 1 + 4 * Q0.length = M at *
    go_wp2_with fail
    refine (HH.out _ CP.out).mono ?_
    rintro e k9 ⟨rfl, b9⟩
    have C9 := Lib.hid (CP.out.below b9)
    clear b9 CP
    generalize hz : k9 = wz at *
    clear hz
    have CZ : Hid (AllC D wz wg.heap.size wi.heap.size r1 (marksK 1 Q0.length) t) := C9.out
    clear C9
    obtain ⟨⟨s0, s1, s2, s3⟩, -, gz, -, -, bwz⟩ := HP.out _ CZ.out.bel
    have BWZ := Lib.hid bwz
    have HS : Hid (∀ w' : World, Below wz.heap.size wz w' → (w'.cell? ⟨w.heap.size, 0, none⟩ = some (.int .i64 x) ∧ w'.cell? ⟨w.heap.size, 1, none⟩ = some (.int .i64 a) ∧ w'.cell? ⟨w.heap.size, 2, none⟩ = some (.int .i64 b) ∧ w'.cell? ⟨w.heap.size, 3, none⟩ = some (.int .i64 c) ∧ Below wz.heap.size wz w')) := fun w' hb' => by
      obtain ⟨⟨k0, k1, k2, k3⟩, -⟩ := HP.out _ (belStep CZ.out.bel hb')
      exact ⟨k0, k1, k2, k3, hb'⟩
    have HS2 : Hid (∀ w' : World, Below wz.heap.size wz w' → AllC D w' wg.heap.size wi.heap.size r1 (marksK 1 Q0.length) t) := fun w' hb' => CZ.out.below hb'
    clear bwz
    go_wp2
    go_region_held3 (fun w' => w'.cell? ⟨w.heap.size, 0, none⟩ = some (.int .i64 x) ∧ w'.cell? ⟨w.heap.size, 1, none⟩ = some (.int .i64 a) ∧ w'.cell? ⟨w.heap.size, 2, none⟩ = some (.int .i64 b) ∧ w'.cell? ⟨w.heap.size, 3, none⟩ = some (.int .i64 c) ∧ Below wz.heap.size wz w')
      (first | assumption | exact HS.out _ ((Below.refl _ _).drew) | exact HS.out _ Bd.out | exact HS.out _ Bc.out | exact HS.out _ Bb.out | exact HS.out _ Ba.out | exact HS.out _ (Below.alloc Bd.out (Below.size Bd.out) _) | exact HS.out _ (Below.alloc Bc.out (Below.size Bc.out) _) | exact HS.out _ (Below.alloc Bb.out (Below.size Bb.out) _) | exact HS.out _ (Below.alloc Ba.out (Below.size Ba.out) _) | exact HS.out _ (Below.alloc ((Below.refl _ _).drew) (Nat.le_refl _) _) | exact HS.out _ ((((Bd.out.setCell (by dsimp only; first | exact Nat.le_refl _ | exact Ba.out.size | exact Bb.out.size | exact Bc.out.size) _).setCell (by dsimp only; first | exact Nat.le_refl _ | exact Ba.out.size | exact Bb.out.size | exact Bc.out.size) _).setCell (by dsimp only; first | exact Nat.le_refl _ | exact Ba.out.size | exact Bb.out.size | exact Bc.out.size) _).setCell (by dsimp only; first | exact Nat.le_refl _ | exact Ba.out.size | exact Bb.out.size | exact Bc.out.size) _))
      (first
        | (go_at_call 9; ((with_reducible refine (toLinkS_any _ _ l ?_ HN.out).mono ?_); (go_split_ands; exact HL.out _ (belStep BWZ.out (by assumption))); rintro e wa ⟨ua, rfl, hrow, hq⟩; go_split_ands; have Ba := Lib.hid (belStep (show Below wz.heap.size wz _ by assumption) hq); (first | have NX := Lib.hid (qNew hq) | have NX := Lib.hid (qNewD hq) | have NX := Lib.hid (qOld hq (Hid.out (by assumption))) | skip); (first | obtain ⟨n0, n1, n2, n3, nf⟩ := NX.out | skip); have HRa := Lib.hid hrow.lks; clear hrow))
        | (go_at_call 10; ((with_reducible refine (toRuleSS_any _ _ L ?_ HN2.out HLT.out).mono ?_); (go_split_ands; exact HU.out _ (belStep BWZ.out (by assumption))); rintro e wb ⟨ub, rfl, hrow, hq⟩; go_split_ands; have Bb := Lib.hid (belStep (show Below wz.heap.size wz _ by assumption) hq); (first | have NX := Lib.hid (qNew hq) | have NX := Lib.hid (qNewD hq) | have NX := Lib.hid (qOld hq (Hid.out (by assumption))) | skip); (first | obtain ⟨n0, n1, n2, n3, nf⟩ := NX.out | skip); have HCb := Lib.hid hrow; (first | have HRb := Lib.hid (lksC HRa.out hq) | have HRb := Lib.hid (lksC HRa.out (belA hq))); clear hrow))
        | (go_at_call 11; ((with_reducible refine (toSpot_any _ _ _ _ _).mono ?_); rintro e wc ⟨rfl, hq⟩; go_split_ands; have Bc := Lib.hid (belStep (show Below wz.heap.size wz _ by assumption) hq); (first | have NX := Lib.hid (qNew hq) | have NX := Lib.hid (qNewD hq) | have NX := Lib.hid (qOld hq (Hid.out (by assumption))) | skip); (first | obtain ⟨n0, n1, n2, n3, nf⟩ := NX.out | skip); (first | have HRc := Lib.hid (lksC HRb.out hq) | have HRc := Lib.hid (lksC HRb.out (belA hq))); (first | have HCc := Lib.hid (cfsC HCb.out hq) | have HCc := Lib.hid (cfsC HCb.out (belA hq)))))
        | (go_at_call 17; ((with_reducible refine (HID.out _ _ _ ?_ ?_ ?_).mono ?_); (first | exact HRc.out | exact lksC HRc.out (below_alloc1 _ _)); (first | exact HCc.out | exact cfsC HCc.out (below_alloc1 _ _)); (go_split_ands; exact HE.out.below (belStep BWZ.out (by assumption))); rintro e wd ⟨rS, rfl, hrowS, hq⟩; go_split_ands; have Bd := Lib.hid (belStep (show Below wz.heap.size wz _ by assumption) hq); (first | have HBL := Lib.hid (qLt hq (Hid.out (by assumption))) | have HBL := Lib.hid (qLtA hq) | have HBL := Lib.hid (qLtD hq) | skip); have HRS := Lib.hid hrowS; clear hrowS; (first | have NX := Lib.hid (qNew hq) | have NX := Lib.hid (qNewD hq) | have NX := Lib.hid (qOld hq (Hid.out (by assumption))) | skip); (first | obtain ⟨n0, n1, n2, n3, nf⟩ := NX.out | skip))))
    have F := Lib.hid (And.intro (quadN (newBlockM wd (.cells #[.int .i64 t.x, .int .i64 t.a, .int .i64 t.b, .int .i64 t.c] 32))) (And.intro (HS2.out _ (Bd.out.alloc Bd.out.size (.cells #[.int .i64 t.x, .int .i64 t.a, .int .i64 t.b, .int .i64 t.c] 32))) (HRS.out.below (below_alloc1 wd (.cells #[.int .i64 t.x, .int .i64 t.a, .int .i64 t.b, .int .i64 t.c] 32))).lks))
    generalize (wd.alloc (.cells #[.int .i64 t.x, .int .i64 t.a, .int .i64 t.b, .int .i64 t.c] 32)) = D at F ⊢
    generalize wd.heap.size = hb at F ⊢
    clear Bd HRS HRc HCc Bc HRb HCb Bb HRa Ba
    repeat (first | clear hq | (rename_i h9; first | (have h8 : Below _ _ _ := h9; clear h8 h9) | (have h8 : _ ∧ _ := h9; clear h8 h9) | (have h8 : World.cell? _ _ = _ := h9; clear h8 h9) | (have h8 : World.frozen? _ _ = _ := h9; clear h8 h9) | (have h8 : World := h9; clear h8 h9) | (have h8 : _ ≤ _ := h9; clear h8 h9) | (have h8 : _ < _ := h9; clear h8 h9)))
    revert F
    revert D
    revert hb
    revert rS
    revert ub
    revert ua
    clear wd wc wb wa
    refine ?rest2
    rotate_left
    have F := Lib.hid (And.intro (qSet (x := .int .i64 t.x) (y := .int .i64 t.a) (q := .int .i64 t.b) (r := .int .i64 t.c) n0 n1 n2 n3) (And.intro (HS2.out _ ((((Bd.out.setCell (p := ⟨wc.heap.size, 0, none⟩) (by dsimp only; first | exact Nat.le_refl _ | exact Ba.out.size | exact Bb.out.size | exact Bc.out.size) (.int .i64 t.x)).setCell (p := ⟨wc.heap.size, 1, none⟩) (by dsimp only; first | exact Nat.le_refl _ | exact Ba.out.size | exact Bb.out.size | exact Bc.out.size) (.int .i64 t.a)).setCell (p := ⟨wc.heap.size, 2, none⟩) (by dsimp only; first | exact Nat.le_refl _ | exact Ba.out.size | exact Bb.out.size | exact Bc.out.size) (.int .i64 t.b)).setCell (p := ⟨wc.heap.size, 3, none⟩) (by dsimp only; first | exact Nat.le_refl _ | exact Ba.out.size | exact Bb.out.size | exact Bc.out.size) (.int .i64 t.c))) (pkFar4 t HRS.out HBL.out).lks))
    generalize ((((wd.setCell ⟨wc.heap.size, 0, none⟩ (.int .i64 t.x)).setCell ⟨wc.heap.size, 1, none⟩ (.int .i64 t.a)).setCell ⟨wc.heap.size, 2, none⟩ (.int .i64 t.b)).setCell ⟨wc.heap.size, 3, none⟩ (.int .i64 t.c)) = D at F ⊢
    generalize wc.heap.size = hb at F ⊢
    clear Bd HRS HRc HCc Bc HRb HCb Bb HRa Ba
    repeat (first | clear hq | (rename_i h9; first | (have h8 : Below _ _ _ := h9; clear h8 h9) | (have h8 : _ ∧ _ := h9; clear h8 h9) | (have h8 : World.cell? _ _ = _ := h9; clear h8 h9) | (have h8 : World.frozen? _ _ = _ := h9; clear h8 h9) | (have h8 : World := h9; clear h8 h9) | (have h8 : _ ≤ _ := h9; clear h8 h9) | (have h8 : _ < _ := h9; clear h8 h9)))
    clear HBL NX n0 n1 n2 n3 nf
    repeat (first | clear hq | (rename_i h9; first | (have h8 : Below _ _ _ := h9; clear h8 h9) | (have h8 : _ ∧ _ := h9; clear h8 h9) | (have h8 : World.cell? _ _ = _ := h9; clear h8 h9) | (have h8 : World.frozen? _ _ = _ := h9; clear h8 h9) | (have h8 : World := h9; clear h8 h9) | (have h8 : _ ≤ _ := h9; clear h8 h9) | (have h8 : _ < _ := h9; clear h8 h9)))
    revert F
    revert D
    revert hb
    revert rS
    revert ub
    revert ua
    exact ?rest2
    have F := Lib.hid (And.intro (qSet (x := .int .i64 t.x) (y := .int .i64 t.a) (q := .int .i64 t.b) (r := .int .i64 t.c) n0 n1 n2 n3) (And.intro (HS2.out _ ((((Bd.out.setCell (p := ⟨wb.heap.size, 0, none⟩) (by dsimp only; first | exact Nat.le_refl _ | exact Ba.out.size | exact Bb.out.size | exact Bc.out.size) (.int .i64 t.x)).setCell (p := ⟨wb.heap.size, 1, none⟩) (by dsimp only; first | exact Nat.le_refl _ | exact Ba.out.size | exact Bb.out.size | exact Bc.out.size) (.int .i64 t.a)).setCell (p := ⟨wb.heap.size, 2, none⟩) (by dsimp only; first | exact Nat.le_refl _ | exact Ba.out.size | exact Bb.out.size | exact Bc.out.size) (.int .i64 t.b)).setCell (p := ⟨wb.heap.size, 3, none⟩) (by dsimp only; first | exact Nat.le_refl _ | exact Ba.out.size | exact Bb.out.size | exact Bc.out.size) (.int .i64 t.c))) (pkFar4 t HRS.out HBL.out).lks))
    generalize ((((wd.setCell ⟨wb.heap.size, 0, none⟩ (.int .i64 t.x)).setCell ⟨wb.heap.size, 1, none⟩ (.int .i64 t.a)).setCell ⟨wb.heap.size, 2, none⟩ (.int .i64 t.b)).setCell ⟨wb.heap.size, 3, none⟩ (.int .i64 t.c)) = D at F ⊢
    generalize wb.heap.size = hb at F ⊢
    clear Bd HRS HRc HCc Bc HRb HCb Bb HRa Ba
    repeat (first | clear hq | (rename_i h9; first | (have h8 : Below _ _ _ := h9; clear h8 h9) | (have h8 : _ ∧ _ := h9; clear h8 h9) | (have h8 : World.cell? _ _ = _ := h9; clear h8 h9) | (have h8 : World.frozen? _ _ = _ := h9; clear h8 h9) | (have h8 : World := h9; clear h8 h9) | (have h8 : _ ≤ _ := h9; clear h8 h9) | (have h8 : _ < _ := h9; clear h8 h9)))
    clear HBL NX n0 n1 n2 n3 nf
    repeat (first | clear hq | (rename_i h9; first | (have h8 : Below _ _ _ := h9; clear h8 h9) | (have h8 : _ ∧ _ := h9; clear h8 h9) | (have h8 : World.cell? _ _ = _ := h9; clear h8 h9) | (have h8 : World.frozen? _ _ = _ := h9; clear h8 h9) | (have h8 : World := h9; clear h8 h9) | (have h8 : _ ≤ _ := h9; clear h8 h9) | (have h8 : _ < _ := h9; clear h8 h9)))
    revert F
    revert D
    revert hb
    revert rS
    revert ub
    revert ua
    exact ?rest2
    have F := Lib.hid (And.intro (qSet (x := .int .i64 t.x) (y := .int .i64 t.a) (q := .int .i64 t.b) (r := .int .i64 t.c) n0 n1 n2 n3) (And.intro (HS2.out _ ((((Bd.out.setCell (p := ⟨wa.heap.size, 0, none⟩) (by dsimp only; first | exact Nat.le_refl _ | exact Ba.out.size | exact Bb.out.size | exact Bc.out.size) (.int .i64 t.x)).setCell (p := ⟨wa.heap.size, 1, none⟩) (by dsimp only; first | exact Nat.le_refl _ | exact Ba.out.size | exact Bb.out.size | exact Bc.out.size) (.int .i64 t.a)).setCell (p := ⟨wa.heap.size, 2, none⟩) (by dsimp only; first | exact Nat.le_refl _ | exact Ba.out.size | exact Bb.out.size | exact Bc.out.size) (.int .i64 t.b)).setCell (p := ⟨wa.heap.size, 3, none⟩) (by dsimp only; first | exact Nat.le_refl _ | exact Ba.out.size | exact Bb.out.size | exact Bc.out.size) (.int .i64 t.c))) (pkFar4 t HRS.out HBL.out).lks))
    generalize ((((wd.setCell ⟨wa.heap.size, 0, none⟩ (.int .i64 t.x)).setCell ⟨wa.heap.size, 1, none⟩ (.int .i64 t.a)).setCell ⟨wa.heap.size, 2, none⟩ (.int .i64 t.b)).setCell ⟨wa.heap.size, 3, none⟩ (.int .i64 t.c)) = D at F ⊢
    generalize wa.heap.size = hb at F ⊢
    clear Bd HRS HRc HCc Bc HRb HCb Bb HRa Ba
    repeat (first | clear hq | (rename_i h9; first | (have h8 : Below _ _ _ := h9; clear h8 h9) | (have h8 : _ ∧ _ := h9; clear h8 h9) | (have h8 : World.cell? _ _ = _ := h9; clear h8 h9) | (have h8 : World.frozen? _ _ = _ := h9; clear h8 h9) | (have h8 : World := h9; clear h8 h9) | (have h8 : _ ≤ _ := h9; clear h8 h9) | (have h8 : _ < _ := h9; clear h8 h9)))
    clear HBL NX n0 n1 n2 n3 nf
    repeat (first | clear hq | (rename_i h9; first | (have h8 : Below _ _ _ := h9; clear h8 h9) | (have h8 : _ ∧ _ := h9; clear h8 h9) | (have h8 : World.cell? _ _ = _ := h9; clear h8 h9) | (have h8 : World.frozen? _ _ = _ := h9; clear h8 h9) | (have h8 : World := h9; clear h8 h9) | (have h8 : _ ≤ _ := h9; clear h8 h9) | (have h8 : _ < _ := h9; clear h8 h9)))
    revert F
    revert D
    revert hb
    revert rS
    revert ub
    revert ua
    exact ?rest2
    have F := Lib.hid (And.intro (qSet (x := .int .i64 t.x) (y := .int .i64 t.a) (q := .int .i64 t.b) (r := .int .i64 t.c) n0 n1 n2 n3) (And.intro (HS2.out _ ((((Bd.out.setCell (p := ⟨wz.heap.size, 0, none⟩) (by dsimp only; first | exact Nat.le_refl _ | exact Ba.out.size | exact Bb.out.size | exact Bc.out.size) (.int .i64 t.x)).setCell (p := ⟨wz.heap.size, 1, none⟩) (by dsimp only; first | exact Nat.le_refl _ | exact Ba.out.size | exact Bb.out.size | exact Bc.out.size) (.int .i64 t.a)).setCell (p := ⟨wz.heap.size, 2, none⟩) (by dsimp only; first | exact Nat.le_refl _ | exact Ba.out.size | exact Bb.out.size | exact Bc.out.size) (.int .i64 t.b)).setCell (p := ⟨wz.heap.size, 3, none⟩) (by dsimp only; first | exact Nat.le_refl _ | exact Ba.out.size | exact Bb.out.size | exact Bc.out.size) (.int .i64 t.c))) (pkFar4 t HRS.out HBL.out).lks))
    generalize ((((wd.setCell ⟨wz.heap.size, 0, none⟩ (.int .i64 t.x)).setCell ⟨wz.heap.size, 1, none⟩ (.int .i64 t.a)).setCell ⟨wz.heap.size, 2, none⟩ (.int .i64 t.b)).setCell ⟨wz.heap.size, 3, none⟩ (.int .i64 t.c)) = D at F ⊢
    generalize wz.heap.size = hb at F ⊢
    clear Bd HRS HRc HCc Bc HRb HCb Bb HRa Ba
    repeat (first | clear hq | (rename_i h9; first | (have h8 : Below _ _ _ := h9; clear h8 h9) | (have h8 : _ ∧ _ := h9; clear h8 h9) | (have h8 : World.cell? _ _ = _ := h9; clear h8 h9) | (have h8 : World.frozen? _ _ = _ := h9; clear h8 h9) | (have h8 : World := h9; clear h8 h9) | (have h8 : _ ≤ _ := h9; clear h8 h9) | (have h8 : _ < _ := h9; clear h8 h9)))
    clear HBL NX n0 n1 n2 n3 nf
    repeat (first | clear hq | (rename_i h9; first | (have h8 : Below _ _ _ := h9; clear h8 h9) | (have h8 : _ ∧ _ := h9; clear h8 h9) | (have h8 : World.cell? _ _ = _ := h9; clear h8 h9) | (have h8 : World.frozen? _ _ = _ := h9; clear h8 h9) | (have h8 : World := h9; clear h8 h9) | (have h8 : _ ≤ _ := h9; clear h8 h9) | (have h8 : _ < _ := h9; clear h8 h9)))
    revert F
    revert D
    revert hb
    revert rS
    revert ub
    revert ua
    exact ?rest2
    case rest2 =>
      intro ua ub rH hh E F
      obtain ⟨⟨h0, h1, h2, h3⟩, hce, hls⟩ := F.out
      rw [hQ] at hls
      have HLS := Lib.hid hls
      have CE := Lib.hid hce
      have ghh : hh < E.heap.size := World.block_lt_of_cell? E ⟨hh, 0, none⟩ h0
      have HHC := Lib.hid (And.intro h0 (And.intro h1 (And.intro h2 h3)))
      clear F h0 h1 h2 h3 hce hls HS HS2 BWZ CZ gz s0 s1 s2 s3
      go_wp2_with fail
      refine (eqSpotS_same _ _ _ Q0 HLS.out (HP.out _ CE.out.bel).2.2.2.2.1 HQ1.out).mono ?_
      rintro e x1 ⟨rfl, bx⟩
      have CX := Lib.hid (CE.out.below bx)
      have kx := belCell bx
      have y0 := (kx _ _ ghh).trans HHC.out.1
      have y1 := (kx _ _ ghh).trans HHC.out.2.1
      have y2 := (kx _ _ ghh).trans HHC.out.2.2.1
      have y3 := (kx _ _ ghh).trans HHC.out.2.2.2
      have gx : hh < x1.heap.size := Nat.lt_of_lt_of_le ghh bx.size
      obtain ⟨-, ⟨z0, z1, z2, z3⟩, -, gh, -, -⟩ := HP.out _ CX.out.bel
      clear bx kx CE HLS HHC ghh
      go_wp2_with fail
      refine (eqSpot_same _ _ _ _ _).mono ?_
      rintro e x2 ⟨rfl, bx⟩
      have CY := Lib.hid (CX.out.below bx)
      clear bx CX y0 y1 y2 y3 gx z0 z1 z2 z3 gh
      go_wp2_with fail
      refine (HH.out _ CY.out).mono ?_
      rintro e x3 ⟨rfl, bx⟩
      have BX := Lib.hid (HP.out _ (belStep CY.out.bel bx)).2.2.2.2.2
      go_wp2
      go_ret
      exact ⟨rfl, BX.out⟩

end Go.Proofs.YtjjhahhchimmlaaGreatDoor
