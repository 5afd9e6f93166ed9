/-
  The statement on WalkStep: its walk.
-/
import Derived.Test.YtjjhahhchimmlaaGreatDoorWalkDG
import Derived.Test.YtjjhahhchimmlaaGreatDoorWalkH
import Derived.Deep.RegionHeld3
namespace Go.Proofs.YtjjhahhchimmlaaGreatDoor
open Go.ChangeShapes Go.WideShapes Go.ChangeAt Go.RowKit Go.Joins
set_option linter.unusedVariables false

theorem lksC {w w' : World} {v : Value} {l : List K4} (h : Lks w w.heap.size v l) (hb : Below w.heap.size w w') : Lks w' w'.heap.size v l := (h.below hb (Nat.le_refl _)).mono hb.size
theorem cfsC {w w' : World} {v : Value} {L : List (List R4)} (h : Cfs w w.heap.size v L) (hb : Below w.heap.size w w') : Cfs w' w'.heap.size v L := (h.below hb (Nat.le_refl _)).mono hb.size
theorem qNew {X wq : World} {ty : TypeId} {u v z q : Value} (h : Below (X.alloc (.cells #[u, v, z, q] ty)).heap.size (X.alloc (.cells #[u, v, z, q] ty)) wq) :
    wq.cell? ⟨X.heap.size, 0, none⟩ = some u ∧ wq.cell? ⟨X.heap.size, 1, none⟩ = some v ∧ wq.cell? ⟨X.heap.size, 2, none⟩ = some z ∧ wq.cell? ⟨X.heap.size, 3, none⟩ = some q ∧ ∀ o, wq.frozen? ⟨X.heap.size, o, none⟩ = false := quad4 ((h.block _ (by simp)).trans (newBlockM X _))
theorem qNewD {X wq : World} {ty : TypeId} {u v z q : Value} (h : Below (X.alloc (.cells #[u, v, z, q] ty)).drew.heap.size (X.alloc (.cells #[u, v, z, q] ty)).drew wq) :
    wq.cell? ⟨X.heap.size, 0, none⟩ = some u ∧ wq.cell? ⟨X.heap.size, 1, none⟩ = some v ∧ wq.cell? ⟨X.heap.size, 2, none⟩ = some z ∧ wq.cell? ⟨X.heap.size, 3, none⟩ = some q ∧ ∀ o, wq.frozen? ⟨X.heap.size, o, none⟩ = false := qNew (((Below.refl _ _).drew).trans h)
theorem qOld {A wq : World} {xb : Nat} {u v z q : Value} (h : Below A.heap.size A wq) (k : A.cell? ⟨xb, 0, none⟩ = some u ∧ A.cell? ⟨xb, 1, none⟩ = some v ∧ A.cell? ⟨xb, 2, none⟩ = some z ∧ A.cell? ⟨xb, 3, none⟩ = some q ∧ ∀ o, A.frozen? ⟨xb, o, none⟩ = false) :
    wq.cell? ⟨xb, 0, none⟩ = some u ∧ wq.cell? ⟨xb, 1, none⟩ = some v ∧ wq.cell? ⟨xb, 2, none⟩ = some z ∧ wq.cell? ⟨xb, 3, none⟩ = some q ∧ ∀ o, wq.frozen? ⟨xb, o, none⟩ = false := by
  have hc := belCell h
  have hl : xb < A.heap.size := World.block_lt_of_cell? A ⟨xb, 0, none⟩ k.1
  exact ⟨(hc _ _ hl).trans k.1, (hc _ _ hl).trans k.2.1, (hc _ _ hl).trans k.2.2.1, (hc _ _ hl).trans k.2.2.2.1, fun o => (World.frozen?_of_block (h.block _ hl)).trans (k.2.2.2.2 o)⟩
theorem qSet {A : World} {xb : Nat} {u v z m x y q r : Value} (k0 : A.cell? ⟨xb, 0, none⟩ = some u) (k1 : A.cell? ⟨xb, 1, none⟩ = some v) (k2 : A.cell? ⟨xb, 2, none⟩ = some z) (k3 : A.cell? ⟨xb, 3, none⟩ = some m) :
    ((((A.setCell ⟨xb, 0, none⟩ x).setCell ⟨xb, 1, none⟩ y).setCell ⟨xb, 2, none⟩ q).setCell ⟨xb, 3, none⟩ r).cell? ⟨xb, 0, none⟩ = some x ∧ ((((A.setCell ⟨xb, 0, none⟩ x).setCell ⟨xb, 1, none⟩ y).setCell ⟨xb, 2, none⟩ q).setCell ⟨xb, 3, none⟩ r).cell? ⟨xb, 1, none⟩ = some y ∧ ((((A.setCell ⟨xb, 0, none⟩ x).setCell ⟨xb, 1, none⟩ y).setCell ⟨xb, 2, none⟩ q).setCell ⟨xb, 3, none⟩ r).cell? ⟨xb, 2, none⟩ = some q ∧ ((((A.setCell ⟨xb, 0, none⟩ x).setCell ⟨xb, 1, none⟩ y).setCell ⟨xb, 2, none⟩ q).setCell ⟨xb, 3, none⟩ r).cell? ⟨xb, 3, none⟩ = some r := by
  refine ⟨?_, ?_, ?_, ?_⟩ <;> simp [go_sem, k0, k1, k2, k3]
theorem quadN {w : World} {b : Nat} {x y z q : Value} {t : TypeId} (h : w.heap[b]? = some (.cells #[x, y, z, q] t)) : w.cell? ⟨b, 0, none⟩ = some x ∧ w.cell? ⟨b, 1, none⟩ = some y ∧ w.cell? ⟨b, 2, none⟩ = some z ∧ w.cell? ⟨b, 3, none⟩ = some q := ⟨(quad4 h).1, (quad4 h).2.1, (quad4 h).2.2.1, (quad4 h).2.2.2.1⟩
theorem belA {X wq : World} {o : Obj} (h : Below (X.alloc o).heap.size (X.alloc o) wq) : Below X.heap.size X wq := (below_alloc1 X o).trans (h.mono (by simp))

set_option maxHeartbeats 2000000 in
theorem szLinkS_le (w : World) (v : Value) (l : List K4) (n : Nat) (h : Lks w w.heap.size v l) (hn : n ≤ 1048576) :
    Calls Tryz.prog 6 #[v, .int .i64 n] w fun e w' => (e = .returned (.int .i64 (-1)) ∨ ∃ r : Nat, e = .returned (.int .i64 r) ∧ r ≤ n ∧ l.length ≤ n) ∧ w = w' := by
  obtain ⟨a, cap, rfl, hc, hm, hh⟩ := h
  clear hh
  unfold maxLen at hm
  generalize l.length = m at *
  by_cases h0 : n < m
  · have hz : (n : Int) - (m : Int) < 0 := by omega
    go_enter Tryz.func6, Tryz.ntmps6
    go_wp2
    go_ret
    exact ⟨.inl rfl, rfl⟩
  · have hz : ¬ (n : Int) - (m : Int) < 0 := by omega
    have e : (n : Int) - (m : Int) = ((n - m : Nat) : Int) := by omega
    go_enter Tryz.func6, Tryz.ntmps6
    go_wp2
    refine bodyPost_ret (v := .int .i64 ((n - m : Nat) : Int)) (by simp [results, Tryz.results6, go_sem]) rfl ⟨.inr ⟨n - m, rfl, by omega, by omega⟩, rfl⟩

set_option maxRecDepth 100000 in
set_option maxHeartbeats 40000000 in
theorem walk_FnExactWalkStep (v : Value) (l : List K4) (u : Value) (n : Nat) (ms : Nat → Nat) (f : Nat → Nat → Int × ByteArray × Int × Int) (x a b c : Int) (w : World) (hl : Lks w w.heap.size v l) (hr : RawF w w.heap.size u n ms f) (hz : ∀ i, i < n → ∀ j, j < ms i → (f i j).2.1.size ≤ maxLen) (hE : EtOk w) :
    Calls Tryz.prog 3 #[v, u, .agg #[.int .i64 x, .int .i64 a, .int .i64 b, .int .i64 c]] w fun e w' => e = .returned (.bool true) ∧ Below w.heap.size w w' := by
  have HE := Lib.hid hE
  have hA := below_alloc1 w (.cells #[.int .i64 x, .int .i64 a, .int .i64 b, .int .i64 c] 27)
  have HB0 : Hid (∀ w', Below (w.alloc (.cells #[.int .i64 x, .int .i64 a, .int .i64 b, .int .i64 c] 27)).heap.size (w.alloc (.cells #[.int .i64 x, .int .i64 a, .int .i64 b, .int .i64 c] 27)) w' → Below w.heap.size w w' ∧ w.heap.size < w'.heap.size ∧ w'.cell? ⟨w.heap.size, 0, none⟩ = some (.int .i64 x) ∧ w'.cell? ⟨w.heap.size, 1, none⟩ = some (.int .i64 a) ∧ w'.cell? ⟨w.heap.size, 2, none⟩ = some (.int .i64 b) ∧ w'.cell? ⟨w.heap.size, 3, none⟩ = some (.int .i64 c)) := fun w' hb => by
    have hs := hb.size
    simp at hs
    exact ⟨hA.trans (hb.mono (by simp)), by omega, quadN ((hb.block _ (by simp)).trans (newBlockM w _))⟩
  have HSZ := Lib.hid (szLinkS_le (w.alloc (.cells #[.int .i64 x, .int .i64 a, .int .i64 b, .int .i64 c] 27)) v l 1048576 (lksC hl hA) (Nat.le_refl _))
  have HSR : Hid (∀ k, k ≤ 1048576 → Calls Tryz.prog 7 #[u, .int .i64 (k : Nat)] (w.alloc (.cells #[.int .i64 x, .int .i64 a, .int .i64 b, .int .i64 c] 27)) fun e w' => (e = .returned (.int .i64 (-1)) ∨ ∃ r : Nat, e = .returned (.int .i64 r) ∧ r ≤ k ∧ n ≤ k ∧ ∀ i, i < n → ms i ≤ k ∧ ∀ j, j < ms i → (f i j).2.1.size ≤ k) ∧ Below (w.alloc (.cells #[.int .i64 x, .int .i64 a, .int .i64 b, .int .i64 c] 27)).heap.size (w.alloc (.cells #[.int .i64 x, .int .i64 a, .int .i64 b, .int .i64 c] 27)) w') := fun k hk => szRuleSS_any _ u n k ms f ((hr.below hA (Nat.le_refl _)).mono hA.size) hz hk
  have HL : Hid (∀ W, Below w.heap.size w W → Lks W W.heap.size v l) := fun W hb => lksC hl hb
  have HW : Hid ((∀ i, i < n → ∀ j, j < ms i → (f i j).2.1.size ≤ 1048576) → ∀ W, Below w.heap.size w W → Cfs W W.heap.size u ((List.range n).map (smallF ms f))) := fun hs W hb => ((hr.below hb (Nat.le_refl _)).mono hb.size).cfs hs
  have hll : ((List.range n).map (smallF ms f)).length = n := by simp
  have hlt : (∀ i, i < n → ms i ≤ 1048576) → ∀ i, i < ((List.range n).map (smallF ms f)).length → (tbAt ((List.range n).map (smallF ms f)) i).length ≤ 1048576 := fun hm i hi => by
    have hi' : i < n := by rw [hll] at hi; exact hi
    have e : tbAt ((List.range n).map (smallF ms f)) i = smallF ms f i := by
      unfold tbAt
      rw [List.getD_eq_getElem?_getD, List.getElem?_eq_getElem hi]
      simp
    rw [e]
    simpa [smallF] using hm i hi'
  clear hr hz hE hl hA
  generalize (List.range n).map (smallF ms f) = L at *
  go_enter Tryz.func3, Tryz.ntmps3
  go_wp2_with fail
  refine HSZ.out.mono ?_
  rintro e w1 ⟨rfl | ⟨k, rfl, hk, hkl⟩, rfl⟩
  · go_wp2
    go_ret
    exact ⟨rfl, (HB0.out _ (Below.refl _ _)).1⟩
  have hk0 : ¬ ((k : Int) < 0) := by omega
  have HN : Hid (l.length ≤ 1048576) := hkl
  go_wp2_with fail
  refine (HSR.out k hk).mono ?_
  rintro e w1 ⟨rfl | ⟨r, rfl, hr, hn, hsz⟩, b1⟩
  · go_wp2
    go_ret
    exact ⟨rfl, (HB0.out _ b1).1⟩
  have hr0 : ¬ ((r : Int) < 0) := by omega
  have HU := Lib.hid (HW.out fun i hi j hj => Nat.le_trans ((hsz i hi).2 j hj) hk)
  have HLT := Lib.hid (hlt fun i hi => Nat.le_trans (hsz i hi).1 hk)
  have HN2 : Hid (L.length ≤ 1048576) := by show _ ≤ _; omega
  have HS : Hid (∀ w' : World, Below w1.heap.size w1 w' → (w'.cell? ⟨w.heap.size, 0, none⟩ = some (.int .i64 x) ∧ w'.cell? ⟨w.heap.size, 1, none⟩ = some (.int .i64 a) ∧ w'.cell? ⟨w.heap.size, 2, none⟩ = some (.int .i64 b) ∧ w'.cell? ⟨w.heap.size, 3, none⟩ = some (.int .i64 c) ∧ Below w1.heap.size w1 w')) := fun w' hb => by
    obtain ⟨-, -, k0, k1, k2, k3⟩ := HB0.out _ (belStep b1 hb)
    exact ⟨k0, k1, k2, k3, hb⟩
  have BW1 := Lib.hid (HB0.out _ b1).1
  have HS2 : Hid (∀ w' : World, Below w1.heap.size w1 w' → (w'.cell? ⟨w.heap.size, 0, none⟩ = some (.int .i64 x) ∧ w'.cell? ⟨w.heap.size, 1, none⟩ = some (.int .i64 a) ∧ w'.cell? ⟨w.heap.size, 2, none⟩ = some (.int .i64 b) ∧ w'.cell? ⟨w.heap.size, 3, none⟩ = some (.int .i64 c) ∧ Below w.heap.size w w' ∧ w.heap.size < w'.heap.size)) := fun w' hb => by
    obtain ⟨hbw, hlt', k0, k1, k2, k3⟩ := HB0.out _ (belStep b1 hb)
    exact ⟨k0, k1, k2, k3, hbw, hlt'⟩
  have gw : w.heap.size < w1.heap.size := (HB0.out _ b1).2.1
  clear hsz b1 HSZ HSR HW hll hlt hn HB0 hkl
  obtain ⟨y, A, B, C, h, hV⟩ := wsV_form l L x a b c
  have HSD := Lib.hid (fun w v u h1 h2 => sWalkStep_any w v u l L h1 h2 HN.out HN2.out HLT.out x a b c)
  have HID := Lib.hid (fun w v u h1 h2 h3 => iWalkStep_any w v u l L h1 h2 HN2.out HLT.out h3 x a b c)
  rw [hV] at HSD HID
  clear hV
  go_wp2
  go_region_held3 (fun w' => w'.cell? ⟨w.heap.size, 0, none⟩ = some (.int .i64 x) ∧ w'.cell? ⟨w.heap.size, 1, none⟩ = some (.int .i64 a) ∧ w'.cell? ⟨w.heap.size, 2, none⟩ = some (.int .i64 b) ∧ w'.cell? ⟨w.heap.size, 3, none⟩ = some (.int .i64 c) ∧ Below w1.heap.size w1 w')
    (first | assumption | exact HS.out _ ((Below.refl _ _).drew) | exact HS.out _ Bd.out | exact HS.out _ Bc.out | exact HS.out _ Bb.out | exact HS.out _ Ba.out | exact HS.out _ (Below.alloc Bd.out (Below.size Bd.out) _) | exact HS.out _ (Below.alloc Bc.out (Below.size Bc.out) _) | exact HS.out _ (Below.alloc Bb.out (Below.size Bb.out) _) | exact HS.out _ (Below.alloc Ba.out (Below.size Ba.out) _) | exact HS.out _ (Below.alloc ((Below.refl _ _).drew) (Nat.le_refl _) _) | exact HS.out _ ((((Bd.out.setCell (by dsimp only; first | exact Nat.le_refl _ | exact Ba.out.size | exact Bb.out.size | exact Bc.out.size) _).setCell (by dsimp only; first | exact Nat.le_refl _ | exact Ba.out.size | exact Bb.out.size | exact Bc.out.size) _).setCell (by dsimp only; first | exact Nat.le_refl _ | exact Ba.out.size | exact Bb.out.size | exact Bc.out.size) _).setCell (by dsimp only; first | exact Nat.le_refl _ | exact Ba.out.size | exact Bb.out.size | exact Bc.out.size) _))
    (first
      | (go_at_call 9; ((with_reducible refine (toLinkS_any _ _ l ?_ HN.out).mono ?_); (go_split_ands; exact HL.out _ (belStep BW1.out (by assumption))); rintro e wa ⟨ua, rfl, hrow, hq⟩; go_split_ands; have Ba := Lib.hid (belStep (show Below w1.heap.size w1 _ by assumption) hq); (first | have NX := Lib.hid (qNew hq) | have NX := Lib.hid (qNewD hq) | have NX := Lib.hid (qOld hq (Hid.out (by assumption))) | skip); (first | obtain ⟨n0, n1, n2, n3, nf⟩ := NX.out | skip); have HRa := Lib.hid hrow.lks; clear hrow))
      | (go_at_call 10; ((with_reducible refine (toRuleSS_any _ _ L ?_ HN2.out HLT.out).mono ?_); (go_split_ands; exact HU.out _ (belStep BW1.out (by assumption))); rintro e wb ⟨ub, rfl, hrow, hq⟩; go_split_ands; have Bb := Lib.hid (belStep (show Below w1.heap.size w1 _ by assumption) hq); (first | have NX := Lib.hid (qNew hq) | have NX := Lib.hid (qNewD hq) | have NX := Lib.hid (qOld hq (Hid.out (by assumption))) | skip); (first | obtain ⟨n0, n1, n2, n3, nf⟩ := NX.out | skip); have HCb := Lib.hid hrow; (first | have HRb := Lib.hid (lksC HRa.out hq) | have HRb := Lib.hid (lksC HRa.out (belA hq))); clear hrow))
      | (go_at_call 11; ((with_reducible refine (toSpot_any _ _ _ _ _).mono ?_); rintro e wc ⟨rfl, hq⟩; go_split_ands; have Bc := Lib.hid (belStep (show Below w1.heap.size w1 _ by assumption) hq); (first | have NX := Lib.hid (qNew hq) | have NX := Lib.hid (qNewD hq) | have NX := Lib.hid (qOld hq (Hid.out (by assumption))) | skip); (first | obtain ⟨n0, n1, n2, n3, nf⟩ := NX.out | skip); (first | have HRc := Lib.hid (lksC HRb.out hq) | have HRc := Lib.hid (lksC HRb.out (belA hq))); (first | have HCc := Lib.hid (cfsC HCb.out hq) | have HCc := Lib.hid (cfsC HCb.out (belA hq)))))
      | (go_at_call 8; ((with_reducible refine (HSD.out _ _ _ ?_ ?_).mono ?_); (first | exact HRc.out | exact lksC HRc.out (below_alloc1 _ _)); (first | exact HCc.out | exact cfsC HCc.out (below_alloc1 _ _)); rintro e wd ⟨rfl, hq⟩; go_split_ands; have Bd := Lib.hid (belStep (show Below w1.heap.size w1 _ by assumption) hq); (first | have NX := Lib.hid (qNew hq) | have NX := Lib.hid (qNewD hq) | have NX := Lib.hid (qOld hq (Hid.out (by assumption))) | skip); (first | obtain ⟨n0, n1, n2, n3, nf⟩ := NX.out | skip))))
  have F := Lib.hid (And.intro (quadN (newBlockM wd (.cells #[.int .i64 y, .int .i64 A, .int .i64 B, .int .i64 C] 32))) (HS2.out _ (Bd.out.alloc Bd.out.size (.cells #[.int .i64 y, .int .i64 A, .int .i64 B, .int .i64 C] 32))))
  generalize (wd.alloc (.cells #[.int .i64 y, .int .i64 A, .int .i64 B, .int .i64 C] 32)) = D at F ⊢
  generalize wd.heap.size = hb at F ⊢
  clear Bd
  rotate_left
  have F := Lib.hid (And.intro (qSet (x := .int .i64 y) (y := .int .i64 A) (q := .int .i64 B) (r := .int .i64 C) n0 n1 n2 n3) (HS2.out _ ((((Bd.out.setCell (p := ⟨wc.heap.size, 0, none⟩) (by dsimp only; first | exact Nat.le_refl _ | exact Ba.out.size | exact Bb.out.size | exact Bc.out.size) (.int .i64 y)).setCell (p := ⟨wc.heap.size, 1, none⟩) (by dsimp only; first | exact Nat.le_refl _ | exact Ba.out.size | exact Bb.out.size | exact Bc.out.size) (.int .i64 A)).setCell (p := ⟨wc.heap.size, 2, none⟩) (by dsimp only; first | exact Nat.le_refl _ | exact Ba.out.size | exact Bb.out.size | exact Bc.out.size) (.int .i64 B)).setCell (p := ⟨wc.heap.size, 3, none⟩) (by dsimp only; first | exact Nat.le_refl _ | exact Ba.out.size | exact Bb.out.size | exact Bc.out.size) (.int .i64 C))))
  generalize ((((wd.setCell ⟨wc.heap.size, 0, none⟩ (.int .i64 y)).setCell ⟨wc.heap.size, 1, none⟩ (.int .i64 A)).setCell ⟨wc.heap.size, 2, none⟩ (.int .i64 B)).setCell ⟨wc.heap.size, 3, none⟩ (.int .i64 C)) = D at F ⊢
  generalize wc.heap.size = hb at F ⊢
  clear n0 n1 n2 n3 nf NX Bd
  rotate_left
  have F := Lib.hid (And.intro (qSet (x := .int .i64 y) (y := .int .i64 A) (q := .int .i64 B) (r := .int .i64 C) n0 n1 n2 n3) (HS2.out _ ((((Bd.out.setCell (p := ⟨wb.heap.size, 0, none⟩) (by dsimp only; first | exact Nat.le_refl _ | exact Ba.out.size | exact Bb.out.size | exact Bc.out.size) (.int .i64 y)).setCell (p := ⟨wb.heap.size, 1, none⟩) (by dsimp only; first | exact Nat.le_refl _ | exact Ba.out.size | exact Bb.out.size | exact Bc.out.size) (.int .i64 A)).setCell (p := ⟨wb.heap.size, 2, none⟩) (by dsimp only; first | exact Nat.le_refl _ | exact Ba.out.size | exact Bb.out.size | exact Bc.out.size) (.int .i64 B)).setCell (p := ⟨wb.heap.size, 3, none⟩) (by dsimp only; first | exact Nat.le_refl _ | exact Ba.out.size | exact Bb.out.size | exact Bc.out.size) (.int .i64 C))))
  generalize ((((wd.setCell ⟨wb.heap.size, 0, none⟩ (.int .i64 y)).setCell ⟨wb.heap.size, 1, none⟩ (.int .i64 A)).setCell ⟨wb.heap.size, 2, none⟩ (.int .i64 B)).setCell ⟨wb.heap.size, 3, none⟩ (.int .i64 C)) = D at F ⊢
  generalize wb.heap.size = hb at F ⊢
  clear n0 n1 n2 n3 nf NX Bd
  rotate_left
  have F := Lib.hid (And.intro (qSet (x := .int .i64 y) (y := .int .i64 A) (q := .int .i64 B) (r := .int .i64 C) n0 n1 n2 n3) (HS2.out _ ((((Bd.out.setCell (p := ⟨wa.heap.size, 0, none⟩) (by dsimp only; first | exact Nat.le_refl _ | exact Ba.out.size | exact Bb.out.size | exact Bc.out.size) (.int .i64 y)).setCell (p := ⟨wa.heap.size, 1, none⟩) (by dsimp only; first | exact Nat.le_refl _ | exact Ba.out.size | exact Bb.out.size | exact Bc.out.size) (.int .i64 A)).setCell (p := ⟨wa.heap.size, 2, none⟩) (by dsimp only; first | exact Nat.le_refl _ | exact Ba.out.size | exact Bb.out.size | exact Bc.out.size) (.int .i64 B)).setCell (p := ⟨wa.heap.size, 3, none⟩) (by dsimp only; first | exact Nat.le_refl _ | exact Ba.out.size | exact Bb.out.size | exact Bc.out.size) (.int .i64 C))))
  generalize ((((wd.setCell ⟨wa.heap.size, 0, none⟩ (.int .i64 y)).setCell ⟨wa.heap.size, 1, none⟩ (.int .i64 A)).setCell ⟨wa.heap.size, 2, none⟩ (.int .i64 B)).setCell ⟨wa.heap.size, 3, none⟩ (.int .i64 C)) = D at F ⊢
  generalize wa.heap.size = hb at F ⊢
  clear n0 n1 n2 n3 nf NX Bd
  rotate_left
  have F := Lib.hid (And.intro (qSet (x := .int .i64 y) (y := .int .i64 A) (q := .int .i64 B) (r := .int .i64 C) n0 n1 n2 n3) (HS2.out _ ((((Bd.out.setCell (p := ⟨w1.heap.size, 0, none⟩) (by dsimp only; first | exact Nat.le_refl _ | exact Ba.out.size | exact Bb.out.size | exact Bc.out.size) (.int .i64 y)).setCell (p := ⟨w1.heap.size, 1, none⟩) (by dsimp only; first | exact Nat.le_refl _ | exact Ba.out.size | exact Bb.out.size | exact Bc.out.size) (.int .i64 A)).setCell (p := ⟨w1.heap.size, 2, none⟩) (by dsimp only; first | exact Nat.le_refl _ | exact Ba.out.size | exact Bb.out.size | exact Bc.out.size) (.int .i64 B)).setCell (p := ⟨w1.heap.size, 3, none⟩) (by dsimp only; first | exact Nat.le_refl _ | exact Ba.out.size | exact Bb.out.size | exact Bc.out.size) (.int .i64 C))))
  generalize ((((wd.setCell ⟨w1.heap.size, 0, none⟩ (.int .i64 y)).setCell ⟨w1.heap.size, 1, none⟩ (.int .i64 A)).setCell ⟨w1.heap.size, 2, none⟩ (.int .i64 B)).setCell ⟨w1.heap.size, 3, none⟩ (.int .i64 C)) = D at F ⊢
  generalize w1.heap.size = hb at F ⊢
  clear n0 n1 n2 n3 nf NX Bd
  rotate_left
  all_goals
    obtain ⟨⟨h0, h1, h2, h3⟩, s0, s1, s2, s3, bwd, gD⟩ := F.out
    have BWD := Lib.hid bwd
    have gh : hb < D.heap.size := World.block_lt_of_cell? D ⟨hb, 0, none⟩ h0
    have HH := Lib.hid (And.intro h0 (And.intro h1 (And.intro h2 h3)))
    have HP : Hid (∀ w', Below D.heap.size D w' → w'.cell? ⟨w.heap.size, 0, none⟩ = some (.int .i64 x) ∧ w'.cell? ⟨w.heap.size, 1, none⟩ = some (.int .i64 a) ∧ w'.cell? ⟨w.heap.size, 2, none⟩ = some (.int .i64 b) ∧ w'.cell? ⟨w.heap.size, 3, none⟩ = some (.int .i64 c)) := fun w' hb' => ⟨(belCell hb' _ _ gD).trans s0, (belCell hb' _ _ gD).trans s1, (belCell hb' _ _ gD).trans s2, (belCell hb' _ _ gD).trans s3⟩
    clear F HS HS2 bwd BW1 gw h0 h1 h2 h3 s0 s1 s2 s3
    go_wp2_with fail
    refine (toLinkS_any _ _ l (HL.out _ BWD.out) HN.out).mono ?_
    rintro e we ⟨v1, rfl, hrow, be⟩
    have HXe := Lib.hid hrow.lks
    have BWe := Lib.hid (belStep BWD.out be)
    have BE := Lib.hid be
    clear hrow be
    go_wp2_with fail
    refine (toRuleSS_any _ _ L (HU.out _ BWe.out) HN2.out HLT.out).mono ?_
    rintro e wf ⟨u1, rfl, hrow, bf⟩
    have HXf := Lib.hid (lksC HXe.out bf)
    have HYf := Lib.hid hrow
    have BWf := Lib.hid (belStep BWe.out bf)
    have BF := Lib.hid (belStep BE.out bf)
    obtain ⟨s0, s1, s2, s3⟩ := HP.out _ BF.out
    have gf : w.heap.size < wf.heap.size := Nat.lt_of_lt_of_le gD BF.out.size
    clear hrow bf HXe BWe BE
    go_wp2_with fail
    refine (toSpot_any _ _ _ _ _).mono ?_
    rintro e wg ⟨rfl, bg⟩
    have HXg := Lib.hid (lksC HXf.out bg)
    have HYg := Lib.hid (cfsC HYf.out bg)
    have BWg := Lib.hid (belStep BWf.out bg)
    have BG := Lib.hid (belStep BF.out bg)
    clear bg HXf HYf BWf BF s0 s1 s2 s3 gf HP
    go_wp2_with fail
    refine (HID.out _ _ _ HXg.out HYg.out (HE.out.below BWg.out)).mono ?_
    rintro e wi ⟨rfl, bi⟩
    have HXi := Lib.hid (lksC (lksC HXg.out bi) (below_alloc1 wi (.cells #[.int .i64 y, .int .i64 A, .int .i64 B, .int .i64 C] 32)))
    have HYi := Lib.hid (cfsC (cfsC HYg.out bi) (below_alloc1 wi (.cells #[.int .i64 y, .int .i64 A, .int .i64 B, .int .i64 C] 32)))
    have BWi := Lib.hid (belStep (belStep BWg.out bi) (below_alloc1 wi (.cells #[.int .i64 y, .int .i64 A, .int .i64 B, .int .i64 C] 32)))
    have BI := belStep (belStep BG.out bi) (below_alloc1 wi (.cells #[.int .i64 y, .int .i64 A, .int .i64 B, .int .i64 C] 32))
    have u0 := (belCell BI _ _ gh).trans HH.out.1
    have u1' := (belCell BI _ _ gh).trans HH.out.2.1
    have u2 := (belCell BI _ _ gh).trans HH.out.2.2.1
    have u3 := (belCell BI _ _ gh).trans HH.out.2.2.2
    have gi : hb < wi.heap.size := Nat.lt_of_lt_of_le gh (Nat.le_trans BG.out.size bi.size)
    clear bi HXg HYg BWg BG BI
    go_wp2_with fail
    refine (eqSpot_same _ _ _ _ _).mono ?_
    rintro e wj ⟨rfl, bj⟩
    have HXj := Lib.hid (lksC HXi.out bj)
    have HYj := Lib.hid (cfsC HYi.out bj)
    have BWj := Lib.hid (belStep BWi.out bj)
    clear bj HXi HYi BWi u0 u1' u2 u3 gi
    go_wp2_with fail
    refine (toLinkS_any _ _ l (HL.out _ BWj.out) HN.out).mono ?_
    rintro e wk ⟨v2, rfl, hrow, bk⟩
    have HXk := Lib.hid (lksC HXj.out bk)
    have HYk := Lib.hid (cfsC HYj.out bk)
    have HVk := Lib.hid hrow.lks
    have BWk := Lib.hid (belStep BWj.out bk)
    clear hrow bk HXj HYj BWj
    go_wp2_with fail
    refine (eqLinkS_same _ _ _ l HXk.out HVk.out HN.out).mono ?_
    rintro e wl ⟨rfl, bl⟩
    have HYl := Lib.hid (cfsC HYk.out bl)
    have BWl := Lib.hid (belStep BWk.out bl)
    clear bl HXk HYk HVk BWk
    go_wp2_with fail
    refine (toRuleSS_any _ _ L (HU.out _ BWl.out) HN2.out HLT.out).mono ?_
    rintro e wm ⟨u2, rfl, hrow, bm⟩
    have HYm := Lib.hid (cfsC HYl.out bm)
    have HUm := Lib.hid hrow
    have BWm := Lib.hid (belStep BWl.out bm)
    clear hrow bm HYl BWl
    go_wp2_with fail
    refine (eqRuleSS_same _ _ _ L HYm.out HUm.out HN2.out HLT.out).mono ?_
    rintro e wo ⟨rfl, bo⟩
    go_wp2
    go_ret
    exact ⟨rfl, belStep BWm.out bo⟩

end Go.Proofs.YtjjhahhchimmlaaGreatDoor
