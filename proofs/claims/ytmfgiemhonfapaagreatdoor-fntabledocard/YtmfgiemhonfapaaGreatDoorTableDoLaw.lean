/-
  Proved: promise 48 (a table does what its first rule does), at every code from which the table and the head are drawn; the code reads on as it did. No condition but the card's own: the listed variables of the library stand as its text lays them.
-/
import Derived.Test.YtmfgiemhonfapaaGreatDoorRuleCard
import Derived.Test.YtmfgiemhonfapaaGreatDoorTabDoS
import Derived.Test.YtmfgiemhonfapaaGreatDoorTabDrawB
import Derived.Deep.RegionHeld3
namespace Go.Proofs.YtmfgiemhonfapaaGreatDoor
open Go.ChangeShapes Go.WideShapes Go.ChangeAt Go.RowKit Go.Joins
set_option linter.unusedVariables false

theorem belFrozenT {W w' : World} (h : Below W.heap.size W w') (k o : Nat) (hk : k < W.heap.size) : w'.frozen? ⟨k, o, none⟩ = W.frozen? ⟨k, o, none⟩ := World.frozen?_of_block (h.block k hk)
theorem belNew {X wq : World} {ty : TypeId} {u v z : Value} (h : Below (X.alloc (.cells #[u, v, z] ty)).heap.size (X.alloc (.cells #[u, v, z] ty)) wq) :
    wq.cell? ⟨X.heap.size, 0, none⟩ = some u ∧ wq.cell? ⟨X.heap.size, 1, none⟩ = some v ∧ wq.cell? ⟨X.heap.size, 2, none⟩ = some z ∧ ∀ o, wq.frozen? ⟨X.heap.size, o, none⟩ = false := cells3 ((h.block _ (by simp)).trans (newBlockM X _))
theorem belNewD {X wq : World} {ty : TypeId} {u v z : Value} (h : Below (X.alloc (.cells #[u, v, z] ty)).drew.heap.size (X.alloc (.cells #[u, v, z] ty)).drew wq) :
    wq.cell? ⟨X.heap.size, 0, none⟩ = some u ∧ wq.cell? ⟨X.heap.size, 1, none⟩ = some v ∧ wq.cell? ⟨X.heap.size, 2, none⟩ = some z ∧ ∀ o, wq.frozen? ⟨X.heap.size, o, none⟩ = false := belNew (((Below.refl _ _).drew).trans h)
theorem belOld {A wq : World} {xb : Nat} {u v z : Value} (h : Below A.heap.size A wq) (k : A.cell? ⟨xb, 0, none⟩ = some u ∧ A.cell? ⟨xb, 1, none⟩ = some v ∧ A.cell? ⟨xb, 2, none⟩ = some z ∧ ∀ o, A.frozen? ⟨xb, o, none⟩ = false) :
    wq.cell? ⟨xb, 0, none⟩ = some u ∧ wq.cell? ⟨xb, 1, none⟩ = some v ∧ wq.cell? ⟨xb, 2, none⟩ = some z ∧ ∀ o, wq.frozen? ⟨xb, o, none⟩ = false := by
  have hc := belCell h
  have hl : xb < A.heap.size := World.block_lt_of_cell? A ⟨xb, 0, none⟩ k.1
  exact ⟨(hc _ _ hl).trans k.1, (hc _ _ hl).trans k.2.1, (hc _ _ hl).trans k.2.2.1, fun o => (belFrozenT h _ _ hl).trans (k.2.2.2 o)⟩
theorem belA {X wq : World} {o : Obj} (h : Below (X.alloc o).heap.size (X.alloc o) wq) : Below X.heap.size X wq := (below_alloc1 X o).trans (h.mono (by simp))
theorem set3 {A : World} {xb : Nat} {u v z x y q : Value} (k : A.cell? ⟨xb, 0, none⟩ = some u ∧ A.cell? ⟨xb, 1, none⟩ = some v ∧ A.cell? ⟨xb, 2, none⟩ = some z ∧ ∀ o, A.frozen? ⟨xb, o, none⟩ = false) :
    (((A.setCell ⟨xb, 0, none⟩ x).setCell ⟨xb, 1, none⟩ y).setCell ⟨xb, 2, none⟩ q).cell? ⟨xb, 0, none⟩ = some x ∧ (((A.setCell ⟨xb, 0, none⟩ x).setCell ⟨xb, 1, none⟩ y).setCell ⟨xb, 2, none⟩ q).cell? ⟨xb, 1, none⟩ = some y ∧ (((A.setCell ⟨xb, 0, none⟩ x).setCell ⟨xb, 1, none⟩ y).setCell ⟨xb, 2, none⟩ q).cell? ⟨xb, 2, none⟩ = some q := by
  obtain ⟨k0, k1, k2, -⟩ := k
  refine ⟨?_, ?_, ?_⟩ <;> simp [go_sem, k0, k1, k2]

set_option maxRecDepth 100000 in
set_option maxHeartbeats 4000000 in
theorem walk_FnTableDo (a : Option Addr) (len cap : Nat) (w : World) (hb : BytesIn w w.heap.size a len cap) (hE : EtOk w) :
    Calls Tryz.prog 4 #[.slice a len cap] w fun e w' => e = .returned (.bool true) ∧ Below w.heap.size w w' := by
  have HB := Lib.hid hb
  have HE := Lib.hid hE
  have hm : (len : Int) ≤ maxLen := by have := hb.1; have := hb.2.1; omega
  unfold maxLen at hm
  clear hb hE
  by_cases hlen : (1048576 : Int) < (len : Int)
  · go_enter Tryz.func4, Tryz.ntmps4
    go_wp2
    go_ret
    exact ⟨rfl, Below.refl _ _⟩
  go_enter Tryz.func4, Tryz.ntmps4
  go_wp2_with fail
  refine (drawTableDo_any _ _ _ _ HB.out).mono ?_
  rintro e w1 ⟨v, l, x, y, z, rfl, hl, hx, b1⟩
  have s1 := b1.size
  have B1 : Hid (Below w.heap.size w (w1.alloc (.cells #[.int .i64 x, .int .i64 y, .int .i64 z] 25))) := b1.alloc s1 _
  have HX0 : Hid (Rls (w1.alloc (.cells #[.int .i64 x, .int .i64 y, .int .i64 z] 25)) (w1.alloc (.cells #[.int .i64 x, .int .i64 y, .int .i64 z] 25)).heap.size v l) := (hx.below (below_alloc1 _ _)).rls
  have C0 := Lib.hid (newBlockM w1 (.cells #[.int .i64 x, .int .i64 y, .int .i64 z] 25))
  clear hx b1
  have hl' : l.length ≤ 1048576 := by omega
  obtain ⟨⟨⟨d1, d2, d3⟩, od⟩, hdd⟩ : ∃ d, doT x y z l = d := ⟨_, rfl⟩
  have HSD := Lib.hid (fun W h => sTableDo_any W v l h hl' x y z)
  have HID := Lib.hid (fun W h => iTableDo_any W v l h hl' x y z)
  rw [hdd] at HSD HID
  dsimp only at HSD HID
  have HDD := Lib.hid hdd
  clear hdd
  go_wp2_with fail
  generalize hW : w1.alloc (.cells #[.int .i64 x, .int .i64 y, .int .i64 z] 25) = W at *
  have zW : w1.heap.size < W.heap.size := by rw [← hW]; simp
  clear hW
  have HC : Hid (∀ W', Below W.heap.size W W' → W'.cell? ⟨w1.heap.size, 0, none⟩ = some (.int .i64 x) ∧ W'.cell? ⟨w1.heap.size, 1, none⟩ = some (.int .i64 y) ∧ W'.cell? ⟨w1.heap.size, 2, none⟩ = some (.int .i64 z)) := fun W' hb => trio3 ((hb.block _ zW).trans C0.out)
  have HX : Hid (∀ W', Below W.heap.size W W' → Rls W' W'.heap.size v l) := fun W' hb => (HX0.out.below hb (Nat.le_refl _)).mono hb.size
  have BW : Hid (∀ W', Below W.heap.size W W' → Below w.heap.size w W') := fun W' hb => B1.out.trans (hb.mono B1.out.size)
  generalize w1.heap.size = h at *
  clear C0 HX0 B1
  refine (HSD.out _ (HX.out _ (Below.refl _ _))).mono ?_
  rintro e w2 ⟨rfl, b2⟩
  have c2 := b2.alloc b2.size (.cells #[.int .i64 d1, .int .i64 d2, .int .i64 d3] 25)
  have HB2 := Lib.hid c2
  have K2 := Lib.hid (newBlockM w2 (.cells #[.int .i64 d1, .int .i64 d2, .int .i64 d3] 25))
  obtain ⟨q0, q1, q2⟩ := HC.out _ b2
  have l2 : h < w2.heap.size := Nat.lt_of_lt_of_le zW b2.size
  clear b2 c2
  go_wp2_with fail
  refine (HID.out _ (HX.out _ HB2.out) (HE.out.below (BW.out _ HB2.out))).mono ?_
  rintro e w3 ⟨rfl, b3⟩
  have K3 := (b3.block _ (by simp)).trans K2.out
  have c3 := (belStep HB2.out b3).alloc (belStep HB2.out b3).size (.cells #[.int .i64 d1, .int .i64 d2, .int .i64 d3] 25)
  have HB3 := Lib.hid c3
  have s3 := b3.size
  simp at s3
  have KW := Lib.hid ((Below.heap_alloc w3 (.cells #[.int .i64 d1, .int .i64 d2, .int .i64 d3] 25) w2.heap.size (by omega)).trans K3)
  have KX := Lib.hid (newBlockM w3 (.cells #[.int .i64 d1, .int .i64 d2, .int .i64 d3] 25))
  have g1 : w2.heap.size < w3.heap.size := by omega
  have g2 : h < w3.heap.size := by omega
  have g3 : w3.heap.size < (w3.alloc (.cells #[.int .i64 d1, .int .i64 d2, .int .i64 d3] 25)).heap.size := by simp
  obtain ⟨e0, e1, e2, -⟩ := cells3 K3
  clear q0 q1 q2 b3 c3 K3
  go_wp2_with fail
  generalize w3.alloc (.cells #[.int .i64 d1, .int .i64 d2, .int .i64 d3] 25) = V at *
  obtain ⟨q0, q1, q2⟩ := HC.out _ HB3.out
  obtain ⟨x0, x1, x2, -⟩ := cells3 KX.out
  obtain ⟨y0, y1, y2, -⟩ := cells3 KW.out
  have hV : w2.heap.size < V.heap.size := by omega
  have HK : Hid (∀ W', Below V.heap.size V W' → (W'.cell? ⟨h, 0, none⟩ = some (.int .i64 x) ∧ W'.cell? ⟨h, 1, none⟩ = some (.int .i64 y) ∧ W'.cell? ⟨h, 2, none⟩ = some (.int .i64 z)) ∧ (W'.cell? ⟨w3.heap.size, 0, none⟩ = some (.int .i64 d1) ∧ W'.cell? ⟨w3.heap.size, 1, none⟩ = some (.int .i64 d2) ∧ W'.cell? ⟨w3.heap.size, 2, none⟩ = some (.int .i64 d3)) ∧ (W'.cell? ⟨w2.heap.size, 0, none⟩ = some (.int .i64 d1) ∧ W'.cell? ⟨w2.heap.size, 1, none⟩ = some (.int .i64 d2) ∧ W'.cell? ⟨w2.heap.size, 2, none⟩ = some (.int .i64 d3)) ∧ Below W.heap.size W W' ∧ h < W'.heap.size ∧ w3.heap.size < W'.heap.size) := fun W' hb =>
    ⟨HC.out _ (belStep HB3.out hb), trio3 ((hb.block _ g3).trans KX.out), trio3 ((hb.block _ hV).trans KW.out), belStep HB3.out hb, by have := hb.size; omega, by have := hb.size; omega⟩
  clear q0 q1 q2 x0 x1 x2 y0 y1 y2 e0 e1 e2 KX KW K2 HB2 zW l2 s3 hV
  generalize w3.heap.size = bx at *
  generalize w2.heap.size = bh at *
  refine (sTableOk_any _ v l (HX.out _ HB3.out) hl').mono ?_
  rintro e w4 ⟨rfl, b4⟩
  cases ht : tOk l
  · obtain ⟨-, ⟨x0, x1, x2⟩, ⟨y0, y1, y2⟩, bb, -, -⟩ := HK.out _ b4
    have FB := Lib.hid (BW.out _ bb)
    clear b4 bb
    go_wp2
    go_ret
    exact ⟨rfl, FB.out⟩
  obtain ⟨⟨q0, q1, q2⟩, -, -, -, -, -⟩ := HK.out _ b4
  go_wp2_with fail
  refine (sHeadOk_any x y z _).mono ?_
  rintro e w5 ⟨rfl, b5⟩
  have b5' := belStep b4 b5
  clear q0 q1 q2 b4 b5
  obtain ⟨⟨q0, q1, q2⟩, ⟨x0, x1, x2⟩, ⟨y0, y1, y2⟩, bb, l0, l1⟩ := HK.out _ b5'
  cases ho : okB x y z
  · have FB := Lib.hid (BW.out _ bb)
    clear bb b5'
    go_wp2
    go_ret
    exact ⟨rfl, FB.out⟩
  have hdi : doI x y z l = ((d1, d2, d3), od) := by
    have := HDD.out
    rw [doT, ht, ho] at this
    exact this
  have hat : atT x y z l = atI x y z l := by simp [atT, ht, ho]
  have HAT := Lib.hid (fun W h => iTableAt_any W v l h hl' x y z)
  rw [hat] at HAT
  have HB5 := Lib.hid b5'
  have HBB := Lib.hid bb
  have HOK := Lib.hid (tOk_at ht)
  clear b5' bb hat x0 x1 x2 y0 y1 y2 HDD
  rcases atI_find (a := x) (b := y) (c := z) (l := l) with ⟨-, h1, h2⟩ | ⟨i, hi, hfi, h1, h2⟩
  · rw [h1] at HAT
    rw [h2] at hdi
    simp only [Prod.mk.injEq] at hdi
    obtain ⟨⟨rfl, rfl, rfl⟩, rfl⟩ := hdi
    clear h1 h2
    go_wp2_with fail
    refine (HAT.out _ (HX.out _ HBB.out) (HE.out.below (BW.out _ HBB.out))).mono ?_
    rintro e w6 ⟨rfl, b6⟩
    clear q0 q1 q2
    obtain ⟨⟨q0, q1, q2⟩, ⟨x0, x1, x2⟩, -, bb, l0', l1'⟩ := HK.out _ (belStep HB5.out b6)
    have FB := Lib.hid (BW.out _ bb)
    clear bb b6
    go_wp2
    go_ret
    exact ⟨rfl, FB.out⟩
  · rw [h1] at HAT
    rw [h2] at hdi
    simp only [Prod.mk.injEq] at hdi
    have hmr : mR x y z (ruAt l i) = true := by
      have := (List.findIdx?_eq_some_iff_getElem.1 hfi).2.1
      rw [ruAt_lt hi]
      exact this
    obtain ⟨⟨rfl, rfl, rfl⟩, rfl⟩ := hdi
    have HDO : Hid (∀ W, EtOk W → Calls Tryz.prog 17 #[.agg #[.int .i64 (ruAt l i).p, .string (ruAt l i).s, .int .i64 (ruAt l i).o, .int .i64 (ruAt l i).t], .agg #[.int .i64 x, .int .i64 y, .int .i64 z]] W fun e w' => e = .returned (.tuple #[.agg #[.int .i64 x, .int .i64 y, .int .i64 (tagTo (ruAt l i).t z)], .int .i64 (ruAt l i).o, .bool true]) ∧ Below W.heap.size W w') := fun W hW => by
      have := iDo_at (ruAt l i) x y z W hW
      rw [doV, show doB (ruAt l i).p (ruAt l i).s (ruAt l i).o (ruAt l i).t x y z = true from hmr, cond_true] at this
      exact this
    clear h1 h2 hfi hmr
    go_wp2_with fail
    refine (HAT.out _ (HX.out _ HBB.out) (HE.out.below (BW.out _ HBB.out))).mono ?_
    rintro e w6 ⟨rfl, b6⟩
    clear q0 q1 q2
    have HB6 := Lib.hid (belStep HB5.out b6)
    obtain ⟨⟨q0, q1, q2⟩, ⟨x0, x1, x2⟩, -, bb, l0', l1'⟩ := HK.out _ HB6.out
    have HBB6 := Lib.hid bb
    obtain ⟨d, cp, rfl, hcp, hmx, hh⟩ := HX.out _ bb
    clear bb b6
    rcases hh with h0 | ⟨b', off, rfl, hb', hcell⟩
    · rw [h0] at hi; cases hi
    obtain ⟨c0, c1, c2, c3⟩ := hcell i hi
    clear hcell
    unfold maxLen at hmx
    have hz : (i : Int) < (l.length : Int) := by omega
    have hi0 : ¬ (i : Int) < 0 := by omega
    generalize ruAt l i = r at *
    have HS : Hid (∀ w', Below w6.heap.size w6 w' → (w'.cell? ⟨h, 0, none⟩ = some (.int .i64 x) ∧ w'.cell? ⟨h, 1, none⟩ = some (.int .i64 y) ∧ w'.cell? ⟨h, 2, none⟩ = some (.int .i64 z) ∧ w'.cell? ⟨b', off + i * 4, none⟩ = some (.int .i64 r.p) ∧ w'.cell? ⟨b', off + i * 4 + 1, none⟩ = some (.string r.s) ∧ w'.cell? ⟨b', off + i * 4 + 2, none⟩ = some (.int .i64 r.o) ∧ w'.cell? ⟨b', off + i * 4 + 3, none⟩ = some (.int .i64 r.t) ∧ Below w6.heap.size w6 w')) := fun w' hb => by
      have hc := belCell hb
      exact ⟨(hc _ _ l0').trans q0, (hc _ _ l0').trans q1, (hc _ _ l0').trans q2, (hc _ _ hb').trans c0, (hc _ _ hb').trans c1, (hc _ _ hb').trans c2, (hc _ _ hb').trans c3, hb⟩
    have HXX := Lib.hid (And.intro x0 (And.intro x1 x2))
    have HE6 := Lib.hid (HE.out.below (BW.out _ HBB6.out))
    have FB6 := Lib.hid (BW.out _ HBB6.out)
    clear x0 x1 x2 q0 q1 q2 c0 c1 c2 c3
    go_wp2
    go_region_held3 (fun w' => w'.cell? ⟨h, 0, none⟩ = some (.int .i64 x) ∧ w'.cell? ⟨h, 1, none⟩ = some (.int .i64 y) ∧ w'.cell? ⟨h, 2, none⟩ = some (.int .i64 z) ∧ w'.cell? ⟨b', off + i * 4, none⟩ = some (.int .i64 r.p) ∧ w'.cell? ⟨b', off + i * 4 + 1, none⟩ = some (.string r.s) ∧ w'.cell? ⟨b', off + i * 4 + 2, none⟩ = some (.int .i64 r.o) ∧ w'.cell? ⟨b', off + i * 4 + 3, none⟩ = some (.int .i64 r.t) ∧ Below w6.heap.size w6 w')
      (first | assumption | exact HS.out _ ((Below.refl _ _).drew) | exact HS.out _ Bc.out | exact HS.out _ (Below.alloc Bc.out (Below.size Bc.out) _) | exact HS.out _ (Below.alloc ((Below.refl _ _).drew) (Nat.le_refl _) _) | exact HS.out _ (((Bc.out.setCell (by dsimp only; first | exact Nat.le_refl _ | exact Bc.out.size) _).setCell (by dsimp only; first | exact Nat.le_refl _ | exact Bc.out.size) _).setCell (by dsimp only; first | exact Nat.le_refl _ | exact Bc.out.size) _))
      (first
        | (go_at_call 17; ((with_reducible refine (HDO.out _ ?_).mono ?_); (go_split_ands; exact HE6.out.below (by assumption)); rintro e wc ⟨rfl, hq⟩; go_split_ands; have Bc := Lib.hid (belStep (show Below w6.heap.size w6 _ by assumption) hq); (first | have NX := Lib.hid (belNew hq) | have NX := Lib.hid (belNewD hq) | skip); (first | obtain ⟨n0, n1, n2, nf⟩ := NX.out | skip))))
    · have F : Hid (((wc.alloc (.cells #[.int .i64 x, .int .i64 y, .int .i64 (tagTo r.t z)] 25)).cell? ⟨wc.heap.size, 0, none⟩ = some (.int .i64 x) ∧ (wc.alloc (.cells #[.int .i64 x, .int .i64 y, .int .i64 (tagTo r.t z)] 25)).cell? ⟨wc.heap.size, 1, none⟩ = some (.int .i64 y) ∧ (wc.alloc (.cells #[.int .i64 x, .int .i64 y, .int .i64 (tagTo r.t z)] 25)).cell? ⟨wc.heap.size, 2, none⟩ = some (.int .i64 (tagTo r.t z))) ∧ Below w6.heap.size w6 (wc.alloc (.cells #[.int .i64 x, .int .i64 y, .int .i64 (tagTo r.t z)] 25))) := ⟨trio3 (newBlockM wc (.cells #[.int .i64 x, .int .i64 y, .int .i64 (tagTo r.t z)] 25)), Bc.out.alloc Bc.out.size _⟩
      generalize (wc.alloc (.cells #[.int .i64 x, .int .i64 y, .int .i64 (tagTo r.t z)] 25)) = C at F ⊢
      obtain ⟨⟨y0, y1, y2⟩, BC⟩ := F.out
      have cE := belCell BC
      have x0 := (cE _ 0 l1').trans HXX.out.1
      have x1 := (cE _ 1 l1').trans HXX.out.2.1
      have x2 := (cE _ 2 l1').trans HXX.out.2.2
      have FB := Lib.hid (belStep FB6.out BC)
      clear cE BC F
      go_wp2
      go_ret
      exact ⟨rfl, FB.out⟩
    · have F : Hid (((((wc.setCell ⟨w6.heap.size, 0, none⟩ (.int .i64 x)).setCell ⟨w6.heap.size, 1, none⟩ (.int .i64 y)).setCell ⟨w6.heap.size, 2, none⟩ (.int .i64 (tagTo r.t z))).cell? ⟨w6.heap.size, 0, none⟩ = some (.int .i64 x) ∧ (((wc.setCell ⟨w6.heap.size, 0, none⟩ (.int .i64 x)).setCell ⟨w6.heap.size, 1, none⟩ (.int .i64 y)).setCell ⟨w6.heap.size, 2, none⟩ (.int .i64 (tagTo r.t z))).cell? ⟨w6.heap.size, 1, none⟩ = some (.int .i64 y) ∧ (((wc.setCell ⟨w6.heap.size, 0, none⟩ (.int .i64 x)).setCell ⟨w6.heap.size, 1, none⟩ (.int .i64 y)).setCell ⟨w6.heap.size, 2, none⟩ (.int .i64 (tagTo r.t z))).cell? ⟨w6.heap.size, 2, none⟩ = some (.int .i64 (tagTo r.t z))) ∧ Below w6.heap.size w6 (((wc.setCell ⟨w6.heap.size, 0, none⟩ (.int .i64 x)).setCell ⟨w6.heap.size, 1, none⟩ (.int .i64 y)).setCell ⟨w6.heap.size, 2, none⟩ (.int .i64 (tagTo r.t z)))) := ⟨set3 NX.out, ((Bc.out.setCell (by dsimp only; first | exact Nat.le_refl _ | exact Bc.out.size) _).setCell (by dsimp only; first | exact Nat.le_refl _ | exact Bc.out.size) _).setCell (by dsimp only; first | exact Nat.le_refl _ | exact Bc.out.size) _⟩
      generalize (((wc.setCell ⟨w6.heap.size, 0, none⟩ (.int .i64 x)).setCell ⟨w6.heap.size, 1, none⟩ (.int .i64 y)).setCell ⟨w6.heap.size, 2, none⟩ (.int .i64 (tagTo r.t z))) = C at F ⊢
      obtain ⟨⟨y0, y1, y2⟩, BC⟩ := F.out
      have cE := belCell BC
      have x0 := (cE _ 0 l1').trans HXX.out.1
      have x1 := (cE _ 1 l1').trans HXX.out.2.1
      have x2 := (cE _ 2 l1').trans HXX.out.2.2
      have FB := Lib.hid (belStep FB6.out BC)
      clear cE BC F
      go_wp2
      go_ret
      exact ⟨rfl, FB.out⟩

set_option maxRecDepth 100000 in
theorem contract_FnTableDo (H : Type) (enc : TypeId × Value → H) (W : World) (base : Nat) (args : Array Value) (ds gs : List (DataW H)) (before : List MemPlace)
    (hval : ∀ (j : Nat) t v, Tryz.f4.params[j]? = some t → args[j]? = some v → Value.okWide Tryz.prog W .any base t v)
    (hW : DataW.Whole enc Tryz.prog Tryz.f4.params.toList Rows.fnTableDoSpec.vars false W args.toList ds gs before) (hE : EtOk W) :
    Calls Tryz.prog 4 args W fun e W' => ∃ v, e = .returned v ∧ Rows.fnTableDoSpec.post enc Tryz.prog Tryz.f4 false true false false W args v W' := by
  have hW' := hW
  obtain ⟨p, q, hA0, hV, rfl, hfz, hnd⟩ := hW
  have hA : DataW.TrodAll enc Tryz.prog W 0 (fun _ => true) true Tryz.f4.params.toList args.toList ds p := hA0
  rw [Tryz.params4] at hA hval
  obtain ⟨v0, vs0, d0, ds0, p0, q0, hargs, rfl, rfl, h0, r0⟩ := trodAll_cons hA
  obtain ⟨rfl, rfl, rfl⟩ := trodAll_nil r0
  obtain rfl : args = #[v0] := by cases args; simp_all
  obtain ⟨rfl, rfl⟩ := trodVars_none hV
  have k0 := h0
  have lt0 : ∀ x ∈ p0, x.block < W.heap.size := by obtain ⟨m, hm⟩ := k0; exact DataW.trod_lt m _ _ _ hm
  obtain ⟨a0, len0, cap0, rfl⟩ := okWide_slice Tryz.underlying22 (hval 0 22 v0 rfl rfl)
  have w0 : BytesIn W W.heap.size a0 len0 cap0 := isRow_of h0
  clear hA0
  refine (walk_FnTableDo a0 len0 cap0 W w0 hE).mono fun e W' ⟨he, bel⟩ => ?_
  subst he
  exact ⟨_, rfl, _, _, _, [], _, [], hW', trodAll_mk1 (shut_bool Tryz.underlying4 _), (trodAll_cons_mk (Below.trod laidOut (by kernel_rfl) (of_decide_eq_true (by kernel_rfl)) k0 bel lt0) (trodAll_mk0)), rfl, bel.frame _, fun h => by cases h⟩

/-- A world for the witness: the settled one, with the listed variables as the text lays them. -/
noncomputable def laidWorld_FnTableDo (os : Os) : World :=
  { World.holding Tryz.prog os ⟨#[], #[], []⟩ with heap := (((((World.holding Tryz.prog os ⟨#[], #[], []⟩).heap).modify 3 (fun | .cells _ t frozen => .cells #[.int .u8 0, .int .u8 1, .int .u8 28, .int .u8 2, .int .u8 29, .int .u8 14, .int .u8 24, .int .u8 3, .int .u8 30, .int .u8 22, .int .u8 20, .int .u8 15, .int .u8 25, .int .u8 17, .int .u8 4, .int .u8 8, .int .u8 31, .int .u8 27, .int .u8 13, .int .u8 23, .int .u8 21, .int .u8 19, .int .u8 16, .int .u8 7, .int .u8 26, .int .u8 12, .int .u8 18, .int .u8 6, .int .u8 11, .int .u8 5, .int .u8 10, .int .u8 9] t frozen | o => o)).modify 4 (fun | .cells _ t frozen => .cells #[.int .u8 0, .int .u8 1, .int .u8 56, .int .u8 2, .int .u8 57, .int .u8 49, .int .u8 28, .int .u8 3, .int .u8 61, .int .u8 58, .int .u8 42, .int .u8 50, .int .u8 38, .int .u8 29, .int .u8 17, .int .u8 4, .int .u8 62, .int .u8 47, .int .u8 59, .int .u8 36, .int .u8 45, .int .u8 43, .int .u8 51, .int .u8 22, .int .u8 53, .int .u8 39, .int .u8 33, .int .u8 30, .int .u8 24, .int .u8 18, .int .u8 12, .int .u8 5, .int .u8 63, .int .u8 55, .int .u8 48, .int .u8 27, .int .u8 60, .int .u8 41, .int .u8 37, .int .u8 16, .int .u8 46, .int .u8 35, .int .u8 44, .int .u8 21, .int .u8 52, .int .u8 32, .int .u8 23, .int .u8 11, .int .u8 54, .int .u8 26, .int .u8 40, .int .u8 15, .int .u8 34, .int .u8 20, .int .u8 31, .int .u8 10, .int .u8 25, .int .u8 14, .int .u8 19, .int .u8 9, .int .u8 13, .int .u8 8, .int .u8 7, .int .u8 6] t frozen | o => o)).modify 2 (fun | .cells _ t frozen => .cells #[.int .u64 1, .int .u64 10, .int .u64 100, .int .u64 1000, .int .u64 10000, .int .u64 100000, .int .u64 1000000, .int .u64 10000000, .int .u64 100000000, .int .u64 1000000000, .int .u64 10000000000, .int .u64 100000000000, .int .u64 1000000000000, .int .u64 10000000000000, .int .u64 100000000000000, .int .u64 1000000000000000, .int .u64 10000000000000000, .int .u64 100000000000000000, .int .u64 1000000000000000000, .int .u64 10000000000000000000] t frozen | o => o)).modify 0 (fun | .cells _ t frozen => .cells #[.iface 136 (.agg #[.pointer (some ⟨5, 73, none⟩)])] t frozen | o => o) }

theorem laidMet_FnTableDo (os : Os) : laidMetH Tryz.prog Rows.fnTableDoRow.laid ((laidWorld_FnTableDo os).forCall (fun _ _ => 0) ⟨#[], #[.slice none 0 0], []⟩).memory :=
  laidMetH_of_parts (laidMet_of_run' 8 (by kernel_rfl) (by kernel_rfl)) (by kernel_rfl)

theorem reads_FnTableDo (os : Os) {H : Type} (enc : TypeId × Value → H) : ∃ places, DataW.whole enc Tryz.prog ((laidWorld_FnTableDo os).forCall (fun _ _ => 0) ⟨#[], #[.slice none 0 0], []⟩).memory Tryz.f4.params.toList Rows.fnTableDoSpec.vars false (#[.slice none 0 0] : Array Value).toList 8 = some ([.nil], [], places) :=
  ⟨[], by kernel_rfl⟩

set_option maxRecDepth 100000 in
theorem lifted_FnTableDo (os : Os) (started : os.Started) (H : Type) (enc : TypeId × Value → H) (F : Stop.Interp) :
    ReturnsInHanded {} Tryz.checked os 4 .any ((OpenSpec.ofChange Rows.fnTableDoSpec).preRow enc Tryz.prog Tryz.f4 Rows.fnTableDoRow.domain false Rows.fnTableDoRow.laid) (((OpenSpec.ofChange Rows.fnTableDoSpec).at F).post enc Tryz.prog Tryz.f4 false true false false) := by
  obtain ⟨places, hx⟩ := reads_FnTableDo os enc
  refine returnsInHanded_of_row (C := Tryz.checked) (s := OpenSpec.ofChange Rows.fnTableDoSpec) own started (by kernel_rfl) Tryz.func4
    (witness_row_at (enc := enc) (C := Tryz.checked) false (laidWorld_FnTableDo os) #[.slice none 0 0] rfl (by kernel_rfl) (by kernel_rfl) (by kernel_rfl)
      (OpenSpec.preRow_of_cond 8 hx (by kernel_rfl) (fun k hk => by cases hk) (by kernel_rfl) (laidMet_FnTableDo os))) ?_
  intro W base args ds gs before hval hW _ _ _ hL _ _
  exact contract_FnTableDo H enc W base args ds gs before hval hW (etOk_of hL (by simp [Rows.fnTableDoRow]))

theorem said_FnTableDo : Rows.FnTableDoSaid :=
  OpenClaim.holds_of_cond 4 Tryz.f4 rfl rfl rfl rfl rfl rfl rfl ⟨rfl, rfl, rfl, rfl, rfl⟩ rfl rfl rfl rfl rfl (by kernel_rfl) Tryz.func4 (by kernel_rfl)
    (of_decide_eq_true (by kernel_rfl)) (by unfold Func.isWrapper; first | (rw [if_pos (by decide +kernel)]; kernel_rfl) | (rw [if_neg (by decide +kernel)]; exact ⟨rfl, rfl⟩))
    (fun os started H enc _ F => by rw [OpenClaim.pre_eq_preRow]; exact lifted_FnTableDo os started H enc F)

theorem plain_FnTableDo (f : FuncId) (fn : Func) (hf : Tryz.pinned.checked.prog.funcNamed "loop.example/crossbuck/laws.FnTableDo" = some f) (hfn : Tryz.pinned.checked.prog.funcs[f]? = some fn) :
    true = Tryz.pinned.checked.prog.looks [] ∧ ∀ (j : Nat) t, fn.params[j]? = some t → Tryz.pinned.checked.prog.wantsStandIn t = false := by
  obtain rfl : f = 4 := Option.some.inj ((show Tryz.prog.funcNamed "loop.example/crossbuck/laws.FnTableDo" = some 4 by kernel_rfl).symm.trans hf) |>.symm
  obtain rfl : fn = Tryz.f4 := (Option.some.inj (Tryz.func4.symm.trans hfn)).symm
  refine ⟨by kernel_rfl, fun j t ht => ?_⟩
  rw [Tryz.params4] at ht
  obtain rfl : t = 22 := by simpa using Array.mem_of_getElem? ht
  exact (show Tryz.prog.wantsStandIn 22 = false by kernel_rfl)

theorem proved_FnTableDo : Rows.FnTableDoCardSaid :=
  Claim7.holds_tied_plain_at .later [] _ _ _ _ said_FnTableDo (fun _ h => by cases h) (by kernel_rfl) (fun _ h => by cases h) fnTableDo_row_tie rfl ⟨rfl, rfl⟩ (by kernel_rfl) rfl plain_FnTableDo (by kernel_rfl)

end Go.Proofs.YtmfgiemhonfapaaGreatDoor
