/-
  Proved: TableDo answers as its model at every slice of rules and every head, and writes into no argument; they read on as they did. No condition but the card's own: the listed variables of the library stand as its text lays them.
-/
import Derived.Test.YtmfgiemhonfapaaGreatDoorRuleCard
import Derived.Test.YtmfgiemhonfapaaGreatDoorTabS
import Derived.Test.YtmfgiemhonfapaaGreatDoorTabDoS
import Derived.Test.YtmfgiemhonfapaaGreatDoorHeadB
import Derived.Deep.RegionHeld3
namespace Go.Proofs.YtmfgiemhonfapaaGreatDoor
open Go.ChangeShapes Go.WideShapes Go.ChangeAt Go.RowKit Go.Joins
set_option linter.unusedVariables false

theorem belFrozenT {W w' : World} (h : Below W.heap.size W w') (k o : Nat) (hk : k < W.heap.size) : w'.frozen? ⟨k, o, none⟩ = W.frozen? ⟨k, o, none⟩ := World.frozen?_of_block (h.block k hk)
theorem belNew {X wq : World} {ty : TypeId} {u v z : Value} (h : Below (X.alloc (.cells #[u, v, z] ty)).heap.size (X.alloc (.cells #[u, v, z] ty)) wq) :
    wq.cell? ⟨X.heap.size, 0, none⟩ = some u ∧ wq.cell? ⟨X.heap.size, 1, none⟩ = some v ∧ wq.cell? ⟨X.heap.size, 2, none⟩ = some z ∧ ∀ o, wq.frozen? ⟨X.heap.size, o, none⟩ = false := cells3 ((h.block _ (by simp)).trans (newBlockM X _))
theorem belNewD {X wq : World} {ty : TypeId} {u v z : Value} (h : Below (X.alloc (.cells #[u, v, z] ty)).drew.heap.size (X.alloc (.cells #[u, v, z] ty)).drew wq) :
    wq.cell? ⟨X.heap.size, 0, none⟩ = some u ∧ wq.cell? ⟨X.heap.size, 1, none⟩ = some v ∧ wq.cell? ⟨X.heap.size, 2, none⟩ = some z ∧ ∀ o, wq.frozen? ⟨X.heap.size, o, none⟩ = false := belNew (((Below.refl _ _).drew).trans h)
theorem belOld {A wq : World} {xb : Nat} {u v z : Value} (h : Below A.heap.size A wq) (k : A.cell? ⟨xb, 0, none⟩ = some u ∧ A.cell? ⟨xb, 1, none⟩ = some v ∧ A.cell? ⟨xb, 2, none⟩ = some z ∧ ∀ o, A.frozen? ⟨xb, o, none⟩ = false) :
    wq.cell? ⟨xb, 0, none⟩ = some u ∧ wq.cell? ⟨xb, 1, none⟩ = some v ∧ wq.cell? ⟨xb, 2, none⟩ = some z ∧ ∀ o, wq.frozen? ⟨xb, o, none⟩ = false := by
  have hc := belCell h
  have hl : xb < A.heap.size := World.block_lt_of_cell? A ⟨xb, 0, none⟩ k.1
  exact ⟨(hc _ _ hl).trans k.1, (hc _ _ hl).trans k.2.1, (hc _ _ hl).trans k.2.2.1, fun o => (belFrozenT h _ _ hl).trans (k.2.2.2 o)⟩
theorem belA {X wq : World} {o : Obj} (h : Below (X.alloc o).heap.size (X.alloc o) wq) : Below X.heap.size X wq := (below_alloc1 X o).trans (h.mono (by simp))
theorem set3 {A : World} {xb : Nat} {u v z x y q : Value} (k : A.cell? ⟨xb, 0, none⟩ = some u ∧ A.cell? ⟨xb, 1, none⟩ = some v ∧ A.cell? ⟨xb, 2, none⟩ = some z ∧ ∀ o, A.frozen? ⟨xb, o, none⟩ = false) :
    (((A.setCell ⟨xb, 0, none⟩ x).setCell ⟨xb, 1, none⟩ y).setCell ⟨xb, 2, none⟩ q).cell? ⟨xb, 0, none⟩ = some x ∧ (((A.setCell ⟨xb, 0, none⟩ x).setCell ⟨xb, 1, none⟩ y).setCell ⟨xb, 2, none⟩ q).cell? ⟨xb, 1, none⟩ = some y ∧ (((A.setCell ⟨xb, 0, none⟩ x).setCell ⟨xb, 1, none⟩ y).setCell ⟨xb, 2, none⟩ q).cell? ⟨xb, 2, none⟩ = some q := by
  obtain ⟨k0, k1, k2, -⟩ := k
  refine ⟨?_, ?_, ?_⟩ <;> simp [go_sem, k0, k1, k2]

set_option maxRecDepth 100000 in
set_option maxHeartbeats 40000000 in
theorem walk_FnExactTableDo (v : Value) (n : Nat) (f : Nat → Int × ByteArray × Int × Int) (a b c : Int) (w : World) (hr : Raws w w.heap.size v n f) (hz : ∀ i, i < n → (f i).2.1.size ≤ maxLen) (wa : (Lit.int .i64 a).wf = true) (wb : (Lit.int .i64 b).wf = true) (wc : (Lit.int .i64 c).wf = true) (hE : EtOk w) :
    Calls Tryz.prog 6 #[v, .agg #[.int .i64 a, .int .i64 b, .int .i64 c]] w fun e w' => e = .returned (.bool true) ∧ Below w.heap.size w w' := by
  have HE := Lib.hid hE
  have HB0 : Hid (∀ W, Below (w.alloc (.cells #[.int .i64 a, .int .i64 b, .int .i64 c] 40)).heap.size (w.alloc (.cells #[.int .i64 a, .int .i64 b, .int .i64 c] 40)) W → Below w.heap.size w W ∧ w.heap.size < W.heap.size ∧ W.cell? ⟨w.heap.size, 0, none⟩ = some (.int .i64 a) ∧ W.cell? ⟨w.heap.size, 1, none⟩ = some (.int .i64 b) ∧ W.cell? ⟨w.heap.size, 2, none⟩ = some (.int .i64 c)) := fun W hb => by
    have hs := hb.size
    simp at hs
    exact ⟨(below_alloc1 _ _).trans (hb.mono (by simp)), by omega, trio3 ((hb.block _ (by simp)).trans (newBlockM w _))⟩
  have HSZ := Lib.hid (szRuleS_any (w.alloc (.cells #[.int .i64 a, .int .i64 b, .int .i64 c] 40)) v n 1048576 f ((hr.below (below_alloc1 w _) (Nat.le_refl _)).mono (below_alloc1 w (.cells #[.int .i64 a, .int .i64 b, .int .i64 c] 40)).size) hz (Nat.le_refl _))
  have HW : Hid ((∀ i, i < n → (f i).2.1.size ≤ 1048576) → ∀ W, Below w.heap.size w W → Rls W W.heap.size v ((List.range n).map (small f))) := fun hs W hb => ((hr.below hb (Nat.le_refl _)).mono hb.size).rls hs
  have hl : ((List.range n).map (small f)).length = n := by simp
  clear hr hz hE wa wb wc
  generalize (List.range n).map (small f) = l at *
  go_enter Tryz.func6, Tryz.ntmps6
  go_wp2_with fail
  refine HSZ.out.mono ?_
  rintro e w1 ⟨rfl | ⟨r, rfl, hr, hn, hsm⟩, b1⟩
  · go_wp2
    go_ret
    exact ⟨rfl, (HB0.out _ b1).1⟩
  have hr0 : ¬ ((r : Int) < 0) := by omega
  have HL := Lib.hid (HW.out hsm)
  have HN : Hid (l.length ≤ 1048576) := by show _ ≤ _; omega
  have HS : Hid (∀ w' : World, Below w1.heap.size w1 w' → (w'.cell? ⟨w.heap.size, 0, none⟩ = some (.int .i64 a) ∧ w'.cell? ⟨w.heap.size, 1, none⟩ = some (.int .i64 b) ∧ w'.cell? ⟨w.heap.size, 2, none⟩ = some (.int .i64 c) ∧ Below w1.heap.size w1 w')) := fun w' hb => by
    obtain ⟨-, -, k⟩ := HB0.out _ (belStep b1 hb)
    exact ⟨k.1, k.2.1, k.2.2, hb⟩
  have BW1 := Lib.hid (HB0.out _ b1).1
  have gw : w.heap.size < w1.heap.size := (HB0.out _ b1).2.1
  clear hsm b1 HSZ HW hl hn HB0
  obtain ⟨x, y, z, q, hV⟩ : ∃ (x y z q : Int), doT a b c l = ((x, y, z), q) := ⟨_, _, _, _, rfl⟩
  have HSD := Lib.hid (fun w v h => sTableDo_any w v l h HN.out a b c)
  have HID := Lib.hid (fun w v h => iTableDo_any w v l h HN.out a b c)
  rw [hV] at HSD HID
  dsimp only at HSD HID
  clear hV
  go_wp2
  go_region_held3 (fun w' => w'.cell? ⟨w.heap.size, 0, none⟩ = some (.int .i64 a) ∧ w'.cell? ⟨w.heap.size, 1, none⟩ = some (.int .i64 b) ∧ w'.cell? ⟨w.heap.size, 2, none⟩ = some (.int .i64 c) ∧ Below w1.heap.size w1 w')
    (first | assumption | exact HS.out _ ((Below.refl _ _).drew) | exact HS.out _ Bc.out | exact HS.out _ Bb.out | exact HS.out _ Ba.out | exact HS.out _ (Below.alloc Bc.out (Below.size Bc.out) _) | exact HS.out _ (Below.alloc Bb.out (Below.size Bb.out) _) | exact HS.out _ (Below.alloc Ba.out (Below.size Ba.out) _) | exact HS.out _ (Below.alloc ((Below.refl _ _).drew) (Nat.le_refl _) _) | exact HS.out _ (((Bc.out.setCell (by dsimp only; first | exact Nat.le_refl _ | exact Ba.out.size | exact Bb.out.size | exact Bc.out.size) _).setCell (by dsimp only; first | exact Nat.le_refl _ | exact Ba.out.size | exact Bb.out.size | exact Bc.out.size) _).setCell (by dsimp only; first | exact Nat.le_refl _ | exact Ba.out.size | exact Bb.out.size | exact Bc.out.size) _))
    (first
      | (go_at_call 19; ((with_reducible refine (toRuleS_any _ _ l ?_ HN.out).mono ?_); (go_split_ands; exact HL.out _ (belStep BW1.out (by assumption))); rintro e wa ⟨u, rfl, hrow, hq⟩; go_split_ands; have Ba := Lib.hid (belStep (show Below w1.heap.size w1 _ by assumption) hq); (first | have NX := Lib.hid (belNew hq) | have NX := Lib.hid (belNewD hq) | have NX := Lib.hid (belOld hq (Hid.out (by assumption))) | skip); (first | obtain ⟨n0, n1, n2, nf⟩ := NX.out | skip); have HRa := Lib.hid hrow; clear hrow))
      | (go_at_call 20; ((with_reducible refine (toHead_any _ _ _ _).mono ?_); rintro e wb ⟨rfl, hq⟩; go_split_ands; have Bb := Lib.hid (belStep (show Below w1.heap.size w1 _ by assumption) hq); (first | have NX := Lib.hid (belNew hq) | have NX := Lib.hid (belNewD hq) | have NX := Lib.hid (belOld hq (Hid.out (by assumption))) | skip); (first | obtain ⟨n0, n1, n2, nf⟩ := NX.out | skip); (first | have HRb := Lib.hid (HRa.out.below hq) | have HRb := Lib.hid (HRa.out.below (belA hq)))))
      | (go_at_call 15; ((with_reducible refine (HSD.out _ _ ?_).mono ?_); (first | exact HRb.out.rls | exact (HRb.out.below (below_alloc1 _ _)).rls); rintro e wc ⟨rfl, hq⟩; go_split_ands; have Bc := Lib.hid (belStep (show Below w1.heap.size w1 _ by assumption) hq); (first | have NX := Lib.hid (belNew hq) | have NX := Lib.hid (belNewD hq) | have NX := Lib.hid (belOld hq (Hid.out (by assumption))) | skip); (first | obtain ⟨n0, n1, n2, nf⟩ := NX.out | skip))))
  · have F : Hid (((wc.alloc (.cells #[.int .i64 x, .int .i64 y, .int .i64 z] 25)).cell? ⟨wc.heap.size, 0, none⟩ = some (.int .i64 x) ∧ (wc.alloc (.cells #[.int .i64 x, .int .i64 y, .int .i64 z] 25)).cell? ⟨wc.heap.size, 1, none⟩ = some (.int .i64 y) ∧ (wc.alloc (.cells #[.int .i64 x, .int .i64 y, .int .i64 z] 25)).cell? ⟨wc.heap.size, 2, none⟩ = some (.int .i64 z)) ∧ Below w1.heap.size w1 (wc.alloc (.cells #[.int .i64 x, .int .i64 y, .int .i64 z] 25))) := ⟨trio3 (newBlockM wc (.cells #[.int .i64 x, .int .i64 y, .int .i64 z] 25)), Bc.out.alloc Bc.out.size _⟩
    generalize (wc.alloc (.cells #[.int .i64 x, .int .i64 y, .int .i64 z] 25)) = C at F ⊢
    obtain ⟨⟨x0, x1, x2⟩, BC⟩ := F.out
    have HX := Lib.hid (And.intro x0 (And.intro x1 x2))
    have BWC0 := Lib.hid (belStep BW1.out BC)
    have HSC := Lib.hid (fun w' hb => HS.out w' (belStep BC hb))
    have lx : wc.heap.size < C.heap.size := World.block_lt_of_cell? C ⟨wc.heap.size, 0, none⟩ x0
    have gC : w.heap.size < C.heap.size := Nat.lt_of_lt_of_le gw BC.size
    clear x0 x1 x2 BC F
    generalize wc.heap.size = xb at *
    go_wp2_with fail
    refine (toRuleS_any _ _ l (HL.out _ BWC0.out) HN.out).mono ?_
    rintro e wd ⟨x0', rfl, hrow, bd⟩
    have HXd := Lib.hid hrow
    have ld := bd.size
    have BWC := Lib.hid (belStep BWC0.out bd)
    have cC := belCell bd
    have v0 := (cC _ 0 lx).trans HX.out.1
    have v1 := (cC _ 1 lx).trans HX.out.2.1
    have v2 := (cC _ 2 lx).trans HX.out.2.2
    have HV := Lib.hid (And.intro v0 (And.intro v1 v2))
    have lx' : xb < wd.heap.size := by omega
    have HS2 : Hid (∀ w' : World, Below wd.heap.size wd w' → (w'.cell? ⟨w.heap.size, 0, none⟩ = some (.int .i64 a) ∧ w'.cell? ⟨w.heap.size, 1, none⟩ = some (.int .i64 b) ∧ w'.cell? ⟨w.heap.size, 2, none⟩ = some (.int .i64 c) ∧ Below wd.heap.size wd w')) := fun w' hb => by
      obtain ⟨k0, k1, k2, -⟩ := HSC.out w' (belStep bd hb)
      exact ⟨k0, k1, k2, hb⟩
    have HXC : Hid (∀ {E : World}, Below wd.heap.size wd E → RulRow E C.heap.size x0' l) := fun {E} hb => HXd.out.below hb
    clear hrow bd cC v0 v1 v2
    obtain ⟨k0, k1, k2, -⟩ := HS2.out _ (Below.refl _ _)
    have gw2 : w.heap.size < wd.heap.size := by omega
    go_wp2_with fail
    refine (toHead_any _ _ _ _).mono ?_
    rintro e we ⟨rfl, be⟩
    have HXe := Lib.hid (HXd.out.below be)
    have BWe := Lib.hid (belStep BWC.out be)
    have HBe := Lib.hid be
    clear be k0 k1 k2
    go_wp2_with fail
    refine (HID.out _ _ HXe.out.rls (HE.out.below BWe.out)).mono ?_
    rintro e wf ⟨rfl, bf⟩
    have BF := Lib.hid ((belStep HBe.out bf).alloc (belStep HBe.out bf).size (.cells #[.int .i64 x, .int .i64 y, .int .i64 z] 25))
    have cE := belCell BF.out
    have u0 := (cE _ 0 lx').trans HV.out.1
    have u1 := (cE _ 1 lx').trans HV.out.2.1
    have u2 := (cE _ 2 lx').trans HV.out.2.2
    have BE := BF.out
    have lf := bf.size
    have lf' : xb < wf.heap.size := by have := HBe.out.size; omega
    clear cE bf
    have BWE := Lib.hid (belStep BWC.out BE)
    have HX9 := Lib.hid (HXC.out BE)
    clear BE
    go_wp2_with fail
    refine (eqHead_same _ _ _ _).mono ?_
    rintro e w9 ⟨rfl, b9⟩
    have BW9 := Lib.hid (belStep BWE.out b9)
    have HX10 := Lib.hid (HX9.out.below b9)
    clear b9 HX9
    go_wp2_with fail
    refine (toRuleS_any _ _ l (HL.out _ BW9.out) HN.out).mono ?_
    rintro e w10 ⟨y', rfl, hrow, b10⟩
    have HX11 := Lib.hid (HX10.out.below b10)
    have HY := Lib.hid hrow
    have BW10 := Lib.hid (belStep BW9.out b10)
    clear hrow b10 HX10
    go_wp2_with fail
    refine (eqRuleS_same _ _ _ l HX11.out.rls HY.out.rls HN.out).mono ?_
    rintro e w11 ⟨rfl, b11⟩
    go_wp2
    go_ret
    exact ⟨rfl, belStep BW10.out b11⟩
  · have F : Hid (((((wc.setCell ⟨wb.heap.size, 0, none⟩ (.int .i64 x)).setCell ⟨wb.heap.size, 1, none⟩ (.int .i64 y)).setCell ⟨wb.heap.size, 2, none⟩ (.int .i64 z)).cell? ⟨wb.heap.size, 0, none⟩ = some (.int .i64 x) ∧ (((wc.setCell ⟨wb.heap.size, 0, none⟩ (.int .i64 x)).setCell ⟨wb.heap.size, 1, none⟩ (.int .i64 y)).setCell ⟨wb.heap.size, 2, none⟩ (.int .i64 z)).cell? ⟨wb.heap.size, 1, none⟩ = some (.int .i64 y) ∧ (((wc.setCell ⟨wb.heap.size, 0, none⟩ (.int .i64 x)).setCell ⟨wb.heap.size, 1, none⟩ (.int .i64 y)).setCell ⟨wb.heap.size, 2, none⟩ (.int .i64 z)).cell? ⟨wb.heap.size, 2, none⟩ = some (.int .i64 z)) ∧ Below w1.heap.size w1 (((wc.setCell ⟨wb.heap.size, 0, none⟩ (.int .i64 x)).setCell ⟨wb.heap.size, 1, none⟩ (.int .i64 y)).setCell ⟨wb.heap.size, 2, none⟩ (.int .i64 z))) := ⟨set3 NX.out, ((Bc.out.setCell (by dsimp only; first | exact Nat.le_refl _ | exact Ba.out.size | exact Bb.out.size | exact Bc.out.size) _).setCell (by dsimp only; first | exact Nat.le_refl _ | exact Ba.out.size | exact Bb.out.size | exact Bc.out.size) _).setCell (by dsimp only; first | exact Nat.le_refl _ | exact Ba.out.size | exact Bb.out.size | exact Bc.out.size) _⟩
    generalize (((wc.setCell ⟨wb.heap.size, 0, none⟩ (.int .i64 x)).setCell ⟨wb.heap.size, 1, none⟩ (.int .i64 y)).setCell ⟨wb.heap.size, 2, none⟩ (.int .i64 z)) = C at F ⊢
    obtain ⟨⟨x0, x1, x2⟩, BC⟩ := F.out
    have HX := Lib.hid (And.intro x0 (And.intro x1 x2))
    have BWC0 := Lib.hid (belStep BW1.out BC)
    have HSC := Lib.hid (fun w' hb => HS.out w' (belStep BC hb))
    have lx : wb.heap.size < C.heap.size := World.block_lt_of_cell? C ⟨wb.heap.size, 0, none⟩ x0
    have gC : w.heap.size < C.heap.size := Nat.lt_of_lt_of_le gw BC.size
    clear x0 x1 x2 BC F
    generalize wb.heap.size = xb at *
    go_wp2_with fail
    refine (toRuleS_any _ _ l (HL.out _ BWC0.out) HN.out).mono ?_
    rintro e wd ⟨x0', rfl, hrow, bd⟩
    have HXd := Lib.hid hrow
    have ld := bd.size
    have BWC := Lib.hid (belStep BWC0.out bd)
    have cC := belCell bd
    have v0 := (cC _ 0 lx).trans HX.out.1
    have v1 := (cC _ 1 lx).trans HX.out.2.1
    have v2 := (cC _ 2 lx).trans HX.out.2.2
    have HV := Lib.hid (And.intro v0 (And.intro v1 v2))
    have lx' : xb < wd.heap.size := by omega
    have HS2 : Hid (∀ w' : World, Below wd.heap.size wd w' → (w'.cell? ⟨w.heap.size, 0, none⟩ = some (.int .i64 a) ∧ w'.cell? ⟨w.heap.size, 1, none⟩ = some (.int .i64 b) ∧ w'.cell? ⟨w.heap.size, 2, none⟩ = some (.int .i64 c) ∧ Below wd.heap.size wd w')) := fun w' hb => by
      obtain ⟨k0, k1, k2, -⟩ := HSC.out w' (belStep bd hb)
      exact ⟨k0, k1, k2, hb⟩
    have HXC : Hid (∀ {E : World}, Below wd.heap.size wd E → RulRow E C.heap.size x0' l) := fun {E} hb => HXd.out.below hb
    clear hrow bd cC v0 v1 v2
    obtain ⟨k0, k1, k2, -⟩ := HS2.out _ (Below.refl _ _)
    have gw2 : w.heap.size < wd.heap.size := by omega
    go_wp2_with fail
    refine (toHead_any _ _ _ _).mono ?_
    rintro e we ⟨rfl, be⟩
    have HXe := Lib.hid (HXd.out.below be)
    have BWe := Lib.hid (belStep BWC.out be)
    have HBe := Lib.hid be
    clear be k0 k1 k2
    go_wp2_with fail
    refine (HID.out _ _ HXe.out.rls (HE.out.below BWe.out)).mono ?_
    rintro e wf ⟨rfl, bf⟩
    have BF := Lib.hid ((belStep HBe.out bf).alloc (belStep HBe.out bf).size (.cells #[.int .i64 x, .int .i64 y, .int .i64 z] 25))
    have cE := belCell BF.out
    have u0 := (cE _ 0 lx').trans HV.out.1
    have u1 := (cE _ 1 lx').trans HV.out.2.1
    have u2 := (cE _ 2 lx').trans HV.out.2.2
    have BE := BF.out
    have lf := bf.size
    have lf' : xb < wf.heap.size := by have := HBe.out.size; omega
    clear cE bf
    have BWE := Lib.hid (belStep BWC.out BE)
    have HX9 := Lib.hid (HXC.out BE)
    clear BE
    go_wp2_with fail
    refine (eqHead_same _ _ _ _).mono ?_
    rintro e w9 ⟨rfl, b9⟩
    have BW9 := Lib.hid (belStep BWE.out b9)
    have HX10 := Lib.hid (HX9.out.below b9)
    clear b9 HX9
    go_wp2_with fail
    refine (toRuleS_any _ _ l (HL.out _ BW9.out) HN.out).mono ?_
    rintro e w10 ⟨y', rfl, hrow, b10⟩
    have HX11 := Lib.hid (HX10.out.below b10)
    have HY := Lib.hid hrow
    have BW10 := Lib.hid (belStep BW9.out b10)
    clear hrow b10 HX10
    go_wp2_with fail
    refine (eqRuleS_same _ _ _ l HX11.out.rls HY.out.rls HN.out).mono ?_
    rintro e w11 ⟨rfl, b11⟩
    go_wp2
    go_ret
    exact ⟨rfl, belStep BW10.out b11⟩
  · have F : Hid (((((wc.setCell ⟨wa.heap.size, 0, none⟩ (.int .i64 x)).setCell ⟨wa.heap.size, 1, none⟩ (.int .i64 y)).setCell ⟨wa.heap.size, 2, none⟩ (.int .i64 z)).cell? ⟨wa.heap.size, 0, none⟩ = some (.int .i64 x) ∧ (((wc.setCell ⟨wa.heap.size, 0, none⟩ (.int .i64 x)).setCell ⟨wa.heap.size, 1, none⟩ (.int .i64 y)).setCell ⟨wa.heap.size, 2, none⟩ (.int .i64 z)).cell? ⟨wa.heap.size, 1, none⟩ = some (.int .i64 y) ∧ (((wc.setCell ⟨wa.heap.size, 0, none⟩ (.int .i64 x)).setCell ⟨wa.heap.size, 1, none⟩ (.int .i64 y)).setCell ⟨wa.heap.size, 2, none⟩ (.int .i64 z)).cell? ⟨wa.heap.size, 2, none⟩ = some (.int .i64 z)) ∧ Below w1.heap.size w1 (((wc.setCell ⟨wa.heap.size, 0, none⟩ (.int .i64 x)).setCell ⟨wa.heap.size, 1, none⟩ (.int .i64 y)).setCell ⟨wa.heap.size, 2, none⟩ (.int .i64 z))) := ⟨set3 NX.out, ((Bc.out.setCell (by dsimp only; first | exact Nat.le_refl _ | exact Ba.out.size | exact Bb.out.size | exact Bc.out.size) _).setCell (by dsimp only; first | exact Nat.le_refl _ | exact Ba.out.size | exact Bb.out.size | exact Bc.out.size) _).setCell (by dsimp only; first | exact Nat.le_refl _ | exact Ba.out.size | exact Bb.out.size | exact Bc.out.size) _⟩
    generalize (((wc.setCell ⟨wa.heap.size, 0, none⟩ (.int .i64 x)).setCell ⟨wa.heap.size, 1, none⟩ (.int .i64 y)).setCell ⟨wa.heap.size, 2, none⟩ (.int .i64 z)) = C at F ⊢
    obtain ⟨⟨x0, x1, x2⟩, BC⟩ := F.out
    have HX := Lib.hid (And.intro x0 (And.intro x1 x2))
    have BWC0 := Lib.hid (belStep BW1.out BC)
    have HSC := Lib.hid (fun w' hb => HS.out w' (belStep BC hb))
    have lx : wa.heap.size < C.heap.size := World.block_lt_of_cell? C ⟨wa.heap.size, 0, none⟩ x0
    have gC : w.heap.size < C.heap.size := Nat.lt_of_lt_of_le gw BC.size
    clear x0 x1 x2 BC F
    generalize wa.heap.size = xb at *
    go_wp2_with fail
    refine (toRuleS_any _ _ l (HL.out _ BWC0.out) HN.out).mono ?_
    rintro e wd ⟨x0', rfl, hrow, bd⟩
    have HXd := Lib.hid hrow
    have ld := bd.size
    have BWC := Lib.hid (belStep BWC0.out bd)
    have cC := belCell bd
    have v0 := (cC _ 0 lx).trans HX.out.1
    have v1 := (cC _ 1 lx).trans HX.out.2.1
    have v2 := (cC _ 2 lx).trans HX.out.2.2
    have HV := Lib.hid (And.intro v0 (And.intro v1 v2))
    have lx' : xb < wd.heap.size := by omega
    have HS2 : Hid (∀ w' : World, Below wd.heap.size wd w' → (w'.cell? ⟨w.heap.size, 0, none⟩ = some (.int .i64 a) ∧ w'.cell? ⟨w.heap.size, 1, none⟩ = some (.int .i64 b) ∧ w'.cell? ⟨w.heap.size, 2, none⟩ = some (.int .i64 c) ∧ Below wd.heap.size wd w')) := fun w' hb => by
      obtain ⟨k0, k1, k2, -⟩ := HSC.out w' (belStep bd hb)
      exact ⟨k0, k1, k2, hb⟩
    have HXC : Hid (∀ {E : World}, Below wd.heap.size wd E → RulRow E C.heap.size x0' l) := fun {E} hb => HXd.out.below hb
    clear hrow bd cC v0 v1 v2
    obtain ⟨k0, k1, k2, -⟩ := HS2.out _ (Below.refl _ _)
    have gw2 : w.heap.size < wd.heap.size := by omega
    go_wp2_with fail
    refine (toHead_any _ _ _ _).mono ?_
    rintro e we ⟨rfl, be⟩
    have HXe := Lib.hid (HXd.out.below be)
    have BWe := Lib.hid (belStep BWC.out be)
    have HBe := Lib.hid be
    clear be k0 k1 k2
    go_wp2_with fail
    refine (HID.out _ _ HXe.out.rls (HE.out.below BWe.out)).mono ?_
    rintro e wf ⟨rfl, bf⟩
    have BF := Lib.hid ((belStep HBe.out bf).alloc (belStep HBe.out bf).size (.cells #[.int .i64 x, .int .i64 y, .int .i64 z] 25))
    have cE := belCell BF.out
    have u0 := (cE _ 0 lx').trans HV.out.1
    have u1 := (cE _ 1 lx').trans HV.out.2.1
    have u2 := (cE _ 2 lx').trans HV.out.2.2
    have BE := BF.out
    have lf := bf.size
    have lf' : xb < wf.heap.size := by have := HBe.out.size; omega
    clear cE bf
    have BWE := Lib.hid (belStep BWC.out BE)
    have HX9 := Lib.hid (HXC.out BE)
    clear BE
    go_wp2_with fail
    refine (eqHead_same _ _ _ _).mono ?_
    rintro e w9 ⟨rfl, b9⟩
    have BW9 := Lib.hid (belStep BWE.out b9)
    have HX10 := Lib.hid (HX9.out.below b9)
    clear b9 HX9
    go_wp2_with fail
    refine (toRuleS_any _ _ l (HL.out _ BW9.out) HN.out).mono ?_
    rintro e w10 ⟨y', rfl, hrow, b10⟩
    have HX11 := Lib.hid (HX10.out.below b10)
    have HY := Lib.hid hrow
    have BW10 := Lib.hid (belStep BW9.out b10)
    clear hrow b10 HX10
    go_wp2_with fail
    refine (eqRuleS_same _ _ _ l HX11.out.rls HY.out.rls HN.out).mono ?_
    rintro e w11 ⟨rfl, b11⟩
    go_wp2
    go_ret
    exact ⟨rfl, belStep BW10.out b11⟩
  · have F : Hid (((((wc.setCell ⟨w1.heap.size, 0, none⟩ (.int .i64 x)).setCell ⟨w1.heap.size, 1, none⟩ (.int .i64 y)).setCell ⟨w1.heap.size, 2, none⟩ (.int .i64 z)).cell? ⟨w1.heap.size, 0, none⟩ = some (.int .i64 x) ∧ (((wc.setCell ⟨w1.heap.size, 0, none⟩ (.int .i64 x)).setCell ⟨w1.heap.size, 1, none⟩ (.int .i64 y)).setCell ⟨w1.heap.size, 2, none⟩ (.int .i64 z)).cell? ⟨w1.heap.size, 1, none⟩ = some (.int .i64 y) ∧ (((wc.setCell ⟨w1.heap.size, 0, none⟩ (.int .i64 x)).setCell ⟨w1.heap.size, 1, none⟩ (.int .i64 y)).setCell ⟨w1.heap.size, 2, none⟩ (.int .i64 z)).cell? ⟨w1.heap.size, 2, none⟩ = some (.int .i64 z)) ∧ Below w1.heap.size w1 (((wc.setCell ⟨w1.heap.size, 0, none⟩ (.int .i64 x)).setCell ⟨w1.heap.size, 1, none⟩ (.int .i64 y)).setCell ⟨w1.heap.size, 2, none⟩ (.int .i64 z))) := ⟨set3 NX.out, ((Bc.out.setCell (by dsimp only; first | exact Nat.le_refl _ | exact Ba.out.size | exact Bb.out.size | exact Bc.out.size) _).setCell (by dsimp only; first | exact Nat.le_refl _ | exact Ba.out.size | exact Bb.out.size | exact Bc.out.size) _).setCell (by dsimp only; first | exact Nat.le_refl _ | exact Ba.out.size | exact Bb.out.size | exact Bc.out.size) _⟩
    generalize (((wc.setCell ⟨w1.heap.size, 0, none⟩ (.int .i64 x)).setCell ⟨w1.heap.size, 1, none⟩ (.int .i64 y)).setCell ⟨w1.heap.size, 2, none⟩ (.int .i64 z)) = C at F ⊢
    obtain ⟨⟨x0, x1, x2⟩, BC⟩ := F.out
    have HX := Lib.hid (And.intro x0 (And.intro x1 x2))
    have BWC0 := Lib.hid (belStep BW1.out BC)
    have HSC := Lib.hid (fun w' hb => HS.out w' (belStep BC hb))
    have lx : w1.heap.size < C.heap.size := World.block_lt_of_cell? C ⟨w1.heap.size, 0, none⟩ x0
    have gC : w.heap.size < C.heap.size := Nat.lt_of_lt_of_le gw BC.size
    clear x0 x1 x2 BC F
    generalize w1.heap.size = xb at *
    go_wp2_with fail
    refine (toRuleS_any _ _ l (HL.out _ BWC0.out) HN.out).mono ?_
    rintro e wd ⟨x0', rfl, hrow, bd⟩
    have HXd := Lib.hid hrow
    have ld := bd.size
    have BWC := Lib.hid (belStep BWC0.out bd)
    have cC := belCell bd
    have v0 := (cC _ 0 lx).trans HX.out.1
    have v1 := (cC _ 1 lx).trans HX.out.2.1
    have v2 := (cC _ 2 lx).trans HX.out.2.2
    have HV := Lib.hid (And.intro v0 (And.intro v1 v2))
    have lx' : xb < wd.heap.size := by omega
    have HS2 : Hid (∀ w' : World, Below wd.heap.size wd w' → (w'.cell? ⟨w.heap.size, 0, none⟩ = some (.int .i64 a) ∧ w'.cell? ⟨w.heap.size, 1, none⟩ = some (.int .i64 b) ∧ w'.cell? ⟨w.heap.size, 2, none⟩ = some (.int .i64 c) ∧ Below wd.heap.size wd w')) := fun w' hb => by
      obtain ⟨k0, k1, k2, -⟩ := HSC.out w' (belStep bd hb)
      exact ⟨k0, k1, k2, hb⟩
    have HXC : Hid (∀ {E : World}, Below wd.heap.size wd E → RulRow E C.heap.size x0' l) := fun {E} hb => HXd.out.below hb
    clear hrow bd cC v0 v1 v2
    obtain ⟨k0, k1, k2, -⟩ := HS2.out _ (Below.refl _ _)
    have gw2 : w.heap.size < wd.heap.size := by omega
    go_wp2_with fail
    refine (toHead_any _ _ _ _).mono ?_
    rintro e we ⟨rfl, be⟩
    have HXe := Lib.hid (HXd.out.below be)
    have BWe := Lib.hid (belStep BWC.out be)
    have HBe := Lib.hid be
    clear be k0 k1 k2
    go_wp2_with fail
    refine (HID.out _ _ HXe.out.rls (HE.out.below BWe.out)).mono ?_
    rintro e wf ⟨rfl, bf⟩
    have BF := Lib.hid ((belStep HBe.out bf).alloc (belStep HBe.out bf).size (.cells #[.int .i64 x, .int .i64 y, .int .i64 z] 25))
    have cE := belCell BF.out
    have u0 := (cE _ 0 lx').trans HV.out.1
    have u1 := (cE _ 1 lx').trans HV.out.2.1
    have u2 := (cE _ 2 lx').trans HV.out.2.2
    have BE := BF.out
    have lf := bf.size
    have lf' : xb < wf.heap.size := by have := HBe.out.size; omega
    clear cE bf
    have BWE := Lib.hid (belStep BWC.out BE)
    have HX9 := Lib.hid (HXC.out BE)
    clear BE
    go_wp2_with fail
    refine (eqHead_same _ _ _ _).mono ?_
    rintro e w9 ⟨rfl, b9⟩
    have BW9 := Lib.hid (belStep BWE.out b9)
    have HX10 := Lib.hid (HX9.out.below b9)
    clear b9 HX9
    go_wp2_with fail
    refine (toRuleS_any _ _ l (HL.out _ BW9.out) HN.out).mono ?_
    rintro e w10 ⟨y', rfl, hrow, b10⟩
    have HX11 := Lib.hid (HX10.out.below b10)
    have HY := Lib.hid hrow
    have BW10 := Lib.hid (belStep BW9.out b10)
    clear hrow b10 HX10
    go_wp2_with fail
    refine (eqRuleS_same _ _ _ l HX11.out.rls HY.out.rls HN.out).mono ?_
    rintro e w11 ⟨rfl, b11⟩
    go_wp2
    go_ret
    exact ⟨rfl, belStep BW10.out b11⟩

set_option maxRecDepth 100000 in
theorem contract_FnExactTableDo (H : Type) (enc : TypeId × Value → H) (W : World) (base : Nat) (args : Array Value) (ds gs : List (DataW H)) (before : List MemPlace)
    (hval : ∀ (j : Nat) t v, Tryz.f6.params[j]? = some t → args[j]? = some v → Value.okWide Tryz.prog W .any base t v)
    (hW : DataW.Whole enc Tryz.prog Tryz.f6.params.toList Rows.fnExactTableDoSpec.vars false W args.toList ds gs before) (hE : EtOk W) :
    Calls Tryz.prog 6 args W fun e W' => ∃ v, e = .returned v ∧ Rows.fnExactTableDoSpec.post enc Tryz.prog Tryz.f6 false true false false W args v W' := by
  have hW' := hW
  obtain ⟨p, q, hA0, hV, rfl, hfz, hnd⟩ := hW
  have hA : DataW.TrodAll enc Tryz.prog W 0 (fun _ => true) true Tryz.f6.params.toList args.toList ds p := hA0
  rw [Tryz.params6] at hA hval
  obtain ⟨v0, vs0, d0, ds0, p0, q0, hargs, rfl, rfl, h0, r0⟩ := trodAll_cons hA
  obtain ⟨v1, vs1, d1, ds1, p1, q1, rfl, rfl, rfl, h1, r1⟩ := trodAll_cons r0
  obtain ⟨rfl, rfl, rfl⟩ := trodAll_nil r1
  obtain rfl : args = #[v0, v1] := by cases args; simp_all
  obtain ⟨rfl, rfl⟩ := trodVars_none hV
  have k0 := h0
  have lt0 : ∀ x ∈ p0, x.block < W.heap.size := by obtain ⟨m, hm⟩ := k0; exact DataW.trod_lt m _ _ _ hm
  have k1 := h1
  have lt1 : ∀ x ∈ p1, x.block < W.heap.size := by obtain ⟨m, hm⟩ := k1; exact DataW.trod_lt m _ _ _ hm
  obtain ⟨n0, f0, w0, z0⟩ := rules_of h0 (okWide_slice Tryz.underlying39 (hval 0 39 v0 rfl rfl))
  obtain ⟨x1, y1, z1, ya1, yb1, yc1, m1, rfl, -, -, ha1, hb1, hc1⟩ := open_agg3 Tryz.underlying40 (by kernel_rfl) (show Tryz.prog.cellsOf 40 = 3 by kernel_rfl) (hval 1 40 v1 rfl rfl) h1
  obtain ⟨a1, ea1, -, wa1⟩ := DataW.trod_int Tryz.underlying3 ha1
  obtain ⟨b1, eb1, -, wb1⟩ := DataW.trod_int Tryz.underlying3 hb1
  obtain ⟨c1, ec1, -, wc1⟩ := DataW.trod_int Tryz.underlying3 hc1
  simp at ea1 eb1 ec1
  subst ea1 eb1 ec1
  clear hA0
  refine (walk_FnExactTableDo v0 n0 f0 a1 b1 c1 W w0 z0 wa1 wb1 wc1 hE).mono fun e W' ⟨he, bel⟩ => ?_
  subst he
  exact ⟨_, rfl, _, _, _, [], _, [], hW', trodAll_mk1 (shut_bool Tryz.underlying4 _), (trodAll_cons_mk (Below.trod laidOut (by kernel_rfl) (of_decide_eq_true (by kernel_rfl)) k0 bel lt0) (trodAll_cons_mk (Below.trod laidOut (by kernel_rfl) (of_decide_eq_true (by kernel_rfl)) k1 bel lt1) (trodAll_mk0))), rfl, bel.frame _, fun h => by cases h⟩

/-- A world for the witness: the settled one, with the listed variables as the text lays them. -/
noncomputable def laidWorld_FnExactTableDo (os : Os) : World :=
  { World.holding Tryz.prog os ⟨#[], #[], []⟩ with heap := (((((World.holding Tryz.prog os ⟨#[], #[], []⟩).heap).modify 3 (fun | .cells _ t frozen => .cells #[.int .u8 0, .int .u8 1, .int .u8 28, .int .u8 2, .int .u8 29, .int .u8 14, .int .u8 24, .int .u8 3, .int .u8 30, .int .u8 22, .int .u8 20, .int .u8 15, .int .u8 25, .int .u8 17, .int .u8 4, .int .u8 8, .int .u8 31, .int .u8 27, .int .u8 13, .int .u8 23, .int .u8 21, .int .u8 19, .int .u8 16, .int .u8 7, .int .u8 26, .int .u8 12, .int .u8 18, .int .u8 6, .int .u8 11, .int .u8 5, .int .u8 10, .int .u8 9] t frozen | o => o)).modify 4 (fun | .cells _ t frozen => .cells #[.int .u8 0, .int .u8 1, .int .u8 56, .int .u8 2, .int .u8 57, .int .u8 49, .int .u8 28, .int .u8 3, .int .u8 61, .int .u8 58, .int .u8 42, .int .u8 50, .int .u8 38, .int .u8 29, .int .u8 17, .int .u8 4, .int .u8 62, .int .u8 47, .int .u8 59, .int .u8 36, .int .u8 45, .int .u8 43, .int .u8 51, .int .u8 22, .int .u8 53, .int .u8 39, .int .u8 33, .int .u8 30, .int .u8 24, .int .u8 18, .int .u8 12, .int .u8 5, .int .u8 63, .int .u8 55, .int .u8 48, .int .u8 27, .int .u8 60, .int .u8 41, .int .u8 37, .int .u8 16, .int .u8 46, .int .u8 35, .int .u8 44, .int .u8 21, .int .u8 52, .int .u8 32, .int .u8 23, .int .u8 11, .int .u8 54, .int .u8 26, .int .u8 40, .int .u8 15, .int .u8 34, .int .u8 20, .int .u8 31, .int .u8 10, .int .u8 25, .int .u8 14, .int .u8 19, .int .u8 9, .int .u8 13, .int .u8 8, .int .u8 7, .int .u8 6] t frozen | o => o)).modify 2 (fun | .cells _ t frozen => .cells #[.int .u64 1, .int .u64 10, .int .u64 100, .int .u64 1000, .int .u64 10000, .int .u64 100000, .int .u64 1000000, .int .u64 10000000, .int .u64 100000000, .int .u64 1000000000, .int .u64 10000000000, .int .u64 100000000000, .int .u64 1000000000000, .int .u64 10000000000000, .int .u64 100000000000000, .int .u64 1000000000000000, .int .u64 10000000000000000, .int .u64 100000000000000000, .int .u64 1000000000000000000, .int .u64 10000000000000000000] t frozen | o => o)).modify 0 (fun | .cells _ t frozen => .cells #[.iface 136 (.agg #[.pointer (some ⟨5, 73, none⟩)])] t frozen | o => o) }

theorem laidMet_FnExactTableDo (os : Os) : laidMetH Tryz.prog Rows.fnExactTableDoRow.laid ((laidWorld_FnExactTableDo os).forCall (fun _ _ => 0) ⟨#[], #[.slice none 0 0, .agg #[.int .i64 0, .int .i64 0, .int .i64 0]], []⟩).memory :=
  laidMetH_of_parts (laidMet_of_run' 8 (by kernel_rfl) (by kernel_rfl)) (by kernel_rfl)

theorem reads_FnExactTableDo (os : Os) {H : Type} (enc : TypeId × Value → H) : ∃ places, DataW.whole enc Tryz.prog ((laidWorld_FnExactTableDo os).forCall (fun _ _ => 0) ⟨#[], #[.slice none 0 0, .agg #[.int .i64 0, .int .i64 0, .int .i64 0]], []⟩).memory Tryz.f6.params.toList Rows.fnExactTableDoSpec.vars false (#[.slice none 0 0, .agg #[.int .i64 0, .int .i64 0, .int .i64 0]] : Array Value).toList 8 = some ([.nil, .agg [.lit (.int .i64 0), .lit (.int .i64 0), .lit (.int .i64 0)]], [], places) :=
  ⟨[], by kernel_rfl⟩

set_option maxRecDepth 100000 in
theorem lifted_FnExactTableDo (os : Os) (started : os.Started) (H : Type) (enc : TypeId × Value → H) (F : Stop.Interp) :
    ReturnsInHanded {} Tryz.checked os 6 .any ((OpenSpec.ofChange Rows.fnExactTableDoSpec).preRow enc Tryz.prog Tryz.f6 Rows.fnExactTableDoRow.domain false Rows.fnExactTableDoRow.laid) (((OpenSpec.ofChange Rows.fnExactTableDoSpec).at F).post enc Tryz.prog Tryz.f6 false true false false) := by
  obtain ⟨places, hx⟩ := reads_FnExactTableDo os enc
  refine returnsInHanded_of_row (C := Tryz.checked) (s := OpenSpec.ofChange Rows.fnExactTableDoSpec) own started (by kernel_rfl) Tryz.func6
    (witness_row_at (enc := enc) (C := Tryz.checked) false (laidWorld_FnExactTableDo os) #[.slice none 0 0, .agg #[.int .i64 0, .int .i64 0, .int .i64 0]] rfl (by kernel_rfl) (by kernel_rfl) (by kernel_rfl)
      (OpenSpec.preRow_of_cond 8 hx (by kernel_rfl) (fun k hk => by cases hk) (by kernel_rfl) (laidMet_FnExactTableDo os))) ?_
  intro W base args ds gs before hval hW _ _ _ hL _ _
  exact contract_FnExactTableDo H enc W base args ds gs before hval hW (etOk_of hL (by simp [Rows.fnExactTableDoRow]))

theorem said_FnExactTableDo : Rows.FnExactTableDoSaid :=
  OpenClaim.holds_of_cond 6 Tryz.f6 rfl rfl rfl rfl rfl rfl rfl ⟨rfl, rfl, rfl, rfl, rfl⟩ rfl rfl rfl rfl rfl (by kernel_rfl) Tryz.func6 (by kernel_rfl)
    (of_decide_eq_true (by kernel_rfl)) (by unfold Func.isWrapper; first | (rw [if_pos (by decide +kernel)]; kernel_rfl) | (rw [if_neg (by decide +kernel)]; exact ⟨rfl, rfl⟩))
    (fun os started H enc _ F => by rw [OpenClaim.pre_eq_preRow]; exact lifted_FnExactTableDo os started H enc F)

theorem plain_FnExactTableDo (f : FuncId) (fn : Func) (hf : Tryz.pinned.checked.prog.funcNamed "loop.example/crossbuck/laws.FnExactTableDo" = some f) (hfn : Tryz.pinned.checked.prog.funcs[f]? = some fn) :
    true = Tryz.pinned.checked.prog.looks [] ∧ ∀ (j : Nat) t, fn.params[j]? = some t → Tryz.pinned.checked.prog.wantsStandIn t = false := by
  obtain rfl : f = 6 := Option.some.inj ((show Tryz.prog.funcNamed "loop.example/crossbuck/laws.FnExactTableDo" = some 6 by kernel_rfl).symm.trans hf) |>.symm
  obtain rfl : fn = Tryz.f6 := (Option.some.inj (Tryz.func6.symm.trans hfn)).symm
  refine ⟨by kernel_rfl, fun j t ht => ?_⟩
  rw [Tryz.params6] at ht
  have hm : t = 39 ∨ t = 40 := by simpa using Array.mem_of_getElem? ht
  rcases hm with rfl | rfl
  · exact (show Tryz.prog.wantsStandIn 39 = false by kernel_rfl)
  · exact (show Tryz.prog.wantsStandIn 40 = false by kernel_rfl)

theorem proved_FnExactTableDo : Rows.FnExactTableDoCardSaid :=
  Claim7.holds_tied_plain_at .later [] _ _ _ _ said_FnExactTableDo (fun _ h => by cases h) (by kernel_rfl) (fun _ h => by cases h) fnExactTableDo_row_tie rfl ⟨rfl, rfl⟩ (by kernel_rfl) rfl plain_FnExactTableDo (by kernel_rfl)

end Go.Proofs.YtmfgiemhonfapaaGreatDoor
