/-
  Proved: RuleDo answers as its model at every rule and every head, whatever its fields; both read on as they did. No condition but the card's own: the listed variable of the library stands as its text lays it.
-/
import Derived.Test.YtlbbhiigfgegeaaDoorRuleCard
import Derived.Test.YtlbbhiigfgegeaaDoorRuleDoI
import Derived.Deep.RegionHeld3
namespace Go.Proofs.YtlbbhiigfgegeaaDoor
open Go.ChangeShapes Go.WideShapes Go.ChangeAt Go.RowKit Go.Joins
set_option linter.unusedVariables false

/-- A rule's and a head's block stay behind calls that leave what was there. -/
theorem sevenKept {w w1 : World} {t u : TypeId} {a b c d x y z : Value} (hb : Below ((w.alloc (.cells #[a, b, c, d] t)).alloc (.cells #[x, y, z] u)).heap.size ((w.alloc (.cells #[a, b, c, d] t)).alloc (.cells #[x, y, z] u)) w1) :
    w1.cell? ⟨w.heap.size, 0, none⟩ = some a ∧ w1.cell? ⟨w.heap.size, 1, none⟩ = some b ∧ w1.cell? ⟨w.heap.size, 2, none⟩ = some c ∧ w1.cell? ⟨w.heap.size, 3, none⟩ = some d ∧
    w1.cell? ⟨w.heap.size + 1, 0, none⟩ = some x ∧ w1.cell? ⟨w.heap.size + 1, 1, none⟩ = some y ∧ w1.cell? ⟨w.heap.size + 1, 2, none⟩ = some z := by
  have hc := belCell hb
  refine ⟨?_, ?_, ?_, ?_, ?_, ?_, ?_⟩ <;> (rw [hc _ _ (by simp; try omega)]; simp [go_sem])

/-- A head's block, made ahead of a call, stands behind it. -/
theorem belNew {X wq : World} {ty : TypeId} {u v z : Value} (h : Below (X.alloc (.cells #[u, v, z] ty)).heap.size (X.alloc (.cells #[u, v, z] ty)) wq) :
    wq.cell? ⟨X.heap.size, 0, none⟩ = some u ∧ wq.cell? ⟨X.heap.size, 1, none⟩ = some v ∧ wq.cell? ⟨X.heap.size, 2, none⟩ = some z ∧ ∀ o, wq.frozen? ⟨X.heap.size, o, none⟩ = false := by
  have hc := belCell h
  have hf := belFrozen h
  refine ⟨?_, ?_, ?_, fun o => ?_⟩ <;> first | (rw [hc _ _ (by simp)]; simp [go_sem]; done) | (rw [hf _ _ (by simp)]; simp [go_sem])
theorem belNewD {X wq : World} {ty : TypeId} {u v z : Value} (h : Below (X.alloc (.cells #[u, v, z] ty)).drew.heap.size (X.alloc (.cells #[u, v, z] ty)).drew wq) :
    wq.cell? ⟨X.heap.size, 0, none⟩ = some u ∧ wq.cell? ⟨X.heap.size, 1, none⟩ = some v ∧ wq.cell? ⟨X.heap.size, 2, none⟩ = some z ∧ ∀ o, wq.frozen? ⟨X.heap.size, o, none⟩ = false :=
  belNew (((Below.refl _ _).drew).trans h)
theorem belOld {A wq : World} {xb : Nat} {u v z : Value} (h : Below A.heap.size A wq) (k : A.cell? ⟨xb, 0, none⟩ = some u ∧ A.cell? ⟨xb, 1, none⟩ = some v ∧ A.cell? ⟨xb, 2, none⟩ = some z ∧ ∀ o, A.frozen? ⟨xb, o, none⟩ = false) :
    wq.cell? ⟨xb, 0, none⟩ = some u ∧ wq.cell? ⟨xb, 1, none⟩ = some v ∧ wq.cell? ⟨xb, 2, none⟩ = some z ∧ ∀ o, wq.frozen? ⟨xb, o, none⟩ = false := by
  have hc := belCell h
  have hf := belFrozen h
  have hl : xb < A.heap.size := World.block_lt_of_cell? A ⟨xb, 0, none⟩ k.1
  exact ⟨(hc _ _ hl).trans k.1, (hc _ _ hl).trans k.2.1, (hc _ _ hl).trans k.2.2.1, fun o => (hf _ _ hl).trans (k.2.2.2 o)⟩

set_option maxHeartbeats 40000000 in
theorem walk_FnExactRuleDo (p : Int) (s : ByteArray) (o t a b c : Int) (w : World) (wp : (Lit.int .i64 p).wf = true) (hs : s.size ≤ maxLen) (wo : (Lit.int .i64 o).wf = true) (wt : (Lit.int .i64 t).wf = true)
    (wa : (Lit.int .i64 a).wf = true) (wb : (Lit.int .i64 b).wf = true) (wc : (Lit.int .i64 c).wf = true) (hE : EtOk w) :
    Calls Tryd.prog 12 #[.agg #[.int .i64 p, .string s, .int .i64 o, .int .i64 t], .agg #[.int .i64 a, .int .i64 b, .int .i64 c]] w fun e w' => e = .returned (.bool true) ∧ Below w.heap.size w w' := by
  have HE := Lib.hid ((hE.alloc (.cells #[.int .i64 p, .string s, .int .i64 o, .int .i64 t] 44)).alloc (.cells #[.int .i64 a, .int .i64 b, .int .i64 c] 50))
  have B0 := Lib.hid (below_alloc2 w (.cells #[.int .i64 p, .string s, .int .i64 o, .int .i64 t] 44) (.cells #[.int .i64 a, .int .i64 b, .int .i64 c] 50))
  clear hE wp wo wt wa wb wc
  by_cases hb : (1048576 : Int) < s.size
  · go_enter Tryd.func12, Tryd.ntmps12
    go_wp2_with fail
    refine (szRule_any _ _ hs _ _ _ (by omega) (by omega) _).mono ?_
    rintro e w1 ⟨rfl, b1⟩
    rw [if_pos (by omega)]
    go_wp2
    go_ret
    exact ⟨rfl, belStep B0.out b1⟩
  have hm : s.size ≤ 1048576 := by omega
  have hl : ¬ (1048576 - (s.size : Int) < 0) := by omega
  have HI := Lib.hid (iRuleDo_any p s hm o t a b c)
  have HSp := Lib.hid (sRuleDo_any p s hm o t a b c)
  obtain ⟨x, y, z, q, k, hV⟩ : ∃ (x y z q : Int) (k : Bool), doV p s o t a b c = .tuple #[.agg #[.int .i64 x, .int .i64 y, .int .i64 z], .int .i64 q, .bool k] := by
    unfold doV
    cases doB p s o t a b c
    · exact ⟨0, 0, 0, 0, false, rfl⟩
    · exact ⟨a, b, tagTo t c, o, true, rfl⟩
  rw [hV] at HI HSp
  clear hV
  go_enter Tryd.func12, Tryd.ntmps12
  go_wp2_with fail
  refine (szRule_any _ _ hs _ _ _ (by omega) (by omega) _).mono ?_
  rintro e w1 ⟨rfl, b1⟩
  rw [if_neg (by omega)]
  obtain ⟨q0, q1, q2, q3, h0, h1, h2⟩ := sevenKept b1
  have s1 := b1.size
  simp at s1
  have HS : Hid (∀ w' : World, Below w1.heap.size w1 w' → (w'.cell? ⟨w.heap.size, 0, none⟩ = some (.int .i64 p) ∧ w'.cell? ⟨w.heap.size, 1, none⟩ = some (.string s) ∧ w'.cell? ⟨w.heap.size, 2, none⟩ = some (.int .i64 o) ∧ w'.cell? ⟨w.heap.size, 3, none⟩ = some (.int .i64 t) ∧ w'.cell? ⟨w.heap.size + 1, 0, none⟩ = some (.int .i64 a) ∧ w'.cell? ⟨w.heap.size + 1, 1, none⟩ = some (.int .i64 b) ∧ w'.cell? ⟨w.heap.size + 1, 2, none⟩ = some (.int .i64 c) ∧ Below w1.heap.size w1 w')) := by
    intro w' hb
    have hc := belCell hb
    exact ⟨(hc _ _ (by omega)).trans q0, (hc _ _ (by omega)).trans q1, (hc _ _ (by omega)).trans q2, (hc _ _ (by omega)).trans q3, (hc _ _ (by omega)).trans h0, (hc _ _ (by omega)).trans h1, (hc _ _ (by omega)).trans h2, hb⟩
  have HE1 := Lib.hid (HE.out.below b1)
  have B1 := Lib.hid (belStep B0.out b1)
  clear b1 HE B0 q0 q1 q2 q3 h0 h1 h2
  go_wp2
  go_region_held3 (fun w' => w'.cell? ⟨w.heap.size, 0, none⟩ = some (.int .i64 p) ∧ w'.cell? ⟨w.heap.size, 1, none⟩ = some (.string s) ∧ w'.cell? ⟨w.heap.size, 2, none⟩ = some (.int .i64 o) ∧ w'.cell? ⟨w.heap.size, 3, none⟩ = some (.int .i64 t) ∧ w'.cell? ⟨w.heap.size + 1, 0, none⟩ = some (.int .i64 a) ∧ w'.cell? ⟨w.heap.size + 1, 1, none⟩ = some (.int .i64 b) ∧ w'.cell? ⟨w.heap.size + 1, 2, none⟩ = some (.int .i64 c) ∧ Below w1.heap.size w1 w')
    (first | assumption | exact HS.out _ ((Below.refl _ _).drew) | exact HS.out _ Bc.out | exact HS.out _ Bb.out | exact HS.out _ Ba.out | exact HS.out _ (Below.alloc Bc.out (Below.size Bc.out) _) | exact HS.out _ (Below.alloc Bb.out (Below.size Bb.out) _) | exact HS.out _ (Below.alloc Ba.out (Below.size Ba.out) _) | exact HS.out _ (Below.alloc ((Below.refl _ _).drew) (Nat.le_refl _) _) | exact HS.out _ (((Bc.out.setCell (by dsimp only; first | exact Nat.le_refl _ | exact Ba.out.size | exact Bb.out.size | exact Bc.out.size) _).setCell (by dsimp only; first | exact Nat.le_refl _ | exact Ba.out.size | exact Bb.out.size | exact Bc.out.size) _).setCell (by dsimp only; first | exact Nat.le_refl _ | exact Ba.out.size | exact Bb.out.size | exact Bc.out.size) _))
    (first
      | (go_at_call 33; ((with_reducible refine (toRule_any _ _ _ _ _).mono ?_); rintro e wa ⟨rfl, hq⟩; go_split_ands; have Ba := Lib.hid (belStep (show Below w1.heap.size w1 _ by assumption) hq); (first | have NX := Lib.hid (belNew hq) | have NX := Lib.hid (belNewD hq) | have NX := Lib.hid (belOld hq (Hid.out (by assumption))) | skip); (first | obtain ⟨n0, n1, n2, nf⟩ := NX.out | skip)))
      | (go_at_call 35; ((with_reducible refine (toHead_any _ _ _ _).mono ?_); rintro e wb ⟨rfl, hq⟩; go_split_ands; have Bb := Lib.hid (belStep (show Below w1.heap.size w1 _ by assumption) hq); (first | have NX := Lib.hid (belNew hq) | have NX := Lib.hid (belNewD hq) | have NX := Lib.hid (belOld hq (Hid.out (by assumption))) | skip); (first | obtain ⟨n0, n1, n2, nf⟩ := NX.out | skip)))
      | (go_at_call 22; ((with_reducible refine (HSp.out _).mono ?_); rintro e wc ⟨rfl, hq⟩; go_split_ands; have Bc := Lib.hid (belStep (show Below w1.heap.size w1 _ by assumption) hq); (first | have NX := Lib.hid (belNew hq) | have NX := Lib.hid (belNewD hq) | have NX := Lib.hid (belOld hq (Hid.out (by assumption))) | skip); (first | obtain ⟨n0, n1, n2, nf⟩ := NX.out | skip))))
  · have F : Hid (((wc.alloc (.cells #[.int .i64 x, .int .i64 y, .int .i64 z] 33)).cell? ⟨wc.heap.size, 0, none⟩ = some (.int .i64 x) ∧ (wc.alloc (.cells #[.int .i64 x, .int .i64 y, .int .i64 z] 33)).cell? ⟨wc.heap.size, 1, none⟩ = some (.int .i64 y) ∧ (wc.alloc (.cells #[.int .i64 x, .int .i64 y, .int .i64 z] 33)).cell? ⟨wc.heap.size, 2, none⟩ = some (.int .i64 z)) ∧ Below w1.heap.size w1 (wc.alloc (.cells #[.int .i64 x, .int .i64 y, .int .i64 z] 33))) := ⟨⟨by simp [go_sem], by simp [go_sem], by simp [go_sem]⟩, Bc.out.alloc Bc.out.size _⟩
    generalize (wc.alloc (.cells #[.int .i64 x, .int .i64 y, .int .i64 z] 33)) = C at F ⊢
    obtain ⟨⟨x0, x1, x2⟩, BC⟩ := F.out
    have HX := Lib.hid (And.intro x0 (And.intro x1 x2))
    have HEC := Lib.hid (HE1.out.below BC)
    have B2 := Lib.hid (belStep B1.out BC)
    have HS2 : Hid (∀ w' : World, Below C.heap.size C w' → (w'.cell? ⟨w.heap.size, 0, none⟩ = some (.int .i64 p) ∧ w'.cell? ⟨w.heap.size, 1, none⟩ = some (.string s) ∧ w'.cell? ⟨w.heap.size, 2, none⟩ = some (.int .i64 o) ∧ w'.cell? ⟨w.heap.size, 3, none⟩ = some (.int .i64 t) ∧ w'.cell? ⟨w.heap.size + 1, 0, none⟩ = some (.int .i64 a) ∧ w'.cell? ⟨w.heap.size + 1, 1, none⟩ = some (.int .i64 b) ∧ w'.cell? ⟨w.heap.size + 1, 2, none⟩ = some (.int .i64 c) ∧ Below C.heap.size C w')) := by
      intro w' hb
      obtain ⟨a1, a2, a3, a4, a5, a6, a7, -⟩ := HS.out w' (belStep F.out.2 hb)
      exact ⟨a1, a2, a3, a4, a5, a6, a7, hb⟩
    have lx : wc.heap.size < C.heap.size := World.block_lt_of_cell? C ⟨wc.heap.size, 0, none⟩ x0
    clear x0 x1 x2 BC
    go_wp2
    go_region_held3 (fun w' => w'.cell? ⟨w.heap.size, 0, none⟩ = some (.int .i64 p) ∧ w'.cell? ⟨w.heap.size, 1, none⟩ = some (.string s) ∧ w'.cell? ⟨w.heap.size, 2, none⟩ = some (.int .i64 o) ∧ w'.cell? ⟨w.heap.size, 3, none⟩ = some (.int .i64 t) ∧ w'.cell? ⟨w.heap.size + 1, 0, none⟩ = some (.int .i64 a) ∧ w'.cell? ⟨w.heap.size + 1, 1, none⟩ = some (.int .i64 b) ∧ w'.cell? ⟨w.heap.size + 1, 2, none⟩ = some (.int .i64 c) ∧ Below C.heap.size C w')
        (first | assumption | exact HS2.out _ ((Below.refl _ _).drew) | exact HS2.out _ Bf.out | exact HS2.out _ Be.out | exact HS2.out _ Bd.out | exact HS2.out _ (Below.alloc Bf.out (Below.size Bf.out) _) | exact HS2.out _ (Below.alloc Be.out (Below.size Be.out) _) | exact HS2.out _ (Below.alloc Bd.out (Below.size Bd.out) _) | exact HS2.out _ (Below.alloc ((Below.refl _ _).drew) (Nat.le_refl _) _) | exact HS2.out _ (((Bf.out.setCell (by dsimp only; first | exact Nat.le_refl _ | exact Bd.out.size | exact Be.out.size | exact Bf.out.size) _).setCell (by dsimp only; first | exact Nat.le_refl _ | exact Bd.out.size | exact Be.out.size | exact Bf.out.size) _).setCell (by dsimp only; first | exact Nat.le_refl _ | exact Bd.out.size | exact Be.out.size | exact Bf.out.size) _))
        (first
          | (go_at_call 33; ((with_reducible refine (toRule_any _ _ _ _ _).mono ?_); rintro e wd ⟨rfl, hq⟩; go_split_ands; have Bd := Lib.hid (belStep (show Below C.heap.size C _ by assumption) hq); (first | have NX := Lib.hid (belNew hq) | have NX := Lib.hid (belNewD hq) | have NX := Lib.hid (belOld hq (Hid.out (by assumption))) | skip); (first | obtain ⟨n0, n1, n2, nf⟩ := NX.out | skip)))
          | (go_at_call 35; ((with_reducible refine (toHead_any _ _ _ _).mono ?_); rintro e we ⟨rfl, hq⟩; go_split_ands; have Be := Lib.hid (belStep (show Below C.heap.size C _ by assumption) hq); (first | have NX := Lib.hid (belNew hq) | have NX := Lib.hid (belNewD hq) | have NX := Lib.hid (belOld hq (Hid.out (by assumption))) | skip); (first | obtain ⟨n0, n1, n2, nf⟩ := NX.out | skip)))
          | (go_at_call 23; ((with_reducible refine (HI.out _ ?_).mono ?_); (go_split_ands; exact HEC.out.below (by assumption)); rintro e wf ⟨rfl, hq⟩; go_split_ands; have Bf := Lib.hid (belStep (show Below C.heap.size C _ by assumption) hq); (first | have NX := Lib.hid (belNew hq) | have NX := Lib.hid (belNewD hq) | have NX := Lib.hid (belOld hq (Hid.out (by assumption))) | skip); (first | obtain ⟨n0, n1, n2, nf⟩ := NX.out | skip))))
    · have G : Hid (((wf.alloc (.cells #[.int .i64 x, .int .i64 y, .int .i64 z] 33)).cell? ⟨wf.heap.size, 0, none⟩ = some (.int .i64 x) ∧ (wf.alloc (.cells #[.int .i64 x, .int .i64 y, .int .i64 z] 33)).cell? ⟨wf.heap.size, 1, none⟩ = some (.int .i64 y) ∧ (wf.alloc (.cells #[.int .i64 x, .int .i64 y, .int .i64 z] 33)).cell? ⟨wf.heap.size, 2, none⟩ = some (.int .i64 z)) ∧ Below C.heap.size C (wf.alloc (.cells #[.int .i64 x, .int .i64 y, .int .i64 z] 33))) := ⟨⟨by simp [go_sem], by simp [go_sem], by simp [go_sem]⟩, Bf.out.alloc Bf.out.size _⟩
      generalize (wf.alloc (.cells #[.int .i64 x, .int .i64 y, .int .i64 z] 33)) = E at G ⊢
      obtain ⟨⟨y0, y1, y2⟩, BE⟩ := G.out
      have cE := belCell BE
      have u0 := (cE _ 0 lx).trans HX.out.1
      have u1 := (cE _ 1 lx).trans HX.out.2.1
      have u2 := (cE _ 2 lx).trans HX.out.2.2
      have B3 := Lib.hid (belStep B2.out BE)
      clear cE BE
      go_wp2_with fail
      refine (eqHead_same _ _ _ _).mono ?_
      rintro e w9 ⟨rfl, b9⟩
      cases k <;> (go_wp2; go_ret; exact ⟨rfl, belStep B3.out b9⟩)
    · have G : Hid ((((((wf).setCell ⟨we.heap.size, 0, none⟩ (.int .i64 x)).setCell ⟨we.heap.size, 1, none⟩ (.int .i64 y)).setCell ⟨we.heap.size, 2, none⟩ (.int .i64 z)).cell? ⟨we.heap.size, 0, none⟩ = some (.int .i64 x) ∧ ((((wf).setCell ⟨we.heap.size, 0, none⟩ (.int .i64 x)).setCell ⟨we.heap.size, 1, none⟩ (.int .i64 y)).setCell ⟨we.heap.size, 2, none⟩ (.int .i64 z)).cell? ⟨we.heap.size, 1, none⟩ = some (.int .i64 y) ∧ ((((wf).setCell ⟨we.heap.size, 0, none⟩ (.int .i64 x)).setCell ⟨we.heap.size, 1, none⟩ (.int .i64 y)).setCell ⟨we.heap.size, 2, none⟩ (.int .i64 z)).cell? ⟨we.heap.size, 2, none⟩ = some (.int .i64 z)) ∧ Below C.heap.size C ((((wf).setCell ⟨we.heap.size, 0, none⟩ (.int .i64 x)).setCell ⟨we.heap.size, 1, none⟩ (.int .i64 y)).setCell ⟨we.heap.size, 2, none⟩ (.int .i64 z))) := ⟨⟨by simp [go_sem, n0], by simp [go_sem, n1], by simp [go_sem, n2]⟩, ((Bf.out.setCell (by dsimp only; exact Be.out.size) _).setCell (by dsimp only; exact Be.out.size) _).setCell (by dsimp only; exact Be.out.size) _⟩
      generalize ((((wf).setCell ⟨we.heap.size, 0, none⟩ (.int .i64 x)).setCell ⟨we.heap.size, 1, none⟩ (.int .i64 y)).setCell ⟨we.heap.size, 2, none⟩ (.int .i64 z)) = E at G ⊢
      obtain ⟨⟨y0, y1, y2⟩, BE⟩ := G.out
      have cE := belCell BE
      have u0 := (cE _ 0 lx).trans HX.out.1
      have u1 := (cE _ 1 lx).trans HX.out.2.1
      have u2 := (cE _ 2 lx).trans HX.out.2.2
      have B3 := Lib.hid (belStep B2.out BE)
      clear cE BE
      go_wp2_with fail
      refine (eqHead_same _ _ _ _).mono ?_
      rintro e w9 ⟨rfl, b9⟩
      cases k <;> (go_wp2; go_ret; exact ⟨rfl, belStep B3.out b9⟩)
    · have G : Hid ((((((wf).setCell ⟨wd.heap.size, 0, none⟩ (.int .i64 x)).setCell ⟨wd.heap.size, 1, none⟩ (.int .i64 y)).setCell ⟨wd.heap.size, 2, none⟩ (.int .i64 z)).cell? ⟨wd.heap.size, 0, none⟩ = some (.int .i64 x) ∧ ((((wf).setCell ⟨wd.heap.size, 0, none⟩ (.int .i64 x)).setCell ⟨wd.heap.size, 1, none⟩ (.int .i64 y)).setCell ⟨wd.heap.size, 2, none⟩ (.int .i64 z)).cell? ⟨wd.heap.size, 1, none⟩ = some (.int .i64 y) ∧ ((((wf).setCell ⟨wd.heap.size, 0, none⟩ (.int .i64 x)).setCell ⟨wd.heap.size, 1, none⟩ (.int .i64 y)).setCell ⟨wd.heap.size, 2, none⟩ (.int .i64 z)).cell? ⟨wd.heap.size, 2, none⟩ = some (.int .i64 z)) ∧ Below C.heap.size C ((((wf).setCell ⟨wd.heap.size, 0, none⟩ (.int .i64 x)).setCell ⟨wd.heap.size, 1, none⟩ (.int .i64 y)).setCell ⟨wd.heap.size, 2, none⟩ (.int .i64 z))) := ⟨⟨by simp [go_sem, n0], by simp [go_sem, n1], by simp [go_sem, n2]⟩, ((Bf.out.setCell (by dsimp only; exact Bd.out.size) _).setCell (by dsimp only; exact Bd.out.size) _).setCell (by dsimp only; exact Bd.out.size) _⟩
      generalize ((((wf).setCell ⟨wd.heap.size, 0, none⟩ (.int .i64 x)).setCell ⟨wd.heap.size, 1, none⟩ (.int .i64 y)).setCell ⟨wd.heap.size, 2, none⟩ (.int .i64 z)) = E at G ⊢
      obtain ⟨⟨y0, y1, y2⟩, BE⟩ := G.out
      have cE := belCell BE
      have u0 := (cE _ 0 lx).trans HX.out.1
      have u1 := (cE _ 1 lx).trans HX.out.2.1
      have u2 := (cE _ 2 lx).trans HX.out.2.2
      have B3 := Lib.hid (belStep B2.out BE)
      clear cE BE
      go_wp2_with fail
      refine (eqHead_same _ _ _ _).mono ?_
      rintro e w9 ⟨rfl, b9⟩
      cases k <;> (go_wp2; go_ret; exact ⟨rfl, belStep B3.out b9⟩)
    · have G : Hid ((((((wf).setCell ⟨C.heap.size, 0, none⟩ (.int .i64 x)).setCell ⟨C.heap.size, 1, none⟩ (.int .i64 y)).setCell ⟨C.heap.size, 2, none⟩ (.int .i64 z)).cell? ⟨C.heap.size, 0, none⟩ = some (.int .i64 x) ∧ ((((wf).setCell ⟨C.heap.size, 0, none⟩ (.int .i64 x)).setCell ⟨C.heap.size, 1, none⟩ (.int .i64 y)).setCell ⟨C.heap.size, 2, none⟩ (.int .i64 z)).cell? ⟨C.heap.size, 1, none⟩ = some (.int .i64 y) ∧ ((((wf).setCell ⟨C.heap.size, 0, none⟩ (.int .i64 x)).setCell ⟨C.heap.size, 1, none⟩ (.int .i64 y)).setCell ⟨C.heap.size, 2, none⟩ (.int .i64 z)).cell? ⟨C.heap.size, 2, none⟩ = some (.int .i64 z)) ∧ Below C.heap.size C ((((wf).setCell ⟨C.heap.size, 0, none⟩ (.int .i64 x)).setCell ⟨C.heap.size, 1, none⟩ (.int .i64 y)).setCell ⟨C.heap.size, 2, none⟩ (.int .i64 z))) := ⟨⟨by simp [go_sem, n0], by simp [go_sem, n1], by simp [go_sem, n2]⟩, ((Bf.out.setCell (Nat.le_refl _) _).setCell (Nat.le_refl _) _).setCell (Nat.le_refl _) _⟩
      generalize ((((wf).setCell ⟨C.heap.size, 0, none⟩ (.int .i64 x)).setCell ⟨C.heap.size, 1, none⟩ (.int .i64 y)).setCell ⟨C.heap.size, 2, none⟩ (.int .i64 z)) = E at G ⊢
      obtain ⟨⟨y0, y1, y2⟩, BE⟩ := G.out
      have cE := belCell BE
      have u0 := (cE _ 0 lx).trans HX.out.1
      have u1 := (cE _ 1 lx).trans HX.out.2.1
      have u2 := (cE _ 2 lx).trans HX.out.2.2
      have B3 := Lib.hid (belStep B2.out BE)
      clear cE BE
      go_wp2_with fail
      refine (eqHead_same _ _ _ _).mono ?_
      rintro e w9 ⟨rfl, b9⟩
      cases k <;> (go_wp2; go_ret; exact ⟨rfl, belStep B3.out b9⟩)
  · have F : Hid ((((((wc).setCell ⟨wb.heap.size, 0, none⟩ (.int .i64 x)).setCell ⟨wb.heap.size, 1, none⟩ (.int .i64 y)).setCell ⟨wb.heap.size, 2, none⟩ (.int .i64 z)).cell? ⟨wb.heap.size, 0, none⟩ = some (.int .i64 x) ∧ ((((wc).setCell ⟨wb.heap.size, 0, none⟩ (.int .i64 x)).setCell ⟨wb.heap.size, 1, none⟩ (.int .i64 y)).setCell ⟨wb.heap.size, 2, none⟩ (.int .i64 z)).cell? ⟨wb.heap.size, 1, none⟩ = some (.int .i64 y) ∧ ((((wc).setCell ⟨wb.heap.size, 0, none⟩ (.int .i64 x)).setCell ⟨wb.heap.size, 1, none⟩ (.int .i64 y)).setCell ⟨wb.heap.size, 2, none⟩ (.int .i64 z)).cell? ⟨wb.heap.size, 2, none⟩ = some (.int .i64 z)) ∧ Below w1.heap.size w1 ((((wc).setCell ⟨wb.heap.size, 0, none⟩ (.int .i64 x)).setCell ⟨wb.heap.size, 1, none⟩ (.int .i64 y)).setCell ⟨wb.heap.size, 2, none⟩ (.int .i64 z))) := ⟨⟨by simp [go_sem, n0], by simp [go_sem, n1], by simp [go_sem, n2]⟩, ((Bc.out.setCell (by dsimp only; exact Bb.out.size) _).setCell (by dsimp only; exact Bb.out.size) _).setCell (by dsimp only; exact Bb.out.size) _⟩
    generalize ((((wc).setCell ⟨wb.heap.size, 0, none⟩ (.int .i64 x)).setCell ⟨wb.heap.size, 1, none⟩ (.int .i64 y)).setCell ⟨wb.heap.size, 2, none⟩ (.int .i64 z)) = C at F ⊢
    obtain ⟨⟨x0, x1, x2⟩, BC⟩ := F.out
    have HX := Lib.hid (And.intro x0 (And.intro x1 x2))
    have HEC := Lib.hid (HE1.out.below BC)
    have B2 := Lib.hid (belStep B1.out BC)
    have HS2 : Hid (∀ w' : World, Below C.heap.size C w' → (w'.cell? ⟨w.heap.size, 0, none⟩ = some (.int .i64 p) ∧ w'.cell? ⟨w.heap.size, 1, none⟩ = some (.string s) ∧ w'.cell? ⟨w.heap.size, 2, none⟩ = some (.int .i64 o) ∧ w'.cell? ⟨w.heap.size, 3, none⟩ = some (.int .i64 t) ∧ w'.cell? ⟨w.heap.size + 1, 0, none⟩ = some (.int .i64 a) ∧ w'.cell? ⟨w.heap.size + 1, 1, none⟩ = some (.int .i64 b) ∧ w'.cell? ⟨w.heap.size + 1, 2, none⟩ = some (.int .i64 c) ∧ Below C.heap.size C w')) := by
      intro w' hb
      obtain ⟨a1, a2, a3, a4, a5, a6, a7, -⟩ := HS.out w' (belStep F.out.2 hb)
      exact ⟨a1, a2, a3, a4, a5, a6, a7, hb⟩
    have lx : wb.heap.size < C.heap.size := World.block_lt_of_cell? C ⟨wb.heap.size, 0, none⟩ x0
    clear x0 x1 x2 BC
    go_wp2
    go_region_held3 (fun w' => w'.cell? ⟨w.heap.size, 0, none⟩ = some (.int .i64 p) ∧ w'.cell? ⟨w.heap.size, 1, none⟩ = some (.string s) ∧ w'.cell? ⟨w.heap.size, 2, none⟩ = some (.int .i64 o) ∧ w'.cell? ⟨w.heap.size, 3, none⟩ = some (.int .i64 t) ∧ w'.cell? ⟨w.heap.size + 1, 0, none⟩ = some (.int .i64 a) ∧ w'.cell? ⟨w.heap.size + 1, 1, none⟩ = some (.int .i64 b) ∧ w'.cell? ⟨w.heap.size + 1, 2, none⟩ = some (.int .i64 c) ∧ Below C.heap.size C w')
        (first | assumption | exact HS2.out _ ((Below.refl _ _).drew) | exact HS2.out _ Bf.out | exact HS2.out _ Be.out | exact HS2.out _ Bd.out | exact HS2.out _ (Below.alloc Bf.out (Below.size Bf.out) _) | exact HS2.out _ (Below.alloc Be.out (Below.size Be.out) _) | exact HS2.out _ (Below.alloc Bd.out (Below.size Bd.out) _) | exact HS2.out _ (Below.alloc ((Below.refl _ _).drew) (Nat.le_refl _) _) | exact HS2.out _ (((Bf.out.setCell (by dsimp only; first | exact Nat.le_refl _ | exact Bd.out.size | exact Be.out.size | exact Bf.out.size) _).setCell (by dsimp only; first | exact Nat.le_refl _ | exact Bd.out.size | exact Be.out.size | exact Bf.out.size) _).setCell (by dsimp only; first | exact Nat.le_refl _ | exact Bd.out.size | exact Be.out.size | exact Bf.out.size) _))
        (first
          | (go_at_call 33; ((with_reducible refine (toRule_any _ _ _ _ _).mono ?_); rintro e wd ⟨rfl, hq⟩; go_split_ands; have Bd := Lib.hid (belStep (show Below C.heap.size C _ by assumption) hq); (first | have NX := Lib.hid (belNew hq) | have NX := Lib.hid (belNewD hq) | have NX := Lib.hid (belOld hq (Hid.out (by assumption))) | skip); (first | obtain ⟨n0, n1, n2, nf⟩ := NX.out | skip)))
          | (go_at_call 35; ((with_reducible refine (toHead_any _ _ _ _).mono ?_); rintro e we ⟨rfl, hq⟩; go_split_ands; have Be := Lib.hid (belStep (show Below C.heap.size C _ by assumption) hq); (first | have NX := Lib.hid (belNew hq) | have NX := Lib.hid (belNewD hq) | have NX := Lib.hid (belOld hq (Hid.out (by assumption))) | skip); (first | obtain ⟨n0, n1, n2, nf⟩ := NX.out | skip)))
          | (go_at_call 23; ((with_reducible refine (HI.out _ ?_).mono ?_); (go_split_ands; exact HEC.out.below (by assumption)); rintro e wf ⟨rfl, hq⟩; go_split_ands; have Bf := Lib.hid (belStep (show Below C.heap.size C _ by assumption) hq); (first | have NX := Lib.hid (belNew hq) | have NX := Lib.hid (belNewD hq) | have NX := Lib.hid (belOld hq (Hid.out (by assumption))) | skip); (first | obtain ⟨n0, n1, n2, nf⟩ := NX.out | skip))))
    · have G : Hid (((wf.alloc (.cells #[.int .i64 x, .int .i64 y, .int .i64 z] 33)).cell? ⟨wf.heap.size, 0, none⟩ = some (.int .i64 x) ∧ (wf.alloc (.cells #[.int .i64 x, .int .i64 y, .int .i64 z] 33)).cell? ⟨wf.heap.size, 1, none⟩ = some (.int .i64 y) ∧ (wf.alloc (.cells #[.int .i64 x, .int .i64 y, .int .i64 z] 33)).cell? ⟨wf.heap.size, 2, none⟩ = some (.int .i64 z)) ∧ Below C.heap.size C (wf.alloc (.cells #[.int .i64 x, .int .i64 y, .int .i64 z] 33))) := ⟨⟨by simp [go_sem], by simp [go_sem], by simp [go_sem]⟩, Bf.out.alloc Bf.out.size _⟩
      generalize (wf.alloc (.cells #[.int .i64 x, .int .i64 y, .int .i64 z] 33)) = E at G ⊢
      obtain ⟨⟨y0, y1, y2⟩, BE⟩ := G.out
      have cE := belCell BE
      have u0 := (cE _ 0 lx).trans HX.out.1
      have u1 := (cE _ 1 lx).trans HX.out.2.1
      have u2 := (cE _ 2 lx).trans HX.out.2.2
      have B3 := Lib.hid (belStep B2.out BE)
      clear cE BE
      go_wp2_with fail
      refine (eqHead_same _ _ _ _).mono ?_
      rintro e w9 ⟨rfl, b9⟩
      cases k <;> (go_wp2; go_ret; exact ⟨rfl, belStep B3.out b9⟩)
    · have G : Hid ((((((wf).setCell ⟨we.heap.size, 0, none⟩ (.int .i64 x)).setCell ⟨we.heap.size, 1, none⟩ (.int .i64 y)).setCell ⟨we.heap.size, 2, none⟩ (.int .i64 z)).cell? ⟨we.heap.size, 0, none⟩ = some (.int .i64 x) ∧ ((((wf).setCell ⟨we.heap.size, 0, none⟩ (.int .i64 x)).setCell ⟨we.heap.size, 1, none⟩ (.int .i64 y)).setCell ⟨we.heap.size, 2, none⟩ (.int .i64 z)).cell? ⟨we.heap.size, 1, none⟩ = some (.int .i64 y) ∧ ((((wf).setCell ⟨we.heap.size, 0, none⟩ (.int .i64 x)).setCell ⟨we.heap.size, 1, none⟩ (.int .i64 y)).setCell ⟨we.heap.size, 2, none⟩ (.int .i64 z)).cell? ⟨we.heap.size, 2, none⟩ = some (.int .i64 z)) ∧ Below C.heap.size C ((((wf).setCell ⟨we.heap.size, 0, none⟩ (.int .i64 x)).setCell ⟨we.heap.size, 1, none⟩ (.int .i64 y)).setCell ⟨we.heap.size, 2, none⟩ (.int .i64 z))) := ⟨⟨by simp [go_sem, n0], by simp [go_sem, n1], by simp [go_sem, n2]⟩, ((Bf.out.setCell (by dsimp only; exact Be.out.size) _).setCell (by dsimp only; exact Be.out.size) _).setCell (by dsimp only; exact Be.out.size) _⟩
      generalize ((((wf).setCell ⟨we.heap.size, 0, none⟩ (.int .i64 x)).setCell ⟨we.heap.size, 1, none⟩ (.int .i64 y)).setCell ⟨we.heap.size, 2, none⟩ (.int .i64 z)) = E at G ⊢
      obtain ⟨⟨y0, y1, y2⟩, BE⟩ := G.out
      have cE := belCell BE
      have u0 := (cE _ 0 lx).trans HX.out.1
      have u1 := (cE _ 1 lx).trans HX.out.2.1
      have u2 := (cE _ 2 lx).trans HX.out.2.2
      have B3 := Lib.hid (belStep B2.out BE)
      clear cE BE
      go_wp2_with fail
      refine (eqHead_same _ _ _ _).mono ?_
      rintro e w9 ⟨rfl, b9⟩
      cases k <;> (go_wp2; go_ret; exact ⟨rfl, belStep B3.out b9⟩)
    · have G : Hid ((((((wf).setCell ⟨wd.heap.size, 0, none⟩ (.int .i64 x)).setCell ⟨wd.heap.size, 1, none⟩ (.int .i64 y)).setCell ⟨wd.heap.size, 2, none⟩ (.int .i64 z)).cell? ⟨wd.heap.size, 0, none⟩ = some (.int .i64 x) ∧ ((((wf).setCell ⟨wd.heap.size, 0, none⟩ (.int .i64 x)).setCell ⟨wd.heap.size, 1, none⟩ (.int .i64 y)).setCell ⟨wd.heap.size, 2, none⟩ (.int .i64 z)).cell? ⟨wd.heap.size, 1, none⟩ = some (.int .i64 y) ∧ ((((wf).setCell ⟨wd.heap.size, 0, none⟩ (.int .i64 x)).setCell ⟨wd.heap.size, 1, none⟩ (.int .i64 y)).setCell ⟨wd.heap.size, 2, none⟩ (.int .i64 z)).cell? ⟨wd.heap.size, 2, none⟩ = some (.int .i64 z)) ∧ Below C.heap.size C ((((wf).setCell ⟨wd.heap.size, 0, none⟩ (.int .i64 x)).setCell ⟨wd.heap.size, 1, none⟩ (.int .i64 y)).setCell ⟨wd.heap.size, 2, none⟩ (.int .i64 z))) := ⟨⟨by simp [go_sem, n0], by simp [go_sem, n1], by simp [go_sem, n2]⟩, ((Bf.out.setCell (by dsimp only; exact Bd.out.size) _).setCell (by dsimp only; exact Bd.out.size) _).setCell (by dsimp only; exact Bd.out.size) _⟩
      generalize ((((wf).setCell ⟨wd.heap.size, 0, none⟩ (.int .i64 x)).setCell ⟨wd.heap.size, 1, none⟩ (.int .i64 y)).setCell ⟨wd.heap.size, 2, none⟩ (.int .i64 z)) = E at G ⊢
      obtain ⟨⟨y0, y1, y2⟩, BE⟩ := G.out
      have cE := belCell BE
      have u0 := (cE _ 0 lx).trans HX.out.1
      have u1 := (cE _ 1 lx).trans HX.out.2.1
      have u2 := (cE _ 2 lx).trans HX.out.2.2
      have B3 := Lib.hid (belStep B2.out BE)
      clear cE BE
      go_wp2_with fail
      refine (eqHead_same _ _ _ _).mono ?_
      rintro e w9 ⟨rfl, b9⟩
      cases k <;> (go_wp2; go_ret; exact ⟨rfl, belStep B3.out b9⟩)
    · have G : Hid ((((((wf).setCell ⟨C.heap.size, 0, none⟩ (.int .i64 x)).setCell ⟨C.heap.size, 1, none⟩ (.int .i64 y)).setCell ⟨C.heap.size, 2, none⟩ (.int .i64 z)).cell? ⟨C.heap.size, 0, none⟩ = some (.int .i64 x) ∧ ((((wf).setCell ⟨C.heap.size, 0, none⟩ (.int .i64 x)).setCell ⟨C.heap.size, 1, none⟩ (.int .i64 y)).setCell ⟨C.heap.size, 2, none⟩ (.int .i64 z)).cell? ⟨C.heap.size, 1, none⟩ = some (.int .i64 y) ∧ ((((wf).setCell ⟨C.heap.size, 0, none⟩ (.int .i64 x)).setCell ⟨C.heap.size, 1, none⟩ (.int .i64 y)).setCell ⟨C.heap.size, 2, none⟩ (.int .i64 z)).cell? ⟨C.heap.size, 2, none⟩ = some (.int .i64 z)) ∧ Below C.heap.size C ((((wf).setCell ⟨C.heap.size, 0, none⟩ (.int .i64 x)).setCell ⟨C.heap.size, 1, none⟩ (.int .i64 y)).setCell ⟨C.heap.size, 2, none⟩ (.int .i64 z))) := ⟨⟨by simp [go_sem, n0], by simp [go_sem, n1], by simp [go_sem, n2]⟩, ((Bf.out.setCell (Nat.le_refl _) _).setCell (Nat.le_refl _) _).setCell (Nat.le_refl _) _⟩
      generalize ((((wf).setCell ⟨C.heap.size, 0, none⟩ (.int .i64 x)).setCell ⟨C.heap.size, 1, none⟩ (.int .i64 y)).setCell ⟨C.heap.size, 2, none⟩ (.int .i64 z)) = E at G ⊢
      obtain ⟨⟨y0, y1, y2⟩, BE⟩ := G.out
      have cE := belCell BE
      have u0 := (cE _ 0 lx).trans HX.out.1
      have u1 := (cE _ 1 lx).trans HX.out.2.1
      have u2 := (cE _ 2 lx).trans HX.out.2.2
      have B3 := Lib.hid (belStep B2.out BE)
      clear cE BE
      go_wp2_with fail
      refine (eqHead_same _ _ _ _).mono ?_
      rintro e w9 ⟨rfl, b9⟩
      cases k <;> (go_wp2; go_ret; exact ⟨rfl, belStep B3.out b9⟩)
  · have F : Hid ((((((wc).setCell ⟨wa.heap.size, 0, none⟩ (.int .i64 x)).setCell ⟨wa.heap.size, 1, none⟩ (.int .i64 y)).setCell ⟨wa.heap.size, 2, none⟩ (.int .i64 z)).cell? ⟨wa.heap.size, 0, none⟩ = some (.int .i64 x) ∧ ((((wc).setCell ⟨wa.heap.size, 0, none⟩ (.int .i64 x)).setCell ⟨wa.heap.size, 1, none⟩ (.int .i64 y)).setCell ⟨wa.heap.size, 2, none⟩ (.int .i64 z)).cell? ⟨wa.heap.size, 1, none⟩ = some (.int .i64 y) ∧ ((((wc).setCell ⟨wa.heap.size, 0, none⟩ (.int .i64 x)).setCell ⟨wa.heap.size, 1, none⟩ (.int .i64 y)).setCell ⟨wa.heap.size, 2, none⟩ (.int .i64 z)).cell? ⟨wa.heap.size, 2, none⟩ = some (.int .i64 z)) ∧ Below w1.heap.size w1 ((((wc).setCell ⟨wa.heap.size, 0, none⟩ (.int .i64 x)).setCell ⟨wa.heap.size, 1, none⟩ (.int .i64 y)).setCell ⟨wa.heap.size, 2, none⟩ (.int .i64 z))) := ⟨⟨by simp [go_sem, n0], by simp [go_sem, n1], by simp [go_sem, n2]⟩, ((Bc.out.setCell (by dsimp only; exact Ba.out.size) _).setCell (by dsimp only; exact Ba.out.size) _).setCell (by dsimp only; exact Ba.out.size) _⟩
    generalize ((((wc).setCell ⟨wa.heap.size, 0, none⟩ (.int .i64 x)).setCell ⟨wa.heap.size, 1, none⟩ (.int .i64 y)).setCell ⟨wa.heap.size, 2, none⟩ (.int .i64 z)) = C at F ⊢
    obtain ⟨⟨x0, x1, x2⟩, BC⟩ := F.out
    have HX := Lib.hid (And.intro x0 (And.intro x1 x2))
    have HEC := Lib.hid (HE1.out.below BC)
    have B2 := Lib.hid (belStep B1.out BC)
    have HS2 : Hid (∀ w' : World, Below C.heap.size C w' → (w'.cell? ⟨w.heap.size, 0, none⟩ = some (.int .i64 p) ∧ w'.cell? ⟨w.heap.size, 1, none⟩ = some (.string s) ∧ w'.cell? ⟨w.heap.size, 2, none⟩ = some (.int .i64 o) ∧ w'.cell? ⟨w.heap.size, 3, none⟩ = some (.int .i64 t) ∧ w'.cell? ⟨w.heap.size + 1, 0, none⟩ = some (.int .i64 a) ∧ w'.cell? ⟨w.heap.size + 1, 1, none⟩ = some (.int .i64 b) ∧ w'.cell? ⟨w.heap.size + 1, 2, none⟩ = some (.int .i64 c) ∧ Below C.heap.size C w')) := by
      intro w' hb
      obtain ⟨a1, a2, a3, a4, a5, a6, a7, -⟩ := HS.out w' (belStep F.out.2 hb)
      exact ⟨a1, a2, a3, a4, a5, a6, a7, hb⟩
    have lx : wa.heap.size < C.heap.size := World.block_lt_of_cell? C ⟨wa.heap.size, 0, none⟩ x0
    clear x0 x1 x2 BC
    go_wp2
    go_region_held3 (fun w' => w'.cell? ⟨w.heap.size, 0, none⟩ = some (.int .i64 p) ∧ w'.cell? ⟨w.heap.size, 1, none⟩ = some (.string s) ∧ w'.cell? ⟨w.heap.size, 2, none⟩ = some (.int .i64 o) ∧ w'.cell? ⟨w.heap.size, 3, none⟩ = some (.int .i64 t) ∧ w'.cell? ⟨w.heap.size + 1, 0, none⟩ = some (.int .i64 a) ∧ w'.cell? ⟨w.heap.size + 1, 1, none⟩ = some (.int .i64 b) ∧ w'.cell? ⟨w.heap.size + 1, 2, none⟩ = some (.int .i64 c) ∧ Below C.heap.size C w')
        (first | assumption | exact HS2.out _ ((Below.refl _ _).drew) | exact HS2.out _ Bf.out | exact HS2.out _ Be.out | exact HS2.out _ Bd.out | exact HS2.out _ (Below.alloc Bf.out (Below.size Bf.out) _) | exact HS2.out _ (Below.alloc Be.out (Below.size Be.out) _) | exact HS2.out _ (Below.alloc Bd.out (Below.size Bd.out) _) | exact HS2.out _ (Below.alloc ((Below.refl _ _).drew) (Nat.le_refl _) _) | exact HS2.out _ (((Bf.out.setCell (by dsimp only; first | exact Nat.le_refl _ | exact Bd.out.size | exact Be.out.size | exact Bf.out.size) _).setCell (by dsimp only; first | exact Nat.le_refl _ | exact Bd.out.size | exact Be.out.size | exact Bf.out.size) _).setCell (by dsimp only; first | exact Nat.le_refl _ | exact Bd.out.size | exact Be.out.size | exact Bf.out.size) _))
        (first
          | (go_at_call 33; ((with_reducible refine (toRule_any _ _ _ _ _).mono ?_); rintro e wd ⟨rfl, hq⟩; go_split_ands; have Bd := Lib.hid (belStep (show Below C.heap.size C _ by assumption) hq); (first | have NX := Lib.hid (belNew hq) | have NX := Lib.hid (belNewD hq) | have NX := Lib.hid (belOld hq (Hid.out (by assumption))) | skip); (first | obtain ⟨n0, n1, n2, nf⟩ := NX.out | skip)))
          | (go_at_call 35; ((with_reducible refine (toHead_any _ _ _ _).mono ?_); rintro e we ⟨rfl, hq⟩; go_split_ands; have Be := Lib.hid (belStep (show Below C.heap.size C _ by assumption) hq); (first | have NX := Lib.hid (belNew hq) | have NX := Lib.hid (belNewD hq) | have NX := Lib.hid (belOld hq (Hid.out (by assumption))) | skip); (first | obtain ⟨n0, n1, n2, nf⟩ := NX.out | skip)))
          | (go_at_call 23; ((with_reducible refine (HI.out _ ?_).mono ?_); (go_split_ands; exact HEC.out.below (by assumption)); rintro e wf ⟨rfl, hq⟩; go_split_ands; have Bf := Lib.hid (belStep (show Below C.heap.size C _ by assumption) hq); (first | have NX := Lib.hid (belNew hq) | have NX := Lib.hid (belNewD hq) | have NX := Lib.hid (belOld hq (Hid.out (by assumption))) | skip); (first | obtain ⟨n0, n1, n2, nf⟩ := NX.out | skip))))
    · have G : Hid (((wf.alloc (.cells #[.int .i64 x, .int .i64 y, .int .i64 z] 33)).cell? ⟨wf.heap.size, 0, none⟩ = some (.int .i64 x) ∧ (wf.alloc (.cells #[.int .i64 x, .int .i64 y, .int .i64 z] 33)).cell? ⟨wf.heap.size, 1, none⟩ = some (.int .i64 y) ∧ (wf.alloc (.cells #[.int .i64 x, .int .i64 y, .int .i64 z] 33)).cell? ⟨wf.heap.size, 2, none⟩ = some (.int .i64 z)) ∧ Below C.heap.size C (wf.alloc (.cells #[.int .i64 x, .int .i64 y, .int .i64 z] 33))) := ⟨⟨by simp [go_sem], by simp [go_sem], by simp [go_sem]⟩, Bf.out.alloc Bf.out.size _⟩
      generalize (wf.alloc (.cells #[.int .i64 x, .int .i64 y, .int .i64 z] 33)) = E at G ⊢
      obtain ⟨⟨y0, y1, y2⟩, BE⟩ := G.out
      have cE := belCell BE
      have u0 := (cE _ 0 lx).trans HX.out.1
      have u1 := (cE _ 1 lx).trans HX.out.2.1
      have u2 := (cE _ 2 lx).trans HX.out.2.2
      have B3 := Lib.hid (belStep B2.out BE)
      clear cE BE
      go_wp2_with fail
      refine (eqHead_same _ _ _ _).mono ?_
      rintro e w9 ⟨rfl, b9⟩
      cases k <;> (go_wp2; go_ret; exact ⟨rfl, belStep B3.out b9⟩)
    · have G : Hid ((((((wf).setCell ⟨we.heap.size, 0, none⟩ (.int .i64 x)).setCell ⟨we.heap.size, 1, none⟩ (.int .i64 y)).setCell ⟨we.heap.size, 2, none⟩ (.int .i64 z)).cell? ⟨we.heap.size, 0, none⟩ = some (.int .i64 x) ∧ ((((wf).setCell ⟨we.heap.size, 0, none⟩ (.int .i64 x)).setCell ⟨we.heap.size, 1, none⟩ (.int .i64 y)).setCell ⟨we.heap.size, 2, none⟩ (.int .i64 z)).cell? ⟨we.heap.size, 1, none⟩ = some (.int .i64 y) ∧ ((((wf).setCell ⟨we.heap.size, 0, none⟩ (.int .i64 x)).setCell ⟨we.heap.size, 1, none⟩ (.int .i64 y)).setCell ⟨we.heap.size, 2, none⟩ (.int .i64 z)).cell? ⟨we.heap.size, 2, none⟩ = some (.int .i64 z)) ∧ Below C.heap.size C ((((wf).setCell ⟨we.heap.size, 0, none⟩ (.int .i64 x)).setCell ⟨we.heap.size, 1, none⟩ (.int .i64 y)).setCell ⟨we.heap.size, 2, none⟩ (.int .i64 z))) := ⟨⟨by simp [go_sem, n0], by simp [go_sem, n1], by simp [go_sem, n2]⟩, ((Bf.out.setCell (by dsimp only; exact Be.out.size) _).setCell (by dsimp only; exact Be.out.size) _).setCell (by dsimp only; exact Be.out.size) _⟩
      generalize ((((wf).setCell ⟨we.heap.size, 0, none⟩ (.int .i64 x)).setCell ⟨we.heap.size, 1, none⟩ (.int .i64 y)).setCell ⟨we.heap.size, 2, none⟩ (.int .i64 z)) = E at G ⊢
      obtain ⟨⟨y0, y1, y2⟩, BE⟩ := G.out
      have cE := belCell BE
      have u0 := (cE _ 0 lx).trans HX.out.1
      have u1 := (cE _ 1 lx).trans HX.out.2.1
      have u2 := (cE _ 2 lx).trans HX.out.2.2
      have B3 := Lib.hid (belStep B2.out BE)
      clear cE BE
      go_wp2_with fail
      refine (eqHead_same _ _ _ _).mono ?_
      rintro e w9 ⟨rfl, b9⟩
      cases k <;> (go_wp2; go_ret; exact ⟨rfl, belStep B3.out b9⟩)
    · have G : Hid ((((((wf).setCell ⟨wd.heap.size, 0, none⟩ (.int .i64 x)).setCell ⟨wd.heap.size, 1, none⟩ (.int .i64 y)).setCell ⟨wd.heap.size, 2, none⟩ (.int .i64 z)).cell? ⟨wd.heap.size, 0, none⟩ = some (.int .i64 x) ∧ ((((wf).setCell ⟨wd.heap.size, 0, none⟩ (.int .i64 x)).setCell ⟨wd.heap.size, 1, none⟩ (.int .i64 y)).setCell ⟨wd.heap.size, 2, none⟩ (.int .i64 z)).cell? ⟨wd.heap.size, 1, none⟩ = some (.int .i64 y) ∧ ((((wf).setCell ⟨wd.heap.size, 0, none⟩ (.int .i64 x)).setCell ⟨wd.heap.size, 1, none⟩ (.int .i64 y)).setCell ⟨wd.heap.size, 2, none⟩ (.int .i64 z)).cell? ⟨wd.heap.size, 2, none⟩ = some (.int .i64 z)) ∧ Below C.heap.size C ((((wf).setCell ⟨wd.heap.size, 0, none⟩ (.int .i64 x)).setCell ⟨wd.heap.size, 1, none⟩ (.int .i64 y)).setCell ⟨wd.heap.size, 2, none⟩ (.int .i64 z))) := ⟨⟨by simp [go_sem, n0], by simp [go_sem, n1], by simp [go_sem, n2]⟩, ((Bf.out.setCell (by dsimp only; exact Bd.out.size) _).setCell (by dsimp only; exact Bd.out.size) _).setCell (by dsimp only; exact Bd.out.size) _⟩
      generalize ((((wf).setCell ⟨wd.heap.size, 0, none⟩ (.int .i64 x)).setCell ⟨wd.heap.size, 1, none⟩ (.int .i64 y)).setCell ⟨wd.heap.size, 2, none⟩ (.int .i64 z)) = E at G ⊢
      obtain ⟨⟨y0, y1, y2⟩, BE⟩ := G.out
      have cE := belCell BE
      have u0 := (cE _ 0 lx).trans HX.out.1
      have u1 := (cE _ 1 lx).trans HX.out.2.1
      have u2 := (cE _ 2 lx).trans HX.out.2.2
      have B3 := Lib.hid (belStep B2.out BE)
      clear cE BE
      go_wp2_with fail
      refine (eqHead_same _ _ _ _).mono ?_
      rintro e w9 ⟨rfl, b9⟩
      cases k <;> (go_wp2; go_ret; exact ⟨rfl, belStep B3.out b9⟩)
    · have G : Hid ((((((wf).setCell ⟨C.heap.size, 0, none⟩ (.int .i64 x)).setCell ⟨C.heap.size, 1, none⟩ (.int .i64 y)).setCell ⟨C.heap.size, 2, none⟩ (.int .i64 z)).cell? ⟨C.heap.size, 0, none⟩ = some (.int .i64 x) ∧ ((((wf).setCell ⟨C.heap.size, 0, none⟩ (.int .i64 x)).setCell ⟨C.heap.size, 1, none⟩ (.int .i64 y)).setCell ⟨C.heap.size, 2, none⟩ (.int .i64 z)).cell? ⟨C.heap.size, 1, none⟩ = some (.int .i64 y) ∧ ((((wf).setCell ⟨C.heap.size, 0, none⟩ (.int .i64 x)).setCell ⟨C.heap.size, 1, none⟩ (.int .i64 y)).setCell ⟨C.heap.size, 2, none⟩ (.int .i64 z)).cell? ⟨C.heap.size, 2, none⟩ = some (.int .i64 z)) ∧ Below C.heap.size C ((((wf).setCell ⟨C.heap.size, 0, none⟩ (.int .i64 x)).setCell ⟨C.heap.size, 1, none⟩ (.int .i64 y)).setCell ⟨C.heap.size, 2, none⟩ (.int .i64 z))) := ⟨⟨by simp [go_sem, n0], by simp [go_sem, n1], by simp [go_sem, n2]⟩, ((Bf.out.setCell (Nat.le_refl _) _).setCell (Nat.le_refl _) _).setCell (Nat.le_refl _) _⟩
      generalize ((((wf).setCell ⟨C.heap.size, 0, none⟩ (.int .i64 x)).setCell ⟨C.heap.size, 1, none⟩ (.int .i64 y)).setCell ⟨C.heap.size, 2, none⟩ (.int .i64 z)) = E at G ⊢
      obtain ⟨⟨y0, y1, y2⟩, BE⟩ := G.out
      have cE := belCell BE
      have u0 := (cE _ 0 lx).trans HX.out.1
      have u1 := (cE _ 1 lx).trans HX.out.2.1
      have u2 := (cE _ 2 lx).trans HX.out.2.2
      have B3 := Lib.hid (belStep B2.out BE)
      clear cE BE
      go_wp2_with fail
      refine (eqHead_same _ _ _ _).mono ?_
      rintro e w9 ⟨rfl, b9⟩
      cases k <;> (go_wp2; go_ret; exact ⟨rfl, belStep B3.out b9⟩)
  · have F : Hid ((((((wc).setCell ⟨w1.heap.size, 0, none⟩ (.int .i64 x)).setCell ⟨w1.heap.size, 1, none⟩ (.int .i64 y)).setCell ⟨w1.heap.size, 2, none⟩ (.int .i64 z)).cell? ⟨w1.heap.size, 0, none⟩ = some (.int .i64 x) ∧ ((((wc).setCell ⟨w1.heap.size, 0, none⟩ (.int .i64 x)).setCell ⟨w1.heap.size, 1, none⟩ (.int .i64 y)).setCell ⟨w1.heap.size, 2, none⟩ (.int .i64 z)).cell? ⟨w1.heap.size, 1, none⟩ = some (.int .i64 y) ∧ ((((wc).setCell ⟨w1.heap.size, 0, none⟩ (.int .i64 x)).setCell ⟨w1.heap.size, 1, none⟩ (.int .i64 y)).setCell ⟨w1.heap.size, 2, none⟩ (.int .i64 z)).cell? ⟨w1.heap.size, 2, none⟩ = some (.int .i64 z)) ∧ Below w1.heap.size w1 ((((wc).setCell ⟨w1.heap.size, 0, none⟩ (.int .i64 x)).setCell ⟨w1.heap.size, 1, none⟩ (.int .i64 y)).setCell ⟨w1.heap.size, 2, none⟩ (.int .i64 z))) := ⟨⟨by simp [go_sem, n0], by simp [go_sem, n1], by simp [go_sem, n2]⟩, ((Bc.out.setCell (Nat.le_refl _) _).setCell (Nat.le_refl _) _).setCell (Nat.le_refl _) _⟩
    generalize ((((wc).setCell ⟨w1.heap.size, 0, none⟩ (.int .i64 x)).setCell ⟨w1.heap.size, 1, none⟩ (.int .i64 y)).setCell ⟨w1.heap.size, 2, none⟩ (.int .i64 z)) = C at F ⊢
    obtain ⟨⟨x0, x1, x2⟩, BC⟩ := F.out
    have HX := Lib.hid (And.intro x0 (And.intro x1 x2))
    have HEC := Lib.hid (HE1.out.below BC)
    have B2 := Lib.hid (belStep B1.out BC)
    have HS2 : Hid (∀ w' : World, Below C.heap.size C w' → (w'.cell? ⟨w.heap.size, 0, none⟩ = some (.int .i64 p) ∧ w'.cell? ⟨w.heap.size, 1, none⟩ = some (.string s) ∧ w'.cell? ⟨w.heap.size, 2, none⟩ = some (.int .i64 o) ∧ w'.cell? ⟨w.heap.size, 3, none⟩ = some (.int .i64 t) ∧ w'.cell? ⟨w.heap.size + 1, 0, none⟩ = some (.int .i64 a) ∧ w'.cell? ⟨w.heap.size + 1, 1, none⟩ = some (.int .i64 b) ∧ w'.cell? ⟨w.heap.size + 1, 2, none⟩ = some (.int .i64 c) ∧ Below C.heap.size C w')) := by
      intro w' hb
      obtain ⟨a1, a2, a3, a4, a5, a6, a7, -⟩ := HS.out w' (belStep F.out.2 hb)
      exact ⟨a1, a2, a3, a4, a5, a6, a7, hb⟩
    have lx : w1.heap.size < C.heap.size := World.block_lt_of_cell? C ⟨w1.heap.size, 0, none⟩ x0
    clear x0 x1 x2 BC
    go_wp2
    go_region_held3 (fun w' => w'.cell? ⟨w.heap.size, 0, none⟩ = some (.int .i64 p) ∧ w'.cell? ⟨w.heap.size, 1, none⟩ = some (.string s) ∧ w'.cell? ⟨w.heap.size, 2, none⟩ = some (.int .i64 o) ∧ w'.cell? ⟨w.heap.size, 3, none⟩ = some (.int .i64 t) ∧ w'.cell? ⟨w.heap.size + 1, 0, none⟩ = some (.int .i64 a) ∧ w'.cell? ⟨w.heap.size + 1, 1, none⟩ = some (.int .i64 b) ∧ w'.cell? ⟨w.heap.size + 1, 2, none⟩ = some (.int .i64 c) ∧ Below C.heap.size C w')
        (first | assumption | exact HS2.out _ ((Below.refl _ _).drew) | exact HS2.out _ Bf.out | exact HS2.out _ Be.out | exact HS2.out _ Bd.out | exact HS2.out _ (Below.alloc Bf.out (Below.size Bf.out) _) | exact HS2.out _ (Below.alloc Be.out (Below.size Be.out) _) | exact HS2.out _ (Below.alloc Bd.out (Below.size Bd.out) _) | exact HS2.out _ (Below.alloc ((Below.refl _ _).drew) (Nat.le_refl _) _) | exact HS2.out _ (((Bf.out.setCell (by dsimp only; first | exact Nat.le_refl _ | exact Bd.out.size | exact Be.out.size | exact Bf.out.size) _).setCell (by dsimp only; first | exact Nat.le_refl _ | exact Bd.out.size | exact Be.out.size | exact Bf.out.size) _).setCell (by dsimp only; first | exact Nat.le_refl _ | exact Bd.out.size | exact Be.out.size | exact Bf.out.size) _))
        (first
          | (go_at_call 33; ((with_reducible refine (toRule_any _ _ _ _ _).mono ?_); rintro e wd ⟨rfl, hq⟩; go_split_ands; have Bd := Lib.hid (belStep (show Below C.heap.size C _ by assumption) hq); (first | have NX := Lib.hid (belNew hq) | have NX := Lib.hid (belNewD hq) | have NX := Lib.hid (belOld hq (Hid.out (by assumption))) | skip); (first | obtain ⟨n0, n1, n2, nf⟩ := NX.out | skip)))
          | (go_at_call 35; ((with_reducible refine (toHead_any _ _ _ _).mono ?_); rintro e we ⟨rfl, hq⟩; go_split_ands; have Be := Lib.hid (belStep (show Below C.heap.size C _ by assumption) hq); (first | have NX := Lib.hid (belNew hq) | have NX := Lib.hid (belNewD hq) | have NX := Lib.hid (belOld hq (Hid.out (by assumption))) | skip); (first | obtain ⟨n0, n1, n2, nf⟩ := NX.out | skip)))
          | (go_at_call 23; ((with_reducible refine (HI.out _ ?_).mono ?_); (go_split_ands; exact HEC.out.below (by assumption)); rintro e wf ⟨rfl, hq⟩; go_split_ands; have Bf := Lib.hid (belStep (show Below C.heap.size C _ by assumption) hq); (first | have NX := Lib.hid (belNew hq) | have NX := Lib.hid (belNewD hq) | have NX := Lib.hid (belOld hq (Hid.out (by assumption))) | skip); (first | obtain ⟨n0, n1, n2, nf⟩ := NX.out | skip))))
    · have G : Hid (((wf.alloc (.cells #[.int .i64 x, .int .i64 y, .int .i64 z] 33)).cell? ⟨wf.heap.size, 0, none⟩ = some (.int .i64 x) ∧ (wf.alloc (.cells #[.int .i64 x, .int .i64 y, .int .i64 z] 33)).cell? ⟨wf.heap.size, 1, none⟩ = some (.int .i64 y) ∧ (wf.alloc (.cells #[.int .i64 x, .int .i64 y, .int .i64 z] 33)).cell? ⟨wf.heap.size, 2, none⟩ = some (.int .i64 z)) ∧ Below C.heap.size C (wf.alloc (.cells #[.int .i64 x, .int .i64 y, .int .i64 z] 33))) := ⟨⟨by simp [go_sem], by simp [go_sem], by simp [go_sem]⟩, Bf.out.alloc Bf.out.size _⟩
      generalize (wf.alloc (.cells #[.int .i64 x, .int .i64 y, .int .i64 z] 33)) = E at G ⊢
      obtain ⟨⟨y0, y1, y2⟩, BE⟩ := G.out
      have cE := belCell BE
      have u0 := (cE _ 0 lx).trans HX.out.1
      have u1 := (cE _ 1 lx).trans HX.out.2.1
      have u2 := (cE _ 2 lx).trans HX.out.2.2
      have B3 := Lib.hid (belStep B2.out BE)
      clear cE BE
      go_wp2_with fail
      refine (eqHead_same _ _ _ _).mono ?_
      rintro e w9 ⟨rfl, b9⟩
      cases k <;> (go_wp2; go_ret; exact ⟨rfl, belStep B3.out b9⟩)
    · have G : Hid ((((((wf).setCell ⟨we.heap.size, 0, none⟩ (.int .i64 x)).setCell ⟨we.heap.size, 1, none⟩ (.int .i64 y)).setCell ⟨we.heap.size, 2, none⟩ (.int .i64 z)).cell? ⟨we.heap.size, 0, none⟩ = some (.int .i64 x) ∧ ((((wf).setCell ⟨we.heap.size, 0, none⟩ (.int .i64 x)).setCell ⟨we.heap.size, 1, none⟩ (.int .i64 y)).setCell ⟨we.heap.size, 2, none⟩ (.int .i64 z)).cell? ⟨we.heap.size, 1, none⟩ = some (.int .i64 y) ∧ ((((wf).setCell ⟨we.heap.size, 0, none⟩ (.int .i64 x)).setCell ⟨we.heap.size, 1, none⟩ (.int .i64 y)).setCell ⟨we.heap.size, 2, none⟩ (.int .i64 z)).cell? ⟨we.heap.size, 2, none⟩ = some (.int .i64 z)) ∧ Below C.heap.size C ((((wf).setCell ⟨we.heap.size, 0, none⟩ (.int .i64 x)).setCell ⟨we.heap.size, 1, none⟩ (.int .i64 y)).setCell ⟨we.heap.size, 2, none⟩ (.int .i64 z))) := ⟨⟨by simp [go_sem, n0], by simp [go_sem, n1], by simp [go_sem, n2]⟩, ((Bf.out.setCell (by dsimp only; exact Be.out.size) _).setCell (by dsimp only; exact Be.out.size) _).setCell (by dsimp only; exact Be.out.size) _⟩
      generalize ((((wf).setCell ⟨we.heap.size, 0, none⟩ (.int .i64 x)).setCell ⟨we.heap.size, 1, none⟩ (.int .i64 y)).setCell ⟨we.heap.size, 2, none⟩ (.int .i64 z)) = E at G ⊢
      obtain ⟨⟨y0, y1, y2⟩, BE⟩ := G.out
      have cE := belCell BE
      have u0 := (cE _ 0 lx).trans HX.out.1
      have u1 := (cE _ 1 lx).trans HX.out.2.1
      have u2 := (cE _ 2 lx).trans HX.out.2.2
      have B3 := Lib.hid (belStep B2.out BE)
      clear cE BE
      go_wp2_with fail
      refine (eqHead_same _ _ _ _).mono ?_
      rintro e w9 ⟨rfl, b9⟩
      cases k <;> (go_wp2; go_ret; exact ⟨rfl, belStep B3.out b9⟩)
    · have G : Hid ((((((wf).setCell ⟨wd.heap.size, 0, none⟩ (.int .i64 x)).setCell ⟨wd.heap.size, 1, none⟩ (.int .i64 y)).setCell ⟨wd.heap.size, 2, none⟩ (.int .i64 z)).cell? ⟨wd.heap.size, 0, none⟩ = some (.int .i64 x) ∧ ((((wf).setCell ⟨wd.heap.size, 0, none⟩ (.int .i64 x)).setCell ⟨wd.heap.size, 1, none⟩ (.int .i64 y)).setCell ⟨wd.heap.size, 2, none⟩ (.int .i64 z)).cell? ⟨wd.heap.size, 1, none⟩ = some (.int .i64 y) ∧ ((((wf).setCell ⟨wd.heap.size, 0, none⟩ (.int .i64 x)).setCell ⟨wd.heap.size, 1, none⟩ (.int .i64 y)).setCell ⟨wd.heap.size, 2, none⟩ (.int .i64 z)).cell? ⟨wd.heap.size, 2, none⟩ = some (.int .i64 z)) ∧ Below C.heap.size C ((((wf).setCell ⟨wd.heap.size, 0, none⟩ (.int .i64 x)).setCell ⟨wd.heap.size, 1, none⟩ (.int .i64 y)).setCell ⟨wd.heap.size, 2, none⟩ (.int .i64 z))) := ⟨⟨by simp [go_sem, n0], by simp [go_sem, n1], by simp [go_sem, n2]⟩, ((Bf.out.setCell (by dsimp only; exact Bd.out.size) _).setCell (by dsimp only; exact Bd.out.size) _).setCell (by dsimp only; exact Bd.out.size) _⟩
      generalize ((((wf).setCell ⟨wd.heap.size, 0, none⟩ (.int .i64 x)).setCell ⟨wd.heap.size, 1, none⟩ (.int .i64 y)).setCell ⟨wd.heap.size, 2, none⟩ (.int .i64 z)) = E at G ⊢
      obtain ⟨⟨y0, y1, y2⟩, BE⟩ := G.out
      have cE := belCell BE
      have u0 := (cE _ 0 lx).trans HX.out.1
      have u1 := (cE _ 1 lx).trans HX.out.2.1
      have u2 := (cE _ 2 lx).trans HX.out.2.2
      have B3 := Lib.hid (belStep B2.out BE)
      clear cE BE
      go_wp2_with fail
      refine (eqHead_same _ _ _ _).mono ?_
      rintro e w9 ⟨rfl, b9⟩
      cases k <;> (go_wp2; go_ret; exact ⟨rfl, belStep B3.out b9⟩)
    · have G : Hid ((((((wf).setCell ⟨C.heap.size, 0, none⟩ (.int .i64 x)).setCell ⟨C.heap.size, 1, none⟩ (.int .i64 y)).setCell ⟨C.heap.size, 2, none⟩ (.int .i64 z)).cell? ⟨C.heap.size, 0, none⟩ = some (.int .i64 x) ∧ ((((wf).setCell ⟨C.heap.size, 0, none⟩ (.int .i64 x)).setCell ⟨C.heap.size, 1, none⟩ (.int .i64 y)).setCell ⟨C.heap.size, 2, none⟩ (.int .i64 z)).cell? ⟨C.heap.size, 1, none⟩ = some (.int .i64 y) ∧ ((((wf).setCell ⟨C.heap.size, 0, none⟩ (.int .i64 x)).setCell ⟨C.heap.size, 1, none⟩ (.int .i64 y)).setCell ⟨C.heap.size, 2, none⟩ (.int .i64 z)).cell? ⟨C.heap.size, 2, none⟩ = some (.int .i64 z)) ∧ Below C.heap.size C ((((wf).setCell ⟨C.heap.size, 0, none⟩ (.int .i64 x)).setCell ⟨C.heap.size, 1, none⟩ (.int .i64 y)).setCell ⟨C.heap.size, 2, none⟩ (.int .i64 z))) := ⟨⟨by simp [go_sem, n0], by simp [go_sem, n1], by simp [go_sem, n2]⟩, ((Bf.out.setCell (Nat.le_refl _) _).setCell (Nat.le_refl _) _).setCell (Nat.le_refl _) _⟩
      generalize ((((wf).setCell ⟨C.heap.size, 0, none⟩ (.int .i64 x)).setCell ⟨C.heap.size, 1, none⟩ (.int .i64 y)).setCell ⟨C.heap.size, 2, none⟩ (.int .i64 z)) = E at G ⊢
      obtain ⟨⟨y0, y1, y2⟩, BE⟩ := G.out
      have cE := belCell BE
      have u0 := (cE _ 0 lx).trans HX.out.1
      have u1 := (cE _ 1 lx).trans HX.out.2.1
      have u2 := (cE _ 2 lx).trans HX.out.2.2
      have B3 := Lib.hid (belStep B2.out BE)
      clear cE BE
      go_wp2_with fail
      refine (eqHead_same _ _ _ _).mono ?_
      rintro e w9 ⟨rfl, b9⟩
      cases k <;> (go_wp2; go_ret; exact ⟨rfl, belStep B3.out b9⟩)

set_option maxRecDepth 100000 in
theorem contract_FnExactRuleDo (H : Type) (enc : TypeId × Value → H) (W : World) (base : Nat) (args : Array Value) (ds gs : List (DataW H)) (before : List MemPlace)
    (hval : ∀ (j : Nat) t v, Tryd.f12.params[j]? = some t → args[j]? = some v → Value.okWide Tryd.prog W .any base t v)
    (hW : DataW.Whole enc Tryd.prog Tryd.f12.params.toList Rows.fnExactRuleDoSpec.vars false W args.toList ds gs before) (hE : EtOk W) :
    Calls Tryd.prog 12 args W fun e W' => ∃ v, e = .returned v ∧ Rows.fnExactRuleDoSpec.post enc Tryd.prog Tryd.f12 false true false false W args v W' := by
  have hW' := hW
  obtain ⟨p, q, hA0, hV, rfl, hfz, hnd⟩ := hW
  have hA : DataW.TrodAll enc Tryd.prog W 0 (fun _ => true) true Tryd.f12.params.toList args.toList ds p := hA0
  rw [Tryd.params12] at hA hval
  obtain ⟨v0, vs0, d0, ds0, p0, q0, hargs, rfl, rfl, h0, r0⟩ := trodAll_cons hA
  obtain ⟨v1, vs1, d1, ds1, p1, q1, rfl, rfl, rfl, h1, r1⟩ := trodAll_cons r0
  obtain ⟨rfl, rfl, rfl⟩ := trodAll_nil r1
  obtain rfl : args = #[v0, v1] := by cases args; simp_all
  obtain ⟨rfl, rfl⟩ := trodVars_none hV
  have k0 := h0
  have lt0 : ∀ x ∈ p0, x.block < W.heap.size := by obtain ⟨m, hm⟩ := k0; exact DataW.trod_lt m _ _ _ hm
  have k1 := h1
  have lt1 : ∀ x ∈ p1, x.block < W.heap.size := by obtain ⟨m, hm⟩ := k1; exact DataW.trod_lt m _ _ _ hm
  obtain ⟨x0, y0, z0, u0, ya0, yb0, yc0, yd0, m0, rfl, -, -, ha0, hb0, hc0, hd0⟩ := open_agg4 Tryd.underlying44 (by kernel_rfl) (show Tryd.prog.cellsOf 44 = 4 by kernel_rfl) (hval 0 44 v0 rfl rfl) h0
  obtain ⟨a0, ea0, -, wa0⟩ := DataW.trod_int Tryd.underlying3 ha0
  obtain ⟨b0, eb0, -, wb0⟩ := DataW.trod_string Tryd.underlying9 hb0
  obtain ⟨c0, ec0, -, wc0⟩ := DataW.trod_int Tryd.underlying3 hc0
  obtain ⟨d0', ed0, -, wd0⟩ := DataW.trod_int Tryd.underlying3 hd0
  simp at ea0 eb0 ec0 ed0
  subst ea0 eb0 ec0 ed0
  obtain ⟨x1, y1, z1, ya1, yb1, yc1, m1, rfl, -, -, ha1, hb1, hc1⟩ := open_agg3 Tryd.underlying50 (by kernel_rfl) (show Tryd.prog.cellsOf 50 = 3 by kernel_rfl) (hval 1 50 v1 rfl rfl) h1
  obtain ⟨a1, ea1, -, wa1⟩ := DataW.trod_int Tryd.underlying3 ha1
  obtain ⟨b1, eb1, -, wb1⟩ := DataW.trod_int Tryd.underlying3 hb1
  obtain ⟨c1, ec1, -, wc1⟩ := DataW.trod_int Tryd.underlying3 hc1
  simp at ea1 eb1 ec1
  subst ea1 eb1 ec1
  clear hA0
  refine (walk_FnExactRuleDo a0 b0 c0 d0' a1 b1 c1 W wa0 wb0 wc0 wd0 wa1 wb1 wc1 hE).mono fun e W' ⟨he, bel⟩ => ?_
  subst he
  exact ⟨_, rfl, _, _, _, [], _, [], hW', trodAll_mk1 (shut_bool Tryd.underlying4 _), (trodAll_cons_mk (Below.trod laidOut (by kernel_rfl) (of_decide_eq_true (by kernel_rfl)) k0 bel lt0) (trodAll_cons_mk (Below.trod laidOut (by kernel_rfl) (of_decide_eq_true (by kernel_rfl)) k1 bel lt1) (trodAll_mk0))), rfl, bel.frame _, fun h => by cases h⟩

/-- A world for the witness: the settled one, with the listed variables as the text lays them. -/
noncomputable def laidWorld_FnExactRuleDo (os : Os) : World :=
  { World.holding Tryd.prog os ⟨#[], #[], []⟩ with heap := ((World.holding Tryd.prog os ⟨#[], #[], []⟩).heap).modify 0 (fun | .cells _ t frozen => .cells #[.iface 122 (.agg #[.pointer (some ⟨7, 60, none⟩)])] t frozen | o => o) }

theorem laidMet_FnExactRuleDo (os : Os) : laidMetH Tryd.prog Rows.fnExactRuleDoRow.laid ((laidWorld_FnExactRuleDo os).forCall (fun _ _ => 0) ⟨#[], #[.agg #[.int .i64 0, .string ByteArray.empty, .int .i64 0, .int .i64 0], .agg #[.int .i64 0, .int .i64 0, .int .i64 0]], []⟩).memory :=
  laidMetH_of_parts (laidMet_nil _ _) (by kernel_rfl)

theorem reads_FnExactRuleDo (os : Os) {H : Type} (enc : TypeId × Value → H) : ∃ places, DataW.whole enc Tryd.prog ((laidWorld_FnExactRuleDo os).forCall (fun _ _ => 0) ⟨#[], #[.agg #[.int .i64 0, .string ByteArray.empty, .int .i64 0, .int .i64 0], .agg #[.int .i64 0, .int .i64 0, .int .i64 0]], []⟩).memory Tryd.f12.params.toList Rows.fnExactRuleDoSpec.vars false (#[.agg #[.int .i64 0, .string ByteArray.empty, .int .i64 0, .int .i64 0], .agg #[.int .i64 0, .int .i64 0, .int .i64 0]] : Array Value).toList 8 = some ([.agg [.lit (.int .i64 0), .lit (.string []), .lit (.int .i64 0), .lit (.int .i64 0)], .agg [.lit (.int .i64 0), .lit (.int .i64 0), .lit (.int .i64 0)]], [], places) :=
  ⟨[], by kernel_rfl⟩

set_option maxRecDepth 100000 in
theorem lifted_FnExactRuleDo (os : Os) (started : os.Started) (H : Type) (enc : TypeId × Value → H) (F : Stop.Interp) :
    ReturnsInHanded {} Tryd.checked os 12 .any ((OpenSpec.ofChange Rows.fnExactRuleDoSpec).preRow enc Tryd.prog Tryd.f12 Rows.fnExactRuleDoRow.domain false Rows.fnExactRuleDoRow.laid) (((OpenSpec.ofChange Rows.fnExactRuleDoSpec).at F).post enc Tryd.prog Tryd.f12 false true false false) := by
  obtain ⟨places, hx⟩ := reads_FnExactRuleDo os enc
  refine returnsInHanded_of_row (C := Tryd.checked) (s := OpenSpec.ofChange Rows.fnExactRuleDoSpec) own started (by kernel_rfl) Tryd.func12
    (witness_row_at (enc := enc) (C := Tryd.checked) false (laidWorld_FnExactRuleDo os) #[.agg #[.int .i64 0, .string ByteArray.empty, .int .i64 0, .int .i64 0], .agg #[.int .i64 0, .int .i64 0, .int .i64 0]] rfl (by kernel_rfl) (by kernel_rfl) (by kernel_rfl)
      (OpenSpec.preRow_of_cond 8 hx (by kernel_rfl) (fun k hk => by cases hk) (by kernel_rfl) (laidMet_FnExactRuleDo os))) ?_
  intro W base args ds gs before hval hW _ _ _ hL _ _
  exact contract_FnExactRuleDo H enc W base args ds gs before hval hW (etOk_of hL (by simp [Rows.fnExactRuleDoRow]))

theorem said_FnExactRuleDo : Rows.FnExactRuleDoSaid :=
  OpenClaim.holds_of_cond 12 Tryd.f12 rfl rfl rfl rfl rfl rfl rfl ⟨rfl, rfl, rfl, rfl, rfl⟩ rfl rfl rfl rfl rfl (by kernel_rfl) Tryd.func12 (by kernel_rfl)
    (of_decide_eq_true (by kernel_rfl)) (by unfold Func.isWrapper; first | (rw [if_pos (by decide +kernel)]; kernel_rfl) | (rw [if_neg (by decide +kernel)]; exact ⟨rfl, rfl⟩))
    (fun os started H enc _ F => by rw [OpenClaim.pre_eq_preRow]; exact lifted_FnExactRuleDo os started H enc F)

theorem plain_FnExactRuleDo (f : FuncId) (fn : Func) (hf : Tryd.pinned.checked.prog.funcNamed "loop.example/crossbuck/laws.FnExactRuleDo" = some f) (hfn : Tryd.pinned.checked.prog.funcs[f]? = some fn) :
    true = Tryd.pinned.checked.prog.looks [] ∧ ∀ (j : Nat) t, fn.params[j]? = some t → Tryd.pinned.checked.prog.wantsStandIn t = false := by
  obtain rfl : f = 12 := Option.some.inj ((show Tryd.prog.funcNamed "loop.example/crossbuck/laws.FnExactRuleDo" = some 12 by kernel_rfl).symm.trans hf) |>.symm
  obtain rfl : fn = Tryd.f12 := (Option.some.inj (Tryd.func12.symm.trans hfn)).symm
  refine ⟨by kernel_rfl, fun j t ht => ?_⟩
  rw [Tryd.params12] at ht
  have hm : t = 44 ∨ t = 50 := by simpa using Array.mem_of_getElem? ht
  rcases hm with rfl | rfl
  · exact (show Tryd.prog.wantsStandIn 44 = false by kernel_rfl)
  · exact (show Tryd.prog.wantsStandIn 50 = false by kernel_rfl)

theorem proved_FnExactRuleDo : Rows.FnExactRuleDoCardSaid :=
  Claim7.holds_tied_plain_at .later [] _ _ _ _ said_FnExactRuleDo (fun _ h => by cases h) (by kernel_rfl) (fun _ h => by cases h) fnExactRuleDo_row_tie rfl ⟨rfl, rfl⟩ (by kernel_rfl) rfl plain_FnExactRuleDo (by kernel_rfl)

end Go.Proofs.YtlbbhiigfgegeaaDoor
