/-
  Chapter 3, the program: the texts of a set.
-/
import Derived.Test.YtddkpimmcmnogabSpaceTexts
namespace Go.Proofs.Ytddkpimmcmnogab
open Go.ChangeShapes Go.WideShapes Go.ChangeAt Go.RowKit Go.Joins
open Go.Shelf
set_option linter.unusedVariables false
attribute [local go_sem] Oper.semAt_some

/-- An append of one text, as an operation of a region. -/
theorem app_step {F : Fence} {n : Nat} {o : Oper} {a : Act} {w : World} {K : Act → World → Prop} {Q : Exit → Act → World → Prop} (s x : Operand) (hop : o.op = Op.call { callee := Callee.builtin Builtin.append, args := #[s, x], argTypes := #[23, 23] })
    (base k : Nat) (v : Value) (xs : List Value) (hs : a.eval s = v) (hown : w.ownsRow base 9 1 v k xs) (g : Nat) (t : ByteArray) (hx : a.eval x = .slice (some ⟨g, 0, none⟩) 1 1) (hc : w.cell? ⟨g, 0, none⟩ = some (.string t)) (b1 : k + 1 ≤ 1000) (b3 : base ≤ w.heap.size)
    (hK : ∀ v' w', w'.ownsRow base 9 1 v' (k + 1) (xs ++ [.string t]) → w.grownBy w' v.ownBlock → K (a.put o.dst v') w') : o.wpIn F n Try.prog a w K Q := by
  obtain ⟨i0, hi, hz0, hz1, hz2⟩ := info_parts infoStr
  obtain ⟨v', w', hrun, r1, r2, r3⟩ := run_append_own (P := Try.prog) w base 23 o.type 9 i0 (.string ⟨#[]⟩) 1 16 Try.underlying23 hi hz0 hz1 hz2 rfl (by decide) v k xs hown ⟨g, 0, none⟩ 1 1 [.string t] rfl
    (fun j u hj => by
      match j, hj with
      | 0, hj => simp at hj; subst hj; simpa [Addr.add] using hc) (fun u hu => by simp at hu; subst hu; rfl) (by unfold maxLen; omega) (by omega) b3
  unfold Oper.wpIn
  refine ⟨?_, ?_⟩
  · simp [Oper.about, hop, resolve, Target.leads, Sem.run_pure]
  · rw [Oper.semAt_plain F _ _ (by rw [hop]; intro c hc'; cases hc')]
    simp [execOp, hop, resolve, invoke, builtin, hs, hx, hrun, Result.andThen]
    exact hK _ _ r1 r2

/-- The text of signs. -/
def tx (x : List UInt8) : ByteArray := txt (cL x) (vL x)

/-- Behind the store of what was appended. -/
theorem round_app {W w2 w3 : World} {n B LB k : Nat} {v v' : Value} {xs ys : List Value} {tmp : Obj} (hv : Boxed W B 23 v) (hrow : W.ownsRow n 9 1 v k xs) (hb : Below W.heap.size W w2) (hn : n ≤ B) (hB : B < LB) (hnW : n ≤ W.heap.size)
    (hown : w3.ownsRow n 9 1 v' (k + 1) ys) (hg : (w2.alloc tmp).grownBy w3 v.ownBlock) :
    KeepsFrom LB W (w3.setCell ⟨B, 0, none⟩ v') ∧ KpM n W (w3.setCell ⟨B, 0, none⟩ v') ∧ Boxed (w3.setCell ⟨B, 0, none⟩ v') B 23 v' ∧ (w3.setCell ⟨B, 0, none⟩ v').ownsRow n 9 1 v' (k + 1) ys ∧ Below n W (w3.setCell ⟨B, 0, none⟩ v') ∧ w3.cell? ⟨B, 0, none⟩ = some v ∧ w3.frozen? ⟨B, 0, none⟩ = false := by
  have hv2 : Boxed w2 B 23 v := (hb.block B hv.lt).trans hv
  have hrow2 : w2.ownsRow n 9 1 v k xs := ownsBelow hrow hb
  obtain ⟨h1, h2, h3, h4, h5⟩ := hv2.appended (by decide) hrow2 (Nat.le_trans hnW hb.size) hn hown hg
  refine ⟨⟨Nat.le_trans hb.size h4.size, fun j o _ hj ho => h4.same j o ((hb.block j (Array.getElem?_eq_some_iff.1 hj).1).trans hj) ho⟩, ⟨(hb.mono hnW).trans h5, fun j cs hj => ?_⟩, h2, h3, (hb.mono hnW).trans h5, h1.cell, h1.frozen⟩
  have hj2 := (hb.block j (Array.getElem?_eq_some_iff.1 hj).1).trans hj
  have hjl := (Array.getElem?_eq_some_iff.1 hj2).1
  have hj3 : w3.heap[j]? = some (.cells cs 67) := by
    refine (hg.block j (by simp; omega) ?_).trans ((Below.heap_alloc _ _ _ hjl).trans hj2)
    intro e
    obtain ⟨-, hx | ⟨g, cap, cur, rfl, -, hgc, -⟩⟩ := hrow2
    · rw [hx.1] at e; cases e
    · have : j = g := by injection e
      subst this
      rw [hgc] at hj2
      cases hj2
  refine (Below.heap_setCell _ _ _ _ (fun e => ?_)).trans hj3
  have e' : j = B := e
  rw [e', show w3.heap[B]? = _ from h1] at hj3
  cases hj3

set_option maxRecDepth 100000 in
set_option maxHeartbeats 4000000 in
theorem texts_any (w : World) (b e : Nat) (E : List Nd) (p : Option Addr) (m : List Bool) (hd : Dg w b e E) (hr : Rep E e 6 p m) :
    Calls Try.prog 29 #[.pointer p] w fun ex w' => ∃ v, ex = .returned v ∧ StrRow w' w.heap.size v (tidyT m) ∧ Below w.heap.size w w' := by
  have hlen := tidyB_many 6 m
  have HTX : Hid ((tidyB 6 m).map tx = tidyT m) := by
    show _ = _
    unfold tidyT
    apply List.map_congr_left
    intro x hx
    exact txt_L (tidyB_len 6 m x hx) (tidyB_sgn 6 m x hx)
  refine (callsIn_wide (n := 5)).1 ?_
  refine callsIn_of_wp_marks Try.func29 rfl trivial ?_ rfl
  simp only [Try.ntmps29, List.size_toArray, List.length_cons, List.length_nil, Nat.reduceAdd, Nat.reduceSub, Array.replicate_succ, Array.replicate_zero, List.push_toArray, List.append_toArray, List.nil_append, List.cons_append]
  gi_wp2_with (refine ⟨trivial, ?_⟩; gi_at_call 41; refine (callsIn_wide.2 (masks_any _ _)).mono ?_; rintro ex w' ⟨rfl, rfl⟩)
  have hB0 : Below w.heap.size w ((w.alloc (.cells #[.slice none 0 0] 23)).alloc (.cells #[.pointer p] 42)) := below_alloc2 _ _ _
  have bS := Boxed.new w 23 (.slice none 0 0)
  have bN := Boxed.new (w.alloc (.cells #[.slice none 0 0] 23)) 42 (.pointer p)
  rw [World.size_alloc] at bN
  have hsz : ((w.alloc (.cells #[.slice none 0 0] 23)).alloc (.cells #[.pointer p] 42)).heap.size = w.heap.size + 2 := by simp
  refine loop_all (gf := 49) (lb := #[.pointer (some ⟨w.heap.size + 1, 0, none⟩)]) w.heap.size (by rw [hsz]; omega) rfl rfl (enters_of Try.func49 (by kernel_rfl) rfl) (tidyB 6 m)
    (fun l J W hW hJ hY h0 => masks1_any J w.heap.size l b e (w.heap.size + 1) E p m W hJ hY (hd.to.below (hB0.trans (hW.mono (by rw [hsz]; omega)))) (Nat.le_trans hB0.size hW.size) hr h0 ((hW.cell (p := ⟨w.heap.size + 1, 0, none⟩) (by rw [hsz]; simp)).trans bN.cell))
    (fun (pre : List (List UInt8)) W => (∃ v, Boxed W w.heap.size 23 v ∧ W.ownsRow w.heap.size 9 1 v pre.length ((pre.map tx).map Value.string) ∧ True) ∧ Below w.heap.size w W)
    (OwnFrom.and (Own.from (holdsRow_own w.heap.size w.heap.size 23 9 1 (fun (pre : List (List UInt8)) => pre.length) (fun (pre : List (List UInt8)) => (pre.map tx).map Value.string) (fun _ _ => True)) _) (ownFrom_below (Nat.le_refl _) (by rw [hsz]; omega)))
    ⟨⟨_, bS.alloc _, World.ownsRow_nil _ _ _ _, trivial⟩, hB0⟩
    (fun x Bx => { tmps := #[.pointer p, undef, .slice none 0 0, .pointer (some ⟨w.heap.size, 0, none⟩), .pointer (some ⟨Bx, 0, none⟩), .pointer p, .func (.func 49) #[] #[.pointer (some ⟨w.heap.size + 1, 0, none⟩)], mkA x, undef, undef, undef, undef, undef, undef], defers := [] }) ?assign ?body ?done
  case assign =>
    intro l k x W K hK
    unfold mkA at *
    gi_wp2
    exact hK
  case body =>
    rintro l k pre x Bx W ⟨⟨v, hv, hrow, -⟩, hB⟩ hlt hBx hbx
    have hc := hv.cell
    have hf := hv.frozen
    obtain ⟨d0, d1, d2⟩ := duoCells hbx
    have HB := Lib.hid hB
    have HV := Lib.hid hv
    have HR := Lib.hid hrow
    have hvl := hv.lt
    have hbl := (Array.getElem?_eq_some_iff.1 hbx).1
    have hp64 : pre.length + 1 ≤ 1000 := by omega
    -- behind the text: what the append wants, what the round leaves
    have HT : Hid (∀ w2, Below W.heap.size W w2 → ∀ (F : Fence) (nn : Nat) (o : Oper) (a : Act) (K : Act → World → Prop) (Q : Exit → Act → World → Prop) (s y : Operand), o.op = Op.call { callee := Callee.builtin Builtin.append, args := #[s, y], argTypes := #[23, 23] } →
        a.eval s = v → a.eval y = .slice (some ⟨w2.heap.size, 0, none⟩) 1 1 →
        (∀ v' w3, w3.cell? ⟨w.heap.size, 0, none⟩ = some v → w3.frozen? ⟨w.heap.size, 0, none⟩ = false → (∃ g' cap', v' = .slice (some ⟨g', 0, none⟩) (pre.length + 1) cap') →
          Hid (KeepsFrom (w.heap.size + 2) W (w3.setCell ⟨w.heap.size, 0, none⟩ v') ∧ KpM w.heap.size W (w3.setCell ⟨w.heap.size, 0, none⟩ v') ∧
            (∃ u, Boxed (w3.setCell ⟨w.heap.size, 0, none⟩ v') w.heap.size 23 u ∧ (w3.setCell ⟨w.heap.size, 0, none⟩ v').ownsRow w.heap.size 9 1 u (pre ++ [x]).length (((pre ++ [x]).map tx).map Value.string) ∧ True) ∧ Below w.heap.size w (w3.setCell ⟨w.heap.size, 0, none⟩ v')) → K (a.put o.dst v') w3) →
        o.wpIn F nn Try.prog a (w2.alloc (.cells #[.string (tx x)] 9)) K Q) := by
      intro w2 hb2 F nn o a K Q s y hop hs hy hK
      have hnW : w.heap.size ≤ W.heap.size := Nat.le_of_lt hvl
      have hr2 := ownsBelow HR.out hb2
      refine app_step s y hop w.heap.size pre.length v _ hs (hr2.alloc _) w2.heap.size (tx x) hy (cell_one_new _ _ _ 0 _ rfl) hp64 (by have := hb2.size; simp; omega) ?_
      intro v' w3 hown hg
      obtain ⟨g', cap', hv'⟩ := ownsRow_succ hown
      obtain ⟨q1, q2, q3, q4, q5, q6, q7⟩ := round_app (LB := w.heap.size + 2) HV.out HR.out hb2 (Nat.le_refl _) (by omega) hnW hown hg
      refine hK v' w3 q6 q7 ⟨g', cap', hv'⟩ ⟨q1, q2, ⟨v', q3, ?_, trivial⟩, HB.out.trans q5⟩
      simpa using q4
    clear hB hv hrow hbx
    gi_wp2
    refine wpIn_region_any (by kernel_rfl) ?_
    try (change wpAnyIn _ _ _ _ _ _ _ _ _ (World.drew _))
    refine wpAnyIn_ready (rs := [0, 1]) (by kernel_rfl) (by simp) ?_
    refine AllReadyIn.cons rfl (fun K hK => ?_) (AllReadyIn.cons rfl (fun K hK => ?_) AllReadyIn.nil)
    · go_simp
      refine hK _ _ ?_
      clear hK K
      refine wpAnyIn_ready (rs := [1]) (by kernel_rfl) (by simp) ?_
      refine AllReadyIn.cons rfl (fun K hK => ?_) AllReadyIn.nil
      go_simp
      refine hK _ _ ?_
      clear hK K
      refine wpAnyIn_ready (rs := [2]) (by kernel_rfl) (by simp) ?_
      refine AllReadyIn.cons rfl (fun K hK => ?_) AllReadyIn.nil
      go_simp
      refine ⟨trivial, (fun h => by cases h), ?_⟩
      refine (CallsIn.inRound l (callsIn_wide.2 (text_any _ _ _))).mono ?_
      rintro ex w2 ⟨rfl, b2⟩
      have B2 : Hid (Below W.heap.size W w2) := ((Below.refl _ _).drew).trans b2
      have hc2 : w2.cell? ⟨w.heap.size, 0, none⟩ = some v := (belCell B2.out _ _ hvl).trans hc
      have hc2' : ∀ o : Obj, (w2.alloc o).cell? ⟨w.heap.size, 0, none⟩ = some v := fun o => (((Below.refl _ w2).alloc (Nat.le_refl _) o).cell (p := ⟨w.heap.size, 0, none⟩) (Nat.lt_of_lt_of_le hvl B2.out.size)).trans hc2
      clear b2
      refine hK _ _ ?_
      clear hK K
      refine wpAnyIn_ready (rs := [3]) (by kernel_rfl) (by simp) ?_
      refine AllReadyIn.cons rfl (fun K hK => ?_) AllReadyIn.nil
      go_simp
      refine hK _ _ ?_
      clear hK K
      refine wpAnyIn_ready (rs := [4]) (by kernel_rfl) (by simp) ?_
      refine AllReadyIn.cons rfl (fun K hK => ?_) AllReadyIn.nil
      rw [if_pos (by rfl)]
      refine HT.out w2 B2.out _ _ _ _ _ _ _ _ rfl rfl rfl ?_
      rintro v' w3 hc3 hf3 ⟨g', cap', rfl⟩ HE
      refine hK _ _ ?_
      clear hK K
      refine wpAnyIn_ready (rs := [5]) (by kernel_rfl) (by simp) ?_
      refine AllReadyIn.cons rfl (fun K hK => ?_) AllReadyIn.nil
      go_simp
      refine hK _ _ ?_
      clear hK K
      refine wpAnyIn_done (by kernel_rfl) ?_ _
      gi_wp2
      simpa using HE.out
    · go_simp
      refine hK _ _ ?_
      clear hK K
      refine wpAnyIn_ready (rs := [0, 2]) (by kernel_rfl) (by simp) ?_
      refine AllReadyIn.cons rfl (fun K hK => ?_) (AllReadyIn.cons rfl (fun K hK => ?_) AllReadyIn.nil)
      · go_simp
        refine hK _ _ ?_
        clear hK K
        refine wpAnyIn_ready (rs := [2]) (by kernel_rfl) (by simp) ?_
        refine AllReadyIn.cons rfl (fun K hK => ?_) AllReadyIn.nil
        go_simp
        refine ⟨trivial, (fun h => by cases h), ?_⟩
        refine (CallsIn.inRound l (callsIn_wide.2 (text_any _ _ _))).mono ?_
        rintro ex w2 ⟨rfl, b2⟩
        have B2 : Hid (Below W.heap.size W w2) := ((Below.refl _ _).drew).trans b2
        have hc2 : w2.cell? ⟨w.heap.size, 0, none⟩ = some v := (belCell B2.out _ _ hvl).trans hc
        have hc2' : ∀ o : Obj, (w2.alloc o).cell? ⟨w.heap.size, 0, none⟩ = some v := fun o => (((Below.refl _ w2).alloc (Nat.le_refl _) o).cell (p := ⟨w.heap.size, 0, none⟩) (Nat.lt_of_lt_of_le hvl B2.out.size)).trans hc2
        clear b2
        refine hK _ _ ?_
        clear hK K
        refine wpAnyIn_ready (rs := [3]) (by kernel_rfl) (by simp) ?_
        refine AllReadyIn.cons rfl (fun K hK => ?_) AllReadyIn.nil
        go_simp
        refine hK _ _ ?_
        clear hK K
        refine wpAnyIn_ready (rs := [4]) (by kernel_rfl) (by simp) ?_
        refine AllReadyIn.cons rfl (fun K hK => ?_) AllReadyIn.nil
        rw [if_pos (by rfl)]
        refine HT.out w2 B2.out _ _ _ _ _ _ _ _ rfl rfl rfl ?_
        rintro v' w3 hc3 hf3 ⟨g', cap', rfl⟩ HE
        refine hK _ _ ?_
        clear hK K
        refine wpAnyIn_ready (rs := [5]) (by kernel_rfl) (by simp) ?_
        refine AllReadyIn.cons rfl (fun K hK => ?_) AllReadyIn.nil
        go_simp
        refine hK _ _ ?_
        clear hK K
        refine wpAnyIn_done (by kernel_rfl) ?_ _
        gi_wp2
        simpa using HE.out
      · go_simp
        refine ⟨trivial, (fun h => by cases h), ?_⟩
        refine (CallsIn.inRound l (callsIn_wide.2 (text_any _ _ _))).mono ?_
        rintro ex w2 ⟨rfl, b2⟩
        have B2 : Hid (Below W.heap.size W w2) := ((Below.refl _ _).drew).trans b2
        have hc2 : w2.cell? ⟨w.heap.size, 0, none⟩ = some v := (belCell B2.out _ _ hvl).trans hc
        have hc2' : ∀ o : Obj, (w2.alloc o).cell? ⟨w.heap.size, 0, none⟩ = some v := fun o => (((Below.refl _ w2).alloc (Nat.le_refl _) o).cell (p := ⟨w.heap.size, 0, none⟩) (Nat.lt_of_lt_of_le hvl B2.out.size)).trans hc2
        clear b2
        refine hK _ _ ?_
        clear hK K
        refine wpAnyIn_ready (rs := [0, 3]) (by kernel_rfl) (by simp) ?_
        refine AllReadyIn.cons rfl (fun K hK => ?_) (AllReadyIn.cons rfl (fun K hK => ?_) AllReadyIn.nil)
        · go_simp
          refine hK _ _ ?_
          clear hK K
          refine wpAnyIn_ready (rs := [3]) (by kernel_rfl) (by simp) ?_
          refine AllReadyIn.cons rfl (fun K hK => ?_) AllReadyIn.nil
          go_simp
          refine hK _ _ ?_
          clear hK K
          refine wpAnyIn_ready (rs := [4]) (by kernel_rfl) (by simp) ?_
          refine AllReadyIn.cons rfl (fun K hK => ?_) AllReadyIn.nil
          rw [if_pos (by rfl)]
          refine HT.out w2 B2.out _ _ _ _ _ _ _ _ rfl rfl rfl ?_
          rintro v' w3 hc3 hf3 ⟨g', cap', rfl⟩ HE
          refine hK _ _ ?_
          clear hK K
          refine wpAnyIn_ready (rs := [5]) (by kernel_rfl) (by simp) ?_
          refine AllReadyIn.cons rfl (fun K hK => ?_) AllReadyIn.nil
          go_simp
          refine hK _ _ ?_
          clear hK K
          refine wpAnyIn_done (by kernel_rfl) ?_ _
          gi_wp2
          simpa using HE.out
        · go_simp
          refine hK _ _ ?_
          clear hK K
          refine wpAnyIn_ready (rs := [0]) (by kernel_rfl) (by simp) ?_
          refine AllReadyIn.cons rfl (fun K hK => ?_) AllReadyIn.nil
          go_simp
          refine hK _ _ ?_
          clear hK K
          refine wpAnyIn_ready (rs := [4]) (by kernel_rfl) (by simp) ?_
          refine AllReadyIn.cons rfl (fun K hK => ?_) AllReadyIn.nil
          rw [if_pos (by rfl)]
          refine HT.out w2 B2.out _ _ _ _ _ _ _ _ rfl rfl rfl ?_
          rintro v' w3 hc3 hf3 ⟨g', cap', rfl⟩ HE
          refine hK _ _ ?_
          clear hK K
          refine wpAnyIn_ready (rs := [5]) (by kernel_rfl) (by simp) ?_
          refine AllReadyIn.cons rfl (fun K hK => ?_) AllReadyIn.nil
          go_simp
          refine hK _ _ ?_
          clear hK K
          refine wpAnyIn_done (by kernel_rfl) ?_ _
          gi_wp2
          simpa using HE.out
  case done =>
    rintro D W hD ⟨⟨v, hv, hrow, -⟩, hB⟩ hK
    have hc := hv.cell
    gi_wp2
    refine ⟨by simp, .inl ⟨_, _, rfl, run_takeDeferred hK, ?_⟩⟩
    refine ⟨_, results_tmp rfl _ _ _, v, rfl, ?_, hB.trans (belowK_b (w := w) (Nat.le_refl _) W D _ _ (by rw [hsz] at hD; omega) hK rfl rfl)⟩
    have := ownsRow_putObj hrow (.deferred none) hK rfl
    rw [HTX.out] at this
    show World.ownsRow _ _ _ _ _ _ _
    rw [show (tidyT m).length = (tidyB 6 m).length from by simp [tidyT]]
    exact this

end Go.Proofs.Ytddkpimmcmnogab
