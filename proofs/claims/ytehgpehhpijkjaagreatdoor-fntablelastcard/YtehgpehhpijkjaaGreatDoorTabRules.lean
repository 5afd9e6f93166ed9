/-
  The program's rules of a list, copied.
-/
import Derived.Test.YtehgpehhpijkjaaGreatDoorTabL
import Derived.Test.YtehgpehhpijkjaaGreatDoorTabPutS
import Derived.Test.YtehgpehhpijkjaaGreatDoorStrClone
import Derived.OwnWalkIn
import Derived.RangeFuncBox
namespace Go.Proofs.YtehgpehhpijkjaaGreatDoor
open Go.ChangeShapes Go.WideShapes Go.ChangeAt Go.RowKit Go.Joins
open Go.Shelf
set_option linter.unusedVariables false
attribute [local go_sem] Oper.semAt_some

theorem comeA_snd (l : List R4) : (comeA l l.length).map (fun x => x.2) = l := by
  apply List.ext_getElem
  · simp [comeA]
  · intro i h1 h2
    simp only [comeA, List.map_map, List.getElem_map, List.getElem_range, Function.comp]
    exact ruAt_lt h2
theorem threeB (w : World) (A B C : Obj) : Below w.heap.size w (((w.alloc A).alloc B).alloc C) ∧ (((w.alloc A).alloc B).alloc C).heap[w.heap.size + 1]? = some B ∧ (((w.alloc A).alloc B).alloc C).heap[w.heap.size + 1 + 1]? = some C ∧ (((w.alloc A).alloc B).alloc C).heap.size = w.heap.size + 3 := by
  have h1 := newBlockM (w.alloc A) B
  have h2 := newBlockM ((w.alloc A).alloc B) C
  simp only [World.size_alloc] at h1 h2
  refine ⟨(below_alloc2 w A B).trans ((Below.refl _ _).alloc (by simp; omega) C), ?_, h2, by simp⟩
  rw [Below.heap_alloc _ _ _ (by simp)]
  exact h1
/-- Behind a copy of a text, and its store into the rule's block. -/
theorem textPut {W w2 : World} {Bx B n₀ : Nat} {v : Value} {r : R4} {T : TypeId} {xs : List Value} {k : Nat} (hb : Below W.heap.size W w2) (hv : Boxed W B T v) (hrow : W.ownsRow n₀ 31 4 v k xs) (hX : W.heap[Bx]? = some (.cells #[.int .i64 r.p, .string r.s, .int .i64 r.o, .int .i64 r.t] 31)) (hne : v.ownBlock ≠ some Bx) (hBx : B ≠ Bx) (hn : n₀ ≤ Bx) (hnW : n₀ ≤ W.heap.size) :
    Boxed (w2.setCell ⟨Bx, 1, none⟩ (.string r.s)) B T v ∧ (w2.setCell ⟨Bx, 1, none⟩ (.string r.s)).ownsRow n₀ 31 4 v k xs ∧ (w2.setCell ⟨Bx, 1, none⟩ (.string r.s)).heap[Bx]? = some (.cells #[.int .i64 r.p, .string r.s, .int .i64 r.o, .int .i64 r.t] 31) ∧ KeepsOthers W (w2.setCell ⟨Bx, 1, none⟩ (.string r.s)) ∧ Below n₀ W (w2.setCell ⟨Bx, 1, none⟩ (.string r.s)) ∧ W.heap.size ≤ (w2.setCell ⟨Bx, 1, none⟩ (.string r.s)).heap.size := by
  have hl := (Array.getElem?_eq_some_iff.1 (show W.heap[B]? = some (.cells #[v] T) from hv)).1
  have hlx := (Array.getElem?_eq_some_iff.1 hX).1
  have hX2 := (hb.block Bx hlx).trans hX
  have hr2 : w2.ownsRow n₀ 31 4 v k xs := World.ownsRow.kept hrow (row := none) ⟨hb.os, hb.tape, hb.output, hb.size, fun k hk _ => hb.block k hk⟩ (by cases v.ownBlock <;> simp)
  have hgs : w2.grownBy (w2.setCell ⟨Bx, 1, none⟩ (.string r.s)) (some Bx) := ⟨rfl, rfl, rfl, by simp, fun k _ hk => Below.heap_setCell _ _ _ k (fun e => hk (by rw [e]))⟩
  refine ⟨?_, World.ownsRow.kept hr2 hgs (.inr hne), ?_, ?_, (hb.mono hnW).setCell (by exact hn) _, by have := hb.size; simpa using this⟩
  · show (w2.setCell ⟨Bx, 1, none⟩ (.string r.s)).heap[B]? = some (.cells #[v] T)
    rw [heap_setCell_other _ _ B _ hBx]
    exact (hb.block B hl).trans hv
  · have := heap_setCell_same w2 Bx 1 _ _ (.string r.s) hX2
    simpa using this
  · exact (show KeepsOthers W w2 from ⟨hb.size, fun k o hk _ => (hb.block k (Array.getElem?_eq_some_iff.1 hk).1).trans hk⟩).trans (KeepsOthers.setCell _ _ _)

/-- One rule is appended, inside a fence. -/
theorem app_ruleIn {F : Fence} {n : Nat} {w : World} {ops : Array Oper} {rest : List Oper} {o : Oper} {a : Act} {Q : Exit → Act → World → Prop} (hgd : o.guard = none) (s x : Operand)
    (ho : o.op = .call { callee := .builtin .append, args := #[s, x], argTypes := #[23, 23] }) (base : Nat) (v : Value) (L : List R4) (hs : a.eval s = v) (hrow : RulRow w base v L) (g : Nat) (r : R4)
    (hx : a.eval x = .slice (some ⟨g, 0, none⟩) 1 1) (hf : Four w g 0 r) (hn : L.length ≤ 1000000) (hb : base ≤ w.heap.size)
    (h : ∀ v' w', w'.ownsRow base 31 4 v' (L.length + 1) (L.flatMap R4.cs ++ R4.cs r) → w.grownBy w' v.ownBlock → (∃ g' cap', v' = .slice (some ⟨g', 0, none⟩) (L.length + 1) cap') → wpListIn F n Tryz.prog ops Q rest (a.put o.dst v') w') : wpListIn F n Tryz.prog ops Q (o :: rest) a w := by
  obtain ⟨i0, hi, hz0, hz1, hz2⟩ := info_parts infoR
  refine wpListIn_append_own _ hgd s x 23 ho base 31 i0 (.agg #[.int .i64 0, .string ⟨#[]⟩, .int .i64 0, .int .i64 0]) 4 40 Tryz.underlying23 hi hz0 hz1 hz2 rfl (by decide) v L.length _ hs hrow ⟨g, 0, none⟩ 1 1 (R4.cs r) hx rfl ?c1 ?c2 ?c3 ?c4 hb ?c6
  case c1 =>
    intro j u hj
    obtain ⟨f0, f1, f2, f3⟩ := hf
    rw [add_none]
    match j, hj with
    | 0, hj => simp [R4.cs] at hj; subst hj; exact f0
    | 1, hj => simp [R4.cs] at hj; subst hj; exact f1
    | 2, hj => simp [R4.cs] at hj; subst hj; exact f2
    | 3, hj => simp [R4.cs] at hj; subst hj; exact f3
    | j + 4, hj => simp [R4.cs] at hj
  case c2 =>
    intro u hu
    simp [R4.cs] at hu
    rcases hu with rfl | rfl | rfl | rfl <;> rfl
  case c3 => unfold maxLen; omega
  case c4 => omega
  case c6 =>
    intro v' w' hown hg hnil
    exact h v' w' hown hg (ownsRow_succ hown)

set_option maxRecDepth 100000 in
set_option maxHeartbeats 4000000 in
theorem tableRules_any (w : World) (g : Nat) (l : List R4) (hlen : l.length ≤ 1000) (hR : LR w g l) :
    Calls Tryz.prog 52 #[lstV g] w fun e w' => ∃ u, e = .returned u ∧ RulRow w' w.heap.size u l ∧ Below w.heap.size w w' := by
  have HR := Lib.hid hR
  clear hR
  refine (callsIn_wide (n := 5)).1 ?_
  refine callsIn_of_wp_marks Tryz.func52 rfl trivial ?_ rfl
  unfold lstV
  simp only [Tryz.ntmps52, List.size_toArray, List.length_cons, List.length_nil, Nat.reduceAdd, Nat.reduceSub, Array.replicate_succ, Array.replicate_zero, List.push_toArray, List.append_toArray, List.nil_append, List.cons_append]
  gi_wp2_with (first | (refine ⟨trivial, ?_⟩; gi_at_call 42; refine (callsIn_wide.2 (all_any _ _)).mono ?_; rintro ex w1 ⟨rfl, rfl⟩))
  obtain ⟨m0, m1, m2, hsz⟩ := threeB w (.cells #[.func (.func 63) #[] #[], .pointer (some ⟨g, 0, none⟩)] 55) (.cells #[.slice none 0 0] 23) (lstO g)
  generalize ((w.alloc (.cells #[.func (.func 63) #[] #[], .pointer (some ⟨g, 0, none⟩)] 55)).alloc (.cells #[.slice none 0 0] 23)).alloc (lstO g) = W2 at *
  refine wpIn_rangeFunc_ownH (n := 5) rfl (by omega) (gf := 77) (lb := #[.pointer (some ⟨w.heap.size + 1 + 1, 0, none⟩)]) rfl trivial (enters_of Tryz.func77 (by kernel_rfl) rfl)
    (all_stops Fence.wide 4 trivial rfl (by omega) (w.heap.size + 1 + 1) w g l (by omega) HR.out W2 m0 m2) belowK_t (belowK_b (by omega)) (Below.refl _ _) (fun _ => rfl)
    (fun pre W => (∃ v, Boxed W (w.heap.size + 1) 23 v ∧ W.ownsRow w.heap.size 31 4 v (pre.map (fun x => x.2)).length ((pre.map (fun x => x.2)).flatMap R4.cs) ∧ True) ∧ Below w.heap.size w W ∧ W2.heap.size ≤ W.heap.size)
    (fun c' pre W => False)
    (OwnFrom.and (Own.from (holdsRow_own _ _ _ _ _ _ _ (fun _ _ => True)) _) (OwnFrom.and (ownFrom_below (Nat.le_refl _) (by omega)) (fun s A B row hs hg _ => Nat.le_trans hs hg.size)))
    (fun c' => ownFrom_pure _ _)
    ⟨⟨_, m1, ⟨rfl, .inl ⟨rfl, rfl⟩⟩, trivial⟩, m0, Nat.le_refl _⟩
    (fun x a' W => ∃ Bx v, W2.heap.size ≤ Bx ∧ W.heap[Bx]? = some (.cells #[.int .i64 x.2.p, .string x.2.s, .int .i64 x.2.o, .int .i64 x.2.t] 31) ∧ Boxed W (w.heap.size + 1) 23 v ∧ v.ownBlock ≠ some Bx ∧ a' = { tmps := #[lstV g, .pointer (some ⟨w.heap.size, 0, none⟩), .slice none 0 0, .pointer (some ⟨w.heap.size + 1, 0, none⟩), undef, .pointer (some ⟨Bx, 0, none⟩), lstV g, .func (.func 77) #[] #[.pointer (some ⟨w.heap.size + 1 + 1, 0, none⟩)], .int .i64 x.1, R4.v x.2, undef, undef, undef, undef, undef, undef, undef, undef, undef], defers := [] })
    ?hAx ?assign ?body ?done ?stop
  case hAx =>
    intro x a' u A B row hs hg hr
    obtain ⟨Bx, v, h1, h2, h3, h4, h5⟩ := hs
    exact ⟨Bx, v, h1, blk_own Bx (fun _ : Unit => .cells #[.int .i64 x.2.p, .string x.2.s, .int .i64 x.2.o, .int .i64 x.2.t] 31) (fun _ => rfl) () A B row h2 hg (fun r e => (hr r e).2), blk_own (w.heap.size + 1) (fun _ : Unit => .cells #[v] 23) (fun _ => rfl) () A B row h3 hg (fun r e => (hr r e).2), h4, h5⟩
  case assign =>
    rintro lp pre x W K ⟨⟨v, hv, hrow, -⟩, hB, hW2⟩ hK
    have hws := (Array.getElem?_eq_some_iff.1 (show W.heap[w.heap.size + 1]? = some (.cells #[v] 23) from hv)).1
    have hA := below_alloc1 W (.cells #[.int .i64 x.2.p, .string x.2.s, .int .i64 x.2.o, .int .i64 x.2.t] 31)
    have hvk : Boxed (W.alloc (.cells #[.int .i64 x.2.p, .string x.2.s, .int .i64 x.2.o, .int .i64 x.2.t] 31)) (w.heap.size + 1) 23 v := (hA.block _ hws).trans hv
    have hne : v.ownBlock ≠ some W.heap.size := fun e => by have := (World.ownsRow.lt hrow _ e).2; omega
    have HK := hK _ (W.alloc (.cells #[.int .i64 x.2.p, .string x.2.s, .int .i64 x.2.o, .int .i64 x.2.t] 31)) ((KeepsOthers.alloc _ _).from _) (hA.mono hB.size) ⟨⟨v, hvk, World.ownsRow.kept hrow (row := none) ⟨hA.os, hA.tape, hA.output, hA.size, fun k hk _ => hA.block k hk⟩ (by cases v.ownBlock <;> simp), trivial⟩, hB.trans (hA.mono hB.size), Nat.le_trans hW2 hA.size⟩ ⟨W.heap.size, v, hW2, newBlockM W _, hvk, hne, rfl⟩
    clear hK
    unfold R4.v lstV at *
    gi_wp2
    exact HK
  case body =>
    rintro lp pre x a' W hl ⟨rr, hrr⟩ ⟨⟨v, hv, hrow, -⟩, hB, hW2⟩ ⟨Bx, v2, hBx, bX, hv2, hne, rfl⟩ hlt
    obtain rfl : v = v2 := by
      have := (show W.heap[w.heap.size + 1]? = some (.cells #[v] 23) from hv).symm.trans (show W.heap[w.heap.size + 1]? = some (.cells #[v2] 23) from hv2)
      simpa using this
    have hbx := (Array.getElem?_eq_some_iff.1 bX).1
    obtain ⟨x0, x1, x2, x3⟩ := cells4 bX
    simp only [Nat.zero_add] at x1 x2 x3
    obtain ⟨j, r⟩ := x
    dsimp only at *
    have HT : Hid (∀ w2, Below W.heap.size W w2 → _) := fun w2 hb => textPut hb hv hrow bX hne (by omega) (by omega) hB.size
    have HLN : Hid ((pre.map (fun x => x.2)).length ≤ 1000) := by show _ ≤ _; simp; omega
    have HPM : Hid ((pre ++ [(j, r)]).map (fun x => x.2) = pre.map (fun x => x.2) ++ [r]) := by show _ = _; simp
    have HB := Lib.hid hB
    have HX := Lib.hid bX
    have HV := Lib.hid hv
    have hws := hB.size
    have hvl := (Array.getElem?_eq_some_iff.1 (show W.heap[w.heap.size + 1]? = some (.cells #[v] 23) from hv)).1
    have hc := hv.cell
    have hne1 : ¬ (w.heap.size + 1 = Bx) := by omega
    clear hv hv2 hrow bX hB hrr hlt hne
    unfold R4.v lstV
    gi_wp2_with (first | (refine ⟨trivial, ?_⟩; gi_at_call 87; refine (CallsIn.inRound lp (callsIn_wide.2 (clone_any _ _ r.hs))).mono ?_; rintro ex w2 ⟨rfl, b2⟩; have k0 := (belCell b2 _ _ hbx).trans x0; have k1 := (belCell b2 _ _ hbx).trans x1; have k2 := (belCell b2 _ _ hbx).trans x2; have k3 := (belCell b2 _ _ hbx).trans x3; have kc := (belCell b2 _ _ hvl).trans hc; have kf : ∀ o, w2.frozen? ⟨Bx, o, none⟩ = false := (fun o => by simp [World.frozen?, (b2.block Bx hbx).trans HX.out]); obtain ⟨hv3, hrow3, hX3, hko, hb3, hs3⟩ := HT.out _ b2; have d0 := hv3.cell; obtain ⟨q0, q1, q2, q3⟩ := cells4 hX3; simp only [Nat.zero_add] at q1 q2 q3; have HV3 := Lib.hid hv3; have HROW3 := Lib.hid hrow3; have HKO := Lib.hid hko; have HB3 := Lib.hid hb3; have s2 := b2.size; have HZ : Hid ((w2.setCell ⟨Bx, 1, none⟩ (.string r.s)).heap.size = w2.heap.size) := (by show _ = _; simp); clear b2 hv3 hrow3 hX3 hko hb3) | (gi_at_builtin; refine Hid.out ?_))
    refine Lib.hid ?_
    refine app_ruleIn rfl _ _ rfl w.heap.size v (pre.map (fun x => x.2)) rfl (RulRow.below (show RulRow _ w.heap.size v (pre.map (fun x => x.2)) from HROW3.out) (below_alloc1 _ _)) _ r rfl (by have h4 := newFour (w2.setCell ⟨Bx, 1, none⟩ (.string r.s)) r; rw [HZ.out] at h4; exact h4) (by have := HLN.out; omega) (by simp; omega) ?_
    rintro v' w3 hown hgrow ⟨g', cap', rfl⟩
    obtain ⟨e1, e2, e3, e4, e5⟩ := Boxed.appended HV3.out (by decide) HROW3.out (by simp; omega) (by omega) hown hgrow
    have c6 := e1.cell
    have f6 := e1.frozen
    have E2 := Lib.hid e2
    have E3 := Lib.hid e3
    have E4 := Lib.hid e4
    have E5 := Lib.hid e5
    clear e1 e2 e3 e4 e5 hown hgrow
    gi_wp2
    rw [List.length_map] at E2 E3 E4 E5
    refine ⟨(HKO.out.trans E4.out).from _, HB3.out.trans E5.out, ⟨_, E2.out, ?_, trivial⟩, HB.out.trans (HB3.out.trans E5.out), Nat.le_trans hW2 (HKO.out.trans E4.out).size⟩
    rw [HPM.out, List.length_append, List.flatMap_append, List.length_map]
    simpa using E3.out
  case done =>
    rintro D ys W hD rfl ⟨⟨v, hv, hrow, -⟩, hB, hW2⟩ hK
    have hc := hv.cell
    rw [comeA_snd] at hrow
    gi_wp2
    refine ⟨by simp, .inl ⟨_, _, rfl, run_takeDeferred hK, ?_⟩⟩
    refine ⟨_, results_tmp rfl _ _ _, v, rfl, ?_, hB.trans (belowK_b (w := w) (Nat.le_refl _) W D _ _ (by omega) hK rfl rfl)⟩
    exact ownsRow_putObj hrow (.deferred none) hK rfl
  case stop =>
    rintro D c' pre W hD - h
    exact h.elim

end Go.Proofs.YtehgpehhpijkjaaGreatDoor
