/-
  What the statements draw: clauses.
-/
import Derived.Test.YtcipidcnkllanaaDoorClaS
import Derived.Test.YtcipidcnkllanaaDoorPredDrawB
import Derived.Maps.AppendAt
namespace Go.Proofs.YtcipidcnkllanaaDoor
open Go.ChangeShapes Go.WideShapes Go.ChangeAt Go.RowKit Go.Joins
set_option linter.unusedVariables false

theorem ClaRow.grow {w w' : World} {base g : Nat} {v : Value} {l : List C3} (h : ClaRow w base v l) (hg : w.grownBy w' (some g)) (hb : g < base) : ClaRow w' base v l := by
  refine World.ownsRow.kept h hg ?_
  cases hv : v.ownBlock with
  | none => exact .inl rfl
  | some k =>
    have := (World.ownsRow.lt h k hv).1
    exact .inr (fun e => by have := Option.some.inj e; omega)
theorem ClaRow.belRow {w w' : World} {base : Nat} {v : Value} {l : List C3} (h : ClaRow w base v l) (hg : w.grownBy w' v.ownBlock) (hb : base ≤ w.heap.size) : Below base w w' :=
  ⟨hg.os, hg.tape, hg.output, hg.size, fun j hj => hg.block j (by omega) (fun e => by have := (World.ownsRow.lt h j e.symm).1; omega)⟩
theorem ClaRow.shape {w : World} {base : Nat} {v : Value} {l : List C3} (h : ClaRow w base v l) : ∃ a c, v = .slice a l.length c := by
  rcases h.form with ⟨rfl, rfl⟩ | ⟨g, cap, rfl, -⟩
  · exact ⟨_, _, rfl⟩
  · exact ⟨_, _, rfl⟩
theorem emptyRowC (W : World) (base : Nat) (h : base ≤ W.heap.size) : ClaRow (W.alloc (.cells #[] 34)) base (.slice (some ⟨W.heap.size, 0, none⟩) 0 0) [] :=
  World.ownsRow.mono (World.ownsRow_made (base := W.heap.size) (e := 34) (size := 3) W #[] 0 (Nat.le_refl _) (by unfold maxLen; omega) rfl) h
theorem newThr (w : World) (x : C3) : Thr (w.alloc (.cells #[.string x.s, .int .i64 x.o, .int .i64 x.t] 34)) w.heap.size 0 x := by
  have h := heap_alloc_new w (.cells #[.string x.s, .int .i64 x.o, .int .i64 x.t] 34)
  generalize w.alloc _ = W at *
  generalize w.heap.size = b at *
  refine ⟨?_, ?_, ?_⟩ <;> simp [World.cell?, h]
theorem oneC {W : World} {b : Nat} {r : C3} (h : Thr W b 0 r) : ∀ i, i < [r].length → Thr W b (0 + i * 3) (clAt [r] i) := fun i hi => by
  obtain rfl : i = 0 := by simp at hi; omega
  exact h
theorem clAtCell {W : World} {g off : Nat} {M : List C3} (hf : ∀ i, i < M.length → Thr W g (off + i * 3) (clAt M i)) : ∀ j u, (M.flatMap C3.cs)[j]? = some u → W.cell? ((⟨g, off, none⟩ : Addr).add j) = some u := by
  intro j u hj
  have hjl := (List.getElem?_eq_some_iff.1 hj).1
  rw [cl_len M] at hjl
  obtain ⟨f0, f1, f2⟩ := hf (j / 3) (by omega)
  have hd := Nat.div_add_mod j 3
  have hm := Nat.mod_lt j (show 0 < 3 by decide)
  have hat := cl_at M (j / 3) (j % 3) (by omega) hm
  rw [show j / 3 * 3 + j % 3 = j from by omega, hj] at hat
  have hadd : (⟨g, off, none⟩ : Addr).add j = ⟨g, off + j / 3 * 3 + j % 3, none⟩ := by
    have : off + j / 3 * 3 + j % 3 = off + j := by omega
    rw [this, addC_none]
  rw [hadd]
  generalize j % 3 = i at *
  match i, hm, hat with
  | 0, _, hat => simp [C3.cs] at hat; subst hat; exact f0
  | 1, _, hat => simp [C3.cs] at hat; subst hat; exact f1
  | 2, _, hat => simp [C3.cs] at hat; subst hat; exact f2
  | i + 3, hm, _ => omega
/-- All clauses of a slice are appended to clauses of the call's own: one operation. -/
theorem appC {w : World} {o : Oper} {a : Act} {K : Act → World → Prop} {Q : Exit → Act → World → Prop} (s x : Operand)
    (ho : o.op = .call { callee := .builtin .append, args := #[s, x], argTypes := #[23, 23] }) (base : Nat) (v : Value) (L : List C3) (hs : a.eval s = v) (hrow : ClaRow w base v L) (g off cap : Nat) (M : List C3)
    (hx : a.eval x = .slice (some ⟨g, off, none⟩) M.length cap) (hf : ∀ i, i < M.length → Thr w g (off + i * 3) (clAt M i)) (hn : L.length + M.length ≤ 1000000) (hb : base ≤ w.heap.size)
    (h : ∀ v' w', ClaRow w' base v' (L ++ M) → w.grownBy w' v.ownBlock → (v'.ownBlock = v.ownBlock ∨ v'.ownBlock = some w.heap.size) → K (a.put o.dst v') w') : o.wp Tryd.prog a w K Q := by
  obtain ⟨i0, hi, hz0, hz1, hz2⟩ := info_parts infoC
  obtain ⟨v', w', hr, h2, h3, h4, h5⟩ := run_append_own_at (P := Tryd.prog) w base 23 o.type 34 i0 (.agg #[.string ⟨#[]⟩, .int .i64 0, .int .i64 0]) 3 32 Tryd.underlying23 hi hz0 hz1 hz2 rfl (by decide) v L.length _ hrow ⟨g, off, none⟩ M.length cap (M.flatMap C3.cs) (cl_len M) (clAtCell hf)
    (by intro u hu
        obtain ⟨q, hq, hu⟩ := List.mem_flatMap.1 hu
        simp [C3.cs] at hu
        rcases hu with rfl | rfl | rfl <;> rfl) (by unfold maxLen; omega) (by omega) hb
  unfold Oper.wp execOp
  simp only [ho, resolve, invoke, builtin, Sem.run_bind, Sem.run_pure, Result.andThen_ok, List.map_toArray, List.map_cons, List.map_nil, hs, hx, hr]
  refine h _ _ ?_ h3 h5
  unfold ClaRow
  rw [List.length_append, List.flatMap_append]
  exact h2
/-- The same at the list of a plain region. -/
theorem app_cla {w : World} {ops : Array Oper} {rest : List Oper} {o : Oper} {a : Act} {Q : Exit → Act → World → Prop} (hgd : o.guard = none) (s x : Operand)
    (ho : o.op = .call { callee := .builtin .append, args := #[s, x], argTypes := #[23, 23] }) (base : Nat) (v : Value) (L : List C3) (hs : a.eval s = v) (hrow : ClaRow w base v L) (g off cap : Nat) (M : List C3)
    (hx : a.eval x = .slice (some ⟨g, off, none⟩) M.length cap) (hf : ∀ i, i < M.length → Thr w g (off + i * 3) (clAt M i)) (hn : L.length + M.length ≤ 1000000) (hb : base ≤ w.heap.size)
    (h : ∀ v' w', ClaRow w' base v' (L ++ M) → w.grownBy w' v.ownBlock → (v'.ownBlock = v.ownBlock ∨ v'.ownBlock = some w.heap.size) → wpList Tryd.prog ops Q rest (a.put o.dst v') w') : wpList Tryd.prog ops Q (o :: rest) a w :=
  wpList_plain hgd fun _ hK => appC s x ho base v L hs hrow g off cap M hx hf hn hb fun v' w' h2 h3 h4 => hK _ _ (h v' w' h2 h3 h4)

/-- Clauses are drawn by the reader at block g. -/
def ClaDrawn (g B : Nat) (w : World) (e : Ending) (w' : World) : Prop :=
  ∃ (u : Value) (l : List C3), e = .returned u ∧ ClaRow w' w.heap.size u l ∧ l.length ≤ 8 ∧ u.ownBlock ≠ none ∧ RdOk w' g (B + 900) ∧ w.grownBy w' (some g)
theorem own_step {v v' : Value} {n : Nat} (h : v.ownBlock ≠ none) (ho : v'.ownBlock = v.ownBlock ∨ v'.ownBlock = some n) : v'.ownBlock ≠ none := fun e => by
  rcases ho with k | k
  · exact h (k.symm.trans e)
  · exact Option.some_ne_none _ (k.symm.trans e)
def lenV (v : Value) : Nat := match v with
  | .slice _ n _ => n
  | _ => 0

set_option maxRecDepth 100000 in
set_option maxHeartbeats 4000000 in
theorem l91Clauses_any (w : World) (g B : Nat) (hr : RdOk w g B) (hBB : B ≤ 100000) :
    Calls Tryd.prog 11 #[.pointer (some ⟨g, 0, none⟩)] w (ClaDrawn g B w) := by
  have hlt := hr.lt
  have HR := Lib.hid (hr.alloc (.cells #[] 34))
  have HT0 := Lib.hid (emptyRowC w w.heap.size (Nat.le_refl _))
  have G0 := Lib.hid (gAlloc (gRefl w (some g)) (.cells #[] 34))
  clear hr
  go_enter Tryd.func11, Tryd.ntmps11
  go_wp2_with fail
  refine (pick_any _ _ _ _ HR.out (by omega) (by omega)).mono ?_
  rintro e w1 ⟨n1, a1, c1, rfl, hr1, g1⟩
  have HR1 := Lib.hid hr1
  have HT1 := Lib.hid (HT0.out.grow g1 hlt)
  have G1 := Lib.hid (gTrans G0.out g1)
  clear hr1 g1 HT0 G0 HR
  go_wp2
  go_loopw [3, 4] (fun x n wr => ∃ (k : Int) (l : List C3) (C : Nat), 0 ≤ k ∧ k ≤ 4 ∧ n = .int .i64 k ∧ ClaRow wr w.heap.size x l ∧ (l.length : Int) + k ≤ 4 ∧ (C : Int) + 202 * k ≤ B + 809 ∧ RdOk wr g C ∧ w.grownBy wr (some g) ∧ x.ownBlock ≠ none) (fun _ n _ => (intOf n).toNat)
  case atStart => exact ⟨n1, [], B + 1, by omega, by omega, rfl, HT1.out, by simp; omega, by omega, HR1.out, G1.out, Option.some_ne_none _⟩
  case round =>
    obtain ⟨k, l, C, hk0, hk4, rfl, hrow, hlen, hC, hrd, hgr, hown⟩ := hrel
    have HOW := Lib.hid hown
    clear hown
    have HRow := Lib.hid hrow
    have HRd := Lib.hid hrd
    have HG := Lib.hid hgr
    have hsz := hgr.size
    clear hrow hrd hgr
    by_cases hpos : 0 < k
    · go_wp2_with fail
      refine (l91Fine_any _ _ _ HRd.out (by omega)).mono ?_
      rintro e w2 ⟨s, hs, rfl, hr2, g2⟩
      have HRd2 := Lib.hid hr2
      have s2 := g2.size
      clear hr2
      go_wp2_with fail
      refine (pick_any _ _ _ _ HRd2.out (by omega) (by omega)).mono ?_
      rintro e w3 ⟨o, o0, o1, rfl, hr3, g3⟩
      have HRd3 := Lib.hid hr3
      have s3 := g3.size
      clear hr3
      go_wp2_with fail
      refine (pick_any _ _ _ _ HRd3.out (by omega) (by omega)).mono ?_
      rintro e w4 ⟨t, t0, t1, rfl, hr4, g4⟩
      have HRd4 := Lib.hid hr4
      have s4 := g4.size
      have G24 := Lib.hid (gTrans (gTrans g2 g3) g4)
      have HRow4 := Lib.hid (HRow.out.grow G24.out hlt)
      have G4 := Lib.hid (gTrans HG.out G24.out)
      clear hr4 g2 g3 g4 HRd HRd2 HRd3 HRow HG G24
      go_wp2_with (at_builtin; refine app_cla rfl _ _ rfl w.heap.size _ l rfl (HRow4.out.below (below_alloc1 _ _)) _ 0 1 [⟨s, o, t - 1, by omega⟩] rfl (oneC (newThr _ ⟨s, o, t - 1, by omega⟩)) (by simp; omega) (by simp; omega) ?_; rintro v' w5 hrow5 hg5 ho5; have HO5 := Lib.hid (own_step HOW.out ho5); clear ho5; have HR5 := Lib.hid hrow5; have HB5 := Lib.hid (((below_alloc1 w4 (.cells #[.string s, .int .i64 o, .int .i64 (t - 1)] 34)).mono (show w.heap.size ≤ w4.heap.size by omega)).trans ((HRow4.out.below (below_alloc1 w4 (.cells #[.string s, .int .i64 o, .int .i64 (t - 1)] 34))).belRow hg5 (by simp; omega))); clear hrow5 hg5)
      go_roundw
      case rel => exact ⟨k - 1, l ++ [⟨s, o, t - 1, by omega⟩], C + 202, by omega, by omega, by go_num, HR5.out, by simp; omega, by omega, HRd4.out.below HB5.out hlt, gBelow G4.out HB5.out (Nat.le_refl _), HO5.out⟩
      case measure => simp [intOf]; omega
    · go_wp2_with fail
      refine (pick_any _ _ _ _ HRd.out (by omega) (by omega)).mono ?_
      rintro e w2 ⟨p, p0, p1, rfl, hr2, g2⟩
      have HRd2 := Lib.hid hr2
      have s2 := g2.size
      have HRow2 := Lib.hid (HRow.out.grow g2 hlt)
      have G2 := Lib.hid (gTrans HG.out g2)
      clear hr2 g2 HRd HRow HG
      by_cases hp0 : p = 0
      · subst hp0
        go_wp2_with (at_builtin; refine app_cla rfl _ _ rfl w.heap.size _ l rfl (HRow2.out.below (below_alloc1 _ _)) _ 0 1 [⟨⟨#[49]⟩, 5, 0, by decide⟩] rfl (oneC (newThr _ ⟨⟨#[49]⟩, 5, 0, by decide⟩)) (by simp; omega) (by simp; omega) ?_; rintro v' w5 hrow5 hg5 ho5; have HO5 := Lib.hid (own_step HOW.out ho5); clear ho5; have HR5 := Lib.hid hrow5; have HB5 := Lib.hid (((below_alloc1 w2 (.cells #[.string ⟨#[49]⟩, .int .i64 5, .int .i64 0] 34)).mono (show w.heap.size ≤ w2.heap.size by omega)).trans ((HRow2.out.below (below_alloc1 w2 (.cells #[.string ⟨#[49]⟩, .int .i64 5, .int .i64 0] 34))).belRow hg5 (by simp; omega))); clear hrow5 hg5)
        go_ret
        exact ⟨_, _, rfl, HR5.out, by simp; omega, HO5.out, (HRd2.out.below HB5.out hlt).le (by omega), gBelow G2.out HB5.out (Nat.le_refl _)⟩
      have hp0' : (p == 0) = false := by simpa using hp0
      by_cases hp1 : p = 1
      · subst hp1
        have hl4 : l.length ≤ 4 := by omega
        have hC' : C ≤ B + 809 := by omega
        clear hlen hC hk0 hk4 hpos
        go_wp2
        go_loopw [3] (fun x wr => ∃ (l : List C3) (C : Nat), l.length ≤ 7 ∧ lenV x = l.length ∧ ClaRow wr w.heap.size x l ∧ C + (8 - l.length) ≤ B + 820 ∧ RdOk wr g C ∧ w.grownBy wr (some g) ∧ x.ownBlock ≠ none) (fun x _ => 8 - lenV x)
        case atStart => exact ⟨l, C + 1, by omega, (by obtain ⟨a, c, e⟩ := HRow2.out.shape; rw [e]; rfl), HRow2.out, by omega, HRd2.out, G2.out, HOW.out⟩
        case round =>
          obtain ⟨l2, C2, hl7, hlv, hrow, hC2, hrd, hgr, hown⟩ := hrel
          clear HOW
          have HOW := Lib.hid hown
          clear hown
          have HRow3 := Lib.hid hrow
          have HRd3 := Lib.hid hrd
          have G3 := Lib.hid hgr
          have s3 := hgr.size
          obtain ⟨xa, xc, rfl⟩ := hrow.shape
          clear hrow hrd hgr hlv HRow2 HRd2 G2 s2
          go_wp2_with fail
          refine (pick_any _ _ _ _ HRd3.out (by omega) (by omega)).mono ?_
          rintro e w3 ⟨q, q0, q1, rfl, hr3, g3⟩
          have HRd4 := Lib.hid hr3
          have s4 := g3.size
          have HRow4 := Lib.hid (HRow3.out.grow g3 hlt)
          have G4 := Lib.hid (gTrans G3.out g3)
          clear hr3 g3 HRd3 HRow3 G3
          have hw6 : IntKind.i64.wrap (6 + q) = 6 + q := by rw [IntKind.wrap_i64]; omega
          generalize hN2 : l2.length = n2 at *
          have HN2 := Lib.hid hN2
          clear hN2
          by_cases hlt2 : (n2 : Int) < 6 + q
          · go_wp2_with (at_builtin; refine app_cla rfl _ _ rfl w.heap.size _ l2 rfl (HRow4.out.below (below_alloc1 _ _)) _ 0 1 [⟨⟨#[115, 49]⟩, 2, -1, by decide⟩] rfl (oneC (newThr _ ⟨⟨#[115, 49]⟩, 2, -1, by decide⟩)) (by have := HN2.out; simp; omega) (by simp; omega) ?_; rintro v' w5 hrow5 hg5 ho5; have HO5 := Lib.hid (own_step HOW.out ho5); clear ho5; have HR5 := Lib.hid hrow5; have HB5 := Lib.hid (((below_alloc1 w3 (.cells #[.string ⟨#[115, 49]⟩, .int .i64 2, .int .i64 (-1)] 34)).mono (show w.heap.size ≤ w3.heap.size by omega)).trans ((HRow4.out.below (below_alloc1 w3 (.cells #[.string ⟨#[115, 49]⟩, .int .i64 2, .int .i64 (-1)] 34))).belRow hg5 (by simp; omega))); clear hrow5 hg5)
            go_roundw
            case rel => exact ⟨_, C2 + 1, by have := HN2.out; simp; omega, (by obtain ⟨a, c, e⟩ := HR5.out.shape; rw [e]; rfl), HR5.out, by have := HN2.out; simp; omega, HRd4.out.below HB5.out hlt, gBelow G4.out HB5.out (Nat.le_refl _), HO5.out⟩
            case measure =>
              have := HN2.out
              obtain ⟨a, c, e⟩ := HR5.out.shape
              subst e
              first
                | (simp [lenV]; omega)
                | (simp [lenV]; done)
                | omega
          · go_wp2
            go_ret
            exact ⟨_, l2, rfl, HRow4.out, by have := HN2.out; omega, HOW.out, HRd4.out.le (by omega), G4.out⟩
      · have hp1' : (p == 1) = false := by simpa using hp1
        go_wp2
        go_ret
        exact ⟨_, l, rfl, HRow2.out, by omega, HOW.out, HRd2.out.le (by omega), G2.out⟩

end Go.Proofs.YtcipidcnkllanaaDoor
