/-
  Proved: promise 56 (a table is sorted, without a rule twice), at every code from which the table is drawn; the code reads on as it did. No condition but the card's own: the listed variables of the library stand as its text lays them.
-/
import Derived.Test.YtennaeboemlnoaaDoorRuleCard
import Derived.Test.YtennaeboemlnoaaDoorOwnB
import Derived.Test.YtennaeboemlnoaaDoorTabO
import Derived.Test.YtennaeboemlnoaaDoorTabDr
import Derived.Test.YtennaeboemlnoaaDoorTabOkI
import Derived.Test.YtennaeboemlnoaaDoorTabSpec
namespace Go.Proofs.YtennaeboemlnoaaDoor
open Go.ChangeShapes Go.WideShapes Go.ChangeAt Go.RowKit Go.Joins
set_option linter.unusedVariables false

/-- A table was drawn, and perhaps a rule behind it. -/
def TabOneF (w : World) (e : Ending) (w' : World) : Prop :=
  ∃ (v : Value) (l : List R4), e = .returned v ∧ l.length ≤ 101 ∧ RulRow w' w.heap.size v l ∧ Below w.heap.size w w'

set_option maxRecDepth 100000 in
set_option maxHeartbeats 4000000 in
theorem drawTableOk_any (w : World) (a : Option Addr) (len cap : Nat) (hb : BytesIn w w.heap.size a len cap) :
    Calls Tryd.prog 36 #[.slice a len cap] w (TabOneF w) := by
  have HB := Lib.hid hb
  clear hb
  go_enter Tryd.func36, Tryd.ntmps36
  go_wp2_with fail
  refine (open_any _ _ _ _ HB.out).mono ?_
  rintro e w1 ⟨rfl, hr, b1⟩
  have HR := Lib.hid hr
  have s1 := HR.out.lt
  have B1 := Lib.hid b1
  clear hr b1
  go_wp2_with fail
  refine (l91Table_any _ _ _ HR.out (by omega)).mono ?_
  rintro e w2 ⟨v, l, rfl, hrow, hlen, hr2, g2⟩
  have HROW := Lib.hid hrow
  have HR2 := Lib.hid hr2
  have G2 := Lib.hid g2
  have s2 := g2.size
  clear hrow hr2 g2
  go_wp2_with fail
  refine (pick_any _ _ _ _ HR2.out (by omega) (by omega)).mono ?_
  rintro e w3 ⟨n3, a3, c3, rfl, hr3, g3⟩
  have HROW3 := Lib.hid (HROW.out.grow g3 s1)
  have HR3 := Lib.hid hr3
  have G3 := Lib.hid (gTrans G2.out g3)
  have s3 := g3.size
  clear hr3 g3 HROW HR2 G2
  obtain ⟨ad, cp, rfl, hcap, hmx, -⟩ := HROW3.out.rls
  unfold maxLen at hmx
  by_cases h0 : n3 = 0
  · subst h0
    go_wp2_with fail
    refine (l91Rule_any _ _ _ HR3.out (by omega)).mono ?_
    rintro e w4 ⟨p, s, o, t, hsm, rfl, hr4, g4⟩
    have hss : s.size ≤ 1048576 := by have := hsm.2.1; omega
    have HROW4 := Lib.hid (HROW3.out.grow g4 s1)
    have s4 := g4.size
    have G4 := Lib.hid (gTrans G3.out g4)
    have B4 : Hid (Below w.heap.size w w4) := B1.out.trans (gBel G4.out (Nat.le_refl _) (by omega))
    clear hr4 g4 hsm HROW3 HR3 G3
    go_wp2_with (at_builtin; refine app_rule rfl _ _ rfl w1.heap.size _ _ rfl (HROW4.out.below (below_alloc1 _ _)) _ ⟨p, s, o, t, hss⟩ rfl (newFour _ ⟨p, s, o, t, hss⟩) (by omega) (by simp; omega) ?_; rintro v' w5 hrow5 hb5 hs5 ⟨g', cap', rfl⟩; have HRow5 := Lib.hid hrow5; have HB5 := Lib.hid (((below_alloc1 w4 (.cells #[.int .i64 p, .string s, .int .i64 o, .int .i64 t] 56)).mono (by omega)).trans hb5); clear hrow5 hb5 hs5)
    go_ret
    exact ⟨_, _, rfl, by simp; omega, HRow5.out.mono (by omega), B4.out.trans (HB5.out.mono (by omega))⟩
  · have hz : (n3 == 0) = false := by simpa using h0
    have B3 : Hid (Below w.heap.size w w3) := B1.out.trans (gBel G3.out (Nat.le_refl _) (by omega))
    go_wp2
    go_ret
    exact ⟨_, _, rfl, by omega, HROW3.out.mono (by omega), B3.out⟩

/-- All rules of a slice are appended to rules of the call's own. -/
theorem app_rulesF {w : World} {ops : Array Oper} {rest : List Oper} {o : Oper} {a : Act} {Q : Exit → Act → World → Prop} (hgd : o.guard = none) (s x : Operand)
    (ho : o.op = .call { callee := .builtin .append, args := #[s, x], argTypes := #[37, 37] }) (base : Nat) (v : Value) (L : List R4) (hs : a.eval s = v) (hrow : RulRow w base v L) (g off cap : Nat) (M : List R4)
    (hx : a.eval x = .slice (some ⟨g, off, none⟩) M.length cap) (hf : ∀ i, i < M.length → Four w g (off + i * 4) (ruAt M i)) (hn : L.length + M.length ≤ 1000000) (hb : base ≤ w.heap.size)
    (h : ∀ v' w', RulRow w' base v' (L ++ M) → Below base w w' → w.heap.size ≤ w'.heap.size → wpList Tryd.prog ops Q rest (a.put o.dst v') w') : wpList Tryd.prog ops Q (o :: rest) a w := by
  obtain ⟨i0, hi, hz0, hz1, hz2⟩ := info_parts infoR
  refine wpList_append_own _ hgd s x 37 ho base 56 i0 (.agg #[.int .i64 0, .string ⟨#[]⟩, .int .i64 0, .int .i64 0]) 4 40 Tryd.underlying37 hi hz0 hz1 hz2 rfl (by decide) v L.length _ hs hrow ⟨g, off, none⟩ M.length cap (M.flatMap R4.cs) hx (fl_len M) ?c1 ?c2 ?c3 ?c4 hb ?c6
  case c1 =>
    intro j u hj
    have hjl := (List.getElem?_eq_some_iff.1 hj).1
    rw [fl_len M] at hjl
    obtain ⟨f0, f1, f2, f3⟩ := hf (j / 4) (by omega)
    have hd := Nat.div_add_mod j 4
    have hm := Nat.mod_lt j (show 0 < 4 by decide)
    have hat := fl_at M (j / 4) (j % 4) (by omega) hm
    rw [show j / 4 * 4 + j % 4 = j from by omega, hj] at hat
    have hadd : (⟨g, off, none⟩ : Addr).add j = ⟨g, off + j / 4 * 4 + j % 4, none⟩ := by
      have : off + j / 4 * 4 + j % 4 = off + j := by omega
      rw [this, add_none]
    rw [hadd]
    generalize j % 4 = i at *
    match i, hm, hat with
    | 0, _, hat => simp [R4.cs] at hat; subst hat; exact f0
    | 1, _, hat => simp [R4.cs] at hat; subst hat; exact f1
    | 2, _, hat => simp [R4.cs] at hat; subst hat; exact f2
    | 3, _, hat => simp [R4.cs] at hat; subst hat; exact f3
    | i + 4, hm, _ => omega
  case c2 =>
    intro u hu
    obtain ⟨q, hq, hu⟩ := List.mem_flatMap.1 hu
    simp [R4.cs] at hu
    rcases hu with rfl | rfl | rfl | rfl <;> rfl
  case c3 => unfold maxLen; omega
  case c4 => omega
  case c6 =>
    intro v' w' hown hg hnil
    refine h v' w' ?_ ⟨hg.os, hg.tape, hg.output, hg.size, fun j hj => hg.block j (by omega) (fun e => by have := (World.ownsRow.lt hrow j e.symm).1; omega)⟩ hg.size
    unfold RulRow
    rw [List.length_append, List.flatMap_append]
    exact hown

theorem emptyRowF (W : World) (base : Nat) (h : base ≤ W.heap.size) : RulRow (W.alloc (.cells #[] 56)) base (.slice (some ⟨W.heap.size, 0, none⟩) 0 0) [] :=
  World.ownsRow_made (base := base) (e := 56) (size := 4) W #[] 0 h (by unfold maxLen; omega) rfl
theorem rowForm {w : World} {base : Nat} {v : Value} {l : List R4} (h : RulRow w base v l) (hl : 0 < l.length) : ∃ g cap, v = .slice (some ⟨g, 0, none⟩) l.length cap := by
  obtain ⟨-, h1 | ⟨g', cap', cur, h1, -⟩⟩ := h
  · exact absurd h1.2 (by omega)
  · exact ⟨g', cap', h1⟩
theorem tOk_take {l : List R4} (h : tOk l = true) (k : Nat) : tOk (l.take k) = true := by
  obtain ⟨h1, h2, h3⟩ := tOk_pw.1 h
  exact tOk_pw.2 ⟨by rw [List.length_take]; omega, fun q hq => h2 q (List.mem_of_mem_take hq), h3.sublist (List.take_sublist k l)⟩
theorem tOk_twice {l : List R4} {k : Nat} (hk : k < l.length) : tOk (l ++ [ruAt l k]) = false := by
  cases h : tOk (l ++ [ruAt l k])
  · rfl
  · have hp := (List.pairwise_append.1 (tOk_pw.1 h).2.2).2.2 (ruAt l k) (ruAt_mem hk) (ruAt l k) (by simp)
    rw [cmR_self] at hp
    omega
theorem tOk_swap {l : List R4} (ht : tOk l = true) {k : Nat} (hk : k + 1 < l.length) : tOk ((l.set k (ruAt l (k + 1))).set (k + 1) (ruAt l k)) = false := by
  cases h : tOk ((l.set k (ruAt l (k + 1))).set (k + 1) (ruAt l k))
  · rfl
  · have h1 := List.pairwise_iff_getElem.1 (tOk_pw.1 ht).2.2 k (k + 1) (by omega) hk (by omega)
    have h2 := List.pairwise_iff_getElem.1 (tOk_pw.1 h).2.2 k (k + 1) (by simp; omega) (by simp; omega) (by omega)
    rw [List.getElem_set_self, List.getElem_set_ne (by omega), List.getElem_set_self, ruAt_lt hk, ruAt_lt (show k < l.length by omega), cmR_swap] at h2
    omega
theorem Rls.cutTo {w : World} {g cap k : Nat} {a : Option Addr} {l : List R4} (h : Rls w g (.slice a l.length cap) l) (hk : k ≤ l.length) : Rls w g (.slice a k cap) (l.take k) := by
  have e : (l.take k).length = k := by rw [List.length_take]; omega
  obtain ⟨a', cap', hv, hc, hm, h⟩ := h
  obtain ⟨rfl, rfl⟩ : a = a' ∧ cap = cap' := by simpa using hv
  refine ⟨a, cap, by rw [e], by omega, hm, ?_⟩
  rcases h with rfl | ⟨b, off, ha, hbg, hcell⟩
  · exact .inl (by simp)
  · refine .inr ⟨b, off, ha, hbg, fun i hi => ?_⟩
    rw [e] at hi
    have := hcell i (by omega)
    rwa [show ruAt (l.take k) i = ruAt l i from by simp only [ruAt, List.getD_eq_getElem?_getD, List.getElem?_take, hi, if_true]]

/-- All rules of a slice are appended to rules of the call's own: one operation. -/
theorem appR {w : World} {o : Oper} {a : Act} {K : Act → World → Prop} {Q : Exit → Act → World → Prop} (s x : Operand)
    (ho : o.op = .call { callee := .builtin .append, args := #[s, x], argTypes := #[37, 37] }) (base : Nat) (v : Value) (L : List R4) (hs : a.eval s = v) (hrow : RulRow w base v L) (g off cap : Nat) (M : List R4)
    (hx : a.eval x = .slice (some ⟨g, off, none⟩) M.length cap) (hf : ∀ i, i < M.length → Four w g (off + i * 4) (ruAt M i)) (hn : L.length + M.length ≤ 1000000) (hb : base ≤ w.heap.size)
    (h : ∀ v' w', RulRow w' base v' (L ++ M) → w.grownBy w' v.ownBlock → (v'.ownBlock = v.ownBlock ∨ v'.ownBlock = some w.heap.size) → K (a.put o.dst v') w') : o.wp Tryd.prog a w K Q := by
  obtain ⟨i0, hi, hz0, hz1, hz2⟩ := info_parts infoR
  have hat : ∀ j u, (M.flatMap R4.cs)[j]? = some u → w.cell? ((⟨g, off, none⟩ : Addr).add j) = some u := by
    intro j u hj
    have hjl := (List.getElem?_eq_some_iff.1 hj).1
    rw [fl_len M] at hjl
    obtain ⟨f0, f1, f2, f3⟩ := hf (j / 4) (by omega)
    have hd := Nat.div_add_mod j 4
    have hm := Nat.mod_lt j (show 0 < 4 by decide)
    have hat := fl_at M (j / 4) (j % 4) (by omega) hm
    rw [show j / 4 * 4 + j % 4 = j from by omega, hj] at hat
    have hadd : (⟨g, off, none⟩ : Addr).add j = ⟨g, off + j / 4 * 4 + j % 4, none⟩ := by
      have : off + j / 4 * 4 + j % 4 = off + j := by omega
      rw [this, add_none]
    rw [hadd]
    generalize j % 4 = i at *
    match i, hm, hat with
    | 0, _, hat => simp [R4.cs] at hat; subst hat; exact f0
    | 1, _, hat => simp [R4.cs] at hat; subst hat; exact f1
    | 2, _, hat => simp [R4.cs] at hat; subst hat; exact f2
    | 3, _, hat => simp [R4.cs] at hat; subst hat; exact f3
    | i + 4, hm, _ => omega
  obtain ⟨v', w', hr, h2, h3, h4, h5⟩ := run_append_own_at (P := Tryd.prog) w base 37 o.type 56 i0 (.agg #[.int .i64 0, .string ⟨#[]⟩, .int .i64 0, .int .i64 0]) 4 40 Tryd.underlying37 hi hz0 hz1 hz2 rfl (by decide) v L.length _ hrow ⟨g, off, none⟩ M.length cap (M.flatMap R4.cs) (fl_len M) hat
    (by intro u hu
        obtain ⟨q, hq, hu⟩ := List.mem_flatMap.1 hu
        simp [R4.cs] at hu
        rcases hu with rfl | rfl | rfl | rfl <;> rfl) (by unfold maxLen; omega) (by omega) hb
  unfold Oper.wp execOp
  simp only [ho, resolve, invoke, builtin, Sem.run_bind, Sem.run_pure, Result.andThen_ok, List.map_toArray, List.map_cons, List.map_nil, hs, hx, hr]
  refine h _ _ ?_ h3 h5
  unfold RulRow
  rw [List.length_append, List.flatMap_append]
  exact h2
theorem RulRow.belRowF {w w' : World} {base : Nat} {v : Value} {l : List R4} (h : RulRow w base v l) (hg : w.grownBy w' v.ownBlock) (hb : base ≤ w.heap.size) : Below base w w' :=
  ⟨hg.os, hg.tape, hg.output, hg.size, fun j hj => hg.block j (by omega) (fun e => by have := (World.ownsRow.lt h j e.symm).1; omega)⟩
theorem oneR {W : World} {b : Nat} {r : R4} (h : Four W b 0 r) : ∀ i, i < [r].length → Four W b (0 + i * 4) (ruAt [r] i) := fun i hi => by
  obtain rfl : i = 0 := by simp at hi; omega
  exact h
theorem frs_below {w w' : World} {b n off : Nat} {l : List R4} (h : ∀ i, i < l.length → Four w b (off + i * 4) (ruAt l i)) (hb : Below n w w') (hn : b < n) : ∀ i, i < l.length → Four w' b (off + i * 4) (ruAt l i) := fun i hi => (h i hi).below hb hn
theorem frs_grown {w w' : World} {b off : Nat} {row : Option Nat} {l : List R4} (h : ∀ i, i < l.length → Four w b (off + i * 4) (ruAt l i)) (hg : w.grownBy w' row) (hb : b < w.heap.size) (hne : row ≠ some b) : ∀ i, i < l.length → Four w' b (off + i * 4) (ruAt l i) := fun i hi => by
  have hc : ∀ j, w'.cell? ⟨b, j, none⟩ = w.cell? ⟨b, j, none⟩ := fun j => by
    simp only [World.cell?]
    rw [hg.block b hb (fun e => hne e.symm)]
  obtain ⟨h0, h1, h2, h3⟩ := h i hi
  exact ⟨(hc _).trans h0, (hc _).trans h1, (hc _).trans h2, (hc _).trans h3⟩
theorem newFourF (w : World) (r : R4) : Four (w.alloc (.cells #[.int .i64 r.p, .string r.s, .int .i64 r.o, .int .i64 r.t] 56)) w.heap.size 0 r := by
  have h := heap_alloc_new w (.cells #[.int .i64 r.p, .string r.s, .int .i64 r.o, .int .i64 r.t] 56)
  generalize w.alloc _ = W at *
  generalize w.heap.size = b at *
  refine ⟨?_, ?_, ?_, ?_⟩ <;> simp [World.cell?, h]

set_option maxRecDepth 100000 in
set_option maxHeartbeats 16000000 in
theorem walk_FnTableForm (a : Option Addr) (len cap : Nat) (a' : Option Addr) (len' cap' : Nat) (w : World) (hb : BytesIn w w.heap.size a len cap) (hb' : BytesIn w w.heap.size a' len' cap') (hE : EtOk w) :
    Calls Tryd.prog 11 #[.slice a len cap, .slice a' len' cap'] w fun e w' => e = .returned (.bool true) ∧ Below w.heap.size w w' := by
  have HB := Lib.hid hb
  have HE := Lib.hid hE
  have hm : (len : Int) ≤ maxLen := by have := hb.1; have := hb.2.1; omega
  have hm' : (len' : Int) ≤ maxLen := by have := hb'.1; have := hb'.2.1; omega
  unfold maxLen at hm hm'
  clear hb hb' hE
  by_cases hlen : (1048576 : Int) < (len : Int)
  · go_enter Tryd.func11, Tryd.ntmps11
    go_wp2
    go_ret
    exact ⟨rfl, Below.refl _ _⟩
  have hl1 : decide ((1048576 : Int) < (len : Int)) = false := by simp; omega
  have hl1n : decide ((1048576 : Nat) < len) = false := by simp; omega
  by_cases hlen' : (1048576 : Int) < (len' : Int)
  · go_enter Tryd.func11, Tryd.ntmps11
    go_wp2
    go_ret
    exact ⟨rfl, Below.refl _ _⟩
  have hl2 : decide ((1048576 : Int) < (len' : Int)) = false := by simp; omega
  have hl2n : decide ((1048576 : Nat) < len') = false := by simp; omega
  go_enter Tryd.func11, Tryd.ntmps11
  go_wp2_with fail
  refine (drawTableOk_any _ _ _ _ HB.out).mono ?_
  rintro e w1 ⟨v, l, rfl, hl, hx, b1⟩
  have hn : l.length ≤ 1048576 := by omega
  have HL : Hid (∀ W, Below w1.heap.size w1 W → Rls W W.heap.size v l) := fun W hb => (hx.rls.below hb (Nat.le_refl _)).mono hb.size
  have HEW : Hid (∀ W, Below w1.heap.size w1 W → EtOk W) := fun W hb => (HE.out.below b1).below hb
  have BW : Hid (∀ W, Below w1.heap.size w1 W → Below w.heap.size w W) := fun W hb => belStep b1 hb
  have HI := Lib.hid (fun W h => iTableOk_any W v l h hn)
  have HS := Lib.hid (fun W h => sTableOk_any W v l h hn)
  clear hx b1
  go_wp2_with fail
  refine (HI.out _ (HL.out _ (Below.refl _ _)) (HEW.out _ (Below.refl _ _))).mono ?_
  rintro e w2 ⟨rfl, b2⟩
  have B2 := Lib.hid b2
  clear b2
  go_wp2_with fail
  refine (HS.out _ (HL.out _ B2.out)).mono ?_
  rintro e w3 ⟨rfl, b3⟩
  have B3 := Lib.hid (belStep B2.out b3)
  clear b3 B2
  cases ht : tOk l
  · rw [ht] at HS
    go_wp2_with fail
    refine (HS.out _ (HL.out _ B3.out)).mono ?_
    rintro e w4 ⟨rfl, b4⟩
    have B4 := Lib.hid (belStep B3.out b4)
    clear b4
    go_wp2
    go_ret
    exact ⟨rfl, BW.out _ B4.out⟩
  obtain ⟨va, vc, rfl, hvc, hvm, hvx⟩ := HL.out _ B3.out
  unfold maxLen at hvm
  have HTK := Lib.hid (tOk_take ht)
  have HTW := Lib.hid (fun k hk => tOk_twice (l := l) (k := k) hk)
  have HTS := Lib.hid (fun k hk => tOk_swap ht (k := k) hk)
  clear HI HS ht
  by_cases h2 : l.length < 2
  · have h2z : (l.length : Int) < 2 := by omega
    have HN := Lib.hid (fun W hE => iTableOk_any W (.slice none 0 0) [] ⟨none, 0, rfl, Nat.le_refl _, Nat.zero_le _, .inl rfl⟩ (Nat.zero_le _) hE)
    clear hvx
    go_wp2_with fail
    refine (HN.out _ (HEW.out _ B3.out)).mono ?_
    rintro e w4 ⟨rfl, b4⟩
    have B4 := Lib.hid (belStep B3.out b4)
    clear b4
    go_wp2
    go_ret
    exact ⟨rfl, BW.out _ B4.out⟩
  obtain ⟨b, off, rfl, hbb, hcell⟩ : ∃ b off, va = some ⟨b, off, none⟩ ∧ b < w3.heap.size ∧ Hid (∀ i, i < l.length → Four w3 b (off + i * 4) (ruAt l i)) := by
    rcases hvx with h | ⟨b, off, h1, h2, h3⟩
    · rw [h] at h2; exact absurd (by decide) h2
    · exact ⟨b, off, h1, h2, h3⟩
  clear hvx
  obtain ⟨k, hk, hkl⟩ : ∃ k : Nat, (len' : Int) % ((l.length : Int) - 1) = (k : Int) ∧ k + 1 < l.length := ⟨len' % (l.length - 1), by have h := Int.natCast_emod len' (l.length - 1); rw [show ((l.length - 1 : Nat) : Int) = (l.length : Int) - 1 from by omega] at h; exact h.symm, by have := Nat.mod_lt len' (show 0 < l.length - 1 by omega); omega⟩
  have h2z : ¬ (l.length : Int) < 2 := by omega
  have h1z : ¬ (l.length : Int) - 1 = 0 := by omega
  have hkz : (k : Int) + 1 < (l.length : Int) := by omega
  have hkz1 : (k : Int) < (l.length : Int) := by omega
  have HE0 := Lib.hid (emptyRowF w3 w3.heap.size (Nat.le_refl _))
  have HF0 : Hid (∀ i, i < l.length → Four (w3.alloc (.cells #[] 56)) b (off + i * 4) (ruAt l i)) := fun i hi => (hcell.out i hi).below (below_alloc1 _ _) hbb
  go_wp2_with (at_builtin; refine app_rulesF rfl _ _ rfl w3.heap.size _ [] rfl HE0.out b off vc l rfl HF0.out (by simp; omega) (by simp) ?_; rintro v' w4 hrow4 hb4 hs4; rw [List.nil_append] at hrow4; have HB4 := Lib.hid ((below_alloc1 w3 (.cells #[] 56)).trans (hb4.mono (Nat.le_refl _))); have HR4 := Lib.hid hrow4; obtain ⟨g4, cp4, rfl⟩ := rowForm hrow4 (by omega); have hg4 := World.ownsRow.lt hrow4 g4 rfl; obtain ⟨hc4, hf4, -⟩ := RulRow.cells hrow4 rfl; obtain ⟨p0, p1, p2, p3⟩ := hc4 k (by omega); obtain ⟨s0, s1, s2, s3⟩ := hc4 (k + 1) hkl; clear hc4; obtain ⟨c0, c1, c2, c3⟩ := (hcell.out (k + 1) hkl).below HB4.out hbb; obtain ⟨d0, d1, d2, d3⟩ := (hcell.out k (by omega)).below HB4.out hbb; have hne : ¬ b = g4 := (by omega); have hne' : ¬ g4 = b := (by omega); have P1 := RulRow.put (i := k) (r := ruAt l (k + 1)) hrow4 rfl (by omega) rfl; have P2 := Lib.hid (RulRow.put (i := k + 1) (r := ruAt l k) P1 (by simp) hkl rfl); clear P1; clear hrow4 hb4 hs4)
  have HBW : Hid (Below w3.heap.size w3 ((((((((w4.setCell ⟨g4, k * 4, none⟩ (.int .i64 (ruAt l (k + 1)).p)).setCell ⟨g4, k * 4 + 1, none⟩ (.string (ruAt l (k + 1)).s)).setCell ⟨g4, k * 4 + 2, none⟩ (.int .i64 (ruAt l (k + 1)).o)).setCell ⟨g4, k * 4 + 3, none⟩ (.int .i64 (ruAt l (k + 1)).t)).setCell ⟨g4, (k + 1) * 4, none⟩ (.int .i64 (ruAt l k).p)).setCell ⟨g4, (k + 1) * 4 + 1, none⟩ (.string (ruAt l k).s)).setCell ⟨g4, (k + 1) * 4 + 2, none⟩ (.int .i64 (ruAt l k).o)).setCell ⟨g4, (k + 1) * 4 + 3, none⟩ (.int .i64 (ruAt l k).t))) := ((((((((HB4.out.setCell (by dsimp only; omega) _).setCell (by dsimp only; omega) _).setCell (by dsimp only; omega) _).setCell (by dsimp only; omega) _).setCell (by dsimp only; omega) _).setCell (by dsimp only; omega) _).setCell (by dsimp only; omega) _).setCell (by dsimp only; omega) _)
  generalize ((((((((w4.setCell ⟨g4, k * 4, none⟩ (.int .i64 (ruAt l (k + 1)).p)).setCell ⟨g4, k * 4 + 1, none⟩ (.string (ruAt l (k + 1)).s)).setCell ⟨g4, k * 4 + 2, none⟩ (.int .i64 (ruAt l (k + 1)).o)).setCell ⟨g4, k * 4 + 3, none⟩ (.int .i64 (ruAt l (k + 1)).t)).setCell ⟨g4, (k + 1) * 4, none⟩ (.int .i64 (ruAt l k).p)).setCell ⟨g4, (k + 1) * 4 + 1, none⟩ (.string (ruAt l k).s)).setCell ⟨g4, (k + 1) * 4 + 2, none⟩ (.int .i64 (ruAt l k).o)).setCell ⟨g4, (k + 1) * 4 + 3, none⟩ (.int .i64 (ruAt l k).t)) = Wb at *
  have HW1 : Hid (∀ W, Below Wb.heap.size Wb W → Below w1.heap.size w1 W) := fun W hW => belStep (belStep B3.out HBW.out) hW
  have HF : Hid (∀ W, Below Wb.heap.size Wb W → ∀ i, i < l.length → Four W b (off + i * 4) (ruAt l i)) := fun W hW i hi => (hcell.out i hi).below (belStep HBW.out hW) hbb
  have HC1 : Hid (∀ W, Below Wb.heap.size Wb W → Calls Tryd.prog 37 #[.slice (some ⟨b, off, none⟩) k vc] W fun e w' => e = .returned (.bool true) ∧ Below W.heap.size W w') := fun W hW => by
    have h := iTableOk_any W _ _ (Rls.cutTo (HL.out W (HW1.out W hW)) (show k ≤ l.length by omega)) (by simp; omega) (HEW.out W (HW1.out W hW))
    rwa [HTK.out k] at h
  have HC2 : Hid (∀ W, Below Wb.heap.size Wb W → Calls Tryd.prog 37 #[.slice (some ⟨g4, 0, none⟩) l.length cp4] W fun e w' => e = .returned (.bool false) ∧ Below W.heap.size W w') := fun W hW => by
    have hr := P2.out.below hW
    have h := iTableOk_any W (.slice (some ⟨g4, 0, none⟩) l.length cp4) _ hr.rls (by simp; omega) (HEW.out W (HW1.out W hW))
    rwa [HTS.out k hkl] at h
  have HTX : Hid (tOk (l ++ [ruAt l k]) = false) := HTW.out k (by omega)
  have HEB : Hid (∀ W, Below Wb.heap.size Wb W → EtOk W) := fun W hW => HEW.out W (HW1.out W hW)
  have BWB : Hid (∀ W, Below Wb.heap.size Wb W → Below w.heap.size w W) := fun W hW => BW.out W (HW1.out W hW)
  have HX : Hid (∀ W, Below Wb.heap.size Wb W → Four W b (off + k * 4) (ruAt l k)) := fun W hW => HF.out W hW k (by omega)
  have hkl0 : k < l.length := by omega
  have hkle : k ≤ vc := by omega
  have hkle' : (k : Int) ≤ (vc : Int) := by omega
  have hwb : Wb.heap.size ≤ Wb.heap.size := Nat.le_refl _
  generalize ruAt l k = x at *
  generalize ruAt l (k + 1) = y at *
  clear P2 HTS HTW HTK HBW hbb HB4 B3 HE0 HF0 hcell hne hne'
  try clear c0 c1 c2 c3
  try clear d0 d1 d2 d3
  try clear p0 p1 p2 p3
  try clear s0 s1 s2 s3
  refine wp_region_held_drew (S := fun W => Below Wb.heap.size Wb W) (by kernel_rfl) (Below.refl _ _).drew (fun hHeld => ?_)
  generalize hVV : Wb.drew = V at *
  clear hVV
  refine wpAnyH_take (i := 0) (v := .slice (some ⟨b, off, none⟩) l.length vc) rfl (by kernel_rfl) (by kernel_rfl) (by kernel_rfl) (fun _ _ _ h => h) (Or.inl ⟨by rfl, ?_⟩) hHeld ?_
  · intro W hW
    go_simp
  simp [Act.put]
  refine wpAnyH_take (i := 1) (v := .int .i64 (k : Int)) rfl (by kernel_rfl) (by kernel_rfl) (by kernel_rfl) (fun _ _ _ h => h) (Or.inl ⟨by rfl, ?_⟩) hHeld ?_
  · intro W hW
    go_simp
  simp [Act.put]
  refine wpAnyH_take (i := 2) (v := .slice (some ⟨b, off, none⟩) k vc) rfl (by kernel_rfl) (by kernel_rfl) (by kernel_rfl) (fun _ _ _ h => h) (Or.inl ⟨by rfl, ?_⟩) hHeld ?_
  · intro W hW
    go_simp
  simp [Act.put]
  refine wpAnyH_ready (rs := [3]) (by kernel_rfl) (by simp) ?_
  refine AllReadyH.cons rfl (fun K hK => ?_) AllReadyH.nil
  go_simp
  refine (HC1.out _ hHeld).mono ?_
  rintro e wc1 ⟨rfl, b10⟩
  go_simp
  have hB10 := hHeld.trans (b10.mono hHeld.size)
  clear b10
  refine hK.out _ _ hB10 (fun hHeld => ?_)
  clear hK K hB10
  refine wpAnyH_take (i := 4) (v := .bool true) rfl (by kernel_rfl) (by kernel_rfl) (by kernel_rfl) (fun _ _ _ h => h) (Or.inl ⟨by rfl, ?_⟩) hHeld ?_
  · intro W hW
    go_simp
  simp [Act.put]
  refine wpAnyH_take (i := 5) (v := .slice (some ⟨g4, 0, none⟩) l.length cp4) rfl (by kernel_rfl) (by kernel_rfl) (by kernel_rfl) (fun _ _ _ h => h) (Or.inl ⟨by rfl, ?_⟩) hHeld ?_
  · intro W hW
    go_simp
  simp [Act.put]
  refine wpAnyH_ready (rs := [6]) (by kernel_rfl) (by simp) ?_
  refine AllReadyH.cons rfl (fun K hK => ?_) AllReadyH.nil
  rw [if_pos (by rfl)]
  go_simp
  refine (HC2.out _ hHeld).mono ?_
  rintro e wc2 ⟨rfl, b10⟩
  go_simp
  have hB10 := hHeld.trans (b10.mono hHeld.size)
  clear b10
  refine hK.out _ _ hB10 (fun hHeld => ?_)
  clear hK K hB10
  refine wpAnyH_take (i := 7) (v := .bool true) rfl (by kernel_rfl) (by kernel_rfl) (by kernel_rfl) (fun _ _ _ h => h) (Or.inl ⟨by rfl, ?_⟩) hHeld ?_
  · intro W hW
    go_simp
  simp [Act.put]
  refine wpAnyH_take (i := 8) (v := .bool true) rfl (by kernel_rfl) (by kernel_rfl) (by kernel_rfl) (fun _ _ _ h => h) (Or.inl ⟨by rfl, ?_⟩) hHeld ?_
  · intro W hW
    go_simp
  simp [Act.put]
  refine wpAnyH_take (i := 9) (v := .bool true) rfl (by kernel_rfl) (by kernel_rfl) (by kernel_rfl) (fun _ _ _ h => h) (Or.inl ⟨by rfl, ?_⟩) hHeld ?_
  · intro W hW
    go_simp
  simp [Act.put]
  refine wpAnyH_take (i := 11) (v := .slice (some ⟨b, off, none⟩) l.length vc) rfl (by kernel_rfl) (by kernel_rfl) (by kernel_rfl) (fun _ _ _ h => h) (Or.inl ⟨by rfl, ?_⟩) hHeld ?_
  · intro W hW
    go_simp
  simp [Act.put]
  refine wpAnyH_take (i := 13) (v := .slice (some ⟨b, off, none⟩) l.length vc) rfl (by kernel_rfl) (by kernel_rfl) (by kernel_rfl) (fun _ _ _ h => h) (Or.inl ⟨by rfl, ?_⟩) hHeld ?_
  · intro W hW
    go_simp
  simp [Act.put]
  refine wpAnyH_take (i := 14) (v := .int .i64 (k : Int)) rfl (by kernel_rfl) (by kernel_rfl) (by kernel_rfl) (fun _ _ _ h => h) (Or.inl ⟨by rfl, ?_⟩) hHeld ?_
  · intro W hW
    go_simp
  simp [Act.put]
  refine wpAnyH_take (i := 15) (v := .pointer (some ⟨b, off + k * 4, none⟩)) rfl (by kernel_rfl) (by kernel_rfl) (by kernel_rfl) (fun _ _ _ h => h) (Or.inl ⟨by rfl, ?_⟩) hHeld ?_
  · intro W hW
    go_simp
  simp [Act.put]
  refine wpAnyH_take (i := 16) (v := .agg #[.int .i64 x.p, .string x.s, .int .i64 x.o, .int .i64 x.t]) rfl (by kernel_rfl) (by kernel_rfl) (by kernel_rfl) (fun _ _ _ h => h) (Or.inl ⟨by rfl, ?_⟩) hHeld ?_
  · intro W hW
    obtain ⟨c0, c1, c2, c3⟩ := HX.out W hW
    go_simp
  simp [Act.put]
  refine wpAnyH_ready (rs := [10, 17]) (by kernel_rfl) (by simp) ?_
  refine AllReadyH.cons rfl (fun K hK => ?_) (AllReadyH.cons rfl (fun K hK => ?_) AllReadyH.nil)
  · skip
    rw [if_pos (by rfl)]
    go_simp
    have HRe := Lib.hid (emptyRowF wc2 Wb.heap.size hHeld.size)
    have hltE : wc2.heap.size < (wc2.alloc (.cells #[] 56)).heap.size := by simp
    refine hK.out _ _ (hHeld.trans ((below_alloc1 _ _).mono hHeld.size)) (fun hHeld => ?_)
    clear hK K
    generalize wc2.alloc (.cells #[] 56) = W7 at *
    refine wpAnyH_ready (rs := [12, 17]) (by kernel_rfl) (by simp) ?_
    refine AllReadyH.cons rfl (fun K hK => ?_) (AllReadyH.cons rfl (fun K hK => ?_) AllReadyH.nil)
    · skip
      rw [if_pos (by rfl)]
      refine appR (.tmp 72) (.tmp 73) rfl Wb.heap.size _ [] rfl HRe.out b off vc l rfl (HF.out _ hHeld) (by simp; omega) hHeld.size ?_
      rintro v1 W8 hrow8 hg8 hown8
      have hB8 := hHeld.trans (HRe.out.belRowF hg8 hHeld.size)
      have HR8 : Hid (RulRow W8 Wb.heap.size v1 l) := hrow8

      clear hrow8 hg8 hown8 HRe
      refine hK.out _ _ hB8 (fun hHeld => ?_)
      clear hK K hB8
      simp [Act.put]
      refine wpAnyH_ready (rs := [17]) (by kernel_rfl) (by simp) ?_
      refine AllReadyH.cons rfl (fun K hK => ?_) AllReadyH.nil
      rw [if_pos (by rfl)]
      go_simp
      have HR8' : Hid (RulRow (W8.alloc (.cells #[.int .i64 x.p, .string x.s, .int .i64 x.o, .int .i64 x.t] 56)) Wb.heap.size v1 l) := HR8.out.below (below_alloc1 W8 _)
      have HF8 := Lib.hid ((fun W => oneR (newFourF W x)) W8)
      clear HR8
      have HR8 := Lib.hid HR8'.out
      clear HR8'
      refine hK.out _ _ (hHeld.trans ((below_alloc1 _ _).mono hHeld.size)) (fun hHeld => ?_)
      clear hK K
      refine wpAnyH_ready (rs := [18]) (by kernel_rfl) (by simp) ?_
      refine AllReadyH.cons rfl (fun K hK => ?_) AllReadyH.nil
      rw [if_pos (by rfl)]
      refine appR (.tmp 74) (.tmp 79) rfl Wb.heap.size _ l rfl HR8.out _ 0 1 [x] rfl HF8.out (by simp; omega) hHeld.size ?_
      rintro v2 W9 hrow9 hg9 hown9
      have hB9 := hHeld.trans (HR8.out.belRowF hg9 hHeld.size)
      have HR9 : Hid (RulRow W9 Wb.heap.size v2 (l ++ [x])) := hrow9
      clear hrow9 hg9 hown9 HR8 HF8
      refine hK.out _ _ hB9 (fun hHeld => ?_)
      clear hK K hB9
      simp [Act.put]
      have HC3 : Hid (∀ W, W = W9 → Calls Tryd.prog 37 #[v2] W fun e w' => e = .returned (.bool false) ∧ Below W.heap.size W w') := fun W hW => by
        subst hW
        have h := iTableOk_any _ _ _ HR9.out.rls (by simp; omega) (HEB.out _ hHeld)
        rwa [HTX.out] at h
      refine wpAnyH_ready (rs := [19]) (by kernel_rfl) (by simp) ?_
      refine AllReadyH.cons rfl (fun K hK => ?_) AllReadyH.nil
      rw [if_pos (by rfl)]
      go_simp
      refine (HC3.out _ rfl).mono ?_
      rintro e wc3 ⟨rfl, b10⟩
      go_simp
      have hB10 := hHeld.trans (b10.mono hHeld.size)
      clear b10 HC3 HR9
      refine hK.out _ _ hB10 (fun hHeld => ?_)
      clear hK K hB10
      refine wpAnyH_take (i := 20) (v := .bool true) rfl (by kernel_rfl) (by kernel_rfl) (by kernel_rfl) (fun _ _ _ h => h) (Or.inl ⟨by rfl, ?_⟩) hHeld ?_
      · intro W hW
        go_simp
      simp [Act.put]
      refine wpAnyH_take (i := 21) (v := .bool true) rfl (by kernel_rfl) (by kernel_rfl) (by kernel_rfl) (fun _ _ _ h => h) (Or.inl ⟨by rfl, ?_⟩) hHeld ?_
      · intro W hW
        go_simp
      simp [Act.put]
      refine wpAnyH_take (i := 22) (v := .bool true) rfl (by kernel_rfl) (by kernel_rfl) (by kernel_rfl) (fun _ _ _ h => h) (Or.inl ⟨by rfl, ?_⟩) hHeld ?_
      · intro W hW
        go_simp
      simp [Act.put]
      refine wpAnyH_done (by kernel_rfl) ?_ _
      go_wp2
      go_ret
      exact ⟨rfl, BWB.out _ hHeld⟩
    · skip
      rw [if_pos (by rfl)]
      go_simp
      have HF7 := Lib.hid ((fun W => oneR (newFourF W x)) W7)
      have HRe' := Lib.hid (HRe.out.below (below_alloc1 W7 (.cells #[.int .i64 x.p, .string x.s, .int .i64 x.o, .int .i64 x.t] 56)))
      have hlt7 : W7.heap.size < (W7.alloc (.cells #[.int .i64 x.p, .string x.s, .int .i64 x.o, .int .i64 x.t] 56)).heap.size := by simp
      refine hK.out _ _ (hHeld.trans ((below_alloc1 _ _).mono hHeld.size)) (fun hHeld => ?_)
      clear hK K HRe
      have HRe := Lib.hid HRe'.out
      clear HRe'
      refine wpAnyH_ready (rs := [12]) (by kernel_rfl) (by simp) ?_
      refine AllReadyH.cons rfl (fun K hK => ?_) AllReadyH.nil
      rw [if_pos (by rfl)]
      refine appR (.tmp 72) (.tmp 73) rfl Wb.heap.size _ [] rfl HRe.out b off vc l rfl (HF.out _ hHeld) (by simp; omega) hHeld.size ?_
      rintro v1 W8 hrow8 hg8 hown8
      have hB8 := hHeld.trans (HRe.out.belRowF hg8 hHeld.size)
      have HR8 : Hid (RulRow W8 Wb.heap.size v1 l) := hrow8
      have HF8 := Lib.hid (frs_grown HF7.out hg8 hlt7 (show (some wc2.heap.size : Option Nat) ≠ some W7.heap.size from fun e => by have := Option.some.inj e; omega))
      clear HF7
      clear hrow8 hg8 hown8 HRe
      refine hK.out _ _ hB8 (fun hHeld => ?_)
      clear hK K hB8
      simp [Act.put]
      refine wpAnyH_ready (rs := [18]) (by kernel_rfl) (by simp) ?_
      refine AllReadyH.cons rfl (fun K hK => ?_) AllReadyH.nil
      rw [if_pos (by rfl)]
      refine appR (.tmp 74) (.tmp 79) rfl Wb.heap.size _ l rfl HR8.out _ 0 1 [x] rfl HF8.out (by simp; omega) hHeld.size ?_
      rintro v2 W9 hrow9 hg9 hown9
      have hB9 := hHeld.trans (HR8.out.belRowF hg9 hHeld.size)
      have HR9 : Hid (RulRow W9 Wb.heap.size v2 (l ++ [x])) := hrow9
      clear hrow9 hg9 hown9 HR8 HF8
      refine hK.out _ _ hB9 (fun hHeld => ?_)
      clear hK K hB9
      simp [Act.put]
      have HC3 : Hid (∀ W, W = W9 → Calls Tryd.prog 37 #[v2] W fun e w' => e = .returned (.bool false) ∧ Below W.heap.size W w') := fun W hW => by
        subst hW
        have h := iTableOk_any _ _ _ HR9.out.rls (by simp; omega) (HEB.out _ hHeld)
        rwa [HTX.out] at h
      refine wpAnyH_ready (rs := [19]) (by kernel_rfl) (by simp) ?_
      refine AllReadyH.cons rfl (fun K hK => ?_) AllReadyH.nil
      rw [if_pos (by rfl)]
      go_simp
      refine (HC3.out _ rfl).mono ?_
      rintro e wc3 ⟨rfl, b10⟩
      go_simp
      have hB10 := hHeld.trans (b10.mono hHeld.size)
      clear b10 HC3 HR9
      refine hK.out _ _ hB10 (fun hHeld => ?_)
      clear hK K hB10
      refine wpAnyH_take (i := 20) (v := .bool true) rfl (by kernel_rfl) (by kernel_rfl) (by kernel_rfl) (fun _ _ _ h => h) (Or.inl ⟨by rfl, ?_⟩) hHeld ?_
      · intro W hW
        go_simp
      simp [Act.put]
      refine wpAnyH_take (i := 21) (v := .bool true) rfl (by kernel_rfl) (by kernel_rfl) (by kernel_rfl) (fun _ _ _ h => h) (Or.inl ⟨by rfl, ?_⟩) hHeld ?_
      · intro W hW
        go_simp
      simp [Act.put]
      refine wpAnyH_take (i := 22) (v := .bool true) rfl (by kernel_rfl) (by kernel_rfl) (by kernel_rfl) (fun _ _ _ h => h) (Or.inl ⟨by rfl, ?_⟩) hHeld ?_
      · intro W hW
        go_simp
      simp [Act.put]
      refine wpAnyH_done (by kernel_rfl) ?_ _
      go_wp2
      go_ret
      exact ⟨rfl, BWB.out _ hHeld⟩
  · skip
    rw [if_pos (by rfl)]
    go_simp
    have HF6 := Lib.hid ((fun W => oneR (newFourF W x)) wc2)
    have hlt6 : wc2.heap.size < (wc2.alloc (.cells #[.int .i64 x.p, .string x.s, .int .i64 x.o, .int .i64 x.t] 56)).heap.size := by simp
    refine hK.out _ _ (hHeld.trans ((below_alloc1 _ _).mono hHeld.size)) (fun hHeld => ?_)
    clear hK K
    generalize wc2.alloc (.cells #[.int .i64 x.p, .string x.s, .int .i64 x.o, .int .i64 x.t] 56) = U at *
    refine wpAnyH_ready (rs := [10]) (by kernel_rfl) (by simp) ?_
    refine AllReadyH.cons rfl (fun K hK => ?_) AllReadyH.nil
    rw [if_pos (by rfl)]
    go_simp
    have HRe := Lib.hid (emptyRowF U Wb.heap.size hHeld.size)
    have HF7 := Lib.hid (frs_below HF6.out (below_alloc1 U (.cells #[] 56)) hlt6)
    have hlt7 : wc2.heap.size < (U.alloc (.cells #[] 56)).heap.size := by simp; omega
    refine hK.out _ _ (hHeld.trans ((below_alloc1 _ _).mono hHeld.size)) (fun hHeld => ?_)
    clear hK K HF6
    refine wpAnyH_ready (rs := [12]) (by kernel_rfl) (by simp) ?_
    refine AllReadyH.cons rfl (fun K hK => ?_) AllReadyH.nil
    rw [if_pos (by rfl)]
    refine appR (.tmp 72) (.tmp 73) rfl Wb.heap.size _ [] rfl HRe.out b off vc l rfl (HF.out _ hHeld) (by simp; omega) hHeld.size ?_
    rintro v1 W8 hrow8 hg8 hown8
    have hB8 := hHeld.trans (HRe.out.belRowF hg8 hHeld.size)
    have HR8 : Hid (RulRow W8 Wb.heap.size v1 l) := hrow8
    have HF8 := Lib.hid (frs_grown HF7.out hg8 hlt7 (show (some U.heap.size : Option Nat) ≠ some wc2.heap.size from fun e => by have := Option.some.inj e; omega))
    clear HF7
    clear hrow8 hg8 hown8 HRe
    refine hK.out _ _ hB8 (fun hHeld => ?_)
    clear hK K hB8
    simp [Act.put]
    refine wpAnyH_ready (rs := [18]) (by kernel_rfl) (by simp) ?_
    refine AllReadyH.cons rfl (fun K hK => ?_) AllReadyH.nil
    rw [if_pos (by rfl)]
    refine appR (.tmp 74) (.tmp 79) rfl Wb.heap.size _ l rfl HR8.out _ 0 1 [x] rfl HF8.out (by simp; omega) hHeld.size ?_
    rintro v2 W9 hrow9 hg9 hown9
    have hB9 := hHeld.trans (HR8.out.belRowF hg9 hHeld.size)
    have HR9 : Hid (RulRow W9 Wb.heap.size v2 (l ++ [x])) := hrow9
    clear hrow9 hg9 hown9 HR8 HF8
    refine hK.out _ _ hB9 (fun hHeld => ?_)
    clear hK K hB9
    simp [Act.put]
    have HC3 : Hid (∀ W, W = W9 → Calls Tryd.prog 37 #[v2] W fun e w' => e = .returned (.bool false) ∧ Below W.heap.size W w') := fun W hW => by
      subst hW
      have h := iTableOk_any _ _ _ HR9.out.rls (by simp; omega) (HEB.out _ hHeld)
      rwa [HTX.out] at h
    refine wpAnyH_ready (rs := [19]) (by kernel_rfl) (by simp) ?_
    refine AllReadyH.cons rfl (fun K hK => ?_) AllReadyH.nil
    rw [if_pos (by rfl)]
    go_simp
    refine (HC3.out _ rfl).mono ?_
    rintro e wc3 ⟨rfl, b10⟩
    go_simp
    have hB10 := hHeld.trans (b10.mono hHeld.size)
    clear b10 HC3 HR9
    refine hK.out _ _ hB10 (fun hHeld => ?_)
    clear hK K hB10
    refine wpAnyH_take (i := 20) (v := .bool true) rfl (by kernel_rfl) (by kernel_rfl) (by kernel_rfl) (fun _ _ _ h => h) (Or.inl ⟨by rfl, ?_⟩) hHeld ?_
    · intro W hW
      go_simp
    simp [Act.put]
    refine wpAnyH_take (i := 21) (v := .bool true) rfl (by kernel_rfl) (by kernel_rfl) (by kernel_rfl) (fun _ _ _ h => h) (Or.inl ⟨by rfl, ?_⟩) hHeld ?_
    · intro W hW
      go_simp
    simp [Act.put]
    refine wpAnyH_take (i := 22) (v := .bool true) rfl (by kernel_rfl) (by kernel_rfl) (by kernel_rfl) (fun _ _ _ h => h) (Or.inl ⟨by rfl, ?_⟩) hHeld ?_
    · intro W hW
      go_simp
    simp [Act.put]
    refine wpAnyH_done (by kernel_rfl) ?_ _
    go_wp2
    go_ret
    exact ⟨rfl, BWB.out _ hHeld⟩

set_option maxRecDepth 100000 in
theorem contract_FnTableForm (H : Type) (enc : TypeId × Value → H) (W : World) (base : Nat) (args : Array Value) (ds gs : List (DataW H)) (before : List MemPlace)
    (hval : ∀ (j : Nat) t v, Tryd.f11.params[j]? = some t → args[j]? = some v → Value.okWide Tryd.prog W .any base t v)
    (hW : DataW.Whole enc Tryd.prog Tryd.f11.params.toList Rows.fnTableFormSpec.vars false W args.toList ds gs before) (hE : EtOk W) :
    Calls Tryd.prog 11 args W fun e W' => ∃ v, e = .returned v ∧ Rows.fnTableFormSpec.post enc Tryd.prog Tryd.f11 false true false false W args v W' := by
  have hW' := hW
  obtain ⟨p, q, hA0, hV, rfl, hfz, hnd⟩ := hW
  have hA : DataW.TrodAll enc Tryd.prog W 0 (fun _ => true) true Tryd.f11.params.toList args.toList ds p := hA0
  rw [Tryd.params11] at hA hval
  obtain ⟨v0, vs0, d0, ds0, p0, q0, hargs, rfl, rfl, h0, r0⟩ := trodAll_cons hA
  obtain ⟨v1, vs1, d1, ds1, p1, q1, rfl, rfl, rfl, h1, r1⟩ := trodAll_cons r0
  obtain ⟨rfl, rfl, rfl⟩ := trodAll_nil r1
  obtain rfl : args = #[v0, v1] := by cases args; simp_all
  obtain ⟨rfl, rfl⟩ := trodVars_none hV
  have k0 := h0
  have lt0 : ∀ x ∈ p0, x.block < W.heap.size := by obtain ⟨m, hm⟩ := k0; exact DataW.trod_lt m _ _ _ hm
  have k1 := h1
  have lt1 : ∀ x ∈ p1, x.block < W.heap.size := by obtain ⟨m, hm⟩ := k1; exact DataW.trod_lt m _ _ _ hm
  obtain ⟨a0, len0, cap0, rfl⟩ := okWide_slice Tryd.underlying43 (hval 0 43 v0 rfl rfl)
  have w0 : BytesIn W W.heap.size a0 len0 cap0 := isRow_of h0
  obtain ⟨a1, len1, cap1, rfl⟩ := okWide_slice Tryd.underlying43 (hval 1 43 v1 rfl rfl)
  have w1 : BytesIn W W.heap.size a1 len1 cap1 := isRow_of h1
  clear hA0
  refine (walk_FnTableForm a0 len0 cap0 a1 len1 cap1 W w0 w1 hE).mono fun e W' ⟨he, bel⟩ => ?_
  subst he
  exact ⟨_, rfl, _, _, _, [], _, [], hW', trodAll_mk1 (shut_bool Tryd.underlying4 _), (trodAll_cons_mk (Below.trod laidOut (by kernel_rfl) (of_decide_eq_true (by kernel_rfl)) k0 bel lt0) (trodAll_cons_mk (Below.trod laidOut (by kernel_rfl) (of_decide_eq_true (by kernel_rfl)) k1 bel lt1) (trodAll_mk0))), rfl, bel.frame _, fun h => by cases h⟩

/-- A world for the witness: the settled one, with the listed variables as the text lays them. -/
noncomputable def laidWorld_FnTableForm (os : Os) : World :=
  { World.holding Tryd.prog os ⟨#[], #[], []⟩ with heap := (((((World.holding Tryd.prog os ⟨#[], #[], []⟩).heap).modify 4 (fun | .cells _ t frozen => .cells #[.int .u8 0, .int .u8 1, .int .u8 28, .int .u8 2, .int .u8 29, .int .u8 14, .int .u8 24, .int .u8 3, .int .u8 30, .int .u8 22, .int .u8 20, .int .u8 15, .int .u8 25, .int .u8 17, .int .u8 4, .int .u8 8, .int .u8 31, .int .u8 27, .int .u8 13, .int .u8 23, .int .u8 21, .int .u8 19, .int .u8 16, .int .u8 7, .int .u8 26, .int .u8 12, .int .u8 18, .int .u8 6, .int .u8 11, .int .u8 5, .int .u8 10, .int .u8 9] t frozen | o => o)).modify 5 (fun | .cells _ t frozen => .cells #[.int .u8 0, .int .u8 1, .int .u8 56, .int .u8 2, .int .u8 57, .int .u8 49, .int .u8 28, .int .u8 3, .int .u8 61, .int .u8 58, .int .u8 42, .int .u8 50, .int .u8 38, .int .u8 29, .int .u8 17, .int .u8 4, .int .u8 62, .int .u8 47, .int .u8 59, .int .u8 36, .int .u8 45, .int .u8 43, .int .u8 51, .int .u8 22, .int .u8 53, .int .u8 39, .int .u8 33, .int .u8 30, .int .u8 24, .int .u8 18, .int .u8 12, .int .u8 5, .int .u8 63, .int .u8 55, .int .u8 48, .int .u8 27, .int .u8 60, .int .u8 41, .int .u8 37, .int .u8 16, .int .u8 46, .int .u8 35, .int .u8 44, .int .u8 21, .int .u8 52, .int .u8 32, .int .u8 23, .int .u8 11, .int .u8 54, .int .u8 26, .int .u8 40, .int .u8 15, .int .u8 34, .int .u8 20, .int .u8 31, .int .u8 10, .int .u8 25, .int .u8 14, .int .u8 19, .int .u8 9, .int .u8 13, .int .u8 8, .int .u8 7, .int .u8 6] t frozen | o => o)).modify 3 (fun | .cells _ t frozen => .cells #[.int .u64 1, .int .u64 10, .int .u64 100, .int .u64 1000, .int .u64 10000, .int .u64 100000, .int .u64 1000000, .int .u64 10000000, .int .u64 100000000, .int .u64 1000000000, .int .u64 10000000000, .int .u64 100000000000, .int .u64 1000000000000, .int .u64 10000000000000, .int .u64 100000000000000, .int .u64 1000000000000000, .int .u64 10000000000000000, .int .u64 100000000000000000, .int .u64 1000000000000000000, .int .u64 10000000000000000000] t frozen | o => o)).modify 1 (fun | .cells _ t frozen => .cells #[.iface 163 (.agg #[.pointer (some ⟨6, 87, none⟩)])] t frozen | o => o) }

theorem laidMet_FnTableForm (os : Os) : laidMetH Tryd.prog Rows.fnTableFormRow.laid ((laidWorld_FnTableForm os).forCall (fun _ _ => 0) ⟨#[], #[.slice none 0 0, .slice none 0 0], []⟩).memory :=
  laidMetH_of_parts (laidMet_of_run' 8 (by kernel_rfl) (by kernel_rfl)) (by kernel_rfl)

theorem reads_FnTableForm (os : Os) {H : Type} (enc : TypeId × Value → H) : ∃ places, DataW.whole enc Tryd.prog ((laidWorld_FnTableForm os).forCall (fun _ _ => 0) ⟨#[], #[.slice none 0 0, .slice none 0 0], []⟩).memory Tryd.f11.params.toList Rows.fnTableFormSpec.vars false (#[.slice none 0 0, .slice none 0 0] : Array Value).toList 8 = some ([.nil, .nil], [], places) :=
  ⟨[], by kernel_rfl⟩

set_option maxRecDepth 100000 in
theorem lifted_FnTableForm (os : Os) (started : os.Started) (H : Type) (enc : TypeId × Value → H) (F : Stop.Interp) :
    ReturnsInHanded {} Tryd.checked os 11 .any ((OpenSpec.ofChange Rows.fnTableFormSpec).preRow enc Tryd.prog Tryd.f11 Rows.fnTableFormRow.domain false Rows.fnTableFormRow.laid) (((OpenSpec.ofChange Rows.fnTableFormSpec).at F).post enc Tryd.prog Tryd.f11 false true false false) := by
  obtain ⟨places, hx⟩ := reads_FnTableForm os enc
  refine returnsInHanded_of_row (C := Tryd.checked) (s := OpenSpec.ofChange Rows.fnTableFormSpec) own started (by kernel_rfl) Tryd.func11
    (witness_row_at (enc := enc) (C := Tryd.checked) false (laidWorld_FnTableForm os) #[.slice none 0 0, .slice none 0 0] rfl (by kernel_rfl) (by kernel_rfl) (by kernel_rfl)
      (OpenSpec.preRow_of_cond 8 hx (by kernel_rfl) (fun k hk => by cases hk) (by kernel_rfl) (laidMet_FnTableForm os))) ?_
  intro W base args ds gs before hval hW _ _ _ hL _ _
  exact contract_FnTableForm H enc W base args ds gs before hval hW (etOk_of hL (by simp [Rows.fnTableFormRow]))

theorem said_FnTableForm : Rows.FnTableFormSaid :=
  OpenClaim.holds_of_cond 11 Tryd.f11 rfl rfl rfl rfl rfl rfl rfl ⟨rfl, rfl, rfl, rfl, rfl⟩ rfl rfl rfl rfl rfl (by kernel_rfl) Tryd.func11 (by kernel_rfl)
    (of_decide_eq_true (by kernel_rfl)) (by unfold Func.isWrapper; first | (rw [if_pos (by decide +kernel)]; kernel_rfl) | (rw [if_neg (by decide +kernel)]; exact ⟨rfl, rfl⟩))
    (fun os started H enc _ F => by rw [OpenClaim.pre_eq_preRow]; exact lifted_FnTableForm os started H enc F)

theorem plain_FnTableForm (f : FuncId) (fn : Func) (hf : Tryd.pinned.checked.prog.funcNamed "loop.example/crossbuck/laws.FnTableForm" = some f) (hfn : Tryd.pinned.checked.prog.funcs[f]? = some fn) :
    true = Tryd.pinned.checked.prog.looks [] ∧ ∀ (j : Nat) t, fn.params[j]? = some t → Tryd.pinned.checked.prog.wantsStandIn t = false := by
  obtain rfl : f = 11 := Option.some.inj ((show Tryd.prog.funcNamed "loop.example/crossbuck/laws.FnTableForm" = some 11 by kernel_rfl).symm.trans hf) |>.symm
  obtain rfl : fn = Tryd.f11 := (Option.some.inj (Tryd.func11.symm.trans hfn)).symm
  refine ⟨by kernel_rfl, fun j t ht => ?_⟩
  rw [Tryd.params11] at ht
  obtain rfl : t = 43 := by simpa using Array.mem_of_getElem? ht
  exact (show Tryd.prog.wantsStandIn 43 = false by kernel_rfl)

theorem proved_FnTableForm : Rows.FnTableFormCardSaid :=
  Claim7.holds_tied_plain_at .later [] _ _ _ _ said_FnTableForm (fun _ h => by cases h) (by kernel_rfl) (fun _ h => by cases h) fnTableForm_row_tie rfl ⟨rfl, rfl⟩ (by kernel_rfl) rfl plain_FnTableForm (by kernel_rfl)

end Go.Proofs.YtennaeboemlnoaaDoor
