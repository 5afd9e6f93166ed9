/-
  The model's TablePut.
-/
import Derived.Test.YtahobeigbjhbbaaGreatDoorTabPutT
import Derived.Test.YtahobeigbjhbbaaGreatDoorTabSpec
import Derived.Test.YtahobeigbjhbbaaGreatDoorTabOrd
namespace Go.Proofs.YtahobeigbjhbbaaGreatDoor
open Go.ChangeShapes Go.WideShapes Go.ChangeAt Go.RowKit Go.Joins
open Go.Shelf
set_option linter.unusedVariables false

/-- All rules of a slice are appended to rules of the call's own. -/
theorem app_rules {w : World} {ops : Array Oper} {rest : List Oper} {o : Oper} {a : Act} {Q : Exit → Act → World → Prop} (hgd : o.guard = none) (s x : Operand)
    (ho : o.op = .call { callee := .builtin .append, args := #[s, x], argTypes := #[23, 23] }) (base : Nat) (v : Value) (L : List R4) (hs : a.eval s = v) (hrow : RulRow w base v L) (g off cap : Nat) (M : List R4)
    (hx : a.eval x = .slice (some ⟨g, off, none⟩) M.length cap) (hf : ∀ i, i < M.length → Four w g (off + i * 4) (ruAt M i)) (hn : L.length + M.length ≤ 1000000) (hb : base ≤ w.heap.size)
    (h : ∀ v' w', RulRow w' base v' (L ++ M) → Below base w w' → w.heap.size ≤ w'.heap.size → wpList Tryz.prog ops Q rest (a.put o.dst v') w') : wpList Tryz.prog ops Q (o :: rest) a w := by
  obtain ⟨i0, hi, hz0, hz1, hz2⟩ := info_parts infoR
  refine wpList_append_own _ hgd s x 23 ho base 25 i0 (.agg #[.int .i64 0, .string ⟨#[]⟩, .int .i64 0, .int .i64 0]) 4 40 Tryz.underlying23 hi hz0 hz1 hz2 rfl (by decide) v L.length _ hs hrow ⟨g, off, none⟩ M.length cap (M.flatMap R4.cs) hx (fl_len M) ?c1 ?c2 ?c3 ?c4 hb ?c6
  case c1 =>
    intro j u hj
    have hjl := (List.getElem?_eq_some_iff.1 hj).1
    rw [fl_len M] at hjl
    obtain ⟨f0, f1, f2, f3⟩ := hf (j / 4) (by omega)
    have hd := Nat.div_add_mod j 4
    have hm := Nat.mod_lt j (show 0 < 4 by decide)
    have hat := fl_at M (j / 4) (j % 4) (by omega) hm
    rw [show j / 4 * 4 + j % 4 = j from by omega, hj] at hat
    have hadd : (⟨g, off, none⟩ : Addr).add j = ⟨g, off + j / 4 * 4 + j % 4, none⟩ := by
      have : off + j / 4 * 4 + j % 4 = off + j := by omega
      rw [this, add_none]
    rw [hadd]
    generalize j % 4 = i at *
    match i, hm, hat with
    | 0, _, hat => simp [R4.cs] at hat; subst hat; exact f0
    | 1, _, hat => simp [R4.cs] at hat; subst hat; exact f1
    | 2, _, hat => simp [R4.cs] at hat; subst hat; exact f2
    | 3, _, hat => simp [R4.cs] at hat; subst hat; exact f3
    | i + 4, hm, _ => omega
  case c2 =>
    intro u hu
    obtain ⟨q, hq, hu⟩ := List.mem_flatMap.1 hu
    simp [R4.cs] at hu
    rcases hu with rfl | rfl | rfl | rfl <;> rfl
  case c3 => unfold maxLen; omega
  case c4 => omega
  case c6 =>
    intro v' w' hown hg hnil
    refine h v' w' ?_ ⟨hg.os, hg.tape, hg.output, hg.size, fun j hj => hg.block j (by omega) (fun e => by have := (World.ownsRow.lt hrow j e.symm).1; omega)⟩ hg.size
    unfold RulRow
    rw [List.length_append, List.flatMap_append]
    exact hown

theorem emptyRowR (W : World) (base : Nat) (h : base ≤ W.heap.size) : RulRow (W.alloc (.cells #[] 25)) base (.slice (some ⟨W.heap.size, 0, none⟩) 0 0) [] :=
  World.ownsRow_made (base := base) (e := 25) (size := 4) W #[] 0 h (by unfold maxLen; omega) rfl
theorem tOk_mem {l : List R4} (ht : tOk l = true) : ∀ q ∈ l, okR q = true := (tOk_pw.1 ht).2.1

set_option maxRecDepth 100000 in
set_option maxHeartbeats 4000000 in
theorem sTablePut_any (w : World) (v : Value) (l : List R4) (h : Rls w w.heap.size v l) (hn : l.length ≤ 1048576) (r : R4) :
    Calls Tryz.prog 15 #[v, .agg #[.int .i64 r.p, .string r.s, .int .i64 r.o, .int .i64 r.t]] w fun e w' => ∃ u, e = .returned (.tuple #[u, .bool (putO r l)]) ∧ RulRow w' w.heap.size u (putT r l) ∧ Below w.heap.size w w' := by
  have HB0 := Lib.hid (below_alloc1 w (.cells #[.int .i64 r.p, .string r.s, .int .i64 r.o, .int .i64 r.t] 25))
  have HL : Hid (∀ W, Below w.heap.size w W → Rls W W.heap.size v l) := fun W hb => (h.below hb (Nat.le_refl _)).mono hb.size
  have HV : Hid (∀ W, Below w.heap.size w W → Rls W w.heap.size v l) := fun W hb => h.below hb (Nat.le_refl _)
  clear h
  have HTB : Hid (∀ w1, Below (w.alloc (.cells #[.int .i64 r.p, .string r.s, .int .i64 r.o, .int .i64 r.t] 25)).heap.size (w.alloc (.cells #[.int .i64 r.p, .string r.s, .int .i64 r.o, .int .i64 r.t] 25)) w1 → Four w1 w.heap.size 0 r) := fun w1 hb => fourOf ((hb.block _ (by simp)).trans (newBlockM w _))
  cases ht : tOk l
  · have HT : Hid (putT r l = [] ∧ putO r l = false) := by show _ ∧ _; simp [putT, putO, ht]
    rw [HT.out.1, HT.out.2]
    go_enter Tryz.func15, Tryz.ntmps15
    go_wp2_with fail
    refine (sTableOk_any _ _ l (HL.out _ HB0.out) hn).mono ?_
    rintro e w1 ⟨rfl, b1⟩
    rw [ht]
    have B1 := Lib.hid (belStep HB0.out b1)
    have HM := Lib.hid (emptyRowR w1 w.heap.size B1.out.size)
    clear b1
    go_wp2
    exact bodyPost_ret (v := .tuple #[.slice (some ⟨w1.heap.size, 0, none⟩) 0 0, .bool false]) (by simp [results, Tryz.results15, go_sem]) rfl ⟨_, rfl, HM.out, B1.out.alloc B1.out.size _⟩
  cases ho : okR r
  · have HT : Hid (putT r l = [] ∧ putO r l = false) := by show _ ∧ _; simp [putT, putO, ho]
    rw [HT.out.1, HT.out.2]
    go_enter Tryz.func15, Tryz.ntmps15
    go_wp2_with fail
    refine (sTableOk_any _ _ l (HL.out _ HB0.out) hn).mono ?_
    rintro e w1 ⟨rfl, b1⟩
    rw [ht]
    obtain ⟨x0, x1, x2, x3⟩ := HTB.out _ b1
    simp only [Nat.zero_add] at x1 x2 x3
    have B1 := Lib.hid (belStep HB0.out b1)
    have s1 : w.heap.size < w1.heap.size := by have := b1.size; simp at this; omega
    clear b1
    go_wp2_with fail
    refine (sRuleOk_any r.p r.s r.hs r.o r.t _).mono ?_
    rintro e w2 ⟨rfl, b2⟩
    rw [show rOk r.p r.s r.o r.t = false from ho]
    have B2 := Lib.hid (belStep B1.out b2)
    have HM := Lib.hid (emptyRowR w2 w.heap.size B2.out.size)
    clear b2
    go_wp2
    exact bodyPost_ret (v := .tuple #[.slice (some ⟨w2.heap.size, 0, none⟩) 0 0, .bool false]) (by simp [results, Tryz.results15, go_sem]) rfl ⟨_, rfl, HM.out, B2.out.alloc B2.out.size _⟩
  have h48 : l.length ≤ 48 := (tOk_pw.1 ht).1
  have HOK := Lib.hid (tOk_mem ht)
  have HT : Hid (putT r l = bif decide (l.length < 48) then putF r l else l) := by show _ = _; simp [putT, ht, ho]
  have HO : Hid (putO r l = (decide (l.length < 48) && !decide ((putF r l).length = l.length))) := by show _ = _; simp [putO, ht, ho]
  have HPC := Lib.hid (putF_cases r l)
  rw [HT.out, HO.out]
  obtain ⟨a, cap, rfl, hc, hm, hh⟩ := HV.out w (Below.refl _ _)
  have HSRC : Hid (l ≠ [] → ∃ b off, a = some ⟨b, off, none⟩ ∧ b < w.heap.size ∧ ∀ W, Below w.heap.size w W → ∀ i, i < l.length → Four W b (off + i * 4) (ruAt l i)) := fun hne => by
    rcases hh with h | ⟨b, off, h1, h2, h3⟩
    · exact absurd h hne
    · exact ⟨b, off, h1, h2, fun W hW i hi => (h3 i hi).below hW h2⟩
  clear hh HV
  unfold maxLen at hm
  go_enter Tryz.func15, Tryz.ntmps15
  go_wp2_with fail
  refine (sTableOk_any _ _ l (HL.out _ HB0.out) hn).mono ?_
  rintro e w1 ⟨rfl, b1⟩
  rw [ht]
  obtain ⟨x0, x1, x2, x3⟩ := HTB.out _ b1
  simp only [Nat.zero_add] at x1 x2 x3
  have B1 := Lib.hid (belStep HB0.out b1)
  have C1 := Lib.hid b1
  have s1 : w.heap.size < w1.heap.size := by have := b1.size; simp at this; omega
  clear b1
  go_wp2_with fail
  refine (sRuleOk_any r.p r.s r.hs r.o r.t _).mono ?_
  rintro e w2 ⟨rfl, b2⟩
  rw [show rOk r.p r.s r.o r.t = true from ho]
  obtain ⟨y0, y1, y2, y3⟩ := HTB.out _ (belStep C1.out b2)
  simp only [Nat.zero_add] at y1 y2 y3
  have B2 := Lib.hid (belStep B1.out b2)
  have s2 : w.heap.size < w2.heap.size := by have := b2.size; omega
  clear b2 x0 x1 x2 x3
  go_wp2_with fail
  refine (l12Put_any _ _ l r (HL.out _ B2.out) (by omega) ho HOK.out).mono ?_
  rintro e w3 ⟨u, rfl, hrow, b3⟩
  have B3 := Lib.hid (belStep B2.out b3)
  have HROW := Lib.hid (hrow.mono B2.out.size)
  have s3 := b3.size
  clear b3 hrow y0 y1 y2 y3
  rcases HPC.out with ⟨hpl, hne⟩ | hpl
  · have HX : Hid ((decide (l.length < 48) && !decide ((putF r l).length = l.length)) = false) := by show _ = _; rw [hpl]; simp
    have HY : Hid ((bif decide (l.length < 48) then putF r l else l) = l) := by show _ = _; rw [hpl]; cases decide (l.length < 48) <;> rfl
    rw [hpl] at HROW
    obtain ⟨b, off, rfl, hb, hf⟩ := HSRC.out hne
    have HF := Lib.hid (hf _ ((B3.out.alloc B3.out.size (.cells #[] 25))))
    have HM := Lib.hid (emptyRowR w3 w.heap.size B3.out.size)
    obtain ⟨g, cap', rfl⟩ : ∃ g cap', u = .slice (some ⟨g, 0, none⟩) l.length cap' := by
      rcases HROW.out.form with ⟨-, h⟩ | ⟨g, cap', h, -⟩
      · exact absurd h hne
      · exact ⟨g, cap', h⟩
    clear hf hpl
    go_wp2_with (at_builtin; refine app_rules rfl _ _ rfl w.heap.size _ [] rfl HM.out b off cap l rfl HF.out (by simp; omega) (by simp; omega) ?_; rintro v' w4 hrow4 hb4 hs4; have HR4 := Lib.hid hrow4; have HB4 := Lib.hid hb4; clear hrow4 hb4 hs4)
    go_wp2
    exact bodyPost_ret (v := .tuple #[v', .bool false]) (by simp [results, Tryz.results15, go_sem]) rfl ⟨_, by rw [HX.out], by rw [HY.out]; simpa using HR4.out, (B3.out.alloc B3.out.size _).trans HB4.out⟩
  · obtain ⟨g, cap', rfl⟩ : ∃ g cap', u = .slice (some ⟨g, 0, none⟩) (putF r l).length cap' := by
      rcases HROW.out.form with ⟨-, h⟩ | ⟨g, cap', h, -⟩
      · rw [h] at hpl; simp at hpl
      · exact ⟨g, cap', h⟩
    obtain ⟨m, hmm⟩ : ∃ m, (putF r l).length = m := ⟨_, rfl⟩
    have q1 : ((m : Int) == (l.length : Int)) = false := by simp; omega
    by_cases h4 : l.length < 48
    · have q3 : decide ((48 : Int) < (m : Int)) = false := by simp; omega
      have HX : Hid ((decide (l.length < 48) && !decide ((putF r l).length = l.length)) = true) := by show _ = _; rw [hpl]; simp [h4]
      have HY : Hid ((bif decide (l.length < 48) then putF r l else l) = putF r l) := by show _ = _; rw [decide_eq_true h4]; rfl
      rw [hmm] at HROW
      rw [hmm]
      clear hmm hpl
      go_wp2
      exact bodyPost_ret (v := .tuple #[.slice (some ⟨g, 0, none⟩) m cap', .bool true]) (by simp [results, Tryz.results15, go_sem]) rfl ⟨_, by rw [HX.out], by rw [HY.out]; exact HROW.out, B3.out⟩
    · have q3 : (48 : Int) < (m : Int) := by omega
      have hne : l ≠ [] := fun e => by rw [e] at h4; simp at h4
      obtain ⟨b, off, rfl, hb, hf⟩ := HSRC.out hne
      have HF := Lib.hid (hf _ ((B3.out.alloc B3.out.size (.cells #[] 25))))
      have HX : Hid ((decide (l.length < 48) && !decide ((putF r l).length = l.length)) = false) := by show _ = _; rw [decide_eq_false h4]; rfl
      have HY : Hid ((bif decide (l.length < 48) then putF r l else l) = l) := by show _ = _; rw [decide_eq_false h4]; rfl
      rw [hmm]
      have HM := Lib.hid (emptyRowR w3 w.heap.size B3.out.size)
      clear hf hpl hmm
      go_wp2_with (at_builtin; refine app_rules rfl _ _ rfl w.heap.size _ [] rfl HM.out b off cap l rfl HF.out (by simp; omega) (by simp; omega) ?_; rintro v' w4 hrow4 hb4 hs4; have HR4 := Lib.hid hrow4; have HB4 := Lib.hid hb4; clear hrow4 hb4 hs4)
      go_wp2
      exact bodyPost_ret (v := .tuple #[v', .bool false]) (by simp [results, Tryz.results15, go_sem]) rfl ⟨_, by rw [HX.out], by rw [HY.out]; simpa using HR4.out, (B3.out.alloc B3.out.size _).trans HB4.out⟩

theorem putT_len (r : R4) (l : List R4) : (putT r l).length ≤ 49 := by
  unfold putT
  cases ht : (tOk l && okR r)
  · exact Nat.zero_le _
  · rw [Bool.and_eq_true] at ht
    have h48 := (tOk_pw.1 ht.1).1
    have := putF_len r l
    rw [cond_true]
    cases decide (l.length < 48)
    · rw [cond_false]; omega
    · rw [cond_true]; omega

end Go.Proofs.YtahobeigbjhbbaaGreatDoor
