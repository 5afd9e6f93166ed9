/-
  The model's l12Put: a rule is put where it stands.
-/
import Derived.Test.YtennaeboemlnoaaDoorTabSpec
import Derived.Test.YtennaeboemlnoaaDoorTabS
namespace Go.Proofs.YtennaeboemlnoaaDoor
open Go.ChangeShapes Go.WideShapes Go.ChangeAt Go.RowKit Go.Joins
set_option linter.unusedVariables false

/-- One round of it: whether the rule was put, and the rules so far. -/
def stepP (r : R4) (s : Bool × List R4) (q : R4) : Bool × List R4 :=
  (s.1 || decide (cmR r q ≤ 0), (bif !s.1 && decide (cmR r q < 0) then s.2 ++ [r] else s.2) ++ [q])
def foldP (r : R4) (l : List R4) (k : Nat) : Bool × List R4 := (l.take k).foldl (stepP r) (false, [])
def putF (r : R4) (l : List R4) : List R4 := bif (foldP r l l.length).1 then (foldP r l l.length).2 else (foldP r l l.length).2 ++ [r]
theorem foldP_succ (r : R4) (l : List R4) {k : Nat} (hk : k < l.length) : foldP r l (k + 1) = stepP r (foldP r l k) (ruAt l k) := by
  unfold foldP
  rw [List.take_add_one, List.getElem?_eq_getElem hk, ruAt_lt hk, Option.toList_some, List.foldl_append]
  rfl
theorem foldP_zero (r : R4) (l : List R4) : foldP r l 0 = (false, []) := rfl
theorem foldP_len (r : R4) (l : List R4) : ∀ k, k ≤ l.length → ((foldP r l k).1 = false → (foldP r l k).2.length = k) ∧ (foldP r l k).2.length ≤ k + 1
  | 0, _ => ⟨fun _ => rfl, by simp [foldP_zero]⟩
  | k + 1, h => by
    obtain ⟨h1, h2⟩ := foldP_len r l k (by omega)
    rw [foldP_succ r l (by omega)]
    unfold stepP
    cases hp : (foldP r l k).1
    · have := h1 hp
      by_cases hc : cmR r (ruAt l k) < 0
      · simp [hc, this]
        omega
      · simp [hc, this]
    · simp
      omega
theorem putF_len (r : R4) (l : List R4) : (putF r l).length ≤ l.length + 1 := by
  obtain ⟨h1, h2⟩ := foldP_len r l l.length (Nat.le_refl _)
  unfold putF
  cases hp : (foldP r l l.length).1
  · have := h1 hp
    simp [this]
  · simpa using h2
theorem foldP_ok (r : R4) (l : List R4) (hr : okR r = true) (hl : ∀ q ∈ l, okR q = true) : ∀ k, k ≤ l.length → ∀ q ∈ (foldP r l k).2, okR q = true
  | 0, _ => by simp [foldP_zero]
  | k + 1, h => by
    have ih := foldP_ok r l hr hl k (by omega)
    have hk : okR (ruAt l k) = true := by rw [ruAt_lt (show k < l.length by omega)]; exact hl _ (List.getElem_mem _)
    rw [foldP_succ r l (by omega)]
    unfold stepP
    intro q hq
    cases hp : (!(foldP r l k).1 && decide (cmR r (ruAt l k) < 0))
    · rw [hp] at hq
      simp only [cond_false, List.mem_append, List.mem_singleton] at hq
      rcases hq with h | rfl
      · exact ih q h
      · exact hk
    · rw [hp] at hq
      simp only [cond_true, List.mem_append, List.mem_singleton] at hq
      rcases hq with (h | rfl) | rfl
      · exact ih q h
      · exact hr
      · exact hk
theorem putF_ok (r : R4) (l : List R4) (hr : okR r = true) (hl : ∀ q ∈ l, okR q = true) : ∀ q ∈ putF r l, okR q = true := by
  have h := foldP_ok r l hr hl l.length (Nat.le_refl _)
  unfold putF
  intro q hq
  cases hp : (foldP r l l.length).1
  · rw [hp] at hq
    simp only [cond_false, List.mem_append, List.mem_singleton] at hq
    rcases hq with h' | rfl
    · exact h q h'
    · exact hr
  · rw [hp] at hq
    exact h q hq

theorem RulRow.push {w : World} {base : Nat} {v : Value} {L : List R4} {x : R4} (h : w.ownsRow base 56 4 v (L.length + 1) (L.flatMap R4.cs ++ R4.cs x)) : RulRow w base v (L ++ [x]) := by
  unfold RulRow
  rw [List.length_append, List.flatMap_append]
  simpa using h
/-- One rule is appended to rules of the call's own. -/
theorem app_rule {w : World} {ops : Array Oper} {rest : List Oper} {o : Oper} {a : Act} {Q : Exit → Act → World → Prop} (hgd : o.guard = none) (s x : Operand)
    (ho : o.op = .call { callee := .builtin .append, args := #[s, x], argTypes := #[37, 37] }) (base : Nat) (v : Value) (L : List R4) (hs : a.eval s = v) (hrow : RulRow w base v L) (g : Nat) (r : R4)
    (hx : a.eval x = .slice (some ⟨g, 0, none⟩) 1 1) (hf : Four w g 0 r) (hn : L.length ≤ 1000000) (hb : base ≤ w.heap.size)
    (h : ∀ v' w', RulRow w' base v' (L ++ [r]) → Below base w w' → w.heap.size ≤ w'.heap.size → (∃ g' cap', v' = .slice (some ⟨g', 0, none⟩) (L.length + 1) cap') → wpList Tryd.prog ops Q rest (a.put o.dst v') w') : wpList Tryd.prog ops Q (o :: rest) a w := by
  obtain ⟨i0, hi, hz0, hz1, hz2⟩ := info_parts infoR
  refine wpList_append_own _ hgd s x 37 ho base 56 i0 (.agg #[.int .i64 0, .string ⟨#[]⟩, .int .i64 0, .int .i64 0]) 4 40 Tryd.underlying37 hi hz0 hz1 hz2 rfl (by decide) v L.length _ hs hrow ⟨g, 0, none⟩ 1 1 (R4.cs r) hx rfl ?c1 ?c2 ?c3 ?c4 hb ?c6
  case c1 =>
    intro j u hj
    obtain ⟨f0, f1, f2, f3⟩ := hf
    rw [add_none]
    match j, hj with
    | 0, hj => simp [R4.cs] at hj; subst hj; exact f0
    | 1, hj => simp [R4.cs] at hj; subst hj; exact f1
    | 2, hj => simp [R4.cs] at hj; subst hj; exact f2
    | 3, hj => simp [R4.cs] at hj; subst hj; exact f3
    | j + 4, hj => simp [R4.cs] at hj
  case c2 =>
    intro u hu
    simp [R4.cs] at hu
    rcases hu with rfl | rfl | rfl | rfl <;> rfl
  case c3 => unfold maxLen; omega
  case c4 => omega
  case c6 =>
    intro v' w' hown hg hnil
    refine h v' w' (RulRow.push hown) ⟨hg.os, hg.tape, hg.output, hg.size, fun j hj => hg.block j (by omega) (fun e => by have := (World.ownsRow.lt hrow j e.symm).1; omega)⟩ hg.size ?_
    obtain ⟨hl, h1 | ⟨g', cap', cur, h1, -⟩⟩ := hown
    · exact absurd h1.2 (by omega)
    · exact ⟨g', cap', h1⟩
theorem fourOf {w : World} {b : Nat} {r : R4} {t : TypeId} (h : w.heap[b]? = some (.cells #[.int .i64 r.p, .string r.s, .int .i64 r.o, .int .i64 r.t] t)) : Four w b 0 r := by
  refine ⟨?_, ?_, ?_, ?_⟩ <;> simp [World.cell?, h]
theorem newFour (w : World) (r : R4) : Four (w.alloc (.cells #[.int .i64 r.p, .string r.s, .int .i64 r.o, .int .i64 r.t] 56)) w.heap.size 0 r := fourOf (newBlockM w _)

set_option maxRecDepth 100000 in
set_option maxHeartbeats 4000000 in
theorem l12Put_any (w : World) (v : Value) (l : List R4) (r : R4) (h : Rls w w.heap.size v l) (hn : l.length ≤ 1000) (hr : okR r = true) (hl : ∀ q ∈ l, okR q = true) :
    Calls Tryd.prog 78 #[v, .agg #[.int .i64 r.p, .string r.s, .int .i64 r.o, .int .i64 r.t]] w fun e w' => ∃ u, e = .returned u ∧ RulRow w' w.heap.size u (putF r l) ∧ Below w.heap.size w w' := by
  obtain ⟨a, cap, rfl, hc, hm, hh⟩ := h
  have hnz : l.length = 0 ∨ ∃ b off, a = some ⟨b, off, none⟩ ∧ b < w.heap.size ∧ Hid (∀ i, i < l.length → Four w b (off + i * 4) (ruAt l i)) := by
    rcases hh with h | ⟨b, off, h1, h2, h3⟩
    · exact .inl (by rw [h]; rfl)
    · exact .inr ⟨b, off, h1, h2, h3⟩
  clear hh
  have HCM : Hid (∀ i, i < l.length → ∀ w, Calls Tryd.prog 67 #[.agg #[.int .i64 r.p, .string r.s, .int .i64 r.o, .int .i64 r.t], .agg #[.int .i64 (ruAt l i).p, .string (ruAt l i).s, .int .i64 (ruAt l i).o, .int .i64 (ruAt l i).t]] w fun e w' => e = .returned (.int .i64 (cmR r (ruAt l i))) ∧ Below w.heap.size w w') := fun i hi w => sCmp_at r (ruAt l i) hr (by rw [ruAt_lt hi]; exact hl _ (List.getElem_mem _)) w
  unfold maxLen at hm
  clear hl
  have HFS : Hid (∀ k, k < l.length → foldP r l (k + 1) = stepP r (foldP r l k) (ruAt l k)) := fun k hk => foldP_succ r l hk
  have HFL : Hid (∀ k, k ≤ l.length → (foldP r l k).2.length ≤ k + 1) := fun k hk => (foldP_len r l k hk).2
  have HPF : Hid (putF r l = bif (foldP r l l.length).1 then (foldP r l l.length).2 else (foldP r l l.length).2 ++ [r]) := rfl
  have B00 := Lib.hid (below_alloc2 w (.cells #[.int .i64 r.p, .string r.s, .int .i64 r.o, .int .i64 r.t] 56) (.cells #[] 56))
  have HR0 : Hid (RulRow ((w.alloc (.cells #[.int .i64 r.p, .string r.s, .int .i64 r.o, .int .i64 r.t] 56)).alloc (.cells #[] 56)) (w.heap.size + 1) (.slice (some ⟨w.heap.size + 1, 0, none⟩) 0 0) []) := by
    have := World.ownsRow_made (base := w.heap.size + 1) (e := 56) (size := 4) (w.alloc (.cells #[.int .i64 r.p, .string r.s, .int .i64 r.o, .int .i64 r.t] 56)) #[] 0 (by simp) (by unfold maxLen; omega) rfl
    rw [World.size_alloc] at this
    exact this
  have HK0 : Hid (((w.alloc (.cells #[.int .i64 r.p, .string r.s, .int .i64 r.o, .int .i64 r.t] 56)).alloc (.cells #[] 56)).heap[w.heap.size]? = some (.cells #[.int .i64 r.p, .string r.s, .int .i64 r.o, .int .i64 r.t] 56)) := (Below.heap_alloc _ _ _ (by simp)).trans (newBlockM w _)
  generalize hN : l.length = n at *
  go_enter Tryd.func78, Tryd.ntmps78
  go_wp2
  go_loopw [5, 6, 7] (fun x p i wr => ∃ k : Nat, k ≤ n ∧ i = .int .i64 k ∧ p = .bool (foldP r l k).1 ∧ RulRow wr (w.heap.size + 1) x (foldP r l k).2 ∧ wr.heap[w.heap.size]? = some (.cells #[.int .i64 r.p, .string r.s, .int .i64 r.o, .int .i64 r.t] 56) ∧ w.heap.size + 1 ≤ wr.heap.size ∧ Below w.heap.size w wr) (fun _ _ i _ => n - (intOf i).toNat)
  case atStart => exact ⟨0, Nat.zero_le _, rfl, rfl, HR0.out, HK0.out, by simp, B00.out⟩
  case round =>
    obtain ⟨k, hk, rfl, rfl, hrow, hblk, hsz, hbel⟩ := hrel
    have HR := Lib.hid hrow
    have HBL := Lib.hid hbel
    have HK := Lib.hid hblk
    clear hrow
    by_cases hlt : k < n
    · have hkz : (k : Int) < (n : Int) := by omega
      rcases hnz with h0 | ⟨b, off, rfl, hb, HC⟩
      · omega
      have hbr : b < wr.heap.size := Nat.lt_of_lt_of_le hb hbel.size
      have hwr : w.heap.size < wr.heap.size := by omega
      have q0 := fun m : Ext wr => (((HC.out k hlt).below hbel hb).below m.h hbr).1
      have q1 := fun m : Ext wr => (((HC.out k hlt).below hbel hb).below m.h hbr).2.1
      have q2 := fun m : Ext wr => (((HC.out k hlt).below hbel hb).below m.h hbr).2.2.1
      have q3 := fun m : Ext wr => (((HC.out k hlt).below hbel hb).below m.h hbr).2.2.2
      have e0 := fun m : Ext wr => ((fourOf hblk).below m.h hwr).1
      have e1 := fun m : Ext wr => ((fourOf hblk).below m.h hwr).2.1
      have e2 := fun m : Ext wr => ((fourOf hblk).below m.h hwr).2.2.1
      have e3 := fun m : Ext wr => ((fourOf hblk).below m.h hwr).2.2.2
      simp only [Nat.zero_add] at e1 e2 e3
      have HX := Lib.hid (HCM.out k hlt)
      have HST := Lib.hid (HFS.out k hlt)
      have HLN := Lib.hid (HFL.out k hk)
      have HF4 : Hid (∀ W, Below wr.heap.size wr W → Four W b (off + k * 4) (ruAt l k)) := fun W hW => ((HC.out k hlt).below HBL.out hb).below hW hbr
      clear hblk hbel HCM HC
      obtain ⟨c, hcc⟩ : ∃ c, cmR r (ruAt l k) = c := ⟨_, rfl⟩
      rw [hcc] at HX
      unfold stepP at HST
      rw [hcc] at HST
      clear hcc
      generalize hpp : (foldP r l k).1 = pt at *
      generalize (foldP r l k).2 = L at *
      generalize ruAt l k = y at *
      clear hpp
      go_wp2
      refine wp_region_ext (w0 := wr) (by kernel_rfl) (by kernel_rfl) (Below.refl _ _) ?_
      repeat (go_big_quiet_step (first | (go_at_call 67; exact ext_of (HX.out _))))
      refine wpQuiet_nil ?_
      intro w1 hx
      have b1 := ext_out hx
      clear hx q0 q1 q2 q3 e0 e1 e2 e3
      have HR1 := Lib.hid (HR.out.below b1)
      have s1 := b1.size
      have HK1 := Lib.hid ((b1.block _ hwr).trans HK.out)
      obtain ⟨r0, r1, r2, r3⟩ := fourOf HK1.out
      obtain ⟨y0, y1, y2, y3⟩ := HF4.out _ b1
      simp only [Nat.zero_add] at r1 r2 r3
      have B1 := Lib.hid (belStep HBL.out b1)
      have HY4 : Hid (Four w1 b (off + k * 4) y) := ⟨y0, y1, y2, y3⟩
      clear b1 HR HK HF4
      cases pt
      · by_cases hc0 : c < 0
        · have hc1 : c ≤ 0 := by omega
          go_wp2_with (first | (at_builtin; refine app_rule rfl _ _ rfl (w.heap.size + 1) _ _ rfl (HR2.out.below (below_alloc1 _ _)) _ y rfl (newFour _ _) (by have := HLN.out; simp only [List.length_append, List.length_cons, List.length_nil]; omega) (by simp; omega) ?_; rintro v' w3 hrow3 hb3 hs3 ⟨g', cap', rfl⟩; have HR3 := Lib.hid hrow3; have HB3 := Lib.hid (((below_alloc1 _ _).mono (by omega)).trans hb3); have s3 := hs3; simp at s3; clear hrow3 hb3 hs3) | (at_builtin; refine app_rule rfl _ _ rfl (w.heap.size + 1) _ _ rfl (HR1.out.below (below_alloc1 _ _)) _ r rfl (newFour _ _) (by have := HLN.out; omega) (by simp; omega) ?_; rintro v' w2 hrow3 hb3 hs3 ⟨g', cap', rfl⟩; have HR2 := Lib.hid hrow3; have HB2 := Lib.hid (((below_alloc1 _ _).mono (by omega)).trans hb3); have s2 := hs3; simp at s2; obtain ⟨z0, z1, z2, z3⟩ := HY4.out.below HB2.out (by omega); clear hrow3 hb3 hs3))
          have HB4 := Lib.hid (HB2.out.trans (HB3.out.mono (by omega)))
          go_wp2
          go_roundw
          case rel => exact ⟨k + 1, by omega, by go_num, by rw [HST.out]; simp [hc1], by rw [HST.out]; simpa [hc0] using HR3.out, (HB4.out.block _ (by omega)).trans HK1.out, by omega, B1.out.trans (HB4.out.mono (by omega))⟩
          case measure => simp [intOf]; omega
        · by_cases hc1 : c ≤ 0
          · go_wp2_with (at_builtin; refine app_rule rfl _ _ rfl (w.heap.size + 1) _ _ rfl (HR1.out.below (below_alloc1 _ _)) _ y rfl (newFour _ _) (by have := HLN.out; omega) (by simp; omega) ?_; rintro v' w3 hrow3 hb3 hs3 ⟨g', cap', rfl⟩; have HR3 := Lib.hid hrow3; have HB3 := Lib.hid (((below_alloc1 _ _).mono (by omega)).trans hb3); have s3 := hs3; simp at s3; clear hrow3 hb3 hs3)
            have HB4 := Lib.hid (HB3.out)
            go_wp2
            go_roundw
            case rel => exact ⟨k + 1, by omega, by go_num, by rw [HST.out]; simp [hc1], by rw [HST.out]; simpa [hc0] using HR3.out, (HB4.out.block _ (by omega)).trans HK1.out, by omega, B1.out.trans (HB4.out.mono (by omega))⟩
            case measure => simp [intOf]; omega
          · go_wp2_with (at_builtin; refine app_rule rfl _ _ rfl (w.heap.size + 1) _ _ rfl (HR1.out.below (below_alloc1 _ _)) _ y rfl (newFour _ _) (by have := HLN.out; omega) (by simp; omega) ?_; rintro v' w3 hrow3 hb3 hs3 ⟨g', cap', rfl⟩; have HR3 := Lib.hid hrow3; have HB3 := Lib.hid (((below_alloc1 _ _).mono (by omega)).trans hb3); have s3 := hs3; simp at s3; clear hrow3 hb3 hs3)
            have HB4 := Lib.hid (HB3.out)
            go_wp2
            go_roundw
            case rel => exact ⟨k + 1, by omega, by go_num, by rw [HST.out]; simp [hc1], by rw [HST.out]; simpa [hc0] using HR3.out, (HB4.out.block _ (by omega)).trans HK1.out, by omega, B1.out.trans (HB4.out.mono (by omega))⟩
            case measure => simp [intOf]; omega
      · go_wp2_with (at_builtin; refine app_rule rfl _ _ rfl (w.heap.size + 1) _ _ rfl (HR1.out.below (below_alloc1 _ _)) _ y rfl (newFour _ _) (by have := HLN.out; omega) (by simp; omega) ?_; rintro v' w3 hrow3 hb3 hs3 ⟨g', cap', rfl⟩; have HR3 := Lib.hid hrow3; have HB3 := Lib.hid (((below_alloc1 _ _).mono (by omega)).trans hb3); have s3 := hs3; simp at s3; clear hrow3 hb3 hs3)
        have HB4 := Lib.hid (HB3.out)
        go_wp2
        go_roundw
        case rel => exact ⟨k + 1, by omega, by go_num, by rw [HST.out]; simp, by rw [HST.out]; simpa using HR3.out, (HB4.out.block _ (by omega)).trans HK1.out, by omega, B1.out.trans (HB4.out.mono (by omega))⟩
        case measure => simp [intOf]; omega
    · obtain rfl : k = n := by omega
      have HLN := Lib.hid (HFL.out _ (Nat.le_refl _))
      obtain ⟨r0, r1, r2, r3⟩ := fourOf HK.out
      simp only [Nat.zero_add] at r1 r2 r3
      have hwr : w.heap.size < wr.heap.size := by omega
      cases hpt : (foldP r l k).1
      · rw [hpt, cond_false] at HPF
        generalize (foldP r l k).2 = L at *
        go_wp2_with (at_builtin; refine app_rule rfl _ _ rfl (w.heap.size + 1) _ _ rfl (HR.out.below (below_alloc1 _ _)) _ r rfl (newFour _ _) (by have := HLN.out; omega) (by simp; omega) ?_; rintro v' w3 hrow3 hb3 hs3 ⟨g', cap', rfl⟩; have HR3 := Lib.hid hrow3; have HB3 := Lib.hid (((below_alloc1 _ _).mono (by omega)).trans hb3); clear hrow3 hb3 hs3)
        go_ret
        exact ⟨_, rfl, by rw [HPF.out]; exact HR3.out.mono (Nat.le_succ _), HBL.out.trans (HB3.out.mono (Nat.le_succ _))⟩
      · rw [hpt, cond_true] at HPF
        go_wp2
        go_ret
        exact ⟨_, rfl, by rw [HPF.out]; exact HR.out.mono (Nat.le_succ _), HBL.out⟩

end Go.Proofs.YtennaeboemlnoaaDoor
