/-
  What the nets that the statements draw are: links of the call's own, not too many; the reader's place goes on, and nothing else that was there changes.
-/
import Derived.Test.YtbjndcfdcjpkmaaNetSpec
import Derived.Test.YtbjndcfdcjpkmaaDrawHead
import Derived.Maps.AppendAt
import Derived.Deep.RegionHeld3

namespace Go.Proofs.Ytbjndcfdcjpkmaa
open Go.ChangeShapes Go.WideShapes Go.ChangeAt Go.RowKit Go.Joins
set_option linter.unusedVariables false

theorem LkRow.grow {w w' : World} {base g : Nat} {v : Value} {l : List K4} (h : LkRow w base v l) (hg : w.grownBy w' (some g)) (hb : g < base) : LkRow w' base v l := by
  refine World.ownsRow.kept h hg ?_
  cases hv : v.ownBlock with
  | none => exact .inl rfl
  | some k =>
    have := (World.ownsRow.lt h k hv).1
    exact .inr (fun e => by have := Option.some.inj e; omega)
theorem fkAtCell {W : World} {g off : Nat} {M : List K4} (hf : ∀ i, i < M.length → FourK W g (off + i * 4) (lkAt M i)) : ∀ j u, (M.flatMap K4.cs)[j]? = some u → W.cell? ((⟨g, off, none⟩ : Addr).add j) = some u := by
  intro j u hj
  have hjl := (List.getElem?_eq_some_iff.1 hj).1
  rw [fk_len M] at hjl
  obtain ⟨f0, f1, f2, f3⟩ := hf (j / 4) (by omega)
  have hd := Nat.div_add_mod j 4
  have hm := Nat.mod_lt j (show 0 < 4 by decide)
  have hat := fk_at M (j / 4) (j % 4) (by omega) hm
  rw [show j / 4 * 4 + j % 4 = j from by omega, hj] at hat
  have hadd : (⟨g, off, none⟩ : Addr).add j = ⟨g, off + j / 4 * 4 + j % 4, none⟩ := by
    have : off + j / 4 * 4 + j % 4 = off + j := by omega
    rw [this, add_none]
  rw [hadd]
  generalize j % 4 = i at *
  match i, hm, hat with
  | 0, _, hat => simp [K4.cs] at hat; subst hat; exact f0
  | 1, _, hat => simp [K4.cs] at hat; subst hat; exact f1
  | 2, _, hat => simp [K4.cs] at hat; subst hat; exact f2
  | 3, _, hat => simp [K4.cs] at hat; subst hat; exact f3
  | i + 4, hm, _ => omega
/-- Links are appended to links of the call's own: at the operation. -/
theorem appK {w : World} {o : Oper} {a : Act} {K : Act → World → Prop} {Q : Exit → Act → World → Prop} (s x : Operand)
    (ho : o.op = .call { callee := .builtin .append, args := #[s, x], argTypes := #[24, 24] }) (base : Nat) (v : Value) (L : List K4) (hs : a.eval s = v) (hrow : LkRow w base v L) (g off cap : Nat) (M : List K4)
    (hx : a.eval x = .slice (some ⟨g, off, none⟩) M.length cap) (hf : ∀ i, i < M.length → FourK w g (off + i * 4) (lkAt M i)) (hn : L.length + M.length ≤ 1000000) (hb : base ≤ w.heap.size)
    (h : ∀ v' w', LkRow w' base v' (L ++ M) → w.grownBy w' v.ownBlock → (v'.ownBlock = v.ownBlock ∨ v'.ownBlock = some w.heap.size) → K (a.put o.dst v') w') : o.wp Try.prog a w K Q := by
  obtain ⟨i0, hi, hz0, hz1, hz2⟩ := info_parts infoK
  obtain ⟨v', w', hr, h2, h3, h4, h5⟩ := run_append_own_at (P := Try.prog) w base 24 o.type 44 i0 (.agg #[.int .i64 0, .int .i64 0, .int .i64 0, .int .i64 0]) 4 32 Try.underlying24 hi hz0 hz1 hz2 rfl (by decide) v L.length _ hrow ⟨g, off, none⟩ M.length cap (M.flatMap K4.cs) (fk_len M) (fkAtCell hf)
    (by intro u hu
        obtain ⟨q, hq, hu⟩ := List.mem_flatMap.1 hu
        simp [K4.cs] at hu
        rcases hu with rfl | rfl | rfl | rfl <;> rfl) (by unfold maxLen; omega) (by omega) hb
  unfold Oper.wp execOp
  simp only [ho, resolve, invoke, builtin, Sem.run_bind, Sem.run_pure, Result.andThen_ok, List.map_toArray, List.map_cons, List.map_nil, hs, hx, hr]
  refine h _ _ ?_ h3 h5
  unfold LkRow
  rw [List.length_append, List.flatMap_append]
  exact h2
/-- The same at the list of a plain region. -/
theorem app_links {w : World} {ops : Array Oper} {rest : List Oper} {o : Oper} {a : Act} {Q : Exit → Act → World → Prop} (hgd : o.guard = none) (s x : Operand)
    (ho : o.op = .call { callee := .builtin .append, args := #[s, x], argTypes := #[24, 24] }) (base : Nat) (v : Value) (L : List K4) (hs : a.eval s = v) (hrow : LkRow w base v L) (g off cap : Nat) (M : List K4)
    (hx : a.eval x = .slice (some ⟨g, off, none⟩) M.length cap) (hf : ∀ i, i < M.length → FourK w g (off + i * 4) (lkAt M i)) (hn : L.length + M.length ≤ 1000000) (hb : base ≤ w.heap.size)
    (h : ∀ v' w', LkRow w' base v' (L ++ M) → w.grownBy w' v.ownBlock → (v'.ownBlock = v.ownBlock ∨ v'.ownBlock = some w.heap.size) → wpList Try.prog ops Q rest (a.put o.dst v') w') : wpList Try.prog ops Q (o :: rest) a w :=
  wpList_plain hgd fun _ hK => appK s x ho base v L hs hrow g off cap M hx hf hn hb fun v' w' h2 h3 h4 => hK _ _ (h v' w' h2 h3 h4)
theorem fourKOf {w : World} {b : Nat} {r : K4} {t : TypeId} (h : w.heap[b]? = some (.cells #[.int .i64 r.p, .int .i64 r.s, .int .i64 r.o, .int .i64 r.t] t)) : FourK w b 0 r := by
  refine ⟨?_, ?_, ?_, ?_⟩ <;> simp [World.cell?, h]
theorem newFourK (w : World) (r : K4) : FourK (w.alloc (.cells #[.int .i64 r.p, .int .i64 r.s, .int .i64 r.o, .int .i64 r.t] 44)) w.heap.size 0 r := fourKOf (newBlock w _)
theorem oneK {W : World} {b : Nat} {r : K4} (h : FourK W b 0 r) : ∀ i, i < [r].length → FourK W b (0 + i * 4) (lkAt [r] i) := fun i hi => by
  obtain rfl : i = 0 := by simp at hi; omega
  exact h
/-- Four cells of another block than the row that turns. -/
theorem FourK.grown {w w' : World} {b k : Nat} {row : Option Nat} {r : K4} (h : FourK w b k r) (hg : w.grownBy w' row) (hb : b < w.heap.size) (hne : row ≠ some b) : FourK w' b k r := by
  have hc : ∀ j, w'.cell? ⟨b, j, none⟩ = w.cell? ⟨b, j, none⟩ := fun j => by
    simp only [World.cell?]
    rw [hg.block b hb (fun e => hne e.symm)]
  exact ⟨(hc _).trans h.1, (hc _).trans h.2.1, (hc _).trans h.2.2.1, (hc _).trans h.2.2.2⟩
theorem emptyRowK (W : World) (base : Nat) (h : base ≤ W.heap.size) : LkRow (W.alloc (.cells #[] 44)) base (.slice (some ⟨W.heap.size, 0, none⟩) 0 0) [] :=
  World.ownsRow.mono (World.ownsRow_made (base := W.heap.size) (e := 44) (size := 4) W #[] 0 (Nat.le_refl _) (by unfold maxLen; omega) rfl) h

/-- Behind an append all that lies below the row's base is as it was. -/
theorem LkRow.belRow {w w' : World} {base : Nat} {v : Value} {l : List K4} (h : LkRow w base v l) (hg : w.grownBy w' v.ownBlock) (hb : base ≤ w.heap.size) : Below base w w' :=
  ⟨hg.os, hg.tape, hg.output, hg.size, fun j hj => hg.block j (by omega) (fun e => by have := (World.ownsRow.lt h j e.symm).1; omega)⟩

/-- A net is drawn by the reader at block g. -/
def NetDrawn (g B : Nat) (w : World) (e : Ending) (w' : World) : Prop :=
  ∃ (u : Value) (l : List K4), e = .returned u ∧ LkRow w' w.heap.size u l ∧ l.length ≤ 9 ∧ RdOk w' g (B + 50) ∧ w.grownBy w' (some g)

set_option maxRecDepth 100000 in
set_option maxHeartbeats 4000000 in
theorem l92Net_any (w : World) (g B : Nat) (hr : RdOk w g B) (hBB : B ≤ 1000000) :
    Calls Try.prog 52 #[.pointer (some ⟨g, 0, none⟩)] w (NetDrawn g B w) := by
  have hlt := hr.lt
  have HR := Lib.hid (hr.alloc (.cells #[] 44))
  have HT0 := Lib.hid (emptyRowK w w.heap.size (Nat.le_refl _))
  have G0 := Lib.hid (gAlloc (gRefl w (some g)) (.cells #[] 44))
  clear hr
  go_enter Try.func52, Try.ntmps52
  go_wp2_with fail
  refine (pick_any _ _ _ _ HR.out (by omega) (by omega)).mono ?_
  rintro e w1 ⟨n1, a1, c1, rfl, hr1, g1⟩
  have HR1 := Lib.hid hr1
  have HT1 := Lib.hid (HT0.out.grow g1 hlt)
  have G1 := Lib.hid (gTrans G0.out g1)
  clear hr1 g1 HT0 G0 HR
  go_wp2
  go_loopw [3, 4] (fun x n wr => ∃ (k : Int) (l : List K4) (C : Nat) (b0 cap : Nat), 0 ≤ k ∧ k ≤ 8 ∧ n = .int .i64 k ∧ x = .slice (some ⟨b0, 0, none⟩) l.length cap ∧ LkRow wr w.heap.size x l ∧ (l.length : Int) + k ≤ 8 ∧ (C : Int) + 4 * k ≤ B + 33 ∧ RdOk wr g C ∧ w.grownBy wr (some g)) (fun _ n _ => (intOf n).toNat)
  case atStart => exact ⟨2 + n1, [], B + 1, w.heap.size, 0, by omega, by omega, by go_num, rfl, HT1.out, by simp; omega, by omega, HR1.out, G1.out⟩
  case round =>
    obtain ⟨k, l, C, b0, cap, hk0, hk7, rfl, rfl, hrow, hlen, hC, hrd, hgr⟩ := hrel
    have HRow := Lib.hid hrow
    have HRd := Lib.hid hrd
    have HG := Lib.hid hgr
    have hsz := hgr.size
    clear hrow hrd hgr
    by_cases hpos : 0 < k
    · go_wp2_with fail
      refine (pick_any _ _ _ _ HRd.out (by omega) (by omega)).mono ?_
      rintro e w2 ⟨p, p0, p1, rfl, hr2, g2⟩
      have HRd2 := Lib.hid hr2
      have s2 := g2.size
      clear hr2
      go_wp2_with fail
      refine (pick_any _ _ _ _ HRd2.out (by omega) (by omega)).mono ?_
      rintro e w3 ⟨s, q0, q1, rfl, hr3, g3⟩
      have HRd3 := Lib.hid hr3
      have s3 := g3.size
      clear hr3
      go_wp2_with fail
      refine (pick_any _ _ _ _ HRd3.out (by omega) (by omega)).mono ?_
      rintro e w4 ⟨o, o0, o1, rfl, hr4, g4⟩
      have HRd4 := Lib.hid hr4
      have s4 := g4.size
      clear hr4
      go_wp2_with fail
      refine (pick_any _ _ _ _ HRd4.out (by omega) (by omega)).mono ?_
      rintro e w5 ⟨t, t0, t1, rfl, hr5, g5⟩
      have HRd5 := Lib.hid hr5
      have s5 := g5.size
      clear hr5
      have G25 := Lib.hid (gTrans (gTrans (gTrans g2 g3) g4) g5)
      have HRow5 := Lib.hid (HRow.out.grow G25.out hlt)
      have G5 := Lib.hid (gTrans HG.out G25.out)
      clear g2 g3 g4 g5 HRd HRd2 HRd3 HRd4 HRow HG G25
      go_wp2_with fail
      have HA := Lib.hid (below_alloc1 w5 (.cells #[.int .i64 (1 + p), .int .i64 (1 + s), .int .i64 (1 + o), .int .i64 (1 + t)] 44))
      have HF : Hid (FourK (w5.alloc (.cells #[.int .i64 (1 + p), .int .i64 (1 + s), .int .i64 (1 + o), .int .i64 (1 + t)] 44)) w5.heap.size 0 ⟨1 + p, 1 + s, 1 + o, 1 + t⟩) := newFourK w5 ⟨1 + p, 1 + s, 1 + o, 1 + t⟩
      have HRow6 := Lib.hid (HRow5.out.below HA.out)
      have HRd6 := Lib.hid (HRd5.out.below HA.out (by omega))
      have G6 := Lib.hid (gBelow G5.out HA.out (by omega))
      have s6 : w5.heap.size < (w5.alloc (.cells #[.int .i64 (1 + p), .int .i64 (1 + s), .int .i64 (1 + o), .int .i64 (1 + t)] 44)).heap.size := by simp
      clear HA HRow5 HRd5 G5
      generalize w5.alloc (.cells #[.int .i64 (1 + p), .int .i64 (1 + s), .int .i64 (1 + o), .int .i64 (1 + t)] 44) = W6 at *
      generalize w5.heap.size = lb at *
      have HC : Hid (∀ W, Below W6.heap.size W6 W → FourK W lb 0 ⟨1 + p, 1 + s, 1 + o, 1 + t⟩) := fun W hW => HF.out.below hW s6
      have HL : Hid (∀ W, Below W6.heap.size W6 W → LkRow W w.heap.size (.slice (some ⟨b0, 0, none⟩) l.length cap) l) := fun W hW => HRow6.out.below hW
      clear HF
      refine wp_region_held_drew (S := fun W => Below W6.heap.size W6 W) (by kernel_rfl) (Below.refl _ _).drew (fun hHeld => ?_)
      generalize W6.drew = V at *
      refine wpAnyH_take (i := 1) (v := ?_) rfl (by kernel_rfl) (by kernel_rfl) (by kernel_rfl) (fun _ _ _ h => h) (Or.inl ⟨by rfl, ?_⟩) hHeld ?_
      rotate_left
      · intro w hw
        go_simp
        with_reducible rfl
      simp [Act.put]
      refine wpAnyH_take (i := 3) (v := .agg #[.int .i64 (1 + p), .int .i64 (1 + s), .int .i64 (1 + o), .int .i64 (1 + t)]) rfl (by kernel_rfl) (by kernel_rfl) (by kernel_rfl) (fun _ _ _ h => h) (Or.inl ⟨by rfl, ?_⟩) hHeld ?_
      · intro W hW
        obtain ⟨c0, c1, c2, c3⟩ := HC.out W hW
        simp at c0 c1 c2 c3
        go_simp
      simp [Act.put]
      refine wpAnyH_ready (rs := [0, 4]) (by kernel_rfl) (by simp) ?_
      have hN0 : W6.heap.size ≤ V.heap.size := hHeld.size
      refine AllReadyH.cons rfl (fun K hK => ?_) (AllReadyH.cons rfl (fun K hK => ?_) AllReadyH.nil)
      · go_simp
        have HRe := Lib.hid (emptyRowK V W6.heap.size hN0)
        have hB7 : Below W6.heap.size W6 (V.alloc (.cells #[] 44)) := hHeld.trans ((below_alloc1 _ _).mono hHeld.size)
        have hsb : V.heap.size < (V.alloc (.cells #[] 44)).heap.size := by simp
        refine hK.out _ _ hB7 (fun hHeld => ?_)
        clear hK K hB7
        generalize V.alloc (.cells #[] 44) = W7 at *
        refine wpAnyH_ready (rs := [2, 4]) (by kernel_rfl) (by simp) ?_
        refine AllReadyH.cons rfl (fun K hK => ?_) (AllReadyH.cons rfl (fun K hK => ?_) AllReadyH.nil)
        · rw [if_pos (by rfl)]
          refine appK (.tmp 27) (.tmp 28) rfl W6.heap.size _ [] rfl HRe.out b0 0 cap l rfl (fun i hi => by rw [Nat.zero_add]; exact ((HL.out _ hHeld).cells rfl).1 i hi) (by simp; omega) hHeld.size ?_
          rintro v1 W8 hrow8 hg8 -
          have hB8 := hHeld.trans (HRe.out.belRow hg8 hHeld.size)
          have HR8' := Lib.hid hrow8
          clear hrow8 hg8 HRe
          refine hK.out _ _ hB8 (fun hHeld => ?_)
          clear hK K hB8
          simp [Act.put]
          refine wpAnyH_ready (rs := [4]) (by kernel_rfl) (by simp) ?_
          refine AllReadyH.cons rfl (fun K hK => ?_) AllReadyH.nil
          go_simp
          have HR8 : Hid (LkRow _ W6.heap.size v1 l) := HR8'.out.below (below_alloc1 W8 (.cells #[.int .i64 (1 + p), .int .i64 (1 + s), .int .i64 (1 + o), .int .i64 (1 + t)] 44))
          have HF8 := Lib.hid (newFourK W8 ⟨1 + p, 1 + s, 1 + o, 1 + t⟩)
          refine hK.out _ _ (hHeld.trans ((below_alloc1 _ _).mono hHeld.size)) (fun hHeld => ?_)
          clear hK K HR8'
          refine wpAnyH_ready (rs := [5]) (by kernel_rfl) (by simp) ?_
          refine AllReadyH.cons rfl (fun K hK => ?_) AllReadyH.nil
          rw [if_pos (by rfl)]
          refine appK (.tmp 29) (.tmp 31) rfl W6.heap.size _ l rfl HR8.out _ 0 1 [⟨1 + p, 1 + s, 1 + o, 1 + t⟩] rfl (oneK HF8.out) (by simp; omega) hHeld.size ?_
          rintro v2 W9 hrow9 hg9 -
          have hB9 := hHeld.trans (HR8.out.belRow hg9 hHeld.size)
          have HR9 := Lib.hid hrow9
          clear hrow9 hg9 HR8 HF8
          refine hK.out _ _ hB9 (fun hHeld => ?_)
          clear hK K hB9
          simp [Act.put]
          refine wpAnyH_ready (rs := [6]) (by kernel_rfl) (by simp) ?_
          refine AllReadyH.cons rfl (fun K hK => ?_) AllReadyH.nil
          go_simp
          refine (sNetOk_any _ _ _ HR9.out.lks (by simp; omega)).mono ?_
          rintro e w10 ⟨rfl, b10⟩
          go_simp
          have hB10 := hHeld.trans (b10.mono hHeld.size)
          clear b10 HR9
          refine hK.out _ _ hB10 (fun hHeld => ?_)
          clear hK K hB10
          refine wpAnyH_done (by kernel_rfl) ?_ _
          have HRow7 := Lib.hid (HL.out _ hHeld)
          have HF7 := Lib.hid (HC.out _ hHeld)
          have HRd7 := Lib.hid (HRd6.out.below hHeld (by omega))
          have G7 := Lib.hid (gBelow G6.out hHeld (by omega))
          have hsz7 := hHeld.size
          clear hHeld HL HC HRd6 G6 HRow6
          cases netB (l ++ [⟨1 + p, 1 + s, 1 + o, 1 + t⟩])
          · go_wp2
            go_roundw
            case rel => exact ⟨k - 1, l, C + 4, b0, cap, by omega, by omega, by go_num, rfl, HRow7.out, by omega, by omega, HRd7.out, G7.out⟩
            case measure => simp [intOf]; omega
          · obtain ⟨f0, f1, f2, f3⟩ := HF7.out
            simp at f0 f1 f2 f3
            go_wp2_with (at_builtin; refine app_links rfl _ _ rfl w.heap.size _ l rfl (HRow7.out.below (below_alloc1 _ _)) _ 0 1 [⟨1 + p, 1 + s, 1 + o, 1 + t⟩] rfl (oneK (newFourK _ ⟨1 + p, 1 + s, 1 + o, 1 + t⟩)) (by simp; omega) (by simp; omega) ?_; rintro v' w11 hrow11 hg11 -; have HR11 := Lib.hid hrow11; have HB11 := Lib.hid (((below_alloc1 w10 (.cells #[.int .i64 (1 + p), .int .i64 (1 + s), .int .i64 (1 + o), .int .i64 (1 + t)] 44)).mono (by omega)).trans ((HRow7.out.below (below_alloc1 _ _)).belRow hg11 (by simp; omega))); clear hrow11 hg11)
            go_roundw
            case rel =>
              rcases HR11.out.form with ⟨-, h0⟩ | ⟨b1, cap1, rfl, -⟩
              · simp at h0
              · exact ⟨k - 1, l ++ [⟨1 + p, 1 + s, 1 + o, 1 + t⟩], C + 4, b1, cap1, by omega, by omega, by go_num, rfl, HR11.out, by simp; omega, by omega, (HRd7.out.below HB11.out hlt), gBelow G7.out HB11.out (Nat.le_refl _)⟩
            case measure => simp [intOf]; omega
        · go_simp
          have HF7 := Lib.hid (newFourK W7 ⟨1 + p, 1 + s, 1 + o, 1 + t⟩)
          have HRe' := Lib.hid (HRe.out.below (below_alloc1 W7 (.cells #[.int .i64 (1 + p), .int .i64 (1 + s), .int .i64 (1 + o), .int .i64 (1 + t)] 44)))
          have hlt7 : W7.heap.size < (W7.alloc (.cells #[.int .i64 (1 + p), .int .i64 (1 + s), .int .i64 (1 + o), .int .i64 (1 + t)] 44)).heap.size := by simp
          refine hK.out _ _ (hHeld.trans ((below_alloc1 _ _).mono hHeld.size)) (fun hHeld => ?_)
          clear hK K HRe
          have HRe := Lib.hid HRe'.out
          clear HRe'
          refine wpAnyH_ready (rs := [2]) (by kernel_rfl) (by simp) ?_
          refine AllReadyH.cons rfl (fun K hK => ?_) AllReadyH.nil
          rw [if_pos (by rfl)]
          refine appK (.tmp 27) (.tmp 28) rfl W6.heap.size _ [] rfl HRe.out b0 0 cap l rfl (fun i hi => by rw [Nat.zero_add]; exact ((HL.out _ hHeld).cells rfl).1 i hi) (by simp; omega) hHeld.size ?_
          rintro v1 W8 hrow8 hg8 -
          have hB8 := hHeld.trans (HRe.out.belRow hg8 hHeld.size)
          have HR8 : Hid (LkRow W8 W6.heap.size v1 l) := hrow8
          have HF8 := Lib.hid (HF7.out.grown hg8 hlt7 (show (some V.heap.size : Option Nat) ≠ some W7.heap.size from fun e => by have := Option.some.inj e; omega))
          clear hrow8 hg8 HRe HF7
          refine hK.out _ _ hB8 (fun hHeld => ?_)
          clear hK K hB8
          simp [Act.put]
          refine wpAnyH_ready (rs := [5]) (by kernel_rfl) (by simp) ?_
          refine AllReadyH.cons rfl (fun K hK => ?_) AllReadyH.nil
          rw [if_pos (by rfl)]
          refine appK (.tmp 29) (.tmp 31) rfl W6.heap.size _ l rfl HR8.out _ 0 1 [⟨1 + p, 1 + s, 1 + o, 1 + t⟩] rfl (oneK HF8.out) (by simp; omega) hHeld.size ?_
          rintro v2 W9 hrow9 hg9 -
          have hB9 := hHeld.trans (HR8.out.belRow hg9 hHeld.size)
          have HR9 := Lib.hid hrow9
          clear hrow9 hg9 HR8 HF8
          refine hK.out _ _ hB9 (fun hHeld => ?_)
          clear hK K hB9
          simp [Act.put]
          refine wpAnyH_ready (rs := [6]) (by kernel_rfl) (by simp) ?_
          refine AllReadyH.cons rfl (fun K hK => ?_) AllReadyH.nil
          go_simp
          refine (sNetOk_any _ _ _ HR9.out.lks (by simp; omega)).mono ?_
          rintro e w10 ⟨rfl, b10⟩
          go_simp
          have hB10 := hHeld.trans (b10.mono hHeld.size)
          clear b10 HR9
          refine hK.out _ _ hB10 (fun hHeld => ?_)
          clear hK K hB10
          refine wpAnyH_done (by kernel_rfl) ?_ _
          have HRow7 := Lib.hid (HL.out _ hHeld)
          have HF7 := Lib.hid (HC.out _ hHeld)
          have HRd7 := Lib.hid (HRd6.out.below hHeld (by omega))
          have G7 := Lib.hid (gBelow G6.out hHeld (by omega))
          have hsz7 := hHeld.size
          clear hHeld HL HC HRd6 G6 HRow6
          cases netB (l ++ [⟨1 + p, 1 + s, 1 + o, 1 + t⟩])
          · go_wp2
            go_roundw
            case rel => exact ⟨k - 1, l, C + 4, b0, cap, by omega, by omega, by go_num, rfl, HRow7.out, by omega, by omega, HRd7.out, G7.out⟩
            case measure => simp [intOf]; omega
          · obtain ⟨f0, f1, f2, f3⟩ := HF7.out
            simp at f0 f1 f2 f3
            go_wp2_with (at_builtin; refine app_links rfl _ _ rfl w.heap.size _ l rfl (HRow7.out.below (below_alloc1 _ _)) _ 0 1 [⟨1 + p, 1 + s, 1 + o, 1 + t⟩] rfl (oneK (newFourK _ ⟨1 + p, 1 + s, 1 + o, 1 + t⟩)) (by simp; omega) (by simp; omega) ?_; rintro v' w11 hrow11 hg11 -; have HR11 := Lib.hid hrow11; have HB11 := Lib.hid (((below_alloc1 w10 (.cells #[.int .i64 (1 + p), .int .i64 (1 + s), .int .i64 (1 + o), .int .i64 (1 + t)] 44)).mono (by omega)).trans ((HRow7.out.below (below_alloc1 _ _)).belRow hg11 (by simp; omega))); clear hrow11 hg11)
            go_roundw
            case rel =>
              rcases HR11.out.form with ⟨-, h0⟩ | ⟨b1, cap1, rfl, -⟩
              · simp at h0
              · exact ⟨k - 1, l ++ [⟨1 + p, 1 + s, 1 + o, 1 + t⟩], C + 4, b1, cap1, by omega, by omega, by go_num, rfl, HR11.out, by simp; omega, by omega, (HRd7.out.below HB11.out hlt), gBelow G7.out HB11.out (Nat.le_refl _)⟩
            case measure => simp [intOf]; omega
      · go_simp
        have HF6 := Lib.hid (newFourK V ⟨1 + p, 1 + s, 1 + o, 1 + t⟩)
        have hlt6 : V.heap.size < (V.alloc (.cells #[.int .i64 (1 + p), .int .i64 (1 + s), .int .i64 (1 + o), .int .i64 (1 + t)] 44)).heap.size := by simp
        refine hK.out _ _ (hHeld.trans ((below_alloc1 _ _).mono hHeld.size)) (fun hHeld => ?_)
        clear hK K
        generalize V.alloc (.cells #[.int .i64 (1 + p), .int .i64 (1 + s), .int .i64 (1 + o), .int .i64 (1 + t)] 44) = U at *
        refine wpAnyH_ready (rs := [0]) (by kernel_rfl) (by simp) ?_
        refine AllReadyH.cons rfl (fun K hK => ?_) AllReadyH.nil
        go_simp
        have HRe := Lib.hid (emptyRowK U W6.heap.size hHeld.size)
        have HF7 := Lib.hid (HF6.out.below (below_alloc1 U (.cells #[] 44)) hlt6)
        have hlt7 : V.heap.size < (U.alloc (.cells #[] 44)).heap.size := by simp; omega
        refine hK.out _ _ (hHeld.trans ((below_alloc1 _ _).mono hHeld.size)) (fun hHeld => ?_)
        clear hK K HF6
        refine wpAnyH_ready (rs := [2]) (by kernel_rfl) (by simp) ?_
        refine AllReadyH.cons rfl (fun K hK => ?_) AllReadyH.nil
        rw [if_pos (by rfl)]
        refine appK (.tmp 27) (.tmp 28) rfl W6.heap.size _ [] rfl HRe.out b0 0 cap l rfl (fun i hi => by rw [Nat.zero_add]; exact ((HL.out _ hHeld).cells rfl).1 i hi) (by simp; omega) hHeld.size ?_
        rintro v1 W8 hrow8 hg8 -
        have hB8 := hHeld.trans (HRe.out.belRow hg8 hHeld.size)
        have HR8 : Hid (LkRow W8 W6.heap.size v1 l) := hrow8
        have HF8 := Lib.hid (HF7.out.grown hg8 hlt7 (show (some U.heap.size : Option Nat) ≠ some V.heap.size from fun e => by have := Option.some.inj e; omega))
        clear hrow8 hg8 HRe HF7
        refine hK.out _ _ hB8 (fun hHeld => ?_)
        clear hK K hB8
        simp [Act.put]
        refine wpAnyH_ready (rs := [5]) (by kernel_rfl) (by simp) ?_
        refine AllReadyH.cons rfl (fun K hK => ?_) AllReadyH.nil
        rw [if_pos (by rfl)]
        refine appK (.tmp 29) (.tmp 31) rfl W6.heap.size _ l rfl HR8.out _ 0 1 [⟨1 + p, 1 + s, 1 + o, 1 + t⟩] rfl (oneK HF8.out) (by simp; omega) hHeld.size ?_
        rintro v2 W9 hrow9 hg9 -
        have hB9 := hHeld.trans (HR8.out.belRow hg9 hHeld.size)
        have HR9 := Lib.hid hrow9
        clear hrow9 hg9 HR8 HF8
        refine hK.out _ _ hB9 (fun hHeld => ?_)
        clear hK K hB9
        simp [Act.put]
        refine wpAnyH_ready (rs := [6]) (by kernel_rfl) (by simp) ?_
        refine AllReadyH.cons rfl (fun K hK => ?_) AllReadyH.nil
        go_simp
        refine (sNetOk_any _ _ _ HR9.out.lks (by simp; omega)).mono ?_
        rintro e w10 ⟨rfl, b10⟩
        go_simp
        have hB10 := hHeld.trans (b10.mono hHeld.size)
        clear b10 HR9
        refine hK.out _ _ hB10 (fun hHeld => ?_)
        clear hK K hB10
        refine wpAnyH_done (by kernel_rfl) ?_ _
        have HRow7 := Lib.hid (HL.out _ hHeld)
        have HF7 := Lib.hid (HC.out _ hHeld)
        have HRd7 := Lib.hid (HRd6.out.below hHeld (by omega))
        have G7 := Lib.hid (gBelow G6.out hHeld (by omega))
        have hsz7 := hHeld.size
        clear hHeld HL HC HRd6 G6 HRow6
        cases netB (l ++ [⟨1 + p, 1 + s, 1 + o, 1 + t⟩])
        · go_wp2
          go_roundw
          case rel => exact ⟨k - 1, l, C + 4, b0, cap, by omega, by omega, by go_num, rfl, HRow7.out, by omega, by omega, HRd7.out, G7.out⟩
          case measure => simp [intOf]; omega
        · obtain ⟨f0, f1, f2, f3⟩ := HF7.out
          simp at f0 f1 f2 f3
          go_wp2_with (at_builtin; refine app_links rfl _ _ rfl w.heap.size _ l rfl (HRow7.out.below (below_alloc1 _ _)) _ 0 1 [⟨1 + p, 1 + s, 1 + o, 1 + t⟩] rfl (oneK (newFourK _ ⟨1 + p, 1 + s, 1 + o, 1 + t⟩)) (by simp; omega) (by simp; omega) ?_; rintro v' w11 hrow11 hg11 -; have HR11 := Lib.hid hrow11; have HB11 := Lib.hid (((below_alloc1 w10 (.cells #[.int .i64 (1 + p), .int .i64 (1 + s), .int .i64 (1 + o), .int .i64 (1 + t)] 44)).mono (by omega)).trans ((HRow7.out.below (below_alloc1 _ _)).belRow hg11 (by simp; omega))); clear hrow11 hg11)
          go_roundw
          case rel =>
            rcases HR11.out.form with ⟨-, h0⟩ | ⟨b1, cap1, rfl, -⟩
            · simp at h0
            · exact ⟨k - 1, l ++ [⟨1 + p, 1 + s, 1 + o, 1 + t⟩], C + 4, b1, cap1, by omega, by omega, by go_num, rfl, HR11.out, by simp; omega, by omega, (HRd7.out.below HB11.out hlt), gBelow G7.out HB11.out (Nat.le_refl _)⟩
          case measure => simp [intOf]; omega
    · obtain rfl : k = 0 := by omega
      go_wp2_with fail
      refine (pick_any _ _ _ _ HRd.out (by omega) (by omega)).mono ?_
      rintro e w2 ⟨n2, a2, c2, rfl, hr2, g2⟩
      have HRow2 := Lib.hid (HRow.out.grow g2 hlt)
      have s2 := g2.size
      have G2 := Lib.hid (gTrans HG.out g2)
      have HRd2 := Lib.hid hr2
      have hl8 : l.length ≤ 8 := by omega
      have HG2 : Hid (w.heap.size ≤ wr.heap.size) := HG.out.size
      clear hr2 g2 HRow HG HRd HR1 HT1 G1 hk0 hk7
      by_cases h0 : n2 = 0
      · subst h0
        go_wp2_with fail
        have HRow3 : Hid (LkRow (w2.alloc (.cells #[.int .i64 1, .int .i64 1, .int .i64 2, .int .i64 1, .int .i64 2, .int .i64 2, .int .i64 3, .int .i64 1, .int .i64 3, .int .i64 2, .int .i64 4, .int .i64 1, .int .i64 4, .int .i64 2, .int .i64 1, .int .i64 2] 44)) w.heap.size (.slice (some ⟨w2.heap.size, 0, none⟩) 4 4) [⟨1, 1, 2, 1⟩, ⟨2, 2, 3, 1⟩, ⟨3, 2, 4, 1⟩, ⟨4, 2, 1, 2⟩]) :=
          ⟨rfl, .inr ⟨w2.heap.size, 4, _, rfl, Nat.le_trans HG2.out s2, newBlock w2 _, Nat.le_refl _, by unfold maxLen; omega, rfl, rfl⟩⟩
        have hl3 : ([⟨1, 1, 2, 1⟩, ⟨2, 2, 3, 1⟩, ⟨3, 2, 4, 1⟩, ⟨4, 2, 1, 2⟩] : List K4).length ≤ 8 := by simp
        have G3 := Lib.hid (gAlloc G2.out (.cells #[.int .i64 1, .int .i64 1, .int .i64 2, .int .i64 1, .int .i64 2, .int .i64 2, .int .i64 3, .int .i64 1, .int .i64 3, .int .i64 2, .int .i64 4, .int .i64 1, .int .i64 4, .int .i64 2, .int .i64 1, .int .i64 2] 44))
        have HRd3 := Lib.hid (HRd2.out.alloc (.cells #[.int .i64 1, .int .i64 1, .int .i64 2, .int .i64 1, .int .i64 2, .int .i64 2, .int .i64 3, .int .i64 1, .int .i64 3, .int .i64 2, .int .i64 4, .int .i64 1, .int .i64 4, .int .i64 2, .int .i64 1, .int .i64 2] 44))
        have s3 : w2.heap.size < (w2.alloc (.cells #[.int .i64 1, .int .i64 1, .int .i64 2, .int .i64 1, .int .i64 2, .int .i64 2, .int .i64 3, .int .i64 1, .int .i64 3, .int .i64 2, .int .i64 4, .int .i64 1, .int .i64 4, .int .i64 2, .int .i64 1, .int .i64 2] 44)).heap.size := by simp
        generalize w2.alloc (.cells #[.int .i64 1, .int .i64 1, .int .i64 2, .int .i64 1, .int .i64 2, .int .i64 2, .int .i64 3, .int .i64 1, .int .i64 3, .int .i64 2, .int .i64 4, .int .i64 1, .int .i64 4, .int .i64 2, .int .i64 1, .int .i64 2] 44) = w3 at *
        generalize ([⟨1, 1, 2, 1⟩, ⟨2, 2, 3, 1⟩, ⟨3, 2, 4, 1⟩, ⟨4, 2, 1, 2⟩] : List K4) = l3 at *
        refine (pick_any _ _ _ _ HRd3.out (by omega) (by omega)).mono ?_
        rintro e w4 ⟨n4, a4, c4, rfl, hr4, g4⟩
        have HRow4 := Lib.hid (HRow3.out.grow g4 hlt)
        have G4 := Lib.hid (gTrans G3.out g4)
        have HRd4 := Lib.hid hr4
        have s4 := g4.size
        clear hr4 g4 HRow3 G3 HRd3
        by_cases h40 : n4 = 0
        · subst h40
          go_wp2_with fail
          refine (pick_any _ _ _ _ HRd4.out (by omega) (by omega)).mono ?_
          rintro e w5 ⟨n5, a5, c5, rfl, hr5, g5⟩
          have HRd5 := Lib.hid hr5
          clear hr5
          go_wp2_with fail
          refine (pick_any _ _ _ _ HRd5.out (by omega) (by omega)).mono ?_
          rintro e w6 ⟨n6, a6, c6, rfl, hr6, g6⟩
          have HRow6 := Lib.hid (HRow4.out.grow (gTrans g5 g6) hlt)
          have G6 := Lib.hid (gTrans G4.out (gTrans g5 g6))
          have HRd6 := Lib.hid hr6
          have s6 : w4.heap.size ≤ w6.heap.size := Nat.le_trans g5.size g6.size
          clear hr6 g5 g6 HRow4 G4 HRd4 HRd5
          go_wp2_with (at_builtin; refine app_links rfl _ _ rfl w.heap.size _ l3 rfl (HRow6.out.below (below_alloc1 _ _)) _ 0 1 [⟨n5, 1, 2, n6⟩] rfl (oneK (newFourK _ ⟨n5, 1, 2, n6⟩)) (by simp; omega) (by simp; omega) ?_; rintro v' w7 hrow7 hg7 -; have HR7 := Lib.hid hrow7; have HB7 := Lib.hid (((below_alloc1 w6 (.cells #[.int .i64 n5, .int .i64 1, .int .i64 2, .int .i64 n6] 44)).mono (by omega)).trans ((HRow6.out.below (below_alloc1 _ _)).belRow hg7 (by simp; omega))); clear hrow7 hg7)
          go_ret
          exact ⟨_, _, rfl, HR7.out, by simp; omega, (HRd6.out.below HB7.out hlt).le (by omega), gBelow G6.out HB7.out (Nat.le_refl _)⟩
        · go_wp2
          go_ret
          exact ⟨_, l3, rfl, HRow4.out, by omega, HRd4.out.le (by omega), G4.out⟩
      by_cases h1 : n2 = 1
      · subst h1
        go_wp2_with fail
        have HRow3 : Hid (LkRow (w2.alloc (.cells #[.int .i64 1, .int .i64 1, .int .i64 2, .int .i64 1, .int .i64 1, .int .i64 2, .int .i64 3, .int .i64 1, .int .i64 1, .int .i64 3, .int .i64 4, .int .i64 1, .int .i64 2, .int .i64 2, .int .i64 3, .int .i64 2, .int .i64 3, .int .i64 3, .int .i64 4, .int .i64 2] 44)) w.heap.size (.slice (some ⟨w2.heap.size, 0, none⟩) 5 5) [⟨1, 1, 2, 1⟩, ⟨1, 2, 3, 1⟩, ⟨1, 3, 4, 1⟩, ⟨2, 2, 3, 2⟩, ⟨3, 3, 4, 2⟩]) :=
          ⟨rfl, .inr ⟨w2.heap.size, 5, _, rfl, Nat.le_trans HG2.out s2, newBlock w2 _, Nat.le_refl _, by unfold maxLen; omega, rfl, rfl⟩⟩
        have hl3 : ([⟨1, 1, 2, 1⟩, ⟨1, 2, 3, 1⟩, ⟨1, 3, 4, 1⟩, ⟨2, 2, 3, 2⟩, ⟨3, 3, 4, 2⟩] : List K4).length ≤ 8 := by simp
        have G3 := Lib.hid (gAlloc G2.out (.cells #[.int .i64 1, .int .i64 1, .int .i64 2, .int .i64 1, .int .i64 1, .int .i64 2, .int .i64 3, .int .i64 1, .int .i64 1, .int .i64 3, .int .i64 4, .int .i64 1, .int .i64 2, .int .i64 2, .int .i64 3, .int .i64 2, .int .i64 3, .int .i64 3, .int .i64 4, .int .i64 2] 44))
        have HRd3 := Lib.hid (HRd2.out.alloc (.cells #[.int .i64 1, .int .i64 1, .int .i64 2, .int .i64 1, .int .i64 1, .int .i64 2, .int .i64 3, .int .i64 1, .int .i64 1, .int .i64 3, .int .i64 4, .int .i64 1, .int .i64 2, .int .i64 2, .int .i64 3, .int .i64 2, .int .i64 3, .int .i64 3, .int .i64 4, .int .i64 2] 44))
        have s3 : w2.heap.size < (w2.alloc (.cells #[.int .i64 1, .int .i64 1, .int .i64 2, .int .i64 1, .int .i64 1, .int .i64 2, .int .i64 3, .int .i64 1, .int .i64 1, .int .i64 3, .int .i64 4, .int .i64 1, .int .i64 2, .int .i64 2, .int .i64 3, .int .i64 2, .int .i64 3, .int .i64 3, .int .i64 4, .int .i64 2] 44)).heap.size := by simp
        generalize w2.alloc (.cells #[.int .i64 1, .int .i64 1, .int .i64 2, .int .i64 1, .int .i64 1, .int .i64 2, .int .i64 3, .int .i64 1, .int .i64 1, .int .i64 3, .int .i64 4, .int .i64 1, .int .i64 2, .int .i64 2, .int .i64 3, .int .i64 2, .int .i64 3, .int .i64 3, .int .i64 4, .int .i64 2] 44) = w3 at *
        generalize ([⟨1, 1, 2, 1⟩, ⟨1, 2, 3, 1⟩, ⟨1, 3, 4, 1⟩, ⟨2, 2, 3, 2⟩, ⟨3, 3, 4, 2⟩] : List K4) = l3 at *
        refine (pick_any _ _ _ _ HRd3.out (by omega) (by omega)).mono ?_
        rintro e w4 ⟨n4, a4, c4, rfl, hr4, g4⟩
        have HRow4 := Lib.hid (HRow3.out.grow g4 hlt)
        have G4 := Lib.hid (gTrans G3.out g4)
        have HRd4 := Lib.hid hr4
        have s4 := g4.size
        clear hr4 g4 HRow3 G3 HRd3
        by_cases h40 : n4 = 0
        · subst h40
          go_wp2_with fail
          refine (pick_any _ _ _ _ HRd4.out (by omega) (by omega)).mono ?_
          rintro e w5 ⟨n5, a5, c5, rfl, hr5, g5⟩
          have HRd5 := Lib.hid hr5
          clear hr5
          go_wp2_with fail
          refine (pick_any _ _ _ _ HRd5.out (by omega) (by omega)).mono ?_
          rintro e w6 ⟨n6, a6, c6, rfl, hr6, g6⟩
          have HRow6 := Lib.hid (HRow4.out.grow (gTrans g5 g6) hlt)
          have G6 := Lib.hid (gTrans G4.out (gTrans g5 g6))
          have HRd6 := Lib.hid hr6
          have s6 : w4.heap.size ≤ w6.heap.size := Nat.le_trans g5.size g6.size
          clear hr6 g5 g6 HRow4 G4 HRd4 HRd5
          go_wp2_with (at_builtin; refine app_links rfl _ _ rfl w.heap.size _ l3 rfl (HRow6.out.below (below_alloc1 _ _)) _ 0 1 [⟨n5, 1, 2, n6⟩] rfl (oneK (newFourK _ ⟨n5, 1, 2, n6⟩)) (by simp; omega) (by simp; omega) ?_; rintro v' w7 hrow7 hg7 -; have HR7 := Lib.hid hrow7; have HB7 := Lib.hid (((below_alloc1 w6 (.cells #[.int .i64 n5, .int .i64 1, .int .i64 2, .int .i64 n6] 44)).mono (by omega)).trans ((HRow6.out.below (below_alloc1 _ _)).belRow hg7 (by simp; omega))); clear hrow7 hg7)
          go_ret
          exact ⟨_, _, rfl, HR7.out, by simp; omega, (HRd6.out.below HB7.out hlt).le (by omega), gBelow G6.out HB7.out (Nat.le_refl _)⟩
        · go_wp2
          go_ret
          exact ⟨_, l3, rfl, HRow4.out, by omega, HRd4.out.le (by omega), G4.out⟩
      have HRow3 := Lib.hid HRow2.out
      have G3 := Lib.hid G2.out
      have HRd3 := Lib.hid HRd2.out
      clear HRow2 G2 HRd2
      go_wp2_with fail
      refine (pick_any _ _ _ _ HRd3.out (by omega) (by omega)).mono ?_
      rintro e w4 ⟨n4, a4, c4, rfl, hr4, g4⟩
      have HRow4 := Lib.hid (HRow3.out.grow g4 hlt)
      have G4 := Lib.hid (gTrans G3.out g4)
      have HRd4 := Lib.hid hr4
      have s4 := g4.size
      clear hr4 g4 HRow3 G3 HRd3
      by_cases h40 : n4 = 0
      · subst h40
        go_wp2_with fail
        refine (pick_any _ _ _ _ HRd4.out (by omega) (by omega)).mono ?_
        rintro e w5 ⟨n5, a5, c5, rfl, hr5, g5⟩
        have HRd5 := Lib.hid hr5
        clear hr5
        go_wp2_with fail
        refine (pick_any _ _ _ _ HRd5.out (by omega) (by omega)).mono ?_
        rintro e w6 ⟨n6, a6, c6, rfl, hr6, g6⟩
        have HRow6 := Lib.hid (HRow4.out.grow (gTrans g5 g6) hlt)
        have G6 := Lib.hid (gTrans G4.out (gTrans g5 g6))
        have HRd6 := Lib.hid hr6
        have s6 : w4.heap.size ≤ w6.heap.size := Nat.le_trans g5.size g6.size
        clear hr6 g5 g6 HRow4 G4 HRd4 HRd5
        go_wp2_with (at_builtin; refine app_links rfl _ _ rfl w.heap.size _ l rfl (HRow6.out.below (below_alloc1 _ _)) _ 0 1 [⟨n5, 1, 2, n6⟩] rfl (oneK (newFourK _ ⟨n5, 1, 2, n6⟩)) (by simp; omega) (by simp; omega) ?_; rintro v' w7 hrow7 hg7 -; have HR7 := Lib.hid hrow7; have HB7 := Lib.hid (((below_alloc1 w6 (.cells #[.int .i64 n5, .int .i64 1, .int .i64 2, .int .i64 n6] 44)).mono (by omega)).trans ((HRow6.out.below (below_alloc1 _ _)).belRow hg7 (by simp; omega))); clear hrow7 hg7)
        go_ret
        exact ⟨_, _, rfl, HR7.out, by simp; omega, (HRd6.out.below HB7.out hlt).le (by omega), gBelow G6.out HB7.out (Nat.le_refl _)⟩
      · go_wp2
        go_ret
        exact ⟨_, l, rfl, HRow4.out, by omega, HRd4.out.le (by omega), G4.out⟩

end Go.Proofs.Ytbjndcfdcjpkmaa
