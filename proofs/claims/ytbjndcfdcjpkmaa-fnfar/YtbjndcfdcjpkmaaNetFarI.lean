/-
  Nets: how far switches are, the program's search.
-/
import Derived.Test.YtbjndcfdcjpkmaaNetQue
import Derived.Test.YtbjndcfdcjpkmaaNetPortI
namespace Go.Proofs.Ytbjndcfdcjpkmaa
open Go.ChangeShapes Go.WideShapes Go.ChangeAt Go.RowKit Go.Joins
set_option linter.unusedVariables false

def lenOf : Value → Nat
  | .slice _ n _ => n
  | _ => 0
open Classical in
/-- How many numbers of a block are -1. -/
noncomputable def neg1 (w : World) (g v : Nat) : Nat := if w.cell? ⟨g, v, none⟩ = some (.int .i64 (-1)) then 1 else 0
noncomputable def negs (w : World) (g : Nat) : Nat := neg1 w g 1 + (neg1 w g 2 + (neg1 w g 3 + neg1 w g 4))
theorem neg1_fb {t : TypeId} {w : World} {g v : Nat} {D : Nat → Int} (h : Fb t w g D) (hv : v < 5) : neg1 w g v = one1 (D v) := by
  unfold neg1 one1
  rw [h.cell hv]
  by_cases e : D v = -1
  · simp [e]
  · simp [e]
theorem negs_fb {t : TypeId} {w : World} {g : Nat} {D : Nat → Int} (h : Fb t w g D) : negs w g = cnt D := by
  unfold negs cnt
  rw [neg1_fb h (by omega), neg1_fb h (by omega), neg1_fb h (by omega), neg1_fb h (by omega)]

/-- The neighbours at the first j ports of a switch. -/
def nbs (P : Pv) (s j : Nat) : List Nat := (List.range j).map (fun k => (eX P s k).toNat)
theorem nbs_snoc (P : Pv) (s j : Nat) : nbs P s (j + 1) = nbs P s j ++ [(eX P s j).toNat] := by simp [nbs, List.range_succ]
theorem nbs_adj {l : List K4} (h : netB l = true) {s : Nat} (s1 : 1 ≤ s) (s4 : s ≤ 4) : ∀ v, 1 ≤ v → v ≤ 4 → Adj l s v → v ∈ nbs (pk l) s 4 := by
  rintro v v1 v4 ⟨k, hk, hx⟩
  have hm := net_mem h hk
  obtain ⟨-, -, -, ⟨a1, a3⟩, ⟨b1, b3⟩⟩ := lkOk_parts (net_ok h k hk)
  have key : ∀ t : Int, 1 ≤ t → t ≤ 3 → (peerF l s t).1 = v → v ∈ nbs (pk l) s 4 := fun t t1 t3 he => by
    refine List.mem_map.2 ⟨t.toNat, List.mem_range.2 (by omega), ?_⟩
    have e := eXY h s t.toNat (by omega)
    rw [Int.toNat_of_nonneg (by omega)] at e
    have e1 : eX (pk l) s t.toNat = (peerF l s t).1 := by rw [← e]
    rw [e1, he]
    simp
  rcases hx with ⟨x, y⟩ | ⟨x, y⟩
  · refine key k.s a1 a3 ?_
    rw [← x, hm.1, y]
  · refine key k.t b1 b3 ?_
    rw [← y, hm.2, x]
theorem nb_adj {l : List K4} (h : netB l = true) {s j : Nat} (hj : j < 4) (hx : eX (pk l) s j ≠ 0) : ∃ x : Nat, eX (pk l) s j = (x : Int) ∧ 1 ≤ x ∧ x ≤ 4 ∧ Adj l s x := by
  have e := eXY h s j hj
  have e1 : eX (pk l) s j = (peerF l s j).1 := by rw [← e]
  rcases peerF_cases l (s : Int) (j : Int) with h0 | ⟨k, hk, ⟨hp, ht, hv⟩ | ⟨hp, ht, hv⟩⟩
  · rw [e1, h0] at hx
    exact absurd rfl hx
  · obtain ⟨-, ⟨o1, o4⟩, -⟩ := lkOk_parts (net_ok h k hk)
    refine ⟨k.o.toNat, by rw [e1, hv]; dsimp only; omega, by omega, by omega, k, hk, .inl ⟨hp, by omega⟩⟩
  · obtain ⟨⟨o1, o4⟩, -, -⟩ := lkOk_parts (net_ok h k hk)
    refine ⟨k.p.toNat, by rw [e1, hv]; dsimp only; omega, by omega, by omega, k, hk, .inr ⟨by omega, hp⟩⟩

theorem faA_congr {D E : Nat → Int} (h : ∀ v, v < 5 → D v = E v) : faA D = faA E := by
  unfold faA
  rw [h 0 (by omega), h 1 (by omega), h 2 (by omega), h 3 (by omega), h 4 (by omega)]
theorem Fb.five {t : TypeId} {w : World} {g : Nat} {D : Nat → Int} (h : Fb t w g D) :
    w.cell? ⟨g, 0, none⟩ = some (.int .i64 (D 0)) ∧ w.cell? ⟨g, 1, none⟩ = some (.int .i64 (D 1)) ∧ w.cell? ⟨g, 2, none⟩ = some (.int .i64 (D 2)) ∧ w.cell? ⟨g, 3, none⟩ = some (.int .i64 (D 3)) ∧ w.cell? ⟨g, 4, none⟩ = some (.int .i64 (D 4)) :=
  ⟨h.cell (by omega), h.cell (by omega), h.cell (by omega), h.cell (by omega), h.cell (by omega)⟩
theorem Que.slice_one {w : World} {lo b off cap sw : Nat} {q : List Nat} (h : Que w lo b off cap (sw :: q)) : ∃ off2 cap2, Que w lo b off2 cap2 q ∧ ∀ W : World, (Instr.slice 38 (.slice (some ⟨b, off, none⟩) (q.length + 1) cap) (some (.int .i64 1)) none none).run Try.prog W = .ok (.slice (some ⟨b, off2, none⟩) q.length cap2) W := by
  have hf := h.fits
  simp at hf
  by_cases hcap : cap = 1
  · obtain ⟨hq, hv⟩ := h.void hcap
    subst hq
    refine ⟨off, 0, hv, fun W => ?_⟩
    subst hcap
    simp [go_sem]
  · rcases h.tail with ht | hx
    · refine ⟨off + 1, cap - 1, ht, fun W => ?_⟩
      have : (1 : Int) ≤ (cap : Int) := by omega
      simp [go_sem, hcap]
      intro hh
      omega
    · exact hx.elim

/-- What the search keeps: the peers, the numbers, the result's block. -/
structure Srch (l : List K4) (w0 : World) (g : Nat) (D : Nat → Int) (w : World) : Prop where
  peers : Pb w g (pk l)
  fars : Fb 65 w (w0.heap.size + 1) D
  out : ∃ E, Fb 65 w w0.heap.size E
  bel : Below w0.heap.size w0 w
  size : w0.heap.size + 1 < w.heap.size
theorem Srch.below {l : List K4} {w0 w w' : World} {g : Nat} {D : Nat → Int} (h : Srch l w0 g D w) (hb : Below w.heap.size w w') : Srch l w0 g D w' :=
  ⟨h.peers.below hb h.peers.lt, h.fars.below hb h.fars.lt, h.out.elim (fun E hE => ⟨E, hE.below hb hE.lt⟩), belStep h.bel hb, Nat.lt_of_lt_of_le h.size hb.size⟩
theorem Srch.safe {l : List K4} {w0 w w' : World} {g : Nat} {D : Nat → Int} (h : Srch l w0 g D w) (hs : SafeW w0.heap.size w w') : Srch l w0 g D w' :=
  ⟨hs.block _ _ _ (by decide) h.peers, hs.block _ _ _ (by decide) h.fars, h.out.elim (fun E hE => ⟨E, hs.block _ _ _ (by decide) hE⟩), h.bel.trans hs.bel, Nat.lt_of_lt_of_le h.size hs.size⟩
theorem Srch.put {l : List K4} {w0 w : World} {g i : Nat} {D : Nat → Int} (h : Srch l w0 g D w) (hg : g < w0.heap.size) (x : Int) (hi : i < 5) : Srch l w0 g (upd D i x) (w.setCell ⟨w0.heap.size + 1, i, none⟩ (.int .i64 x)) :=
  ⟨(Below.heap_setCell _ _ _ _ (by dsimp only; omega)).trans h.peers, h.fars.put x hi, h.out.elim (fun E hE => ⟨E, (Below.heap_setCell _ _ _ _ (by dsimp only; omega)).trans hE⟩), h.bel.setCell (by dsimp only; omega) _, by simp [World.setCell]; exact h.size⟩
theorem Que.set {w : World} {lo b off cap i g : Nat} {q : List Nat} {u : Value} (h : Que w lo b off cap q) {cs : Array Value} (hg : w.heap[g]? = some (.cells cs 65)) : Que (w.setCell ⟨g, i, none⟩ u) lo b off cap q := by
  have hne : g ≠ b := by
    intro e
    subst e
    obtain ⟨cs', hc, -⟩ := h.cells
    rw [hg] at hc
    injection hc with hc
    injection hc with _ hc
    cases hc
  exact h.other hne (fun k hk => Below.heap_setCell _ _ _ _ (by dsimp only; omega))

set_option maxRecDepth 100000 in
set_option maxHeartbeats 8000000 in
theorem fars_any (l : List K4) (hn : netB l = true) (g c : Nat) (w : World) (h : Pb w g (pk l)) (c1 : 1 ≤ c) (c4 : c ≤ 4) :
    Calls Try.prog 42 #[.pointer (some ⟨g, 0, none⟩), .int .i64 (c : Int)] w fun e w' => ∃ D, e = .returned (.agg (faA D)) ∧ IsDist l c D ∧ Below w.heap.size w w' := by
  have HN := Lib.hid hn
  have hg := h.lt
  have hS0 : Srch l w g (fun _ => 0) ((w.alloc (.cells #[.int .i64 0, .int .i64 0, .int .i64 0, .int .i64 0, .int .i64 0] 65)).alloc (.cells #[.int .i64 0, .int .i64 0, .int .i64 0, .int .i64 0, .int .i64 0] 65)) := by
    have k2 := heap_alloc_last (w.alloc (.cells #[.int .i64 0, .int .i64 0, .int .i64 0, .int .i64 0, .int .i64 0] 65)) (.cells #[.int .i64 0, .int .i64 0, .int .i64 0, .int .i64 0, .int .i64 0] 65)
    rw [World.size_alloc] at k2
    have k1 := heap_alloc_last w (.cells #[.int .i64 0, .int .i64 0, .int .i64 0, .int .i64 0, .int .i64 0] 65)
    exact ⟨h.below (below_alloc2 _ _ _) hg, k2, ⟨fun _ => 0, (Below.heap_alloc _ _ _ (by simp)).trans k1⟩, below_alloc2 _ _ _, by simp⟩
  have HS0 := Lib.hid hS0
  clear hn h hS0
  go_enter Try.func42, Try.ntmps42
  go_wp2_with fail
  generalize ((w.alloc (.cells #[.int .i64 0, .int .i64 0, .int .i64 0, .int .i64 0, .int .i64 0] 65)).alloc (.cells #[.int .i64 0, .int .i64 0, .int .i64 0, .int .i64 0, .int .i64 0] 65)) = W0 at *
  go_loopw [11] (fun i wr => ∃ (k : Nat) (D : Nat → Int), k ≤ 5 ∧ i = .int .i64 k ∧ Srch l w g D wr ∧ (∀ v, v < k → D v = -1)) (fun i _ => 5 - (intOf i).toNat)
  case atStart => exact ⟨0, _, by omega, rfl, HS0.out, fun v hv => absurd hv (Nat.not_lt_zero _)⟩
  case round =>
    obtain ⟨k, D, hk5, rfl, hs, hneg⟩ := hrel
    have HS := Lib.hid hs
    have HNEG := Lib.hid hneg
    clear hs hneg
    by_cases hlt : k < 5
    · have hkz : (k : Int) < 5 := by omega
      have jk : (0 : Int) ≤ (k : Int) := by omega
      have d0 := HS.out.fars.cell (i := k) hlt
      have df := HS.out.fars.frozen
      have HP := Lib.hid (HS.out.put hg (-1) hlt)
      have HM : Hid (∀ v, v < k + 1 → upd D k (-1) v = -1) := fun v hv => by
        by_cases e : v = k
        · simp [upd, e]
        · simp [upd, e]; exact HNEG.out v (by omega)
      go_wp2
      go_roundw
      case rel => exact ⟨k + 1, _, by omega, by go_num, HP.out, HM.out⟩
      case measure => simp [intOf]; omega
    · have hkk : k = 5 := by omega
      have hkz : ¬ ((k : Int) < 5) := by omega
      have ic : (c : Int) < 5 := by omega
      have jc : (0 : Int) ≤ (c : Int) := by omega
      have d0 := HS.out.fars.cell (i := c) (by omega)
      have df := HS.out.fars.frozen
      have hD : faA (upd D c 0) = faA (dist0 c) := faA_congr (fun v hv => by
        by_cases e : v = c
        · simp [upd, dist0, e]
        · simp [upd, dist0, e]; exact HNEG.out v (by omega))
      have hp := HS.out.put (i := c) hg 0 (by omega)
      have HP : Hid (Srch l w g (dist0 c) (wr.setCell ⟨w.heap.size + 1, c, none⟩ (.int .i64 0))) := ⟨hp.peers, by have := hp.fars; unfold Fb at this ⊢; rw [← hD]; exact this, hp.out, hp.bel, hp.size⟩
      have HPQ : Hid (∀ W, Srch l w g (dist0 c) W → Srch l w g (dist0 c) (W.alloc (.cells #[.int .i64 (c : Int)] 3)) ∧ Que (W.alloc (.cells #[.int .i64 (c : Int)] 3)) w.heap.size W.heap.size 0 1 [c]) := fun W hW =>
        ⟨hW.below (below_alloc1 _ _), by have := hW.bel.size; omega, ⟨_, heap_alloc_last W _, by simp, fun i hi => by
          obtain rfl : i = 0 := by simpa using hi
          rfl⟩, Nat.le_refl _⟩
      clear hp hD
      go_wp2_with fail
      clear d0 df
      have HQ0 := HPQ.out _ HP.out
      have hsz : (wr.setCell ⟨w.heap.size + 1, c, none⟩ (.int .i64 0)).heap.size = wr.heap.size := by simp [World.setCell]
      rw [hsz] at HQ0
      have HQ1 := Lib.hid HQ0
      clear HQ0 hsz HPQ HP HS HNEG HS0 ic jc
      generalize ((wr.setCell ⟨w.heap.size + 1, c, none⟩ (.int .i64 0)).alloc (.cells #[.int .i64 (c : Int)] 3)) = W1 at *
      go_loopw [7] (fun q wr => ∃ (D : Nat → Int) (Q : List Nat) (b off cap : Nat), q = .slice (some ⟨b, off, none⟩) Q.length cap ∧ Que wr w.heap.size b off cap Q ∧ Srch l w g D wr ∧ Wait l c D Q ∧ 2 * cnt D + Q.length ≤ 9) (fun q wr => 2 * negs wr (w.heap.size + 1) + lenOf q)
      case atStart => exact ⟨dist0 c, [c], _, 0, 1, rfl, HQ1.out.2, HQ1.out.1, wait_start l c1 c4, by have := cnt_le (dist0 c); simp; omega⟩
      case round =>
        obtain ⟨D, Q, b, off, cap, rfl, hq, hs, hw, h9⟩ := hrel
        clear HQ1
        cases Q with
        | nil =>
          have HD := Lib.hid hw.dist
          obtain ⟨E, hE⟩ := hs.out
          obtain ⟨f0, f1, f2, f3, f4⟩ := hs.fars.five
          obtain ⟨e0, e1, e2, e3, e4⟩ := hE.five
          have ef := hE.frozen
          have HB := Lib.hid hs.bel
          have HF : Hid (faA D = #[.int .i64 (D 0), .int .i64 (D 1), .int .i64 (D 2), .int .i64 (D 3), .int .i64 (D 4)]) := rfl
          clear hw hq hE
          generalize D 0 = x0 at *
          generalize D 1 = x1 at *
          generalize D 2 = x2 at *
          generalize D 3 = x3 at *
          generalize D 4 = x4 at *
          go_wp2
          refine bodyPost_ret (v := .agg #[.int .i64 x0, .int .i64 x1, .int .i64 x2, .int .i64 x3, .int .i64 x4]) (by simp [results, Try.results42, go_sem, e0, e1, e2, e3, e4]) rfl ⟨D, by rw [HF.out], HD.out, ?_⟩
          exact ((((HB.out.setCell (by exact Nat.le_refl _) _).setCell (by exact Nat.le_refl _) _).setCell (by exact Nat.le_refl _) _).setCell (by exact Nat.le_refl _) _).setCell (by exact Nat.le_refl _) _
        | cons sw Q' =>
          obtain ⟨s1, s4, hsw⟩ := hw.inq sw (by simp)
          have hc0 : wr.cell? ⟨b, off, none⟩ = some (.int .i64 (sw : Int)) := hq.cell (i := 0) (by simp)
          obtain ⟨off2, cap2, hq2, hsl⟩ := hq.slice_one
          have HQ2 := Lib.hid hq2
          have HW2 := Lib.hid hw.take
          have HS2 := Lib.hid hs
          have h9' : 2 * cnt D + Q'.length + 1 ≤ 9 := by simp at h9; omega
          have H9 : Hid (2 * cnt D + Q'.length + 1 ≤ 9) := h9'
          have hneg := negs_fb hs.fars
          have HNEG : Hid (negs wr (w.heap.size + 1) = cnt D) := hneg
          rw [List.length_cons]
          have hlz : (0 : Int) < (Q'.length : Int) + 1 := by omega
          obtain ⟨p0, p1, p2, p3, p4, p5, p6, p7⟩ := hs.peers.eight s4
          have e0 : pk l (sw * 8) = eX (pk l) sw 0 := rfl
          have e1 : pk l (sw * 8 + 1) = eY (pk l) sw 0 := rfl
          have e2 : pk l (sw * 8 + 2) = eX (pk l) sw 1 := rfl
          have e3 : pk l (sw * 8 + 3) = eY (pk l) sw 1 := rfl
          have e4 : pk l (sw * 8 + 4) = eX (pk l) sw 2 := rfl
          have e5 : pk l (sw * 8 + 5) = eY (pk l) sw 2 := rfl
          have e6 : pk l (sw * 8 + 6) = eX (pk l) sw 3 := rfl
          have e7 : pk l (sw * 8 + 7) = eY (pk l) sw 3 := rfl
          rw [e0] at p0
          rw [e1] at p1
          rw [e2] at p2
          rw [e3] at p3
          rw [e4] at p4
          rw [e5] at p5
          rw [e6] at p6
          rw [e7] at p7
          have HXY := Lib.hid (eX_zero HN.out sw)
          have HNB : Hid (∀ j, j < 4 → eX (pk l) sw j ≠ 0 → ∃ x : Nat, eX (pk l) sw j = (x : Int) ∧ 1 ≤ x ∧ x ≤ 4 ∧ Adj l sw x) := fun j hj hx => nb_adj HN.out hj hx
          have HSN := Lib.hid (nbs_snoc (pk l) sw)
          have HALL := Lib.hid (nbs_adj HN.out s1 s4)
          generalize eX (pk l) sw = X at *
          generalize eY (pk l) sw = Y at *
          obtain ⟨n', hn'⟩ : ∃ n', Q'.length = n' := ⟨_, rfl⟩
          have HQL := Lib.hid hn'
          rw [hn'] at hlz hsl H9
          rw [hn']
          clear hn'
          have is : (sw : Int) < 5 := by omega
          have js : (0 : Int) ≤ (sw : Int) := by omega
          clear e0 e1 e2 e3 e4 e5 e6 e7 hq hq2 hw hs h9 h9' hneg
          go_wp2_with fail
          obtain ⟨W2, hW2⟩ : ∃ W, W = wr := ⟨_, rfl⟩
          subst hW2
          clear p0 p1 p2 p3 p4 p5 p6 p7 hc0 hsl
          go_loopw [7, 34] (fun qv i wr => ∃ (k : Nat) (E : Nat → Int) (Q : List Nat) (b off cap : Nat), k ≤ 4 ∧ i = .int .i64 k ∧ qv = .slice (some ⟨b, off, none⟩) Q.length cap ∧ Que wr w.heap.size b off cap Q ∧ Srch l w g E wr ∧ Hand l c sw (nbs (pk l) sw k) E Q ∧ 2 * cnt E + Q.length ≤ 2 * cnt D + n') (fun _ i _ => 4 - (intOf i).toNat)
          case atStart => exact ⟨0, D, Q', b, off2, cap2, by omega, rfl, by rw [HQL.out], HQ2.out, HS2.out, HW2.out, by rw [HQL.out]; omega⟩
          case round =>
            obtain ⟨k, E, Q, b, off, cap, hk4, rfl, rfl, hq, hs, hh, hm⟩ := hrel
            have HQ := Lib.hid hq
            have HS := Lib.hid hs
            have HH := Lib.hid hh
            have HMM := Lib.hid hm
            clear hq hs hh hm
            by_cases hltk : k < 4
            · have hkz : (k : Int) < 4 := by omega
              have hix := row4_at X Y hltk
              unfold row4 at hix
              have hxk := HXY.out k hltk
              have HXE : Hid (nbs (pk l) sw (k + 1) = nbs (pk l) sw k ++ [(X k).toNat]) := HSN.out k
              have HNK := Lib.hid (HNB.out k hltk)
              have HA : Hid (∀ W, Below wr.heap.size wr W → Que W w.heap.size b off cap Q ∧ Srch l w g E W) := fun W hb => ⟨HQ.out.below hb, HS.out.below hb⟩
              generalize X k = x at *
              generalize Y k = y at *
              have HBN := Lib.hid (below_alloc1 wr (.cells #[.int .i64 x, .int .i64 y] 58))
              rcases hxk with ⟨rfl, rfl⟩ | hx0
              · have hi := HH.out.inn s1 s4 (x := 0) (fun e => absurd rfl e)
                have HI : Hid (Hand l c sw (nbs (pk l) sw (k + 1)) E Q) := by
                  have := hi.1
                  show Hand _ _ _ _ _ _
                  rw [HXE.out]
                  simpa [innD, innQ] using this
                have HR := Lib.hid (HA.out _ HBN.out)
                clear hi HNK HXE
                go_wp2
                go_roundw
                case rel => exact ⟨k + 1, E, Q, b, off, cap, by omega, by go_num, rfl, HR.out.1, HR.out.2, HI.out, HMM.out⟩
                case measure => simp [intOf]; omega
              · obtain ⟨xn, rfl, x1, x4, hadj⟩ := HNK.out hx0
                have hi := HH.out.inn s1 s4 (x := xn) (fun _ => ⟨x1, x4, hadj⟩)
                have hic := inn_cnt (sw := sw) (x := xn) (D := E) (Q := Q) (fun _ => ⟨x1, x4⟩) HH.out.sw0
                have HI := Lib.hid hi.1
                have HIC := Lib.hid hic
                rw [show nbs (pk l) sw k ++ [xn] = nbs (pk l) sw (k + 1) from by rw [HXE.out]; simp] at HI
                have hx0' : ((xn : Int) == 0) = false := by simpa using hx0
                have ix : (xn : Int) < 5 := by omega
                have jx : (0 : Int) ≤ (xn : Int) := by omega
                have dx := HS.out.fars.cell (i := xn) (by omega)
                have ds := HS.out.fars.cell (i := sw) (by omega)
                have hfl := HS.out.fars.lt
                by_cases hE : E xn = -1
                · have HI2 : Hid (Hand l c sw (nbs (pk l) sw (k + 1)) (upd E xn (E sw + 1)) (Q ++ [xn])) := by
                    have := HI.out
                    show Hand _ _ _ _ _ _
                    unfold innD innQ at this
                    rw [if_pos ⟨by omega, hE⟩, if_pos ⟨by omega, hE⟩] at this
                    exact this
                  have HIC2 : Hid (2 * cnt (upd E xn (E sw + 1)) + (Q ++ [xn]).length ≤ 2 * cnt D + n') := by
                    have := HIC.out
                    have h2 := HMM.out
                    unfold innD innQ at this
                    rw [if_pos ⟨by omega, hE⟩, if_pos ⟨by omega, hE⟩] at this
                    show _ ≤ _
                    omega
                  have hne : sw ≠ xn := fun e => by have := HH.out.sw0; rw [e] at this; omega
                  have HQ9 : Hid (Q.length ≤ 1000) := by show _ ≤ _; have := HMM.out; have := H9.out; omega
                  have HR := Lib.hid (HA.out _ HBN.out)
                  have df := HR.out.2.fars.frozen
                  rw [hE] at dx
                  have dx2 : (wr.alloc (.cells #[.int .i64 (xn : Int), .int .i64 y] 58)).cell? ⟨w.heap.size + 1, xn, none⟩ = some (.int .i64 (-1)) := (belCell HBN.out _ _ hfl).trans dx
                  have ds2 : (wr.alloc (.cells #[.int .i64 (xn : Int), .int .i64 y] 58)).cell? ⟨w.heap.size + 1, sw, none⟩ = some (.int .i64 (E sw)) := (belCell HBN.out _ _ hfl).trans ds
                  obtain ⟨n0, n1, n2⟩ := duoAt (w := wr) (t := 58) (a := .int .i64 (xn : Int)) (b := .int .i64 y)
                  clear hi hic HI HIC HNK HXE hadj
                  have hs3 := dist_small HH.out.base.low HH.out.base.back sw s1 s4
                  have hs0 := HH.out.sw0
                  have HPUT := Lib.hid (HR.out.2.put hg (E sw + 1) (show xn < 5 by omega))
                  have HQS := Lib.hid (HR.out.1.set (i := xn) (u := .int .i64 (E sw + 1)) HR.out.2.fars)
                  have hgt := HS.out.size
                  generalize E sw = es at *
                  have hw1 : IntKind.i64.wrap (es + 1) = es + 1 := by rw [IntKind.wrap_i64]; omega
                  go_wp2_with fail
                  generalize (wr.alloc (.cells #[.int .i64 (xn : Int), .int .i64 y] 58)) = Z at *
                  have FA := Lib.hid (fun W o o' u => farCell (g := w.heap.size + 1) (k := wr.heap.size) (by omega) W o o' u)
                  have FB : Hid (∀ W u, (World.setCell W ⟨w.heap.size + 1, xn, none⟩ u).cell? ⟨w.heap.size + 1, sw, none⟩ = W.cell? ⟨w.heap.size + 1, sw, none⟩) := fun W u => World.cell?_setCell_other _ _ _ _ (fun e => by injection e with _ e; exact hne e.symm)
                  have HN0 : Hid ((Z.setCell ⟨w.heap.size + 1, xn, none⟩ (.int .i64 (es + 1))).drew.cell? ⟨wr.heap.size, 0, none⟩ = some (.int .i64 (xn : Int))) := by
                    show _ = _
                    rw [drewCell, FA.out]
                    exact n0
                  have HLZ : Hid (wr.heap.size < (Z.setCell ⟨w.heap.size + 1, xn, none⟩ (.int .i64 (es + 1))).drew.heap.size) := by
                    show _ < _
                    simpa [World.setCell] using n2
                  go_region_held3 (fun w' => w'.cell? ⟨wr.heap.size, 0, none⟩ = some (.int .i64 (xn : Int)) ∧ w'.cell? ⟨w.heap.size + 1, sw, none⟩ = some (.int .i64 es))
                    (simp only [drewCell, FA.out, FB.out, n0, ds2, and_self])
                    (fail)
                  have HS5 : Hid (Srch l w g (upd E xn (es + 1)) (Z.setCell ⟨w.heap.size + 1, xn, none⟩ (.int .i64 (es + 1))).drew) := ⟨HPUT.out.peers, HPUT.out.fars, HPUT.out.out, HPUT.out.bel.drew, HPUT.out.size⟩
                  have HQ5 : Hid (Que (Z.setCell ⟨w.heap.size + 1, xn, none⟩ (.int .i64 (es + 1))).drew w.heap.size b off cap Q) := ⟨HQS.out.lo', HQS.out.cells, HQS.out.fits⟩
                  generalize (Z.setCell ⟨w.heap.size + 1, xn, none⟩ (.int .i64 (es + 1))).drew = Z2 at *
                  have n0' := HN0.out
                  have n2' := HLZ.out
                  have HB6 := Lib.hid (below_alloc1 Z2 (.cells #[.int .i64 (xn : Int)] 3))
                  have HC6 : Hid ((Z2.alloc (.cells #[.int .i64 (xn : Int)] 3)).cell? ⟨Z2.heap.size, 0, none⟩ = some (.int .i64 (xn : Int))) := by
                    show _ = _
                    simp [go_sem]
                  have HL6 : Hid (w.heap.size ≤ (Z2.alloc (.cells #[.int .i64 (xn : Int)] 3)).heap.size) := Nat.le_trans HS5.out.bel.size HB6.out.size
                  clear dx dx2 ds ds2 df n0 n1 n2 FA FB HPUT HQS hix HN0 HLZ
                  go_wp2_with (at_builtin; refine app_que rfl _ _ rfl w.heap.size b off cap Q.length Q (HQ5.out.below HB6.out) rfl rfl Z2.heap.size xn rfl HC6.out HQ9.out HL6.out ?_)
                  intro w9 b9 off9 cap9 hq9 hs9
                  have HS9 := Lib.hid ((HS5.out.below HB6.out).safe hs9)
                  have HQ9' := Lib.hid hq9
                  clear hs9 hq9 HS5 HQ5 HB6 HC6 HL6
                  go_wp2
                  go_roundw
                  case rel => exact ⟨k + 1, upd E xn (es + 1), Q ++ [xn], b9, off9, cap9, by omega, by go_num, by simp, HQ9'.out, HS9.out, HI2.out, HIC2.out⟩
                  case measure => simp [intOf]; omega
                · have hE' : (E xn == -1) = false := by simpa using hE
                  have HI2 : Hid (Hand l c sw (nbs (pk l) sw (k + 1)) E Q) := by
                    have := HI.out
                    show Hand _ _ _ _ _ _
                    unfold innD innQ at this
                    rw [if_neg (fun z => hE z.2), if_neg (fun z => hE z.2)] at this
                    exact this
                  have HR := Lib.hid (HA.out _ HBN.out)
                  clear hi hic HI HIC HNK HXE hadj ds
                  generalize E xn = ex at *
                  go_wp2
                  go_roundw
                  case rel => exact ⟨k + 1, E, Q, b, off, cap, by omega, by go_num, rfl, HR.out.1, HR.out.2, HI2.out, HMM.out⟩
                  case measure => simp [intOf]; omega
            · obtain rfl : k = 4 := by omega
              have HWN := Lib.hid (HH.out.put HALL.out)
              have hneg2 := negs_fb HS.out.fars
              have H92 : 2 * cnt E + Q.length ≤ 9 := by have := H9.out; have := HMM.out; omega
              go_wp2
              go_roundw
              case rel => exact ⟨E, Q, b, off, cap, rfl, HQ.out, HS.out, HWN.out, H92⟩
              case measure => simp only [lenOf]; have := HMM.out; have := HNEG.out; have := H9.out; simp; omega

end Go.Proofs.Ytbjndcfdcjpkmaa
