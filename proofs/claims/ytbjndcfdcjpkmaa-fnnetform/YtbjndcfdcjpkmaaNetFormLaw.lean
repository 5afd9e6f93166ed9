/-
  Proved: FnNetForm is true at every input.
-/
import Derived.Test.YtbjndcfdcjpkmaaOwnB
import Derived.Test.YtbjndcfdcjpkmaaNetDrB
import Derived.Test.YtbjndcfdcjpkmaaNetCutF
namespace Go.Proofs.Ytbjndcfdcjpkmaa
open Go.ChangeShapes Go.WideShapes Go.ChangeAt Go.RowKit Go.Joins
set_option linter.unusedVariables false

/-- A row in a block: where it lies. -/
theorem LkRow.solid {w : World} {base : Nat} {v : Value} {l : List K4} (h : LkRow w base v l) (hv : v.ownBlock ≠ none) : ∃ g cap, v = .slice (some ⟨g, 0, none⟩) l.length cap ∧ g < w.heap.size ∧ ∀ i, i < l.length → FourK w g (0 + i * 4) (lkAt l i) := by
  rcases h.form with ⟨rfl, rfl⟩ | ⟨g, cap, rfl, -⟩
  · exact absurd rfl hv
  · exact ⟨g, cap, rfl, (World.ownsRow.lt h g rfl).2, fun i hi => by rw [Nat.zero_add]; exact (h.cells rfl).1 i hi⟩
/-- A row of two in a new block. -/
theorem twoKOf {w : World} {b : Nat} {x : K4} {t : TypeId} (hb : w.heap[b]? = some (.cells #[.int .i64 x.p, .int .i64 x.s, .int .i64 x.o, .int .i64 x.t, .int .i64 x.p, .int .i64 x.s, .int .i64 x.o, .int .i64 x.t] t)) : ∀ i, i < [x, x].length → FourK w b (0 + i * 4) (lkAt [x, x] i) := by
  intro i hi
  have : i = 0 ∨ i = 1 := by simp at hi; omega
  rcases this with rfl | rfl <;> refine ⟨?_, ?_, ?_, ?_⟩ <;> simp [World.cell?, hb, lkAt]
theorem twoK (w : World) (x : K4) : ∀ i, i < [x, x].length → FourK (w.alloc (.cells #[.int .i64 x.p, .int .i64 x.s, .int .i64 x.o, .int .i64 x.t, .int .i64 x.p, .int .i64 x.s, .int .i64 x.o, .int .i64 x.t] 44)) w.heap.size (0 + i * 4) (lkAt [x, x] i) := twoKOf (newBlock w _)
theorem fks_below {w w' : World} {b n off : Nat} {l : List K4} (h : ∀ i, i < l.length → FourK w b (off + i * 4) (lkAt l i)) (hb : Below n w w') (hn : b < n) : ∀ i, i < l.length → FourK w' b (off + i * 4) (lkAt l i) := fun i hi => (h i hi).below hb hn
theorem fks_grown {w w' : World} {b off : Nat} {row : Option Nat} {l : List K4} (h : ∀ i, i < l.length → FourK w b (off + i * 4) (lkAt l i)) (hg : w.grownBy w' row) (hb : b < w.heap.size) (hne : row ≠ some b) : ∀ i, i < l.length → FourK w' b (off + i * 4) (lkAt l i) := fun i hi => (h i hi).grown hg hb hne

set_option maxRecDepth 100000 in
set_option maxHeartbeats 16000000 in
theorem walk_FnNetForm (a : Option Addr) (len cap : Nat) (a' : Option Addr) (len' cap' : Nat) (w : World) (hb : BytesIn w w.heap.size a len cap) (hb' : BytesIn w w.heap.size a' len' cap') :
    Calls Try.prog 10 #[.slice a len cap, .slice a' len' cap'] w fun e w' => e = .returned (.bool true) ∧ Below w.heap.size w w' := by
  have HB := Lib.hid hb
  have hm : (len : Int) ≤ maxLen := by have := hb.1; have := hb.2.1; omega
  have hm' : (len' : Int) ≤ maxLen := by have := hb'.1; have := hb'.2.1; omega
  unfold maxLen at hm hm'
  clear hb hb'
  by_cases hlen : (1048576 : Int) < (len : Int)
  · go_enter Try.func10, Try.ntmps10
    go_wp2
    go_ret
    exact ⟨rfl, Below.refl _ _⟩
  have hl1 : decide ((1048576 : Int) < (len : Int)) = false := by simp; omega
  have hl1n : decide ((1048576 : Nat) < len) = false := by simp; omega
  by_cases hlen' : (1048576 : Int) < (len' : Int)
  · go_enter Try.func10, Try.ntmps10
    go_wp2
    go_ret
    exact ⟨rfl, Below.refl _ _⟩
  have hl2 : decide ((1048576 : Int) < (len' : Int)) = false := by simp; omega
  have hl2n : decide ((1048576 : Nat) < len') = false := by simp; omega
  go_enter Try.func10, Try.ntmps10
  go_wp2_with fail
  refine (drawNetOk_any _ _ _ _ HB.out).mono ?_
  rintro e w1 ⟨v, l, rfl, hl, hrow, b1⟩
  have HROW := Lib.hid hrow
  have HL : Hid (∀ W, Below w1.heap.size w1 W → Lks W W.heap.size v l) := fun W hb => (hrow.lks.below hb (Nat.le_refl _)).mono hb.size
  have HI : Hid (∀ W, Below w1.heap.size w1 W → Calls Try.prog 32 #[v] W fun e w' => e = .returned (.bool (netB l)) ∧ Below W.heap.size W w') := fun W h => iNetOk_any W v l (HL.out W h)
  have HS : Hid (∀ W, Below w1.heap.size w1 W → Calls Try.prog 21 #[v] W fun e w' => e = .returned (.bool (netB l)) ∧ Below W.heap.size W w') := fun W h => sNetOk_any W v l (HL.out W h) (by omega)
  have BW : Hid (∀ W, Below w1.heap.size w1 W → Below w.heap.size w W) := fun W hb => belStep b1 hb
  obtain ⟨va, vc, rfl⟩ : ∃ va vc, v = .slice va l.length vc := by
    rcases hrow.form with ⟨rfl, rfl⟩ | ⟨_, _, rfl, -⟩ <;> exact ⟨_, _, rfl⟩
  clear hrow b1 HB HL
  generalize hN : l.length = N at *
  have HN := Lib.hid hN
  clear hN
  go_wp2_with fail
  refine (HI.out _ (Below.refl _ _)).mono ?_
  rintro e w2 ⟨rfl, b2⟩
  have B2 := Lib.hid b2
  clear b2 HI
  go_wp2_with fail
  refine (HS.out _ B2.out).mono ?_
  rintro e w3 ⟨rfl, b3⟩
  have B3 := Lib.hid (belStep B2.out b3)
  clear b3 B2
  cases hnb : netB l
  · go_wp2_with fail
    refine (HS.out _ B3.out).mono ?_
    rintro e w4 ⟨rfl, b4⟩
    have B4 := Lib.hid (belStep B3.out b4)
    rw [hnb]
    go_wp2
    go_ret
    exact ⟨by simp, BW.out _ B4.out⟩
  by_cases hN0 : N = 0
  · subst hN0
    go_wp2_with fail
    refine (HS.out _ B3.out).mono ?_
    rintro e w4 ⟨rfl, b4⟩
    have B4 := Lib.hid (belStep B3.out b4)
    rw [hnb]
    go_wp2
    go_ret
    exact ⟨by simp, BW.out _ B4.out⟩
  have h6 : N ≤ 6 := by rw [← HN.out]; exact netB_six hnb
  have hN0' : ((N : Int) == 0) = false := by simp; omega
  obtain ⟨k, hkd, hkN⟩ : ∃ k : Nat, (len' : Int) % (N : Int) = (k : Int) ∧ k < N := ⟨len' % N, by omega, Nat.mod_lt _ (by omega)⟩
  have hkt : (len' : Int).tmod (N : Int) = (k : Int) := by rw [Int.tmod_eq_emod_of_nonneg (by omega)]; exact hkd
  obtain ⟨b, hvb, hbw, hf0, hcap⟩ : ∃ b, va = some ⟨b, 0, none⟩ ∧ b < w1.heap.size ∧ (∀ i, i < N → FourK w1 b (0 + i * 4) (lkAt l i)) ∧ N ≤ vc := by
    rcases HROW.out.form with ⟨-, h'⟩ | ⟨b, cap', h, hcp, -⟩
    · have := HN.out
      rw [h'] at this
      simp at this
      omega
    · obtain ⟨a2, c2, hv2, hc2, -⟩ := HROW.out.lks
      rw [HN.out] at h hc2 hv2
      simp at h hv2
      obtain ⟨rfl, rfl⟩ := h
      obtain ⟨hf, hrest⟩ := HROW.out.cells HN.out
      refine ⟨b, rfl, (World.ownsRow.lt HROW.out b rfl).2, fun i hi => by rw [Nat.zero_add]; exact hf i hi, ?_⟩
      rw [hv2.2]
      exact hc2
  subst hvb
  have HF : Hid (∀ W, Below w1.heap.size w1 W → ∀ i, i < N → FourK W b (0 + i * 4) (lkAt l i)) := fun W hb i hi => (hf0 i hi).below hb hbw
  have HBW : Hid (∀ W, Below w1.heap.size w1 W → b < W.heap.size) := fun W hb => Nat.lt_of_lt_of_le hbw hb.size
  have HS1 := Lib.hid (cutTo_run b 0 N vc k (by omega))
  have HS2 := Lib.hid (cutFrom_run b 0 N vc (k + 1) ((k : Int) + 1) (by omega) (by omega) hcap)
  have hw1 : IntKind.i64.wrap ((k : Int) + 1) = (k : Int) + 1 := by rw [IntKind.wrap_i64]; omega
  have HT1 : Hid ((l.take k).length = k) := by show _ = _; rw [List.length_take, HN.out]; omega
  have HT2 : Hid ((l.drop (k + 1)).length = N - (k + 1)) := by show _ = _; rw [List.length_drop, HN.out]
  have hkN1 : (k : Int) < (N : Int) := by omega
  have HCN : Hid (netB (cutL l k) = true) := netB_cut hnb
  have HCL : Hid ((cutL l k).length ≤ 6) := netB_six HCN.out
  have H6 : Hid (N ≤ 6) := h6
  clear hf0 hbw HROW HS h6 hnb
  go_wp2_with fail
  obtain ⟨off2, ho2, hs2⟩ := HS2.out
  have hs1 := HS1.out
  refine wp_region_held_drew (S := fun W => Below w3.heap.size w3 W) (by kernel_rfl) (Below.refl _ _).drew (fun hHeld => ?_)
  generalize w3.drew = V at *
  refine wpAnyH_take (i := 1) (v := .slice (some ⟨b, 0, none⟩) N vc) rfl (by kernel_rfl) (by kernel_rfl) (by kernel_rfl) (fun _ _ _ h => h) (Or.inl ⟨by rfl, ?_⟩) hHeld ?_
  · intro W hW
    go_simp
  simp [Act.put]
  refine wpAnyH_take (i := 2) (v := .int .i64 (k : Int)) rfl (by kernel_rfl) (by kernel_rfl) (by kernel_rfl) (fun _ _ _ h => h) (Or.inl ⟨by rfl, ?_⟩) hHeld ?_
  · intro W hW
    go_simp
  simp [Act.put]
  refine wpAnyH_take (i := 3) (v := .slice (some ⟨b, 0, none⟩) k vc) rfl (by kernel_rfl) (by kernel_rfl) (by kernel_rfl) (fun _ _ _ h => h) (Or.inl ⟨by rfl, ?_⟩) hHeld ?_
  · intro W hW
    go_simp
  simp [Act.put]
  refine wpAnyH_take (i := 5) (v := .slice (some ⟨b, 0, none⟩) N vc) rfl (by kernel_rfl) (by kernel_rfl) (by kernel_rfl) (fun _ _ _ h => h) (Or.inl ⟨by rfl, ?_⟩) hHeld ?_
  · intro W hW
    go_simp
  simp [Act.put]
  refine wpAnyH_take (i := 6) (v := .int .i64 (k : Int)) rfl (by kernel_rfl) (by kernel_rfl) (by kernel_rfl) (fun _ _ _ h => h) (Or.inl ⟨by rfl, ?_⟩) hHeld ?_
  · intro W hW
    go_simp
  simp [Act.put]
  refine wpAnyH_take (i := 7) (v := .int .i64 ((k : Int) + 1)) rfl (by kernel_rfl) (by kernel_rfl) (by kernel_rfl) (fun _ _ _ h => h) (Or.inl ⟨by rfl, ?_⟩) hHeld ?_
  · intro W hW
    go_simp
  simp [Act.put]
  refine wpAnyH_take (i := 8) (v := .slice (some ⟨b, off2, none⟩) (N - (k + 1)) (vc - (k + 1))) rfl (by kernel_rfl) (by kernel_rfl) (by kernel_rfl) (fun _ _ _ h => h) (Or.inl ⟨by rfl, ?_⟩) hHeld ?_
  · intro W hW
    go_simp
  simp [Act.put]
  refine wpAnyH_ready (rs := [0]) (by kernel_rfl) (by simp) ?_
  refine AllReadyH.cons rfl (fun K hK => ?_) AllReadyH.nil
  go_simp
  have HRe := Lib.hid (emptyRowK V w3.heap.size hHeld.size)
  refine hK.out _ _ (hHeld.trans ((below_alloc1 _ _).mono hHeld.size)) (fun hHeld => ?_)
  clear hK K
  generalize V.alloc (.cells #[] 44) = W7 at *
  refine wpAnyH_ready (rs := [4]) (by kernel_rfl) (by simp) ?_
  refine AllReadyH.cons rfl (fun K hK => ?_) AllReadyH.nil
  rw [if_pos (by rfl)]
  refine appK (.tmp 45) (.tmp 48) rfl w3.heap.size _ [] rfl HRe.out b 0 vc (l.take k) (by rw [HT1.out]; rfl) (fun i hi => by rw [HT1.out] at hi; rw [lkAt_take hi]; exact HF.out _ (belStep B3.out hHeld) i (by omega)) (by simp; omega) hHeld.size ?_
  rintro v1 W8 hrow8 hg8 hown8
  have hB8 := hHeld.trans (HRe.out.belRow hg8 hHeld.size)
  have HO8 : Hid (v1.ownBlock ≠ none) := fun e => by
    rcases hown8 with h | h
    · exact Option.some_ne_none _ (h.symm.trans e)
    · exact Option.some_ne_none _ (h.symm.trans e)
  have HR8 : Hid (LkRow W8 w3.heap.size v1 (l.take k)) := hrow8
  clear hrow8 hg8 hown8 HRe
  refine hK.out _ _ hB8 (fun hHeld => ?_)
  clear hK K hB8
  simp [Act.put]
  refine wpAnyH_ready (rs := [9]) (by kernel_rfl) (by simp) ?_
  refine AllReadyH.cons rfl (fun K hK => ?_) AllReadyH.nil
  rw [if_pos (by rfl)]
  refine appK (.tmp 49) (.tmp 53) rfl w3.heap.size _ (l.take k) rfl HR8.out b off2 (vc - (k + 1)) (l.drop (k + 1)) (by rw [HT2.out]; rfl) (fun i hi => by rw [HT2.out] at hi; rw [lkAt_drop, ho2 (by omega), show 0 + (k + 1) * 4 + i * 4 = 0 + (k + 1 + i) * 4 from by omega]; exact HF.out _ (belStep B3.out hHeld) (k + 1 + i) (by omega)) (by rw [HT1.out, HT2.out]; have := H6.out; omega) hHeld.size ?_
  rintro v2 W9 hrow9 hg9 hown9
  have hB9 := hHeld.trans (HR8.out.belRow hg9 hHeld.size)
  have HO9 : Hid (v2.ownBlock ≠ none) := fun e => by
    rcases hown9 with h | h
    · exact HO8.out (h.symm.trans e)
    · exact Option.some_ne_none _ (h.symm.trans e)
  have HR9 : Hid (LkRow W9 w3.heap.size v2 (cutL l k)) := hrow9
  clear hrow9 hg9 hown9 HR8 HO8
  refine hK.out _ _ hB9 (fun hHeld => ?_)
  clear hK K hB9
  simp [Act.put]
  refine wpAnyH_take (i := 10) (v := v2) rfl (by kernel_rfl) (by kernel_rfl) (by kernel_rfl) (fun _ _ _ h => h) (Or.inl ⟨by rfl, ?_⟩) hHeld ?_
  · intro W hW
    go_simp
  simp [Act.put]
  refine wpAnyH_done (by kernel_rfl) ?_ _
  obtain ⟨lb, lc, rfl, hlb, hlf⟩ := HR9.out.solid HO9.out
  have HLF : Hid (∀ W, Below W9.heap.size W9 W → ∀ i, i < (cutL l k).length → FourK W lb (0 + i * 4) (lkAt (cutL l k) i)) := fun W hW => fks_below hlf hW hlb
  have HLL : Hid (∀ W, Below W9.heap.size W9 W → Lks W W.heap.size (.slice (some ⟨lb, 0, none⟩) (cutL l k).length lc) (cutL l k)) := fun W hb => (HR9.out.lks.below hb (Nat.le_refl _)).mono hb.size
  have HOL : Hid (∀ W, Below W9.heap.size W9 W → Calls Try.prog 32 #[.slice (some ⟨lb, 0, none⟩) (cutL l k).length lc] W fun e w' => e = .returned (.bool true) ∧ Below W.heap.size W w') := fun W h => by
    have := iNetOk_any W _ _ (HLL.out W h)
    rwa [HCN.out] at this
  have B9 := Lib.hid (belStep B3.out hHeld)
  have HXF : Hid (∀ W, Below W9.heap.size W9 W → FourK W b (k * 4) (lkAt l k)) := fun W hW => by
    have := HF.out W (belStep B9.out hW) k (by omega)
    rwa [Nat.zero_add] at this
  have HTW : Hid (netB (cutL l k ++ [lkAt l k, lkAt l k]) = false) := netB_twice _ _
  have HOW : Hid (netB (cutL l k ++ [⟨1, (lkAt l k).s, 1, (lkAt l k).s⟩]) = false) := netB_own _ _ rfl
  have HBB : Hid (∀ W, Below W9.heap.size W9 W → b < W.heap.size) := fun W hW => HBW.out W (belStep B9.out hW)
  clear hHeld hlb hlf HR9 HO9 HF HBW HS1 HS2 hs1 hs2 ho2 HT1 HT2 HN hl B3 HLL HCN
  generalize cutL l k = C at *
  generalize lkAt l k = x at *
  generalize hCM : C.length = M at *
  have HCM := Lib.hid hCM
  clear hCM
  go_wp2_with fail
  have W9B : Hid (Below W9.heap.size W9 W9) := Below.refl _ _
  refine wp_region_held_drew (S := fun W => Below W9.heap.size W9 W) (by kernel_rfl) (Below.refl _ _).drew (fun hHeld => ?_)
  generalize hVV : W9.drew = V at *
  clear hVV
  refine wpAnyH_take (i := 1) (v := .slice (some ⟨lb, 0, none⟩) M lc) rfl (by kernel_rfl) (by kernel_rfl) (by kernel_rfl) (fun _ _ _ h => h) (Or.inl ⟨by rfl, ?_⟩) hHeld ?_
  · intro W hW
    go_simp
  simp [Act.put]
  refine wpAnyH_take (i := 3) (v := .slice (some ⟨b, 0, none⟩) N vc) rfl (by kernel_rfl) (by kernel_rfl) (by kernel_rfl) (fun _ _ _ h => h) (Or.inl ⟨by rfl, ?_⟩) hHeld ?_
  · intro W hW
    go_simp
  simp [Act.put]
  refine wpAnyH_take (i := 4) (v := .int .i64 (k : Int)) rfl (by kernel_rfl) (by kernel_rfl) (by kernel_rfl) (fun _ _ _ h => h) (Or.inl ⟨by rfl, ?_⟩) hHeld ?_
  · intro W hW
    go_simp
  simp [Act.put]
  refine wpAnyH_take (i := 5) (v := .pointer (some ⟨b, k * 4, none⟩)) rfl (by kernel_rfl) (by kernel_rfl) (by kernel_rfl) (fun _ _ _ h => h) (Or.inl ⟨by rfl, ?_⟩) hHeld ?_
  · intro W hW
    go_simp
  simp [Act.put]
  refine wpAnyH_take (i := 6) (v := .agg #[.int .i64 x.p, .int .i64 x.s, .int .i64 x.o, .int .i64 x.t]) rfl (by kernel_rfl) (by kernel_rfl) (by kernel_rfl) (fun _ _ _ h => h) (Or.inl ⟨by rfl, ?_⟩) hHeld ?_
  · intro W hW
    obtain ⟨c0, c1, c2, c3⟩ := HXF.out W hW
    go_simp
  simp [Act.put]
  refine wpAnyH_take (i := 7) (v := .slice (some ⟨b, 0, none⟩) N vc) rfl (by kernel_rfl) (by kernel_rfl) (by kernel_rfl) (fun _ _ _ h => h) (Or.inl ⟨by rfl, ?_⟩) hHeld ?_
  · intro W hW
    go_simp
  simp [Act.put]
  refine wpAnyH_take (i := 8) (v := .int .i64 (k : Int)) rfl (by kernel_rfl) (by kernel_rfl) (by kernel_rfl) (fun _ _ _ h => h) (Or.inl ⟨by rfl, ?_⟩) hHeld ?_
  · intro W hW
    go_simp
  simp [Act.put]
  refine wpAnyH_take (i := 9) (v := .pointer (some ⟨b, k * 4, none⟩)) rfl (by kernel_rfl) (by kernel_rfl) (by kernel_rfl) (fun _ _ _ h => h) (Or.inl ⟨by rfl, ?_⟩) hHeld ?_
  · intro W hW
    go_simp
  simp [Act.put]
  refine wpAnyH_take (i := 10) (v := .agg #[.int .i64 x.p, .int .i64 x.s, .int .i64 x.o, .int .i64 x.t]) rfl (by kernel_rfl) (by kernel_rfl) (by kernel_rfl) (fun _ _ _ h => h) (Or.inl ⟨by rfl, ?_⟩) hHeld ?_
  · intro W hW
    obtain ⟨c0, c1, c2, c3⟩ := HXF.out W hW
    go_simp
  simp [Act.put]
  refine wpAnyH_ready (rs := [0, 11]) (by kernel_rfl) (by simp) ?_
  refine AllReadyH.cons rfl (fun K hK => ?_) (AllReadyH.cons rfl (fun K hK => ?_) AllReadyH.nil)
  · skip
    go_simp
    have HRe := Lib.hid (emptyRowK V W9.heap.size hHeld.size)
    have hltE : V.heap.size < (V.alloc (.cells #[] 44)).heap.size := by simp
    refine hK.out _ _ (hHeld.trans ((below_alloc1 _ _).mono hHeld.size)) (fun hHeld => ?_)
    clear hK K
    generalize V.alloc (.cells #[] 44) = W7 at *
    refine wpAnyH_ready (rs := [2, 11]) (by kernel_rfl) (by simp) ?_
    refine AllReadyH.cons rfl (fun K hK => ?_) (AllReadyH.cons rfl (fun K hK => ?_) AllReadyH.nil)
    · skip
      rw [if_pos (by rfl)]
      refine appK (.tmp 55) (.tmp 56) rfl W9.heap.size _ [] rfl HRe.out lb 0 lc C (by rw [HCM.out]; rfl) (fun i hi => HLF.out _ (belStep W9B.out hHeld) i (by rw [HCM.out] at hi; exact hi)) (by have h1 := HCL.out; have h2 := HCM.out; simp; omega) hHeld.size ?_
      rintro v1 W8 hrow8 hg8 hown8
      have hB8 := hHeld.trans (HRe.out.belRow hg8 hHeld.size)
      have HR8 : Hid (LkRow W8 W9.heap.size v1 C) := hrow8

      clear hrow8 hg8 hown8 HRe
      refine hK.out _ _ hB8 (fun hHeld => ?_)
      clear hK K hB8
      simp [Act.put]
      refine wpAnyH_ready (rs := [11]) (by kernel_rfl) (by simp) ?_
      refine AllReadyH.cons rfl (fun K hK => ?_) AllReadyH.nil
      go_simp
      have HR8' : Hid (LkRow (W8.alloc (.cells #[.int .i64 x.p, .int .i64 x.s, .int .i64 x.o, .int .i64 x.t, .int .i64 x.p, .int .i64 x.s, .int .i64 x.o, .int .i64 x.t] 44)) W9.heap.size v1 C) := HR8.out.below (below_alloc1 W8 _)
      have HF8 := Lib.hid ((fun W => twoK W x) W8)
      clear HR8
      have HR8 := Lib.hid HR8'.out
      clear HR8'
      refine hK.out _ _ (hHeld.trans ((below_alloc1 _ _).mono hHeld.size)) (fun hHeld => ?_)
      clear hK K
      refine wpAnyH_ready (rs := [12]) (by kernel_rfl) (by simp) ?_
      refine AllReadyH.cons rfl (fun K hK => ?_) AllReadyH.nil
      rw [if_pos (by rfl)]
      refine appK (.tmp 57) (.tmp 66) rfl W9.heap.size _ C rfl HR8.out _ 0 2 [x, x] rfl HF8.out (by have h1 := HCL.out; have h2 := HCM.out; simp; omega) hHeld.size ?_
      rintro v2 W9' hrow9 hg9 hown9
      have hB9 := hHeld.trans (HR8.out.belRow hg9 hHeld.size)
      have HR9 : Hid (LkRow W9' W9.heap.size v2 (C ++ [x, x])) := hrow9
      clear hrow9 hg9 hown9 HR8 HF8
      refine hK.out _ _ hB9 (fun hHeld => ?_)
      clear hK K hB9
      simp [Act.put]
      refine wpAnyH_take (i := 13) (v := v2) rfl (by kernel_rfl) (by kernel_rfl) (by kernel_rfl) (fun _ _ _ h => h) (Or.inl ⟨by rfl, ?_⟩) hHeld ?_
      · intro W hW
        go_simp
      simp [Act.put]
      refine wpAnyH_done (by kernel_rfl) ?_ _
      obtain ⟨ta, tc, rfl⟩ : ∃ ta tc, v2 = .slice ta (C ++ [x, x]).length tc := by
        rcases HR9.out.form with ⟨rfl, h⟩ | ⟨_, _, rfl, -⟩
        · simp at h
        · exact ⟨_, _, rfl⟩
      generalize (C ++ [x, x]).length = n1 at *
      have HTKN : Hid (∀ W, Below W9'.heap.size W9' W → Calls Try.prog 32 #[.slice ta n1 tc] W fun e w' => e = .returned (.bool false) ∧ Below W.heap.size W w') := fun W hW => by
        have := iNetOk_any W _ _ ((HR9.out.lks.below hW (Nat.le_refl _)).mono hW.size)
        rwa [HTW.out] at this
      have W10B : Hid (Below W9.heap.size W9 W9') := belStep W9B.out hHeld
      clear HR9 hHeld
      generalize W9' = W10 at *
      go_wp2_with fail
      refine wp_region_held_drew (S := fun W => Below W10.heap.size W10 W) (by kernel_rfl) (Below.refl _ _).drew (fun hHeld => ?_)
      generalize hVV : W10.drew = V at *
      clear hVV
      refine wpAnyH_take (i := 1) (v := .slice (some ⟨lb, 0, none⟩) M lc) rfl (by kernel_rfl) (by kernel_rfl) (by kernel_rfl) (fun _ _ _ h => h) (Or.inl ⟨by rfl, ?_⟩) hHeld ?_
      · intro W hW
        go_simp
      simp [Act.put]
      refine wpAnyH_take (i := 3) (v := .slice (some ⟨b, 0, none⟩) N vc) rfl (by kernel_rfl) (by kernel_rfl) (by kernel_rfl) (fun _ _ _ h => h) (Or.inl ⟨by rfl, ?_⟩) hHeld ?_
      · intro W hW
        go_simp
      simp [Act.put]
      refine wpAnyH_take (i := 4) (v := .int .i64 (k : Int)) rfl (by kernel_rfl) (by kernel_rfl) (by kernel_rfl) (fun _ _ _ h => h) (Or.inl ⟨by rfl, ?_⟩) hHeld ?_
      · intro W hW
        go_simp
      simp [Act.put]
      refine wpAnyH_take (i := 5) (v := .pointer (some ⟨b, k * 4, none⟩)) rfl (by kernel_rfl) (by kernel_rfl) (by kernel_rfl) (fun _ _ _ h => h) (Or.inl ⟨by rfl, ?_⟩) hHeld ?_
      · intro W hW
        go_simp
      simp [Act.put]
      refine wpAnyH_take (i := 6) (v := .pointer (some ⟨b, k * 4 + 1, none⟩)) rfl (by kernel_rfl) (by kernel_rfl) (by kernel_rfl) (fun _ _ _ h => h) (Or.inl ⟨by rfl, ?_⟩) hHeld ?_
      · intro W hW
        go_simp
      simp [Act.put]
      refine wpAnyH_take (i := 7) (v := .int .i64 x.s) rfl (by kernel_rfl) (by kernel_rfl) (by kernel_rfl) (fun _ _ _ h => h) (Or.inl ⟨by rfl, ?_⟩) hHeld ?_
      · intro W hW
        obtain ⟨c0, c1, c2, c3⟩ := HXF.out W (belStep W10B.out hW)
        go_simp
      simp [Act.put]
      refine wpAnyH_take (i := 8) (v := .slice (some ⟨b, 0, none⟩) N vc) rfl (by kernel_rfl) (by kernel_rfl) (by kernel_rfl) (fun _ _ _ h => h) (Or.inl ⟨by rfl, ?_⟩) hHeld ?_
      · intro W hW
        go_simp
      simp [Act.put]
      refine wpAnyH_take (i := 9) (v := .int .i64 (k : Int)) rfl (by kernel_rfl) (by kernel_rfl) (by kernel_rfl) (fun _ _ _ h => h) (Or.inl ⟨by rfl, ?_⟩) hHeld ?_
      · intro W hW
        go_simp
      simp [Act.put]
      refine wpAnyH_take (i := 10) (v := .pointer (some ⟨b, k * 4, none⟩)) rfl (by kernel_rfl) (by kernel_rfl) (by kernel_rfl) (fun _ _ _ h => h) (Or.inl ⟨by rfl, ?_⟩) hHeld ?_
      · intro W hW
        go_simp
      simp [Act.put]
      refine wpAnyH_take (i := 11) (v := .pointer (some ⟨b, k * 4 + 1, none⟩)) rfl (by kernel_rfl) (by kernel_rfl) (by kernel_rfl) (fun _ _ _ h => h) (Or.inl ⟨by rfl, ?_⟩) hHeld ?_
      · intro W hW
        go_simp
      simp [Act.put]
      refine wpAnyH_take (i := 12) (v := .int .i64 x.s) rfl (by kernel_rfl) (by kernel_rfl) (by kernel_rfl) (fun _ _ _ h => h) (Or.inl ⟨by rfl, ?_⟩) hHeld ?_
      · intro W hW
        obtain ⟨c0, c1, c2, c3⟩ := HXF.out W (belStep W10B.out hW)
        go_simp
      simp [Act.put]
      refine wpAnyH_take (i := 13) (v := .agg #[.int .i64 1, .int .i64 x.s, .int .i64 1, .int .i64 x.s]) rfl (by kernel_rfl) (by kernel_rfl) (by kernel_rfl) (fun _ _ _ h => h) (Or.inl ⟨by rfl, ?_⟩) hHeld ?_
      · intro W hW
        go_simp
      simp [Act.put]
      refine wpAnyH_ready (rs := [0, 14]) (by kernel_rfl) (by simp) ?_
      refine AllReadyH.cons rfl (fun K hK => ?_) (AllReadyH.cons rfl (fun K hK => ?_) AllReadyH.nil)
      · skip
        go_simp
        have HRe := Lib.hid (emptyRowK V W10.heap.size hHeld.size)
        have hltE : V.heap.size < (V.alloc (.cells #[] 44)).heap.size := by simp
        refine hK.out _ _ (hHeld.trans ((below_alloc1 _ _).mono hHeld.size)) (fun hHeld => ?_)
        clear hK K
        generalize V.alloc (.cells #[] 44) = W7 at *
        refine wpAnyH_ready (rs := [2, 14]) (by kernel_rfl) (by simp) ?_
        refine AllReadyH.cons rfl (fun K hK => ?_) (AllReadyH.cons rfl (fun K hK => ?_) AllReadyH.nil)
        · skip
          rw [if_pos (by rfl)]
          refine appK (.tmp 68) (.tmp 69) rfl W10.heap.size _ [] rfl HRe.out lb 0 lc C (by rw [HCM.out]; rfl) (fun i hi => HLF.out _ (belStep W10B.out hHeld) i (by rw [HCM.out] at hi; exact hi)) (by have h1 := HCL.out; have h2 := HCM.out; simp; omega) hHeld.size ?_
          rintro v1 W8 hrow8 hg8 hown8
          have hB8 := hHeld.trans (HRe.out.belRow hg8 hHeld.size)
          have HR8 : Hid (LkRow W8 W10.heap.size v1 C) := hrow8

          clear hrow8 hg8 hown8 HRe
          refine hK.out _ _ hB8 (fun hHeld => ?_)
          clear hK K hB8
          simp [Act.put]
          refine wpAnyH_ready (rs := [14]) (by kernel_rfl) (by simp) ?_
          refine AllReadyH.cons rfl (fun K hK => ?_) AllReadyH.nil
          go_simp
          have HR8' : Hid (LkRow (W8.alloc (.cells #[.int .i64 1, .int .i64 x.s, .int .i64 1, .int .i64 x.s] 44)) W10.heap.size v1 C) := HR8.out.below (below_alloc1 W8 _)
          have HF8 := Lib.hid ((fun W => oneK (newFourK W ⟨1, x.s, 1, x.s⟩)) W8)
          clear HR8
          have HR8 := Lib.hid HR8'.out
          clear HR8'
          refine hK.out _ _ (hHeld.trans ((below_alloc1 _ _).mono hHeld.size)) (fun hHeld => ?_)
          clear hK K
          refine wpAnyH_ready (rs := [15]) (by kernel_rfl) (by simp) ?_
          refine AllReadyH.cons rfl (fun K hK => ?_) AllReadyH.nil
          rw [if_pos (by rfl)]
          refine appK (.tmp 70) (.tmp 82) rfl W10.heap.size _ C rfl HR8.out _ 0 1 [(⟨1, x.s, 1, x.s⟩ : K4)] rfl HF8.out (by have h1 := HCL.out; have h2 := HCM.out; simp; omega) hHeld.size ?_
          rintro v2 W9' hrow9 hg9 hown9
          have hB9 := hHeld.trans (HR8.out.belRow hg9 hHeld.size)
          have HR9 : Hid (LkRow W9' W10.heap.size v2 (C ++ [(⟨1, x.s, 1, x.s⟩ : K4)])) := hrow9
          clear hrow9 hg9 hown9 HR8 HF8
          refine hK.out _ _ hB9 (fun hHeld => ?_)
          clear hK K hB9
          simp [Act.put]
          refine wpAnyH_take (i := 16) (v := v2) rfl (by kernel_rfl) (by kernel_rfl) (by kernel_rfl) (fun _ _ _ h => h) (Or.inl ⟨by rfl, ?_⟩) hHeld ?_
          · intro W hW
            go_simp
          simp [Act.put]
          refine wpAnyH_done (by kernel_rfl) ?_ _
          have HOWN := Lib.hid (iNetOk_any _ _ _ HR9.out.lks)
          have B11 := Lib.hid (belStep W10B.out hHeld)
          have HTK := Lib.hid (HTKN.out _ hHeld)
          obtain ⟨wa, wc, rfl⟩ : ∃ wa wc, v2 = .slice wa (C ++ [(⟨1, x.s, 1, x.s⟩ : K4)]).length wc := by
            rcases HR9.out.form with ⟨rfl, h⟩ | ⟨_, _, rfl, -⟩
            · simp at h
            · exact ⟨_, _, rfl⟩
          generalize (C ++ [(⟨1, x.s, 1, x.s⟩ : K4)]).length = n2 at *
          have HR9L : Hid (∀ W, Below W9'.heap.size W9' W → Calls Try.prog 32 #[.slice wa n2 wc] W fun e w' => e = .returned (.bool false) ∧ Below W.heap.size W w') := fun W hW => by
            have := iNetOk_any W _ _ ((HR9.out.lks.below hW (Nat.le_refl _)).mono hW.size)
            rwa [HOW.out] at this
          have HTKW : Hid (∀ W, Below W9'.heap.size W9' W → Calls Try.prog 32 #[.slice ta n1 tc] W fun e w' => e = .returned (.bool false) ∧ Below W.heap.size W w') := fun W hW => HTKN.out W (belStep hHeld hW)
          clear HOWN HTK hHeld
          go_wp2_with fail
          refine (HOL.out _ B11.out).mono ?_
          rintro e w12 ⟨rfl, b12⟩
          have B12 := Lib.hid b12
          clear b12
          go_wp2_with fail
          refine (HTKW.out _ B12.out).mono ?_
          rintro e w13 ⟨rfl, b13⟩
          have B13 := Lib.hid (belStep B12.out b13)
          clear b13
          go_wp2_with fail
          refine (HR9L.out _ B13.out).mono ?_
          rintro e w14 ⟨rfl, b14⟩
          have B14 := Lib.hid (belStep B13.out b14)
          have BE := Lib.hid (BW.out _ (belStep B9.out (belStep B11.out B14.out)))
          have h6 := H6.out
          have h6' : (N : Int) ≤ 6 := by omega
          clear b14
          go_wp2
          go_ret
          exact ⟨by first | rfl | (simp; done) | (simp; omega), BE.out⟩
        · skip
          go_simp
          have HF7 := Lib.hid ((fun W => oneK (newFourK W ⟨1, x.s, 1, x.s⟩)) W7)
          have HRe' := Lib.hid (HRe.out.below (below_alloc1 W7 (.cells #[.int .i64 1, .int .i64 x.s, .int .i64 1, .int .i64 x.s] 44)))
          have hlt7 : W7.heap.size < (W7.alloc (.cells #[.int .i64 1, .int .i64 x.s, .int .i64 1, .int .i64 x.s] 44)).heap.size := by simp
          refine hK.out _ _ (hHeld.trans ((below_alloc1 _ _).mono hHeld.size)) (fun hHeld => ?_)
          clear hK K HRe
          have HRe := Lib.hid HRe'.out
          clear HRe'
          refine wpAnyH_ready (rs := [2]) (by kernel_rfl) (by simp) ?_
          refine AllReadyH.cons rfl (fun K hK => ?_) AllReadyH.nil
          rw [if_pos (by rfl)]
          refine appK (.tmp 68) (.tmp 69) rfl W10.heap.size _ [] rfl HRe.out lb 0 lc C (by rw [HCM.out]; rfl) (fun i hi => HLF.out _ (belStep W10B.out hHeld) i (by rw [HCM.out] at hi; exact hi)) (by have h1 := HCL.out; have h2 := HCM.out; simp; omega) hHeld.size ?_
          rintro v1 W8 hrow8 hg8 hown8
          have hB8 := hHeld.trans (HRe.out.belRow hg8 hHeld.size)
          have HR8 : Hid (LkRow W8 W10.heap.size v1 C) := hrow8
          have HF8 := Lib.hid (fks_grown HF7.out hg8 hlt7 (show (some V.heap.size : Option Nat) ≠ some W7.heap.size from fun e => by have := Option.some.inj e; omega))
          clear HF7
          clear hrow8 hg8 hown8 HRe
          refine hK.out _ _ hB8 (fun hHeld => ?_)
          clear hK K hB8
          simp [Act.put]
          refine wpAnyH_ready (rs := [15]) (by kernel_rfl) (by simp) ?_
          refine AllReadyH.cons rfl (fun K hK => ?_) AllReadyH.nil
          rw [if_pos (by rfl)]
          refine appK (.tmp 70) (.tmp 82) rfl W10.heap.size _ C rfl HR8.out _ 0 1 [(⟨1, x.s, 1, x.s⟩ : K4)] rfl HF8.out (by have h1 := HCL.out; have h2 := HCM.out; simp; omega) hHeld.size ?_
          rintro v2 W9' hrow9 hg9 hown9
          have hB9 := hHeld.trans (HR8.out.belRow hg9 hHeld.size)
          have HR9 : Hid (LkRow W9' W10.heap.size v2 (C ++ [(⟨1, x.s, 1, x.s⟩ : K4)])) := hrow9
          clear hrow9 hg9 hown9 HR8 HF8
          refine hK.out _ _ hB9 (fun hHeld => ?_)
          clear hK K hB9
          simp [Act.put]
          refine wpAnyH_take (i := 16) (v := v2) rfl (by kernel_rfl) (by kernel_rfl) (by kernel_rfl) (fun _ _ _ h => h) (Or.inl ⟨by rfl, ?_⟩) hHeld ?_
          · intro W hW
            go_simp
          simp [Act.put]
          refine wpAnyH_done (by kernel_rfl) ?_ _
          have HOWN := Lib.hid (iNetOk_any _ _ _ HR9.out.lks)
          have B11 := Lib.hid (belStep W10B.out hHeld)
          have HTK := Lib.hid (HTKN.out _ hHeld)
          obtain ⟨wa, wc, rfl⟩ : ∃ wa wc, v2 = .slice wa (C ++ [(⟨1, x.s, 1, x.s⟩ : K4)]).length wc := by
            rcases HR9.out.form with ⟨rfl, h⟩ | ⟨_, _, rfl, -⟩
            · simp at h
            · exact ⟨_, _, rfl⟩
          generalize (C ++ [(⟨1, x.s, 1, x.s⟩ : K4)]).length = n2 at *
          have HR9L : Hid (∀ W, Below W9'.heap.size W9' W → Calls Try.prog 32 #[.slice wa n2 wc] W fun e w' => e = .returned (.bool false) ∧ Below W.heap.size W w') := fun W hW => by
            have := iNetOk_any W _ _ ((HR9.out.lks.below hW (Nat.le_refl _)).mono hW.size)
            rwa [HOW.out] at this
          have HTKW : Hid (∀ W, Below W9'.heap.size W9' W → Calls Try.prog 32 #[.slice ta n1 tc] W fun e w' => e = .returned (.bool false) ∧ Below W.heap.size W w') := fun W hW => HTKN.out W (belStep hHeld hW)
          clear HOWN HTK hHeld
          go_wp2_with fail
          refine (HOL.out _ B11.out).mono ?_
          rintro e w12 ⟨rfl, b12⟩
          have B12 := Lib.hid b12
          clear b12
          go_wp2_with fail
          refine (HTKW.out _ B12.out).mono ?_
          rintro e w13 ⟨rfl, b13⟩
          have B13 := Lib.hid (belStep B12.out b13)
          clear b13
          go_wp2_with fail
          refine (HR9L.out _ B13.out).mono ?_
          rintro e w14 ⟨rfl, b14⟩
          have B14 := Lib.hid (belStep B13.out b14)
          have BE := Lib.hid (BW.out _ (belStep B9.out (belStep B11.out B14.out)))
          have h6 := H6.out
          have h6' : (N : Int) ≤ 6 := by omega
          clear b14
          go_wp2
          go_ret
          exact ⟨by first | rfl | (simp; done) | (simp; omega), BE.out⟩
      · skip
        go_simp
        have HF6 := Lib.hid ((fun W => oneK (newFourK W ⟨1, x.s, 1, x.s⟩)) V)
        have hlt6 : V.heap.size < (V.alloc (.cells #[.int .i64 1, .int .i64 x.s, .int .i64 1, .int .i64 x.s] 44)).heap.size := by simp
        refine hK.out _ _ (hHeld.trans ((below_alloc1 _ _).mono hHeld.size)) (fun hHeld => ?_)
        clear hK K
        generalize V.alloc (.cells #[.int .i64 1, .int .i64 x.s, .int .i64 1, .int .i64 x.s] 44) = U at *
        refine wpAnyH_ready (rs := [0]) (by kernel_rfl) (by simp) ?_
        refine AllReadyH.cons rfl (fun K hK => ?_) AllReadyH.nil
        go_simp
        have HRe := Lib.hid (emptyRowK U W10.heap.size hHeld.size)
        have HF7 := Lib.hid (fks_below HF6.out (below_alloc1 U (.cells #[] 44)) hlt6)
        have hlt7 : V.heap.size < (U.alloc (.cells #[] 44)).heap.size := by simp; omega
        refine hK.out _ _ (hHeld.trans ((below_alloc1 _ _).mono hHeld.size)) (fun hHeld => ?_)
        clear hK K HF6
        refine wpAnyH_ready (rs := [2]) (by kernel_rfl) (by simp) ?_
        refine AllReadyH.cons rfl (fun K hK => ?_) AllReadyH.nil
        rw [if_pos (by rfl)]
        refine appK (.tmp 68) (.tmp 69) rfl W10.heap.size _ [] rfl HRe.out lb 0 lc C (by rw [HCM.out]; rfl) (fun i hi => HLF.out _ (belStep W10B.out hHeld) i (by rw [HCM.out] at hi; exact hi)) (by have h1 := HCL.out; have h2 := HCM.out; simp; omega) hHeld.size ?_
        rintro v1 W8 hrow8 hg8 hown8
        have hB8 := hHeld.trans (HRe.out.belRow hg8 hHeld.size)
        have HR8 : Hid (LkRow W8 W10.heap.size v1 C) := hrow8
        have HF8 := Lib.hid (fks_grown HF7.out hg8 hlt7 (show (some U.heap.size : Option Nat) ≠ some V.heap.size from fun e => by have := Option.some.inj e; omega))
        clear HF7
        clear hrow8 hg8 hown8 HRe
        refine hK.out _ _ hB8 (fun hHeld => ?_)
        clear hK K hB8
        simp [Act.put]
        refine wpAnyH_ready (rs := [15]) (by kernel_rfl) (by simp) ?_
        refine AllReadyH.cons rfl (fun K hK => ?_) AllReadyH.nil
        rw [if_pos (by rfl)]
        refine appK (.tmp 70) (.tmp 82) rfl W10.heap.size _ C rfl HR8.out _ 0 1 [(⟨1, x.s, 1, x.s⟩ : K4)] rfl HF8.out (by have h1 := HCL.out; have h2 := HCM.out; simp; omega) hHeld.size ?_
        rintro v2 W9' hrow9 hg9 hown9
        have hB9 := hHeld.trans (HR8.out.belRow hg9 hHeld.size)
        have HR9 : Hid (LkRow W9' W10.heap.size v2 (C ++ [(⟨1, x.s, 1, x.s⟩ : K4)])) := hrow9
        clear hrow9 hg9 hown9 HR8 HF8
        refine hK.out _ _ hB9 (fun hHeld => ?_)
        clear hK K hB9
        simp [Act.put]
        refine wpAnyH_take (i := 16) (v := v2) rfl (by kernel_rfl) (by kernel_rfl) (by kernel_rfl) (fun _ _ _ h => h) (Or.inl ⟨by rfl, ?_⟩) hHeld ?_
        · intro W hW
          go_simp
        simp [Act.put]
        refine wpAnyH_done (by kernel_rfl) ?_ _
        have HOWN := Lib.hid (iNetOk_any _ _ _ HR9.out.lks)
        have B11 := Lib.hid (belStep W10B.out hHeld)
        have HTK := Lib.hid (HTKN.out _ hHeld)
        obtain ⟨wa, wc, rfl⟩ : ∃ wa wc, v2 = .slice wa (C ++ [(⟨1, x.s, 1, x.s⟩ : K4)]).length wc := by
          rcases HR9.out.form with ⟨rfl, h⟩ | ⟨_, _, rfl, -⟩
          · simp at h
          · exact ⟨_, _, rfl⟩
        generalize (C ++ [(⟨1, x.s, 1, x.s⟩ : K4)]).length = n2 at *
        have HR9L : Hid (∀ W, Below W9'.heap.size W9' W → Calls Try.prog 32 #[.slice wa n2 wc] W fun e w' => e = .returned (.bool false) ∧ Below W.heap.size W w') := fun W hW => by
          have := iNetOk_any W _ _ ((HR9.out.lks.below hW (Nat.le_refl _)).mono hW.size)
          rwa [HOW.out] at this
        have HTKW : Hid (∀ W, Below W9'.heap.size W9' W → Calls Try.prog 32 #[.slice ta n1 tc] W fun e w' => e = .returned (.bool false) ∧ Below W.heap.size W w') := fun W hW => HTKN.out W (belStep hHeld hW)
        clear HOWN HTK hHeld
        go_wp2_with fail
        refine (HOL.out _ B11.out).mono ?_
        rintro e w12 ⟨rfl, b12⟩
        have B12 := Lib.hid b12
        clear b12
        go_wp2_with fail
        refine (HTKW.out _ B12.out).mono ?_
        rintro e w13 ⟨rfl, b13⟩
        have B13 := Lib.hid (belStep B12.out b13)
        clear b13
        go_wp2_with fail
        refine (HR9L.out _ B13.out).mono ?_
        rintro e w14 ⟨rfl, b14⟩
        have B14 := Lib.hid (belStep B13.out b14)
        have BE := Lib.hid (BW.out _ (belStep B9.out (belStep B11.out B14.out)))
        have h6 := H6.out
        have h6' : (N : Int) ≤ 6 := by omega
        clear b14
        go_wp2
        go_ret
        exact ⟨by first | rfl | (simp; done) | (simp; omega), BE.out⟩
    · skip
      go_simp
      have HF7 := Lib.hid ((fun W => twoK W x) W7)
      have HRe' := Lib.hid (HRe.out.below (below_alloc1 W7 (.cells #[.int .i64 x.p, .int .i64 x.s, .int .i64 x.o, .int .i64 x.t, .int .i64 x.p, .int .i64 x.s, .int .i64 x.o, .int .i64 x.t] 44)))
      have hlt7 : W7.heap.size < (W7.alloc (.cells #[.int .i64 x.p, .int .i64 x.s, .int .i64 x.o, .int .i64 x.t, .int .i64 x.p, .int .i64 x.s, .int .i64 x.o, .int .i64 x.t] 44)).heap.size := by simp
      refine hK.out _ _ (hHeld.trans ((below_alloc1 _ _).mono hHeld.size)) (fun hHeld => ?_)
      clear hK K HRe
      have HRe := Lib.hid HRe'.out
      clear HRe'
      refine wpAnyH_ready (rs := [2]) (by kernel_rfl) (by simp) ?_
      refine AllReadyH.cons rfl (fun K hK => ?_) AllReadyH.nil
      rw [if_pos (by rfl)]
      refine appK (.tmp 55) (.tmp 56) rfl W9.heap.size _ [] rfl HRe.out lb 0 lc C (by rw [HCM.out]; rfl) (fun i hi => HLF.out _ (belStep W9B.out hHeld) i (by rw [HCM.out] at hi; exact hi)) (by have h1 := HCL.out; have h2 := HCM.out; simp; omega) hHeld.size ?_
      rintro v1 W8 hrow8 hg8 hown8
      have hB8 := hHeld.trans (HRe.out.belRow hg8 hHeld.size)
      have HR8 : Hid (LkRow W8 W9.heap.size v1 C) := hrow8
      have HF8 := Lib.hid (fks_grown HF7.out hg8 hlt7 (show (some V.heap.size : Option Nat) ≠ some W7.heap.size from fun e => by have := Option.some.inj e; omega))
      clear HF7
      clear hrow8 hg8 hown8 HRe
      refine hK.out _ _ hB8 (fun hHeld => ?_)
      clear hK K hB8
      simp [Act.put]
      refine wpAnyH_ready (rs := [12]) (by kernel_rfl) (by simp) ?_
      refine AllReadyH.cons rfl (fun K hK => ?_) AllReadyH.nil
      rw [if_pos (by rfl)]
      refine appK (.tmp 57) (.tmp 66) rfl W9.heap.size _ C rfl HR8.out _ 0 2 [x, x] rfl HF8.out (by have h1 := HCL.out; have h2 := HCM.out; simp; omega) hHeld.size ?_
      rintro v2 W9' hrow9 hg9 hown9
      have hB9 := hHeld.trans (HR8.out.belRow hg9 hHeld.size)
      have HR9 : Hid (LkRow W9' W9.heap.size v2 (C ++ [x, x])) := hrow9
      clear hrow9 hg9 hown9 HR8 HF8
      refine hK.out _ _ hB9 (fun hHeld => ?_)
      clear hK K hB9
      simp [Act.put]
      refine wpAnyH_take (i := 13) (v := v2) rfl (by kernel_rfl) (by kernel_rfl) (by kernel_rfl) (fun _ _ _ h => h) (Or.inl ⟨by rfl, ?_⟩) hHeld ?_
      · intro W hW
        go_simp
      simp [Act.put]
      refine wpAnyH_done (by kernel_rfl) ?_ _
      obtain ⟨ta, tc, rfl⟩ : ∃ ta tc, v2 = .slice ta (C ++ [x, x]).length tc := by
        rcases HR9.out.form with ⟨rfl, h⟩ | ⟨_, _, rfl, -⟩
        · simp at h
        · exact ⟨_, _, rfl⟩
      generalize (C ++ [x, x]).length = n1 at *
      have HTKN : Hid (∀ W, Below W9'.heap.size W9' W → Calls Try.prog 32 #[.slice ta n1 tc] W fun e w' => e = .returned (.bool false) ∧ Below W.heap.size W w') := fun W hW => by
        have := iNetOk_any W _ _ ((HR9.out.lks.below hW (Nat.le_refl _)).mono hW.size)
        rwa [HTW.out] at this
      have W10B : Hid (Below W9.heap.size W9 W9') := belStep W9B.out hHeld
      clear HR9 hHeld
      generalize W9' = W10 at *
      go_wp2_with fail
      refine wp_region_held_drew (S := fun W => Below W10.heap.size W10 W) (by kernel_rfl) (Below.refl _ _).drew (fun hHeld => ?_)
      generalize hVV : W10.drew = V at *
      clear hVV
      refine wpAnyH_take (i := 1) (v := .slice (some ⟨lb, 0, none⟩) M lc) rfl (by kernel_rfl) (by kernel_rfl) (by kernel_rfl) (fun _ _ _ h => h) (Or.inl ⟨by rfl, ?_⟩) hHeld ?_
      · intro W hW
        go_simp
      simp [Act.put]
      refine wpAnyH_take (i := 3) (v := .slice (some ⟨b, 0, none⟩) N vc) rfl (by kernel_rfl) (by kernel_rfl) (by kernel_rfl) (fun _ _ _ h => h) (Or.inl ⟨by rfl, ?_⟩) hHeld ?_
      · intro W hW
        go_simp
      simp [Act.put]
      refine wpAnyH_take (i := 4) (v := .int .i64 (k : Int)) rfl (by kernel_rfl) (by kernel_rfl) (by kernel_rfl) (fun _ _ _ h => h) (Or.inl ⟨by rfl, ?_⟩) hHeld ?_
      · intro W hW
        go_simp
      simp [Act.put]
      refine wpAnyH_take (i := 5) (v := .pointer (some ⟨b, k * 4, none⟩)) rfl (by kernel_rfl) (by kernel_rfl) (by kernel_rfl) (fun _ _ _ h => h) (Or.inl ⟨by rfl, ?_⟩) hHeld ?_
      · intro W hW
        go_simp
      simp [Act.put]
      refine wpAnyH_take (i := 6) (v := .pointer (some ⟨b, k * 4 + 1, none⟩)) rfl (by kernel_rfl) (by kernel_rfl) (by kernel_rfl) (fun _ _ _ h => h) (Or.inl ⟨by rfl, ?_⟩) hHeld ?_
      · intro W hW
        go_simp
      simp [Act.put]
      refine wpAnyH_take (i := 7) (v := .int .i64 x.s) rfl (by kernel_rfl) (by kernel_rfl) (by kernel_rfl) (fun _ _ _ h => h) (Or.inl ⟨by rfl, ?_⟩) hHeld ?_
      · intro W hW
        obtain ⟨c0, c1, c2, c3⟩ := HXF.out W (belStep W10B.out hW)
        go_simp
      simp [Act.put]
      refine wpAnyH_take (i := 8) (v := .slice (some ⟨b, 0, none⟩) N vc) rfl (by kernel_rfl) (by kernel_rfl) (by kernel_rfl) (fun _ _ _ h => h) (Or.inl ⟨by rfl, ?_⟩) hHeld ?_
      · intro W hW
        go_simp
      simp [Act.put]
      refine wpAnyH_take (i := 9) (v := .int .i64 (k : Int)) rfl (by kernel_rfl) (by kernel_rfl) (by kernel_rfl) (fun _ _ _ h => h) (Or.inl ⟨by rfl, ?_⟩) hHeld ?_
      · intro W hW
        go_simp
      simp [Act.put]
      refine wpAnyH_take (i := 10) (v := .pointer (some ⟨b, k * 4, none⟩)) rfl (by kernel_rfl) (by kernel_rfl) (by kernel_rfl) (fun _ _ _ h => h) (Or.inl ⟨by rfl, ?_⟩) hHeld ?_
      · intro W hW
        go_simp
      simp [Act.put]
      refine wpAnyH_take (i := 11) (v := .pointer (some ⟨b, k * 4 + 1, none⟩)) rfl (by kernel_rfl) (by kernel_rfl) (by kernel_rfl) (fun _ _ _ h => h) (Or.inl ⟨by rfl, ?_⟩) hHeld ?_
      · intro W hW
        go_simp
      simp [Act.put]
      refine wpAnyH_take (i := 12) (v := .int .i64 x.s) rfl (by kernel_rfl) (by kernel_rfl) (by kernel_rfl) (fun _ _ _ h => h) (Or.inl ⟨by rfl, ?_⟩) hHeld ?_
      · intro W hW
        obtain ⟨c0, c1, c2, c3⟩ := HXF.out W (belStep W10B.out hW)
        go_simp
      simp [Act.put]
      refine wpAnyH_take (i := 13) (v := .agg #[.int .i64 1, .int .i64 x.s, .int .i64 1, .int .i64 x.s]) rfl (by kernel_rfl) (by kernel_rfl) (by kernel_rfl) (fun _ _ _ h => h) (Or.inl ⟨by rfl, ?_⟩) hHeld ?_
      · intro W hW
        go_simp
      simp [Act.put]
      refine wpAnyH_ready (rs := [0, 14]) (by kernel_rfl) (by simp) ?_
      refine AllReadyH.cons rfl (fun K hK => ?_) (AllReadyH.cons rfl (fun K hK => ?_) AllReadyH.nil)
      · skip
        go_simp
        have HRe := Lib.hid (emptyRowK V W10.heap.size hHeld.size)
        have hltE : V.heap.size < (V.alloc (.cells #[] 44)).heap.size := by simp
        refine hK.out _ _ (hHeld.trans ((below_alloc1 _ _).mono hHeld.size)) (fun hHeld => ?_)
        clear hK K
        generalize V.alloc (.cells #[] 44) = W7 at *
        refine wpAnyH_ready (rs := [2, 14]) (by kernel_rfl) (by simp) ?_
        refine AllReadyH.cons rfl (fun K hK => ?_) (AllReadyH.cons rfl (fun K hK => ?_) AllReadyH.nil)
        · skip
          rw [if_pos (by rfl)]
          refine appK (.tmp 68) (.tmp 69) rfl W10.heap.size _ [] rfl HRe.out lb 0 lc C (by rw [HCM.out]; rfl) (fun i hi => HLF.out _ (belStep W10B.out hHeld) i (by rw [HCM.out] at hi; exact hi)) (by have h1 := HCL.out; have h2 := HCM.out; simp; omega) hHeld.size ?_
          rintro v1 W8 hrow8 hg8 hown8
          have hB8 := hHeld.trans (HRe.out.belRow hg8 hHeld.size)
          have HR8 : Hid (LkRow W8 W10.heap.size v1 C) := hrow8

          clear hrow8 hg8 hown8 HRe
          refine hK.out _ _ hB8 (fun hHeld => ?_)
          clear hK K hB8
          simp [Act.put]
          refine wpAnyH_ready (rs := [14]) (by kernel_rfl) (by simp) ?_
          refine AllReadyH.cons rfl (fun K hK => ?_) AllReadyH.nil
          go_simp
          have HR8' : Hid (LkRow (W8.alloc (.cells #[.int .i64 1, .int .i64 x.s, .int .i64 1, .int .i64 x.s] 44)) W10.heap.size v1 C) := HR8.out.below (below_alloc1 W8 _)
          have HF8 := Lib.hid ((fun W => oneK (newFourK W ⟨1, x.s, 1, x.s⟩)) W8)
          clear HR8
          have HR8 := Lib.hid HR8'.out
          clear HR8'
          refine hK.out _ _ (hHeld.trans ((below_alloc1 _ _).mono hHeld.size)) (fun hHeld => ?_)
          clear hK K
          refine wpAnyH_ready (rs := [15]) (by kernel_rfl) (by simp) ?_
          refine AllReadyH.cons rfl (fun K hK => ?_) AllReadyH.nil
          rw [if_pos (by rfl)]
          refine appK (.tmp 70) (.tmp 82) rfl W10.heap.size _ C rfl HR8.out _ 0 1 [(⟨1, x.s, 1, x.s⟩ : K4)] rfl HF8.out (by have h1 := HCL.out; have h2 := HCM.out; simp; omega) hHeld.size ?_
          rintro v2 W9' hrow9 hg9 hown9
          have hB9 := hHeld.trans (HR8.out.belRow hg9 hHeld.size)
          have HR9 : Hid (LkRow W9' W10.heap.size v2 (C ++ [(⟨1, x.s, 1, x.s⟩ : K4)])) := hrow9
          clear hrow9 hg9 hown9 HR8 HF8
          refine hK.out _ _ hB9 (fun hHeld => ?_)
          clear hK K hB9
          simp [Act.put]
          refine wpAnyH_take (i := 16) (v := v2) rfl (by kernel_rfl) (by kernel_rfl) (by kernel_rfl) (fun _ _ _ h => h) (Or.inl ⟨by rfl, ?_⟩) hHeld ?_
          · intro W hW
            go_simp
          simp [Act.put]
          refine wpAnyH_done (by kernel_rfl) ?_ _
          have HOWN := Lib.hid (iNetOk_any _ _ _ HR9.out.lks)
          have B11 := Lib.hid (belStep W10B.out hHeld)
          have HTK := Lib.hid (HTKN.out _ hHeld)
          obtain ⟨wa, wc, rfl⟩ : ∃ wa wc, v2 = .slice wa (C ++ [(⟨1, x.s, 1, x.s⟩ : K4)]).length wc := by
            rcases HR9.out.form with ⟨rfl, h⟩ | ⟨_, _, rfl, -⟩
            · simp at h
            · exact ⟨_, _, rfl⟩
          generalize (C ++ [(⟨1, x.s, 1, x.s⟩ : K4)]).length = n2 at *
          have HR9L : Hid (∀ W, Below W9'.heap.size W9' W → Calls Try.prog 32 #[.slice wa n2 wc] W fun e w' => e = .returned (.bool false) ∧ Below W.heap.size W w') := fun W hW => by
            have := iNetOk_any W _ _ ((HR9.out.lks.below hW (Nat.le_refl _)).mono hW.size)
            rwa [HOW.out] at this
          have HTKW : Hid (∀ W, Below W9'.heap.size W9' W → Calls Try.prog 32 #[.slice ta n1 tc] W fun e w' => e = .returned (.bool false) ∧ Below W.heap.size W w') := fun W hW => HTKN.out W (belStep hHeld hW)
          clear HOWN HTK hHeld
          go_wp2_with fail
          refine (HOL.out _ B11.out).mono ?_
          rintro e w12 ⟨rfl, b12⟩
          have B12 := Lib.hid b12
          clear b12
          go_wp2_with fail
          refine (HTKW.out _ B12.out).mono ?_
          rintro e w13 ⟨rfl, b13⟩
          have B13 := Lib.hid (belStep B12.out b13)
          clear b13
          go_wp2_with fail
          refine (HR9L.out _ B13.out).mono ?_
          rintro e w14 ⟨rfl, b14⟩
          have B14 := Lib.hid (belStep B13.out b14)
          have BE := Lib.hid (BW.out _ (belStep B9.out (belStep B11.out B14.out)))
          have h6 := H6.out
          have h6' : (N : Int) ≤ 6 := by omega
          clear b14
          go_wp2
          go_ret
          exact ⟨by first | rfl | (simp; done) | (simp; omega), BE.out⟩
        · skip
          go_simp
          have HF7 := Lib.hid ((fun W => oneK (newFourK W ⟨1, x.s, 1, x.s⟩)) W7)
          have HRe' := Lib.hid (HRe.out.below (below_alloc1 W7 (.cells #[.int .i64 1, .int .i64 x.s, .int .i64 1, .int .i64 x.s] 44)))
          have hlt7 : W7.heap.size < (W7.alloc (.cells #[.int .i64 1, .int .i64 x.s, .int .i64 1, .int .i64 x.s] 44)).heap.size := by simp
          refine hK.out _ _ (hHeld.trans ((below_alloc1 _ _).mono hHeld.size)) (fun hHeld => ?_)
          clear hK K HRe
          have HRe := Lib.hid HRe'.out
          clear HRe'
          refine wpAnyH_ready (rs := [2]) (by kernel_rfl) (by simp) ?_
          refine AllReadyH.cons rfl (fun K hK => ?_) AllReadyH.nil
          rw [if_pos (by rfl)]
          refine appK (.tmp 68) (.tmp 69) rfl W10.heap.size _ [] rfl HRe.out lb 0 lc C (by rw [HCM.out]; rfl) (fun i hi => HLF.out _ (belStep W10B.out hHeld) i (by rw [HCM.out] at hi; exact hi)) (by have h1 := HCL.out; have h2 := HCM.out; simp; omega) hHeld.size ?_
          rintro v1 W8 hrow8 hg8 hown8
          have hB8 := hHeld.trans (HRe.out.belRow hg8 hHeld.size)
          have HR8 : Hid (LkRow W8 W10.heap.size v1 C) := hrow8
          have HF8 := Lib.hid (fks_grown HF7.out hg8 hlt7 (show (some V.heap.size : Option Nat) ≠ some W7.heap.size from fun e => by have := Option.some.inj e; omega))
          clear HF7
          clear hrow8 hg8 hown8 HRe
          refine hK.out _ _ hB8 (fun hHeld => ?_)
          clear hK K hB8
          simp [Act.put]
          refine wpAnyH_ready (rs := [15]) (by kernel_rfl) (by simp) ?_
          refine AllReadyH.cons rfl (fun K hK => ?_) AllReadyH.nil
          rw [if_pos (by rfl)]
          refine appK (.tmp 70) (.tmp 82) rfl W10.heap.size _ C rfl HR8.out _ 0 1 [(⟨1, x.s, 1, x.s⟩ : K4)] rfl HF8.out (by have h1 := HCL.out; have h2 := HCM.out; simp; omega) hHeld.size ?_
          rintro v2 W9' hrow9 hg9 hown9
          have hB9 := hHeld.trans (HR8.out.belRow hg9 hHeld.size)
          have HR9 : Hid (LkRow W9' W10.heap.size v2 (C ++ [(⟨1, x.s, 1, x.s⟩ : K4)])) := hrow9
          clear hrow9 hg9 hown9 HR8 HF8
          refine hK.out _ _ hB9 (fun hHeld => ?_)
          clear hK K hB9
          simp [Act.put]
          refine wpAnyH_take (i := 16) (v := v2) rfl (by kernel_rfl) (by kernel_rfl) (by kernel_rfl) (fun _ _ _ h => h) (Or.inl ⟨by rfl, ?_⟩) hHeld ?_
          · intro W hW
            go_simp
          simp [Act.put]
          refine wpAnyH_done (by kernel_rfl) ?_ _
          have HOWN := Lib.hid (iNetOk_any _ _ _ HR9.out.lks)
          have B11 := Lib.hid (belStep W10B.out hHeld)
          have HTK := Lib.hid (HTKN.out _ hHeld)
          obtain ⟨wa, wc, rfl⟩ : ∃ wa wc, v2 = .slice wa (C ++ [(⟨1, x.s, 1, x.s⟩ : K4)]).length wc := by
            rcases HR9.out.form with ⟨rfl, h⟩ | ⟨_, _, rfl, -⟩
            · simp at h
            · exact ⟨_, _, rfl⟩
          generalize (C ++ [(⟨1, x.s, 1, x.s⟩ : K4)]).length = n2 at *
          have HR9L : Hid (∀ W, Below W9'.heap.size W9' W → Calls Try.prog 32 #[.slice wa n2 wc] W fun e w' => e = .returned (.bool false) ∧ Below W.heap.size W w') := fun W hW => by
            have := iNetOk_any W _ _ ((HR9.out.lks.below hW (Nat.le_refl _)).mono hW.size)
            rwa [HOW.out] at this
          have HTKW : Hid (∀ W, Below W9'.heap.size W9' W → Calls Try.prog 32 #[.slice ta n1 tc] W fun e w' => e = .returned (.bool false) ∧ Below W.heap.size W w') := fun W hW => HTKN.out W (belStep hHeld hW)
          clear HOWN HTK hHeld
          go_wp2_with fail
          refine (HOL.out _ B11.out).mono ?_
          rintro e w12 ⟨rfl, b12⟩
          have B12 := Lib.hid b12
          clear b12
          go_wp2_with fail
          refine (HTKW.out _ B12.out).mono ?_
          rintro e w13 ⟨rfl, b13⟩
          have B13 := Lib.hid (belStep B12.out b13)
          clear b13
          go_wp2_with fail
          refine (HR9L.out _ B13.out).mono ?_
          rintro e w14 ⟨rfl, b14⟩
          have B14 := Lib.hid (belStep B13.out b14)
          have BE := Lib.hid (BW.out _ (belStep B9.out (belStep B11.out B14.out)))
          have h6 := H6.out
          have h6' : (N : Int) ≤ 6 := by omega
          clear b14
          go_wp2
          go_ret
          exact ⟨by first | rfl | (simp; done) | (simp; omega), BE.out⟩
      · skip
        go_simp
        have HF6 := Lib.hid ((fun W => oneK (newFourK W ⟨1, x.s, 1, x.s⟩)) V)
        have hlt6 : V.heap.size < (V.alloc (.cells #[.int .i64 1, .int .i64 x.s, .int .i64 1, .int .i64 x.s] 44)).heap.size := by simp
        refine hK.out _ _ (hHeld.trans ((below_alloc1 _ _).mono hHeld.size)) (fun hHeld => ?_)
        clear hK K
        generalize V.alloc (.cells #[.int .i64 1, .int .i64 x.s, .int .i64 1, .int .i64 x.s] 44) = U at *
        refine wpAnyH_ready (rs := [0]) (by kernel_rfl) (by simp) ?_
        refine AllReadyH.cons rfl (fun K hK => ?_) AllReadyH.nil
        go_simp
        have HRe := Lib.hid (emptyRowK U W10.heap.size hHeld.size)
        have HF7 := Lib.hid (fks_below HF6.out (below_alloc1 U (.cells #[] 44)) hlt6)
        have hlt7 : V.heap.size < (U.alloc (.cells #[] 44)).heap.size := by simp; omega
        refine hK.out _ _ (hHeld.trans ((below_alloc1 _ _).mono hHeld.size)) (fun hHeld => ?_)
        clear hK K HF6
        refine wpAnyH_ready (rs := [2]) (by kernel_rfl) (by simp) ?_
        refine AllReadyH.cons rfl (fun K hK => ?_) AllReadyH.nil
        rw [if_pos (by rfl)]
        refine appK (.tmp 68) (.tmp 69) rfl W10.heap.size _ [] rfl HRe.out lb 0 lc C (by rw [HCM.out]; rfl) (fun i hi => HLF.out _ (belStep W10B.out hHeld) i (by rw [HCM.out] at hi; exact hi)) (by have h1 := HCL.out; have h2 := HCM.out; simp; omega) hHeld.size ?_
        rintro v1 W8 hrow8 hg8 hown8
        have hB8 := hHeld.trans (HRe.out.belRow hg8 hHeld.size)
        have HR8 : Hid (LkRow W8 W10.heap.size v1 C) := hrow8
        have HF8 := Lib.hid (fks_grown HF7.out hg8 hlt7 (show (some U.heap.size : Option Nat) ≠ some V.heap.size from fun e => by have := Option.some.inj e; omega))
        clear HF7
        clear hrow8 hg8 hown8 HRe
        refine hK.out _ _ hB8 (fun hHeld => ?_)
        clear hK K hB8
        simp [Act.put]
        refine wpAnyH_ready (rs := [15]) (by kernel_rfl) (by simp) ?_
        refine AllReadyH.cons rfl (fun K hK => ?_) AllReadyH.nil
        rw [if_pos (by rfl)]
        refine appK (.tmp 70) (.tmp 82) rfl W10.heap.size _ C rfl HR8.out _ 0 1 [(⟨1, x.s, 1, x.s⟩ : K4)] rfl HF8.out (by have h1 := HCL.out; have h2 := HCM.out; simp; omega) hHeld.size ?_
        rintro v2 W9' hrow9 hg9 hown9
        have hB9 := hHeld.trans (HR8.out.belRow hg9 hHeld.size)
        have HR9 : Hid (LkRow W9' W10.heap.size v2 (C ++ [(⟨1, x.s, 1, x.s⟩ : K4)])) := hrow9
        clear hrow9 hg9 hown9 HR8 HF8
        refine hK.out _ _ hB9 (fun hHeld => ?_)
        clear hK K hB9
        simp [Act.put]
        refine wpAnyH_take (i := 16) (v := v2) rfl (by kernel_rfl) (by kernel_rfl) (by kernel_rfl) (fun _ _ _ h => h) (Or.inl ⟨by rfl, ?_⟩) hHeld ?_
        · intro W hW
          go_simp
        simp [Act.put]
        refine wpAnyH_done (by kernel_rfl) ?_ _
        have HOWN := Lib.hid (iNetOk_any _ _ _ HR9.out.lks)
        have B11 := Lib.hid (belStep W10B.out hHeld)
        have HTK := Lib.hid (HTKN.out _ hHeld)
        obtain ⟨wa, wc, rfl⟩ : ∃ wa wc, v2 = .slice wa (C ++ [(⟨1, x.s, 1, x.s⟩ : K4)]).length wc := by
          rcases HR9.out.form with ⟨rfl, h⟩ | ⟨_, _, rfl, -⟩
          · simp at h
          · exact ⟨_, _, rfl⟩
        generalize (C ++ [(⟨1, x.s, 1, x.s⟩ : K4)]).length = n2 at *
        have HR9L : Hid (∀ W, Below W9'.heap.size W9' W → Calls Try.prog 32 #[.slice wa n2 wc] W fun e w' => e = .returned (.bool false) ∧ Below W.heap.size W w') := fun W hW => by
          have := iNetOk_any W _ _ ((HR9.out.lks.below hW (Nat.le_refl _)).mono hW.size)
          rwa [HOW.out] at this
        have HTKW : Hid (∀ W, Below W9'.heap.size W9' W → Calls Try.prog 32 #[.slice ta n1 tc] W fun e w' => e = .returned (.bool false) ∧ Below W.heap.size W w') := fun W hW => HTKN.out W (belStep hHeld hW)
        clear HOWN HTK hHeld
        go_wp2_with fail
        refine (HOL.out _ B11.out).mono ?_
        rintro e w12 ⟨rfl, b12⟩
        have B12 := Lib.hid b12
        clear b12
        go_wp2_with fail
        refine (HTKW.out _ B12.out).mono ?_
        rintro e w13 ⟨rfl, b13⟩
        have B13 := Lib.hid (belStep B12.out b13)
        clear b13
        go_wp2_with fail
        refine (HR9L.out _ B13.out).mono ?_
        rintro e w14 ⟨rfl, b14⟩
        have B14 := Lib.hid (belStep B13.out b14)
        have BE := Lib.hid (BW.out _ (belStep B9.out (belStep B11.out B14.out)))
        have h6 := H6.out
        have h6' : (N : Int) ≤ 6 := by omega
        clear b14
        go_wp2
        go_ret
        exact ⟨by first | rfl | (simp; done) | (simp; omega), BE.out⟩
  · skip
    go_simp
    have HF6 := Lib.hid ((fun W => twoK W x) V)
    have hlt6 : V.heap.size < (V.alloc (.cells #[.int .i64 x.p, .int .i64 x.s, .int .i64 x.o, .int .i64 x.t, .int .i64 x.p, .int .i64 x.s, .int .i64 x.o, .int .i64 x.t] 44)).heap.size := by simp
    refine hK.out _ _ (hHeld.trans ((below_alloc1 _ _).mono hHeld.size)) (fun hHeld => ?_)
    clear hK K
    generalize V.alloc (.cells #[.int .i64 x.p, .int .i64 x.s, .int .i64 x.o, .int .i64 x.t, .int .i64 x.p, .int .i64 x.s, .int .i64 x.o, .int .i64 x.t] 44) = U at *
    refine wpAnyH_ready (rs := [0]) (by kernel_rfl) (by simp) ?_
    refine AllReadyH.cons rfl (fun K hK => ?_) AllReadyH.nil
    go_simp
    have HRe := Lib.hid (emptyRowK U W9.heap.size hHeld.size)
    have HF7 := Lib.hid (fks_below HF6.out (below_alloc1 U (.cells #[] 44)) hlt6)
    have hlt7 : V.heap.size < (U.alloc (.cells #[] 44)).heap.size := by simp; omega
    refine hK.out _ _ (hHeld.trans ((below_alloc1 _ _).mono hHeld.size)) (fun hHeld => ?_)
    clear hK K HF6
    refine wpAnyH_ready (rs := [2]) (by kernel_rfl) (by simp) ?_
    refine AllReadyH.cons rfl (fun K hK => ?_) AllReadyH.nil
    rw [if_pos (by rfl)]
    refine appK (.tmp 55) (.tmp 56) rfl W9.heap.size _ [] rfl HRe.out lb 0 lc C (by rw [HCM.out]; rfl) (fun i hi => HLF.out _ (belStep W9B.out hHeld) i (by rw [HCM.out] at hi; exact hi)) (by have h1 := HCL.out; have h2 := HCM.out; simp; omega) hHeld.size ?_
    rintro v1 W8 hrow8 hg8 hown8
    have hB8 := hHeld.trans (HRe.out.belRow hg8 hHeld.size)
    have HR8 : Hid (LkRow W8 W9.heap.size v1 C) := hrow8
    have HF8 := Lib.hid (fks_grown HF7.out hg8 hlt7 (show (some U.heap.size : Option Nat) ≠ some V.heap.size from fun e => by have := Option.some.inj e; omega))
    clear HF7
    clear hrow8 hg8 hown8 HRe
    refine hK.out _ _ hB8 (fun hHeld => ?_)
    clear hK K hB8
    simp [Act.put]
    refine wpAnyH_ready (rs := [12]) (by kernel_rfl) (by simp) ?_
    refine AllReadyH.cons rfl (fun K hK => ?_) AllReadyH.nil
    rw [if_pos (by rfl)]
    refine appK (.tmp 57) (.tmp 66) rfl W9.heap.size _ C rfl HR8.out _ 0 2 [x, x] rfl HF8.out (by have h1 := HCL.out; have h2 := HCM.out; simp; omega) hHeld.size ?_
    rintro v2 W9' hrow9 hg9 hown9
    have hB9 := hHeld.trans (HR8.out.belRow hg9 hHeld.size)
    have HR9 : Hid (LkRow W9' W9.heap.size v2 (C ++ [x, x])) := hrow9
    clear hrow9 hg9 hown9 HR8 HF8
    refine hK.out _ _ hB9 (fun hHeld => ?_)
    clear hK K hB9
    simp [Act.put]
    refine wpAnyH_take (i := 13) (v := v2) rfl (by kernel_rfl) (by kernel_rfl) (by kernel_rfl) (fun _ _ _ h => h) (Or.inl ⟨by rfl, ?_⟩) hHeld ?_
    · intro W hW
      go_simp
    simp [Act.put]
    refine wpAnyH_done (by kernel_rfl) ?_ _
    obtain ⟨ta, tc, rfl⟩ : ∃ ta tc, v2 = .slice ta (C ++ [x, x]).length tc := by
      rcases HR9.out.form with ⟨rfl, h⟩ | ⟨_, _, rfl, -⟩
      · simp at h
      · exact ⟨_, _, rfl⟩
    generalize (C ++ [x, x]).length = n1 at *
    have HTKN : Hid (∀ W, Below W9'.heap.size W9' W → Calls Try.prog 32 #[.slice ta n1 tc] W fun e w' => e = .returned (.bool false) ∧ Below W.heap.size W w') := fun W hW => by
      have := iNetOk_any W _ _ ((HR9.out.lks.below hW (Nat.le_refl _)).mono hW.size)
      rwa [HTW.out] at this
    have W10B : Hid (Below W9.heap.size W9 W9') := belStep W9B.out hHeld
    clear HR9 hHeld
    generalize W9' = W10 at *
    go_wp2_with fail
    refine wp_region_held_drew (S := fun W => Below W10.heap.size W10 W) (by kernel_rfl) (Below.refl _ _).drew (fun hHeld => ?_)
    generalize hVV : W10.drew = V at *
    clear hVV
    refine wpAnyH_take (i := 1) (v := .slice (some ⟨lb, 0, none⟩) M lc) rfl (by kernel_rfl) (by kernel_rfl) (by kernel_rfl) (fun _ _ _ h => h) (Or.inl ⟨by rfl, ?_⟩) hHeld ?_
    · intro W hW
      go_simp
    simp [Act.put]
    refine wpAnyH_take (i := 3) (v := .slice (some ⟨b, 0, none⟩) N vc) rfl (by kernel_rfl) (by kernel_rfl) (by kernel_rfl) (fun _ _ _ h => h) (Or.inl ⟨by rfl, ?_⟩) hHeld ?_
    · intro W hW
      go_simp
    simp [Act.put]
    refine wpAnyH_take (i := 4) (v := .int .i64 (k : Int)) rfl (by kernel_rfl) (by kernel_rfl) (by kernel_rfl) (fun _ _ _ h => h) (Or.inl ⟨by rfl, ?_⟩) hHeld ?_
    · intro W hW
      go_simp
    simp [Act.put]
    refine wpAnyH_take (i := 5) (v := .pointer (some ⟨b, k * 4, none⟩)) rfl (by kernel_rfl) (by kernel_rfl) (by kernel_rfl) (fun _ _ _ h => h) (Or.inl ⟨by rfl, ?_⟩) hHeld ?_
    · intro W hW
      go_simp
    simp [Act.put]
    refine wpAnyH_take (i := 6) (v := .pointer (some ⟨b, k * 4 + 1, none⟩)) rfl (by kernel_rfl) (by kernel_rfl) (by kernel_rfl) (fun _ _ _ h => h) (Or.inl ⟨by rfl, ?_⟩) hHeld ?_
    · intro W hW
      go_simp
    simp [Act.put]
    refine wpAnyH_take (i := 7) (v := .int .i64 x.s) rfl (by kernel_rfl) (by kernel_rfl) (by kernel_rfl) (fun _ _ _ h => h) (Or.inl ⟨by rfl, ?_⟩) hHeld ?_
    · intro W hW
      obtain ⟨c0, c1, c2, c3⟩ := HXF.out W (belStep W10B.out hW)
      go_simp
    simp [Act.put]
    refine wpAnyH_take (i := 8) (v := .slice (some ⟨b, 0, none⟩) N vc) rfl (by kernel_rfl) (by kernel_rfl) (by kernel_rfl) (fun _ _ _ h => h) (Or.inl ⟨by rfl, ?_⟩) hHeld ?_
    · intro W hW
      go_simp
    simp [Act.put]
    refine wpAnyH_take (i := 9) (v := .int .i64 (k : Int)) rfl (by kernel_rfl) (by kernel_rfl) (by kernel_rfl) (fun _ _ _ h => h) (Or.inl ⟨by rfl, ?_⟩) hHeld ?_
    · intro W hW
      go_simp
    simp [Act.put]
    refine wpAnyH_take (i := 10) (v := .pointer (some ⟨b, k * 4, none⟩)) rfl (by kernel_rfl) (by kernel_rfl) (by kernel_rfl) (fun _ _ _ h => h) (Or.inl ⟨by rfl, ?_⟩) hHeld ?_
    · intro W hW
      go_simp
    simp [Act.put]
    refine wpAnyH_take (i := 11) (v := .pointer (some ⟨b, k * 4 + 1, none⟩)) rfl (by kernel_rfl) (by kernel_rfl) (by kernel_rfl) (fun _ _ _ h => h) (Or.inl ⟨by rfl, ?_⟩) hHeld ?_
    · intro W hW
      go_simp
    simp [Act.put]
    refine wpAnyH_take (i := 12) (v := .int .i64 x.s) rfl (by kernel_rfl) (by kernel_rfl) (by kernel_rfl) (fun _ _ _ h => h) (Or.inl ⟨by rfl, ?_⟩) hHeld ?_
    · intro W hW
      obtain ⟨c0, c1, c2, c3⟩ := HXF.out W (belStep W10B.out hW)
      go_simp
    simp [Act.put]
    refine wpAnyH_take (i := 13) (v := .agg #[.int .i64 1, .int .i64 x.s, .int .i64 1, .int .i64 x.s]) rfl (by kernel_rfl) (by kernel_rfl) (by kernel_rfl) (fun _ _ _ h => h) (Or.inl ⟨by rfl, ?_⟩) hHeld ?_
    · intro W hW
      go_simp
    simp [Act.put]
    refine wpAnyH_ready (rs := [0, 14]) (by kernel_rfl) (by simp) ?_
    refine AllReadyH.cons rfl (fun K hK => ?_) (AllReadyH.cons rfl (fun K hK => ?_) AllReadyH.nil)
    · skip
      go_simp
      have HRe := Lib.hid (emptyRowK V W10.heap.size hHeld.size)
      have hltE : V.heap.size < (V.alloc (.cells #[] 44)).heap.size := by simp
      refine hK.out _ _ (hHeld.trans ((below_alloc1 _ _).mono hHeld.size)) (fun hHeld => ?_)
      clear hK K
      generalize V.alloc (.cells #[] 44) = W7 at *
      refine wpAnyH_ready (rs := [2, 14]) (by kernel_rfl) (by simp) ?_
      refine AllReadyH.cons rfl (fun K hK => ?_) (AllReadyH.cons rfl (fun K hK => ?_) AllReadyH.nil)
      · skip
        rw [if_pos (by rfl)]
        refine appK (.tmp 68) (.tmp 69) rfl W10.heap.size _ [] rfl HRe.out lb 0 lc C (by rw [HCM.out]; rfl) (fun i hi => HLF.out _ (belStep W10B.out hHeld) i (by rw [HCM.out] at hi; exact hi)) (by have h1 := HCL.out; have h2 := HCM.out; simp; omega) hHeld.size ?_
        rintro v1 W8 hrow8 hg8 hown8
        have hB8 := hHeld.trans (HRe.out.belRow hg8 hHeld.size)
        have HR8 : Hid (LkRow W8 W10.heap.size v1 C) := hrow8

        clear hrow8 hg8 hown8 HRe
        refine hK.out _ _ hB8 (fun hHeld => ?_)
        clear hK K hB8
        simp [Act.put]
        refine wpAnyH_ready (rs := [14]) (by kernel_rfl) (by simp) ?_
        refine AllReadyH.cons rfl (fun K hK => ?_) AllReadyH.nil
        go_simp
        have HR8' : Hid (LkRow (W8.alloc (.cells #[.int .i64 1, .int .i64 x.s, .int .i64 1, .int .i64 x.s] 44)) W10.heap.size v1 C) := HR8.out.below (below_alloc1 W8 _)
        have HF8 := Lib.hid ((fun W => oneK (newFourK W ⟨1, x.s, 1, x.s⟩)) W8)
        clear HR8
        have HR8 := Lib.hid HR8'.out
        clear HR8'
        refine hK.out _ _ (hHeld.trans ((below_alloc1 _ _).mono hHeld.size)) (fun hHeld => ?_)
        clear hK K
        refine wpAnyH_ready (rs := [15]) (by kernel_rfl) (by simp) ?_
        refine AllReadyH.cons rfl (fun K hK => ?_) AllReadyH.nil
        rw [if_pos (by rfl)]
        refine appK (.tmp 70) (.tmp 82) rfl W10.heap.size _ C rfl HR8.out _ 0 1 [(⟨1, x.s, 1, x.s⟩ : K4)] rfl HF8.out (by have h1 := HCL.out; have h2 := HCM.out; simp; omega) hHeld.size ?_
        rintro v2 W9' hrow9 hg9 hown9
        have hB9 := hHeld.trans (HR8.out.belRow hg9 hHeld.size)
        have HR9 : Hid (LkRow W9' W10.heap.size v2 (C ++ [(⟨1, x.s, 1, x.s⟩ : K4)])) := hrow9
        clear hrow9 hg9 hown9 HR8 HF8
        refine hK.out _ _ hB9 (fun hHeld => ?_)
        clear hK K hB9
        simp [Act.put]
        refine wpAnyH_take (i := 16) (v := v2) rfl (by kernel_rfl) (by kernel_rfl) (by kernel_rfl) (fun _ _ _ h => h) (Or.inl ⟨by rfl, ?_⟩) hHeld ?_
        · intro W hW
          go_simp
        simp [Act.put]
        refine wpAnyH_done (by kernel_rfl) ?_ _
        have HOWN := Lib.hid (iNetOk_any _ _ _ HR9.out.lks)
        have B11 := Lib.hid (belStep W10B.out hHeld)
        have HTK := Lib.hid (HTKN.out _ hHeld)
        obtain ⟨wa, wc, rfl⟩ : ∃ wa wc, v2 = .slice wa (C ++ [(⟨1, x.s, 1, x.s⟩ : K4)]).length wc := by
          rcases HR9.out.form with ⟨rfl, h⟩ | ⟨_, _, rfl, -⟩
          · simp at h
          · exact ⟨_, _, rfl⟩
        generalize (C ++ [(⟨1, x.s, 1, x.s⟩ : K4)]).length = n2 at *
        have HR9L : Hid (∀ W, Below W9'.heap.size W9' W → Calls Try.prog 32 #[.slice wa n2 wc] W fun e w' => e = .returned (.bool false) ∧ Below W.heap.size W w') := fun W hW => by
          have := iNetOk_any W _ _ ((HR9.out.lks.below hW (Nat.le_refl _)).mono hW.size)
          rwa [HOW.out] at this
        have HTKW : Hid (∀ W, Below W9'.heap.size W9' W → Calls Try.prog 32 #[.slice ta n1 tc] W fun e w' => e = .returned (.bool false) ∧ Below W.heap.size W w') := fun W hW => HTKN.out W (belStep hHeld hW)
        clear HOWN HTK hHeld
        go_wp2_with fail
        refine (HOL.out _ B11.out).mono ?_
        rintro e w12 ⟨rfl, b12⟩
        have B12 := Lib.hid b12
        clear b12
        go_wp2_with fail
        refine (HTKW.out _ B12.out).mono ?_
        rintro e w13 ⟨rfl, b13⟩
        have B13 := Lib.hid (belStep B12.out b13)
        clear b13
        go_wp2_with fail
        refine (HR9L.out _ B13.out).mono ?_
        rintro e w14 ⟨rfl, b14⟩
        have B14 := Lib.hid (belStep B13.out b14)
        have BE := Lib.hid (BW.out _ (belStep B9.out (belStep B11.out B14.out)))
        have h6 := H6.out
        have h6' : (N : Int) ≤ 6 := by omega
        clear b14
        go_wp2
        go_ret
        exact ⟨by first | rfl | (simp; done) | (simp; omega), BE.out⟩
      · skip
        go_simp
        have HF7 := Lib.hid ((fun W => oneK (newFourK W ⟨1, x.s, 1, x.s⟩)) W7)
        have HRe' := Lib.hid (HRe.out.below (below_alloc1 W7 (.cells #[.int .i64 1, .int .i64 x.s, .int .i64 1, .int .i64 x.s] 44)))
        have hlt7 : W7.heap.size < (W7.alloc (.cells #[.int .i64 1, .int .i64 x.s, .int .i64 1, .int .i64 x.s] 44)).heap.size := by simp
        refine hK.out _ _ (hHeld.trans ((below_alloc1 _ _).mono hHeld.size)) (fun hHeld => ?_)
        clear hK K HRe
        have HRe := Lib.hid HRe'.out
        clear HRe'
        refine wpAnyH_ready (rs := [2]) (by kernel_rfl) (by simp) ?_
        refine AllReadyH.cons rfl (fun K hK => ?_) AllReadyH.nil
        rw [if_pos (by rfl)]
        refine appK (.tmp 68) (.tmp 69) rfl W10.heap.size _ [] rfl HRe.out lb 0 lc C (by rw [HCM.out]; rfl) (fun i hi => HLF.out _ (belStep W10B.out hHeld) i (by rw [HCM.out] at hi; exact hi)) (by have h1 := HCL.out; have h2 := HCM.out; simp; omega) hHeld.size ?_
        rintro v1 W8 hrow8 hg8 hown8
        have hB8 := hHeld.trans (HRe.out.belRow hg8 hHeld.size)
        have HR8 : Hid (LkRow W8 W10.heap.size v1 C) := hrow8
        have HF8 := Lib.hid (fks_grown HF7.out hg8 hlt7 (show (some V.heap.size : Option Nat) ≠ some W7.heap.size from fun e => by have := Option.some.inj e; omega))
        clear HF7
        clear hrow8 hg8 hown8 HRe
        refine hK.out _ _ hB8 (fun hHeld => ?_)
        clear hK K hB8
        simp [Act.put]
        refine wpAnyH_ready (rs := [15]) (by kernel_rfl) (by simp) ?_
        refine AllReadyH.cons rfl (fun K hK => ?_) AllReadyH.nil
        rw [if_pos (by rfl)]
        refine appK (.tmp 70) (.tmp 82) rfl W10.heap.size _ C rfl HR8.out _ 0 1 [(⟨1, x.s, 1, x.s⟩ : K4)] rfl HF8.out (by have h1 := HCL.out; have h2 := HCM.out; simp; omega) hHeld.size ?_
        rintro v2 W9' hrow9 hg9 hown9
        have hB9 := hHeld.trans (HR8.out.belRow hg9 hHeld.size)
        have HR9 : Hid (LkRow W9' W10.heap.size v2 (C ++ [(⟨1, x.s, 1, x.s⟩ : K4)])) := hrow9
        clear hrow9 hg9 hown9 HR8 HF8
        refine hK.out _ _ hB9 (fun hHeld => ?_)
        clear hK K hB9
        simp [Act.put]
        refine wpAnyH_take (i := 16) (v := v2) rfl (by kernel_rfl) (by kernel_rfl) (by kernel_rfl) (fun _ _ _ h => h) (Or.inl ⟨by rfl, ?_⟩) hHeld ?_
        · intro W hW
          go_simp
        simp [Act.put]
        refine wpAnyH_done (by kernel_rfl) ?_ _
        have HOWN := Lib.hid (iNetOk_any _ _ _ HR9.out.lks)
        have B11 := Lib.hid (belStep W10B.out hHeld)
        have HTK := Lib.hid (HTKN.out _ hHeld)
        obtain ⟨wa, wc, rfl⟩ : ∃ wa wc, v2 = .slice wa (C ++ [(⟨1, x.s, 1, x.s⟩ : K4)]).length wc := by
          rcases HR9.out.form with ⟨rfl, h⟩ | ⟨_, _, rfl, -⟩
          · simp at h
          · exact ⟨_, _, rfl⟩
        generalize (C ++ [(⟨1, x.s, 1, x.s⟩ : K4)]).length = n2 at *
        have HR9L : Hid (∀ W, Below W9'.heap.size W9' W → Calls Try.prog 32 #[.slice wa n2 wc] W fun e w' => e = .returned (.bool false) ∧ Below W.heap.size W w') := fun W hW => by
          have := iNetOk_any W _ _ ((HR9.out.lks.below hW (Nat.le_refl _)).mono hW.size)
          rwa [HOW.out] at this
        have HTKW : Hid (∀ W, Below W9'.heap.size W9' W → Calls Try.prog 32 #[.slice ta n1 tc] W fun e w' => e = .returned (.bool false) ∧ Below W.heap.size W w') := fun W hW => HTKN.out W (belStep hHeld hW)
        clear HOWN HTK hHeld
        go_wp2_with fail
        refine (HOL.out _ B11.out).mono ?_
        rintro e w12 ⟨rfl, b12⟩
        have B12 := Lib.hid b12
        clear b12
        go_wp2_with fail
        refine (HTKW.out _ B12.out).mono ?_
        rintro e w13 ⟨rfl, b13⟩
        have B13 := Lib.hid (belStep B12.out b13)
        clear b13
        go_wp2_with fail
        refine (HR9L.out _ B13.out).mono ?_
        rintro e w14 ⟨rfl, b14⟩
        have B14 := Lib.hid (belStep B13.out b14)
        have BE := Lib.hid (BW.out _ (belStep B9.out (belStep B11.out B14.out)))
        have h6 := H6.out
        have h6' : (N : Int) ≤ 6 := by omega
        clear b14
        go_wp2
        go_ret
        exact ⟨by first | rfl | (simp; done) | (simp; omega), BE.out⟩
    · skip
      go_simp
      have HF6 := Lib.hid ((fun W => oneK (newFourK W ⟨1, x.s, 1, x.s⟩)) V)
      have hlt6 : V.heap.size < (V.alloc (.cells #[.int .i64 1, .int .i64 x.s, .int .i64 1, .int .i64 x.s] 44)).heap.size := by simp
      refine hK.out _ _ (hHeld.trans ((below_alloc1 _ _).mono hHeld.size)) (fun hHeld => ?_)
      clear hK K
      generalize V.alloc (.cells #[.int .i64 1, .int .i64 x.s, .int .i64 1, .int .i64 x.s] 44) = U at *
      refine wpAnyH_ready (rs := [0]) (by kernel_rfl) (by simp) ?_
      refine AllReadyH.cons rfl (fun K hK => ?_) AllReadyH.nil
      go_simp
      have HRe := Lib.hid (emptyRowK U W10.heap.size hHeld.size)
      have HF7 := Lib.hid (fks_below HF6.out (below_alloc1 U (.cells #[] 44)) hlt6)
      have hlt7 : V.heap.size < (U.alloc (.cells #[] 44)).heap.size := by simp; omega
      refine hK.out _ _ (hHeld.trans ((below_alloc1 _ _).mono hHeld.size)) (fun hHeld => ?_)
      clear hK K HF6
      refine wpAnyH_ready (rs := [2]) (by kernel_rfl) (by simp) ?_
      refine AllReadyH.cons rfl (fun K hK => ?_) AllReadyH.nil
      rw [if_pos (by rfl)]
      refine appK (.tmp 68) (.tmp 69) rfl W10.heap.size _ [] rfl HRe.out lb 0 lc C (by rw [HCM.out]; rfl) (fun i hi => HLF.out _ (belStep W10B.out hHeld) i (by rw [HCM.out] at hi; exact hi)) (by have h1 := HCL.out; have h2 := HCM.out; simp; omega) hHeld.size ?_
      rintro v1 W8 hrow8 hg8 hown8
      have hB8 := hHeld.trans (HRe.out.belRow hg8 hHeld.size)
      have HR8 : Hid (LkRow W8 W10.heap.size v1 C) := hrow8
      have HF8 := Lib.hid (fks_grown HF7.out hg8 hlt7 (show (some U.heap.size : Option Nat) ≠ some V.heap.size from fun e => by have := Option.some.inj e; omega))
      clear HF7
      clear hrow8 hg8 hown8 HRe
      refine hK.out _ _ hB8 (fun hHeld => ?_)
      clear hK K hB8
      simp [Act.put]
      refine wpAnyH_ready (rs := [15]) (by kernel_rfl) (by simp) ?_
      refine AllReadyH.cons rfl (fun K hK => ?_) AllReadyH.nil
      rw [if_pos (by rfl)]
      refine appK (.tmp 70) (.tmp 82) rfl W10.heap.size _ C rfl HR8.out _ 0 1 [(⟨1, x.s, 1, x.s⟩ : K4)] rfl HF8.out (by have h1 := HCL.out; have h2 := HCM.out; simp; omega) hHeld.size ?_
      rintro v2 W9' hrow9 hg9 hown9
      have hB9 := hHeld.trans (HR8.out.belRow hg9 hHeld.size)
      have HR9 : Hid (LkRow W9' W10.heap.size v2 (C ++ [(⟨1, x.s, 1, x.s⟩ : K4)])) := hrow9
      clear hrow9 hg9 hown9 HR8 HF8
      refine hK.out _ _ hB9 (fun hHeld => ?_)
      clear hK K hB9
      simp [Act.put]
      refine wpAnyH_take (i := 16) (v := v2) rfl (by kernel_rfl) (by kernel_rfl) (by kernel_rfl) (fun _ _ _ h => h) (Or.inl ⟨by rfl, ?_⟩) hHeld ?_
      · intro W hW
        go_simp
      simp [Act.put]
      refine wpAnyH_done (by kernel_rfl) ?_ _
      have HOWN := Lib.hid (iNetOk_any _ _ _ HR9.out.lks)
      have B11 := Lib.hid (belStep W10B.out hHeld)
      have HTK := Lib.hid (HTKN.out _ hHeld)
      obtain ⟨wa, wc, rfl⟩ : ∃ wa wc, v2 = .slice wa (C ++ [(⟨1, x.s, 1, x.s⟩ : K4)]).length wc := by
        rcases HR9.out.form with ⟨rfl, h⟩ | ⟨_, _, rfl, -⟩
        · simp at h
        · exact ⟨_, _, rfl⟩
      generalize (C ++ [(⟨1, x.s, 1, x.s⟩ : K4)]).length = n2 at *
      have HR9L : Hid (∀ W, Below W9'.heap.size W9' W → Calls Try.prog 32 #[.slice wa n2 wc] W fun e w' => e = .returned (.bool false) ∧ Below W.heap.size W w') := fun W hW => by
        have := iNetOk_any W _ _ ((HR9.out.lks.below hW (Nat.le_refl _)).mono hW.size)
        rwa [HOW.out] at this
      have HTKW : Hid (∀ W, Below W9'.heap.size W9' W → Calls Try.prog 32 #[.slice ta n1 tc] W fun e w' => e = .returned (.bool false) ∧ Below W.heap.size W w') := fun W hW => HTKN.out W (belStep hHeld hW)
      clear HOWN HTK hHeld
      go_wp2_with fail
      refine (HOL.out _ B11.out).mono ?_
      rintro e w12 ⟨rfl, b12⟩
      have B12 := Lib.hid b12
      clear b12
      go_wp2_with fail
      refine (HTKW.out _ B12.out).mono ?_
      rintro e w13 ⟨rfl, b13⟩
      have B13 := Lib.hid (belStep B12.out b13)
      clear b13
      go_wp2_with fail
      refine (HR9L.out _ B13.out).mono ?_
      rintro e w14 ⟨rfl, b14⟩
      have B14 := Lib.hid (belStep B13.out b14)
      have BE := Lib.hid (BW.out _ (belStep B9.out (belStep B11.out B14.out)))
      have h6 := H6.out
      have h6' : (N : Int) ≤ 6 := by omega
      clear b14
      go_wp2
      go_ret
      exact ⟨by first | rfl | (simp; done) | (simp; omega), BE.out⟩

set_option maxRecDepth 100000 in
theorem lifted_FnNetForm (os : Os) (started : os.Started) (H : Type) (enc : TypeId × Value → H) :
    ReturnsInHanded {} Try.checked os 10 .any (Rows.fnNetFormSpec.pre6 enc Try.prog Try.f10 Rows.fnNetFormRow.domain false) (Rows.fnNetFormSpec.post enc Try.prog Try.f10 false true false false) := by
  refine returnsInHanded_of_change (C := Try.checked) own started (by kernel_rfl) Try.func10
    (ChangeSpec.witness6 (enc := enc) (C := Try.checked) false ⟨#[], #[.slice none 0 0, .slice none 0 0], []⟩ 8 (by kernel_rfl) (by kernel_rfl) (by kernel_rfl) (by kernel_rfl)) ?_
  intro W base args ds gs before hval0 hW hcnd _
  have hval : ∀ (j : Nat) t v, Try.f10.params[j]? = some t → args[j]? = some v → Value.okWide Try.prog W .any base t v := hval0
  have hW' := hW
  obtain ⟨p, q, hA0, hV, rfl, hfz, hnd⟩ := hW
  have hA : DataW.TrodAll enc Try.prog W 0 (fun _ => true) true Try.f10.params.toList args.toList ds p := hA0
  rw [Try.params10] at hA hval
  obtain ⟨v0, vs0, d0, ds0, p0, q0, hargs, rfl, rfl, h0, r0⟩ := trodAll_cons hA
  obtain ⟨v1, vs1, d1, ds1, p1, q1, rfl, rfl, rfl, h1, r1⟩ := trodAll_cons r0
  obtain ⟨rfl, rfl, rfl⟩ := trodAll_nil r1
  obtain rfl : args = #[v0, v1] := by cases args; simp_all
  obtain ⟨rfl, rfl⟩ := trodVars_none hV
  have k0 := h0
  have lt0 : ∀ x ∈ p0, x.block < W.heap.size := by obtain ⟨m, hm⟩ := k0; exact DataW.trod_lt m _ _ _ hm
  have k1 := h1
  have lt1 : ∀ x ∈ p1, x.block < W.heap.size := by obtain ⟨m, hm⟩ := k1; exact DataW.trod_lt m _ _ _ hm
  obtain ⟨a0, len0, cap0, rfl⟩ := okWide_slice Try.underlying31 (hval 0 31 v0 rfl rfl)
  have w0 : BytesIn W W.heap.size a0 len0 cap0 := isRow_of h0
  obtain ⟨a1, len1, cap1, rfl⟩ := okWide_slice Try.underlying31 (hval 1 31 v1 rfl rfl)
  have w1 : BytesIn W W.heap.size a1 len1 cap1 := isRow_of h1
  clear hA0 hval0
  refine (walk_FnNetForm a0 len0 cap0 a1 len1 cap1 W w0 w1).mono fun e W' ⟨he, bel⟩ => ?_
  subst he
  exact ⟨_, rfl, _, _, _, [], _, [], hW', trodAll_mk1 (shut_bool Try.underlying4 _), (trodAll_cons_mk (Below.trod laidOut (by kernel_rfl) (of_decide_eq_true (by kernel_rfl)) k0 bel lt0) (trodAll_cons_mk (Below.trod laidOut (by kernel_rfl) (of_decide_eq_true (by kernel_rfl)) k1 bel lt1) (trodAll_mk0))), rfl, bel.frame _, fun h => by cases h⟩

theorem over_FnNetForm : Rows.fnNetFormRow.holds Try.pinned (OpenSpec.ofChange Rows.fnNetFormSpec) :=
  OpenClaim.holds_of_wide 10 Try.f10 rfl rfl rfl rfl rfl rfl rfl ⟨rfl, rfl, rfl, rfl, rfl⟩ rfl rfl rfl rfl rfl (by kernel_rfl) Try.func10 (by kernel_rfl)
    (of_decide_eq_true (by kernel_rfl)) (by unfold Func.isWrapper; first | (rw [if_pos (by decide +kernel)]; kernel_rfl) | (rw [if_neg (by decide +kernel)]; exact ⟨rfl, rfl⟩))
    (fun os started H enc _ => lifted_FnNetForm os started H enc)

theorem proved_FnNetForm : Rows.FnNetFormSaid := over_FnNetForm

end Go.Proofs.Ytbjndcfdcjpkmaa
