/-
  A net without one of its links: slices.Concat, and both functions.
-/
import Derived.Test.YtbjndcfdcjpkmaaNetCutI
namespace Go.Proofs.Ytbjndcfdcjpkmaa
open Go.ChangeShapes Go.WideShapes Go.ChangeAt Go.RowKit Go.Joins
set_option linter.unusedVariables false

def cutB (l : List K4) (z : Int) : Bool := netB l && inB z 0 ((l.length : Int) - 1)
/-- The links that both answer. -/
def cutVL (l : List K4) (z : Int) : List K4 := bif cutB l z then cutL l z.toNat else []
theorem netB_six {l : List K4} (h : netB l = true) : l.length ≤ 6 := by
  unfold netB at h
  simp only [Bool.and_eq_true, decide_eq_true_eq] at h
  exact h.1
theorem cutB_parts {l : List K4} {z : Int} (h : cutB l z = true) : netB l = true ∧ ∃ k : Nat, z = (k : Int) ∧ k < l.length ∧ cutVL l z = cutL l k := by
  have h0 := h
  unfold cutB inB at h
  simp only [Bool.and_eq_true, decide_eq_true_eq] at h
  obtain ⟨h1, h2, h3⟩ := h
  refine ⟨h1, z.toNat, by omega, by omega, ?_⟩
  unfold cutVL
  rw [h0]
  rfl
theorem cutVL_no {l : List K4} {z : Int} (h : cutB l z = false) : cutVL l z = [] := by unfold cutVL; rw [h]; rfl
theorem lks_some {w : World} {g : Nat} {v : Value} {l : List K4} (h : Lks w g v l) (h0 : l ≠ []) : ∃ b off cap, v = .slice (some ⟨b, off, none⟩) l.length cap ∧ l.length ≤ cap ∧ b < g ∧ ∀ i, i < l.length → FourK w b (off + i * 4) (lkAt l i) := by
  obtain ⟨a, cap, hv, hc, hm, h | ⟨b, off, ha, hbg, hcell⟩⟩ := h
  · exact absurd h h0
  · subst ha
    exact ⟨b, off, cap, hv, hc, hbg, hcell⟩

set_option maxHeartbeats 4000000 in
theorem sNetCut_any (w : World) (v : Value) (l : List K4) (z : Int) (h : Lks w w.heap.size v l) (hn : l.length ≤ 1048576) :
    Calls Try.prog 12 #[v, .int .i64 z] w fun e w' => ∃ u, e = .returned (.tuple #[u, .bool (cutB l z)]) ∧ LkRow w' w.heap.size u (cutVL l z) ∧ Below w.heap.size w w' := by
  have HL : Hid (∀ W, Below w.heap.size w W → Lks W W.heap.size v l) := fun W hb => (h.below hb (Nat.le_refl _)).mono hb.size
  have HO : Hid (Calls Try.prog 21 #[v] w fun e w' => e = .returned (.bool (netB l)) ∧ Below w.heap.size w w') := sNetOk_any w v l h hn
  have hw1 : IntKind.i64.wrap ((l.length : Int) - 1) = (l.length : Int) - 1 := by rw [IntKind.wrap_i64]; omega
  have hv : ∃ a c, v = .slice a l.length c := by
    obtain ⟨a, cap, hv, -⟩ := h
    exact ⟨a, cap, hv⟩
  obtain ⟨va, vc, rfl⟩ := hv
  clear h
  generalize hN : l.length = N at *
  have HN := Lib.hid hN
  clear hN
  cases hnb : netB l
  · have hc : cutB l z = false := by unfold cutB; rw [hnb]; rfl
    rw [cutVL_no hc, hc]
    rw [hnb] at HO
    clear hc hnb
    go_enter Try.func12, Try.ntmps12
    go_wp2_with fail
    refine HO.out.mono ?_
    rintro e w1 ⟨rfl, b1⟩
    have B1 := Lib.hid b1
    have HE := Lib.hid (emptyRowK w1 w.heap.size b1.size)
    have HBE := Lib.hid (b1.trans ((below_alloc1 w1 (.cells #[] 44)).mono b1.size))
    clear b1 HO
    go_wp2
    go_ret2
    exact ⟨_, rfl, HE.out, HBE.out⟩
  rw [hnb] at HO
  cases hin : inB z 0 ((N : Int) - 1)
  · have hc : cutB l z = false := by unfold cutB; rw [hnb, HN.out, hin]; rfl
    rw [cutVL_no hc, hc]
    clear hc hnb
    go_enter Try.func12, Try.ntmps12
    go_wp2_with fail
    refine HO.out.mono ?_
    rintro e w1 ⟨rfl, b1⟩
    have B1 := Lib.hid b1
    have HE := Lib.hid (emptyRowK w1 w.heap.size b1.size)
    have HBE := Lib.hid (b1.trans ((below_alloc1 w1 (.cells #[] 44)).mono b1.size))
    clear b1 HO
    go_wp2_with fail
    refine (l6In_any _ _ _ _).mono ?_
    rintro e w' ⟨rfl, rfl⟩
    rw [hin]
    go_wp2
    go_ret2
    exact ⟨_, rfl, HE.out, HBE.out⟩
  · have hc : cutB l z = true := by unfold cutB; rw [hnb, HN.out, hin]; rfl
    obtain ⟨-, k, rfl, hk, hcv⟩ := cutB_parts hc
    rw [hc, hcv]
    have h6 := netB_six hnb
    have HNE : Hid (l ≠ []) := fun h => by rw [h] at hk; simp at hk
    rw [HN.out] at hk h6
    clear hc hcv hnb
    go_enter Try.func12, Try.ntmps12
    go_wp2_with fail
    refine HO.out.mono ?_
    rintro e w1 ⟨rfl, b1⟩
    have B1 := Lib.hid b1
    have HE := Lib.hid (emptyRowK w1 w.heap.size b1.size)
    have HBE := Lib.hid (b1.trans ((below_alloc1 w1 (.cells #[] 44)).mono b1.size))
    clear b1 HO
    go_wp2_with fail
    refine (l6In_any _ _ _ _).mono ?_
    rintro e w' ⟨rfl, rfl⟩
    rw [hin]
    obtain ⟨b, off, cap, hv, hcap, hbw, hf⟩ := lks_some (HL.out _ B1.out) HNE.out
    rw [HN.out] at hv hcap hf
    simp at hv
    obtain ⟨rfl, rfl⟩ := hv
    have HC : Hid (Calls Try.prog 35 #[.slice (some ⟨b, off, none⟩) N vc, .int .i64 (k : Int)] w1 fun e w' => ∃ u, e = .returned u ∧ LkRow w' w1.heap.size u (cutL l k) ∧ Below w1.heap.size w1 w') := l21Cut_any w1 b off N vc k l HN.out hf hbw hcap hk (by omega)
    clear hf hbw hcap hin HE HBE HNE
    go_wp2_with fail
    refine HC.out.mono ?_
    rintro e w2 ⟨u, rfl, hrow, b2⟩
    have HR := Lib.hid (hrow.mono B1.out.size)
    have HB := Lib.hid (belStep B1.out b2)
    clear hrow b2
    go_wp2
    go_ret2
    exact ⟨_, rfl, HR.out, HB.out⟩

set_option maxRecDepth 100000 in
set_option maxHeartbeats 4000000 in
/-- Links of several slices, one behind the other. -/
theorem concat_any (w : World) (g m : Nat) (b o c : Nat → Nat) (L : Nat → List K4) (P : Nat → List K4) (hg : g < w.heap.size) (h0 : P 0 = []) (hs : ∀ k, k < m → P (k + 1) = P k ++ L k) (hsm : ∀ k, k ≤ m → (P k).length ≤ 1000) (hm : m ≤ 1000)
    (hc : ∀ k, k < m → w.cell? ⟨g, k, none⟩ = some (.slice (some ⟨b k, o k, none⟩) (L k).length (c k))) (hb : ∀ k, k < m → b k < w.heap.size) (hf : ∀ k, k < m → ∀ i, i < (L k).length → FourK w (b k) (o k + i * 4) (lkAt (L k) i)) :
    Calls Try.prog 37 #[.slice (some ⟨g, 0, none⟩) m m] w fun e w' => ∃ u, e = .returned u ∧ LkRow w' w.heap.size u (P m) ∧ Below w.heap.size w w' := by
  have HC : Hid (∀ W, Below w.heap.size w W → ∀ k, k < m → W.cell? ⟨g, k, none⟩ = some (.slice (some ⟨b k, o k, none⟩) (L k).length (c k))) := fun W hW k hk => (belCell hW _ _ hg).trans (hc k hk)
  have HF : Hid (∀ W, Below w.heap.size w W → ∀ k, k < m → ∀ i, i < (L k).length → FourK W (b k) (o k + i * 4) (lkAt (L k) i)) := fun W hW k hk i hi => (hf k hk i hi).below hW (hb k hk)
  have HS := Lib.hid hs
  have HSM := Lib.hid hsm
  have HP0 := Lib.hid h0
  have HG := Lib.hid (grow_any w (P m).length (hsm m (Nat.le_refl _)))
  clear hc hf hb hs hsm h0
  go_enter Try.func37, Try.ntmps37
  go_wp2
  go_loop [3, 11] (fun n i => ∃ k : Nat, k ≤ m ∧ i = .int .i64 (k : Int) ∧ n = .int .i64 ((P k).length : Int)) (fun _ i => m - (intOf i).toNat)
  case atStart => exact ⟨0, by omega, rfl, by rw [HP0.out]; rfl⟩
  case round =>
    obtain ⟨k, hk, rfl, rfl⟩ := hrel
    by_cases hlt : k < m
    · have h1 : (k : Int) < (m : Int) := by omega
      have c0 := HC.out w (Below.refl _ _) k hlt
      have hl1 := HSM.out (k + 1) hlt
      have e1 := HS.out k hlt
      have e2 : ((P k).length : Int) + ((L k).length : Int) = ((P (k + 1)).length : Int) := by rw [e1]; simp
      have E2 := Lib.hid e2
      have h2 : ¬ (((P (k + 1)).length : Int) < 0) := by omega
      have hw1 : IntKind.i64.wrap ((k : Int) + 1) = (k : Int) + 1 := by rw [IntKind.wrap_i64]; omega
      have hw2 : IntKind.i64.wrap (((P k).length : Int) + ((L k).length : Int)) = ((P (k + 1)).length : Int) := by rw [IntKind.wrap_i64]; omega
      clear e1 e2
      generalize (L k).length = nL at *
      generalize (P k).length = nP at *
      generalize hq : (P (k + 1)).length = nQ at *
      go_wp2
      go_roundw
      case rel => exact ⟨k + 1, by omega, by go_num, by rw [hq]⟩
      case measure => simp [intOf]; omega
    · obtain rfl : k = m := by omega
      have h1 : ¬ (k : Int) < (k : Int) := by omega
      go_wp2_with fail
      refine HG.out.mono ?_
      rintro e w1 ⟨u, rfl, hrow, b1⟩
      have HR1 : Hid (LkRow w1 w.heap.size u (P 0)) := by show LkRow _ _ _ _; rw [HP0.out]; exact hrow
      have HB1 := Lib.hid b1
      clear hrow b1 HG
      go_wp2
      go_loopw [6, 27] (fun u i wr => ∃ j : Nat, j ≤ k ∧ i = .int .i64 (j : Int) ∧ LkRow wr w.heap.size u (P j) ∧ Below w.heap.size w wr) (fun _ i _ => k - (intOf i).toNat)
      case atStart => exact ⟨0, by omega, rfl, HR1.out, HB1.out⟩
      case round =>
        obtain ⟨j, hj, rfl, hrow, hbel⟩ := hrel
        have HR := Lib.hid hrow
        have HB := Lib.hid hbel
        clear hrow hbel
        by_cases hlt : j < k
        · have h1 : (j : Int) < (k : Int) := by omega
          have hw1 : IntKind.i64.wrap ((j : Int) + 1) = (j : Int) + 1 := by rw [IntKind.wrap_i64]; omega
          have c0 := HC.out wr HB.out j hlt
          have hll : (P j).length + (L j).length ≤ 1000 := by
            have := HSM.out (j + 1) hlt
            rw [HS.out j hlt] at this
            simpa using this
          go_wp2_with (at_builtin; refine app_links rfl _ _ rfl w.heap.size _ (P j) rfl HR.out (b j) (o j) (c j) (L j) rfl (HF.out wr HB.out j hlt) (by omega) HB.out.size ?_; rintro v' w4 hrow4 hg4 -; have HR4 : Hid (LkRow w4 w.heap.size v' (P (j + 1))) := (by show LkRow _ _ _ _; rw [HS.out j hlt]; exact hrow4); have HB4 := Lib.hid (HB.out.trans (HR.out.belRow hg4 HB.out.size)); clear hrow4 hg4)
          go_roundw
          case rel => exact ⟨j + 1, by omega, by go_num, HR4.out, HB4.out⟩
          case measure => simp [intOf]; omega
        · obtain rfl : j = k := by omega
          have h1 : ¬ (j : Int) < (j : Int) := by omega
          go_wp2
          go_ret
          exact ⟨_, rfl, HR.out, HB.out⟩

set_option maxRecDepth 100000 in
set_option maxHeartbeats 4000000 in
theorem iNetCut_any (w : World) (v : Value) (l : List K4) (z : Int) (h : Lks w w.heap.size v l) :
    Calls Try.prog 14 #[v, .int .i64 z] w fun e w' => ∃ u, e = .returned (.tuple #[u, .bool (cutB l z)]) ∧ LkRow w' w.heap.size u (cutVL l z) ∧ Below w.heap.size w w' := by
  have HL : Hid (∀ W, Below w.heap.size w W → Lks W W.heap.size v l) := fun W hb => (h.below hb (Nat.le_refl _)).mono hb.size
  have HO : Hid (Calls Try.prog 32 #[v] w fun e w' => e = .returned (.bool (netB l)) ∧ Below w.heap.size w w') := iNetOk_any w v l h
  have hv : ∃ a c, v = .slice a l.length c := by
    obtain ⟨a, cap, hv, -⟩ := h
    exact ⟨a, cap, hv⟩
  obtain ⟨va, vc, rfl⟩ := hv
  clear h
  generalize hN : l.length = N at *
  have HN := Lib.hid hN
  clear hN
  cases hnb : netB l
  · have hc : cutB l z = false := by unfold cutB; rw [hnb]; rfl
    rw [cutVL_no hc, hc]
    rw [hnb] at HO
    clear hc hnb
    go_enter Try.func14, Try.ntmps14
    go_wp2_with fail
    refine HO.out.mono ?_
    rintro e w1 ⟨rfl, b1⟩
    go_wp2
    go_ret2
    exact ⟨_, rfl, World.ownsRow_nil _ _ _ _, b1⟩
  rw [hnb] at HO
  by_cases hneg : z < 0
  · have hc : cutB l z = false := by unfold cutB inB; simp; intro _ h; omega
    rw [cutVL_no hc, hc]
    clear hc hnb
    go_enter Try.func14, Try.ntmps14
    go_wp2_with fail
    refine HO.out.mono ?_
    rintro e w1 ⟨rfl, b1⟩
    go_wp2
    go_ret2
    exact ⟨_, rfl, World.ownsRow_nil _ _ _ _, b1⟩
  by_cases hge : (N : Int) ≤ z
  · have hc : cutB l z = false := by unfold cutB inB; rw [HN.out]; simp; intro _ _; omega
    rw [cutVL_no hc, hc]
    clear hc hnb
    go_enter Try.func14, Try.ntmps14
    go_wp2_with fail
    refine HO.out.mono ?_
    rintro e w1 ⟨rfl, b1⟩
    go_wp2
    go_ret2
    exact ⟨_, rfl, World.ownsRow_nil _ _ _ _, b1⟩
  have hc : cutB l z = true := by unfold cutB inB; rw [hnb, HN.out]; simp; omega
  obtain ⟨-, k, rfl, hk, hcv⟩ := cutB_parts hc
  rw [hc, hcv]
  have h6 := netB_six hnb
  have HNE : Hid (l ≠ []) := fun h => by rw [h] at hk; simp at hk
  rw [HN.out] at hk h6
  have hge' : ¬ ((N : Int) ≤ (k : Int)) := by omega
  have hw1 : IntKind.i64.wrap ((k : Int) + 1) = (k : Int) + 1 := by rw [IntKind.wrap_i64]; omega
  clear hc hcv hnb hge hneg
  go_enter Try.func14, Try.ntmps14
  go_wp2_with fail
  refine HO.out.mono ?_
  rintro e w1 ⟨rfl, b1⟩
  have B1 := Lib.hid b1
  clear b1 HO
  obtain ⟨b, off, cap, hv, hcap, hbw, hf⟩ := lks_some (HL.out _ B1.out) HNE.out
  rw [HN.out] at hv hcap hf
  simp at hv
  obtain ⟨rfl, rfl⟩ := hv
  have HS1 := Lib.hid (cutTo_run b off N vc k (by omega))
  have HS2 := Lib.hid (cutFrom_run b off N vc (k + 1) ((k : Int) + 1) (by omega) (by omega) hcap)
  have ht1 : (l.take k).length = k := by rw [List.length_take, HN.out]; omega
  have ht2 : (l.drop (k + 1)).length = N - (k + 1) := by rw [List.length_drop, HN.out]
  have HT1 := Lib.hid ht1
  have HT2 := Lib.hid ht2
  have HF : Hid (∀ W, Below w1.heap.size w1 W → ∀ i, i < N → FourK W b (off + i * 4) (lkAt l i)) := fun W hW i hi => (hf i hi).below hW hbw
  have HBW := Lib.hid hbw
  clear hf HNE ht1 ht2 hbw
  go_wp2_with fail
  obtain ⟨off2, ho2, hs2⟩ := HS2.out
  have hs1 := HS1.out
  refine wp_region_held_drew (S := fun W => Below w1.heap.size w1 W) (by kernel_rfl) (Below.refl _ _).drew (fun hHeld => ?_)
  generalize w1.drew = V at *
  refine wpAnyH_take (i := 0) (v := .slice (some ⟨b, off, none⟩) N vc) rfl (by kernel_rfl) (by kernel_rfl) (by kernel_rfl) (fun _ _ _ h => h) (Or.inl ⟨by rfl, ?_⟩) hHeld ?_
  · intro W hW
    go_simp
  simp [Act.put]
  refine wpAnyH_take (i := 1) (v := .int .i64 (k : Int)) rfl (by kernel_rfl) (by kernel_rfl) (by kernel_rfl) (fun _ _ _ h => h) (Or.inl ⟨by rfl, ?_⟩) hHeld ?_
  · intro W hW
    go_simp
  simp [Act.put]
  refine wpAnyH_take (i := 2) (v := .slice (some ⟨b, off, none⟩) k vc) rfl (by kernel_rfl) (by kernel_rfl) (by kernel_rfl) (fun _ _ _ h => h) (Or.inl ⟨by rfl, ?_⟩) hHeld ?_
  · intro W hW
    go_simp
  simp [Act.put]
  refine wpAnyH_take (i := 3) (v := .slice (some ⟨b, off, none⟩) N vc) rfl (by kernel_rfl) (by kernel_rfl) (by kernel_rfl) (fun _ _ _ h => h) (Or.inl ⟨by rfl, ?_⟩) hHeld ?_
  · intro W hW
    go_simp
  simp [Act.put]
  refine wpAnyH_take (i := 4) (v := .int .i64 (k : Int)) rfl (by kernel_rfl) (by kernel_rfl) (by kernel_rfl) (fun _ _ _ h => h) (Or.inl ⟨by rfl, ?_⟩) hHeld ?_
  · intro W hW
    go_simp
  simp [Act.put]
  refine wpAnyH_take (i := 5) (v := .int .i64 ((k : Int) + 1)) rfl (by kernel_rfl) (by kernel_rfl) (by kernel_rfl) (fun _ _ _ h => h) (Or.inl ⟨by rfl, ?_⟩) hHeld ?_
  · intro W hW
    go_simp
  simp [Act.put]
  refine wpAnyH_take (i := 6) (v := .slice (some ⟨b, off2, none⟩) (N - (k + 1)) (vc - (k + 1))) rfl (by kernel_rfl) (by kernel_rfl) (by kernel_rfl) (fun _ _ _ h => h) (Or.inl ⟨by rfl, ?_⟩) hHeld ?_
  · intro W hW
    go_simp
  simp [Act.put]
  refine wpAnyH_ready (rs := [7]) (by kernel_rfl) (by simp) ?_
  refine AllReadyH.cons rfl (fun K hK => ?_) AllReadyH.nil
  go_simp
  have hA := below_alloc1 V (.cells #[.slice (some ⟨b, off, none⟩) k vc, .slice (some ⟨b, off2, none⟩) (N - (k + 1)) (vc - (k + 1))] 24)
  have hcA := heap_alloc_last V (.cells #[.slice (some ⟨b, off, none⟩) k vc, .slice (some ⟨b, off2, none⟩) (N - (k + 1)) (vc - (k + 1))] 24)
  have hsA : V.heap.size < (V.alloc (.cells #[.slice (some ⟨b, off, none⟩) k vc, .slice (some ⟨b, off2, none⟩) (N - (k + 1)) (vc - (k + 1))] 24)).heap.size := by simp
  refine hK.out _ _ (hHeld.trans (hA.mono hHeld.size)) (fun hHeld2 => ?_)
  clear hK K hA
  generalize V.alloc (.cells #[.slice (some ⟨b, off, none⟩) k vc, .slice (some ⟨b, off2, none⟩) (N - (k + 1)) (vc - (k + 1))] 24) = W7 at *
  refine wpAnyH_ready (rs := [8]) (by kernel_rfl) (by simp) ?_
  refine AllReadyH.cons rfl (fun K hK => ?_) AllReadyH.nil
  go_simp
  refine (concat_any W7 V.heap.size 2 (fun _ => b) (fun j => if j = 0 then off else off2) (fun j => if j = 0 then vc else vc - (k + 1)) (fun j => if j = 0 then l.take k else l.drop (k + 1)) (fun j => if j = 0 then [] else if j = 1 then l.take k else cutL l k) hsA (by simp) ?_ ?_ (by omega) ?_ ?_ ?_).mono ?_
  · intro j hj
    rcases (show j = 0 ∨ j = 1 by omega) with rfl | rfl <;> simp [cutL]
  · intro j hj
    have hcl : (cutL l k).length ≤ 6 := by rw [cutL, List.length_append, HT1.out, HT2.out]; omega
    rcases (show j = 0 ∨ j = 1 ∨ j = 2 by omega) with rfl | rfl | rfl
    · simp
    · simp; omega
    · simp; omega
  · intro j hj
    rcases (show j = 0 ∨ j = 1 by omega) with rfl | rfl
    · simp only [if_true, HT1.out]
      simp [World.cell?, hcA]
    · simp only [show (1 : Nat) ≠ 0 from by decide, if_false, HT2.out]
      simp [World.cell?, hcA]
  · intro j hj
    exact Nat.lt_of_lt_of_le HBW.out hHeld2.size
  · intro j hj i hi
    rcases (show j = 0 ∨ j = 1 by omega) with rfl | rfl
    · simp only [if_true, HT1.out] at hi ⊢
      rw [lkAt_take hi]
      exact HF.out _ hHeld2 i (by omega)
    · simp only [show (1 : Nat) ≠ 0 from by decide, if_false, HT2.out] at hi ⊢
      rw [lkAt_drop, ho2 (by omega), show off + (k + 1) * 4 + i * 4 = off + (k + 1 + i) * 4 from by omega]
      exact HF.out _ hHeld2 (k + 1 + i) (by omega)
  rintro e w10 ⟨u, rfl, hrow, b10⟩
  go_simp
  have HR : Hid (LkRow w10 w.heap.size u (cutL l k)) := hrow.mono (Nat.le_trans B1.out.size hHeld2.size)
  have hB10 := hHeld2.trans (b10.mono hHeld2.size)
  clear b10 hrow
  refine hK.out _ _ hB10 (fun hHeld => ?_)
  clear hK K hB10
  refine wpAnyH_take (i := 9) (v := u) rfl (by kernel_rfl) (by kernel_rfl) (by kernel_rfl) (fun _ _ _ h => h) (Or.inl ⟨by rfl, ?_⟩) hHeld ?_
  · intro W hW
    go_simp
  simp [Act.put]
  refine wpAnyH_take (i := 10) (v := .bool true) rfl (by kernel_rfl) (by kernel_rfl) (by kernel_rfl) (fun _ _ _ h => h) (Or.inl ⟨by rfl, ?_⟩) hHeld ?_
  · intro W hW
    go_simp
  simp [Act.put]
  refine wpAnyH_done (by kernel_rfl) ?_ _
  go_wp2
  go_ret2
  exact ⟨_, rfl, HR.out, belStep B1.out hHeld⟩

end Go.Proofs.Ytbjndcfdcjpkmaa
