/-
  A net without one of its links: the model's and the program's answer.
-/
import Derived.Test.YtbjndcfdcjpkmaaNetDr
import Derived.Test.YtbjndcfdcjpkmaaNetOkI
import Derived.Lib.AppendZeros
namespace Go.Proofs.Ytbjndcfdcjpkmaa
open Go.ChangeShapes Go.WideShapes Go.ChangeAt Go.RowKit Go.Joins
set_option linter.unusedVariables false

def cutL (l : List K4) (k : Nat) : List K4 := l.take k ++ l.drop (k + 1)
theorem cutL_len {l : List K4} {k : Nat} (h : k < l.length) : (cutL l k).length = l.length - 1 := by
  simp [cutL]; omega
theorem lkAt_take {l : List K4} {k i : Nat} (h : i < k) : lkAt (l.take k) i = lkAt l i := by
  simp only [lkAt, List.getD_eq_getElem?_getD, List.getElem?_take, h, if_true]
theorem lkAt_drop {l : List K4} {k i : Nat} : lkAt (l.drop k) i = lkAt l (k + i) := by
  simp only [lkAt, List.getD_eq_getElem?_getD, List.getElem?_drop]

theorem cutTo_run (b off n cap k : Nat) (hk : k ≤ cap) (W : World) : (Instr.slice 24 (.slice (some ⟨b, off, none⟩) n cap) none (some (.int .i64 (k : Int))) none).run Try.prog W = .ok (.slice (some ⟨b, off, none⟩) k cap) W := by
  have h1 : (k : Int) ≤ (cap : Int) := by omega
  simp [go_sem, hk]
theorem cutFrom_run (b off n cap k : Nat) (z : Int) (hz : z = (k : Int)) (hk : k ≤ n) (hn : n ≤ cap) : ∃ off2 : Nat, (k < n → off2 = off + k * 4) ∧ ∀ W : World, (Instr.slice 24 (.slice (some ⟨b, off, none⟩) n cap) (some (.int .i64 z)) none none).run Try.prog W = .ok (.slice (some ⟨b, off2, none⟩) (n - k) (cap - k)) W := by
  subst hz
  have h1 : (k : Int) ≤ (n : Int) := by omega
  have h2 : (n : Int) ≤ (cap : Int) := by omega
  by_cases hc : cap = k
  · refine ⟨off, fun h => by omega, fun W => ?_⟩
    subst hc
    simp [go_sem, hk, hn]
  · refine ⟨off + k * 4, fun _ => rfl, fun W => ?_⟩
    simp [go_sem, hc, hk]

set_option maxRecDepth 100000 in
set_option maxHeartbeats 4000000 in
theorem l21Cut_any (w : World) (b off n cap k : Nat) (l : List K4) (hn : l.length = n) (hf : ∀ i, i < n → FourK w b (off + i * 4) (lkAt l i)) (hbw : b < w.heap.size) (hcap : n ≤ cap) (hk : k < n) (hsm : n ≤ 1000) :
    Calls Try.prog 35 #[.slice (some ⟨b, off, none⟩) n cap, .int .i64 (k : Int)] w fun e w' => ∃ u, e = .returned u ∧ LkRow w' w.heap.size u (cutL l k) ∧ Below w.heap.size w w' := by
  have HF : Hid (∀ W, Below w.heap.size w W → ∀ i, i < n → FourK W b (off + i * 4) (lkAt l i)) := fun W hW i hi => (hf i hi).below hW hbw
  have HS1 := Lib.hid (cutTo_run b off n cap k (by omega))
  have HS2 := Lib.hid (cutFrom_run b off n cap (k + 1) ((k : Int) + 1) (by omega) (by omega) hcap)
  have hw1 : IntKind.i64.wrap ((k : Int) + 1) = (k : Int) + 1 := by rw [IntKind.wrap_i64]; omega
  have ht1 : (l.take k).length = k := by simp; omega
  have ht2 : (l.drop (k + 1)).length = n - (k + 1) := by simp; omega
  clear hf
  go_enter Try.func35, Try.ntmps35
  go_wp2_with fail
  obtain ⟨off2, ho2, hs2⟩ := HS2.out
  have hs1 := HS1.out
  refine wp_region_held_drew (S := fun W => Below w.heap.size w W) (by kernel_rfl) (Below.refl _ _).drew (fun hHeld => ?_)
  generalize w.drew = V at *
  refine wpAnyH_take (i := 1) (v := .slice (some ⟨b, off, none⟩) n cap) rfl (by kernel_rfl) (by kernel_rfl) (by kernel_rfl) (fun _ _ _ h => h) (Or.inl ⟨by rfl, ?_⟩) hHeld ?_
  · intro W hW
    go_simp
  simp [Act.put]
  refine wpAnyH_take (i := 2) (v := .int .i64 (k : Int)) rfl (by kernel_rfl) (by kernel_rfl) (by kernel_rfl) (fun _ _ _ h => h) (Or.inl ⟨by rfl, ?_⟩) hHeld ?_
  · intro W hW
    go_simp
  simp [Act.put]
  refine wpAnyH_take (i := 3) (v := .slice (some ⟨b, off, none⟩) k cap) rfl (by kernel_rfl) (by kernel_rfl) (by kernel_rfl) (fun _ _ _ h => h) (Or.inl ⟨by rfl, ?_⟩) hHeld ?_
  · intro W hW
    go_simp
  simp [Act.put]
  refine wpAnyH_take (i := 5) (v := .slice (some ⟨b, off, none⟩) n cap) rfl (by kernel_rfl) (by kernel_rfl) (by kernel_rfl) (fun _ _ _ h => h) (Or.inl ⟨by rfl, ?_⟩) hHeld ?_
  · intro W hW
    go_simp
  simp [Act.put]
  refine wpAnyH_take (i := 6) (v := .int .i64 (k : Int)) rfl (by kernel_rfl) (by kernel_rfl) (by kernel_rfl) (fun _ _ _ h => h) (Or.inl ⟨by rfl, ?_⟩) hHeld ?_
  · intro W hW
    go_simp
  simp [Act.put]
  refine wpAnyH_take (i := 7) (v := .int .i64 ((k : Int) + 1)) rfl (by kernel_rfl) (by kernel_rfl) (by kernel_rfl) (fun _ _ _ h => h) (Or.inl ⟨by rfl, ?_⟩) hHeld ?_
  · intro W hW
    go_simp
  simp [Act.put]
  refine wpAnyH_take (i := 8) (v := .slice (some ⟨b, off2, none⟩) (n - (k + 1)) (cap - (k + 1))) rfl (by kernel_rfl) (by kernel_rfl) (by kernel_rfl) (fun _ _ _ h => h) (Or.inl ⟨by rfl, ?_⟩) hHeld ?_
  · intro W hW
    go_simp
  simp [Act.put]
  refine wpAnyH_ready (rs := [0]) (by kernel_rfl) (by simp) ?_
  refine AllReadyH.cons rfl (fun K hK => ?_) AllReadyH.nil
  go_simp
  have HRe := Lib.hid (emptyRowK V w.heap.size hHeld.size)
  refine hK.out _ _ (hHeld.trans ((below_alloc1 _ _).mono hHeld.size)) (fun hHeld => ?_)
  clear hK K
  generalize V.alloc (.cells #[] 44) = W7 at *
  refine wpAnyH_ready (rs := [4]) (by kernel_rfl) (by simp) ?_
  refine AllReadyH.cons rfl (fun K hK => ?_) AllReadyH.nil
  rw [if_pos (by rfl)]
  refine appK (.tmp 5) (.tmp 8) rfl w.heap.size _ [] rfl HRe.out b off cap (l.take k) (by rw [ht1]; rfl) (fun i hi => by rw [ht1] at hi; rw [lkAt_take hi]; exact HF.out _ hHeld i (by omega)) (by simp; omega) hHeld.size ?_
  rintro v1 W8 hrow8 hg8 -
  have hB8 := hHeld.trans (HRe.out.belRow hg8 hHeld.size)
  have HR8 : Hid (LkRow W8 w.heap.size v1 (l.take k)) := hrow8
  clear hrow8 hg8 HRe
  refine hK.out _ _ hB8 (fun hHeld => ?_)
  clear hK K hB8
  simp [Act.put]
  refine wpAnyH_ready (rs := [9]) (by kernel_rfl) (by simp) ?_
  refine AllReadyH.cons rfl (fun K hK => ?_) AllReadyH.nil
  rw [if_pos (by rfl)]
  refine appK (.tmp 9) (.tmp 13) rfl w.heap.size _ (l.take k) rfl HR8.out b off2 (cap - (k + 1)) (l.drop (k + 1)) (by rw [ht2]; rfl) (fun i hi => by rw [ht2] at hi; rw [lkAt_drop, ho2 (by omega), show off + (k + 1) * 4 + i * 4 = off + (k + 1 + i) * 4 from by omega]; exact HF.out _ hHeld (k + 1 + i) (by omega)) (by simp; omega) hHeld.size ?_
  rintro v2 W9 hrow9 hg9 -
  have hB9 := hHeld.trans (HR8.out.belRow hg9 hHeld.size)
  have HR9 : Hid (LkRow W9 w.heap.size v2 (cutL l k)) := hrow9
  clear hrow9 hg9 HR8
  refine hK.out _ _ hB9 (fun hHeld => ?_)
  clear hK K hB9
  simp [Act.put]
  refine wpAnyH_take (i := 10) (v := v2) rfl (by kernel_rfl) (by kernel_rfl) (by kernel_rfl) (fun _ _ _ h => h) (Or.inl ⟨by rfl, ?_⟩) hHeld ?_
  · intro W hW
    go_simp
  simp [Act.put]
  refine wpAnyH_done (by kernel_rfl) ?_ _
  go_wp2
  go_ret
  exact ⟨_, rfl, HR9.out, hHeld⟩

/-- Room is made for so many links. -/
theorem grow_any (w : World) (n : Nat) (hn : n ≤ 1000) :
    Calls Try.prog 55 #[.slice none 0 0, .int .i64 (n : Int)] w fun e w' => ∃ u, e = .returned u ∧ LkRow w' w.heap.size u [] ∧ Below w.heap.size w w' := by
  by_cases h0 : n = 0
  · subst h0
    go_enter Try.func55, Try.ntmps55
    go_wp2
    go_ret
    exact ⟨_, rfl, World.ownsRow_nil _ _ _ _, Below.refl _ _⟩
  · obtain ⟨i0, hi, hz0, hz1, hz2⟩ := info_parts infoK
    have hr := Lib.run_append_nil_zeros (P := Try.prog) w 24 3 24 44 i0 _ .i64 .i64 Try.underlying24 Try.underlying3 hi hz0 n (by omega) (by omega) (by omega) (by rw [hz2]; omega)
    have hG := grownCap_ge w n 0 44
    have hG2 := grownCap_le_maxLen w n 0 44 (by unfold maxLen; omega)
    have h1 : ¬ ((n : Int) < 0) := by omega
    have h2 : (0 : Int) < (n : Int) := by omega
    have h2' : 0 < n := by omega
    have hw1 : IntKind.i64.wrap (n : Int) = (n : Int) := by rw [IntKind.wrap_i64]; omega
    generalize grownCap w n 0 44 = G at *
    unfold maxLen at hG2
    have HROW := Lib.hid (World.ownsRow_made (base := w.heap.size) (e := 44) (size := 4) w.drew (Builtin.zeroCells (Value.agg #[.int .i64 0, .int .i64 0, .int .i64 0, .int .i64 0]).cells n ++ Builtin.zeroCells (Value.agg #[.int .i64 0, .int .i64 0, .int .i64 0, .int .i64 0]).cells (G - n)) G (by simp) (by unfold maxLen; omega) (by simp [Builtin.zeroCells, Value.cells]; omega))
    have HB := Lib.hid (Below.trans (Below.refl w.heap.size w).drew (below_alloc1 w.drew (.cells (Builtin.zeroCells (Value.agg #[.int .i64 0, .int .i64 0, .int .i64 0, .int .i64 0]).cells n ++ Builtin.zeroCells (Value.agg #[.int .i64 0, .int .i64 0, .int .i64 0, .int .i64 0]).cells (G - n)) 44)))
    go_enter Try.func55, Try.ntmps55
    go_wp2_with (at_builtin; refine Lib.wpList_append_run _ rfl _ _ _ _ rfl _ _ rfl rfl _ _ hr ?_)
    go_ret
    exact ⟨_, rfl, HROW.out, HB.out⟩

end Go.Proofs.Ytbjndcfdcjpkmaa
