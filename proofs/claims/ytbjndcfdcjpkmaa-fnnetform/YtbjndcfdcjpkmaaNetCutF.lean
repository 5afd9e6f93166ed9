/-
  The plain side of FnCut, FnCutTwo, FnNetForm: a net without one of its links.
-/
import Derived.Test.YtbjndcfdcjpkmaaNetCutJ
import Derived.Test.YtbjndcfdcjpkmaaNetPlain
import Derived.Test.YtbjndcfdcjpkmaaNetPeerP
import Derived.Test.YtbjndcfdcjpkmaaNetFarJ
namespace Go.Proofs.Ytbjndcfdcjpkmaa
open Go.ChangeShapes Go.WideShapes Go.ChangeAt Go.RowKit Go.Joins
set_option linter.unusedVariables false

theorem dup_nodup (es : List (Int × Int)) : ¬ Dup es ↔ es.Nodup := by
  unfold List.Nodup
  rw [List.pairwise_iff_getElem]
  constructor
  · intro h i j hi hj hij e
    exact h ⟨j, i, hij, hj, by rw [List.getElem?_eq_getElem hi, List.getElem?_eq_getElem hj, e]⟩
  · rintro h ⟨i, k, hk, hi, e⟩
    rw [List.getElem?_eq_getElem hi, List.getElem?_eq_getElem (by omega)] at e
    exact h k i (by omega) hi hk (Option.some.inj e).symm
theorem endsL_append (a b : List K4) : endsL (a ++ b) = endsL a ++ endsL b := by simp [endsL]
theorem endsL_sub {a b : List K4} (h : a.Sublist b) : (endsL a).Sublist (endsL b) := by
  induction h with
  | slnil => exact List.Sublist.refl _
  | cons k _ ih => rw [endsL_cons]; exact (ih.cons _).cons _
  | cons_cons k _ ih => rw [endsL_cons, endsL_cons]; exact (ih.cons_cons _).cons_cons _
theorem netB_sub {a b : List K4} (h : a.Sublist b) (hb : netB b = true) : netB a = true := by
  obtain ⟨h1, h2, h3⟩ := (netB_iff b).1 hb
  refine (netB_iff a).2 ⟨fun i hi => ?_, ?_, Nat.le_trans h.length_le h3⟩
  · rw [lkAt_lt hi]
    exact net_ok hb _ (h.subset (List.getElem_mem hi))
  · rw [dup_nodup] at h2 ⊢
    exact h2.sublist (endsL_sub h)
theorem cutL_sub (l : List K4) (k : Nat) : (cutL l k).Sublist l := by
  have h : (l.drop (k + 1)).Sublist (l.drop k) := by
    rw [show l.drop (k + 1) = (l.drop k).drop 1 from by rw [List.drop_drop]]
    exact List.drop_sublist _ _
  have := List.Sublist.append (List.Sublist.refl (l.take k)) h
  rwa [List.take_append_drop] at this
theorem cutL_split {l : List K4} {k : Nat} (h : k < l.length) : l = l.take k ++ (lkAt l k :: l.drop (k + 1)) := by
  rw [lkAt_lt h]
  have := List.drop_eq_getElem_cons h
  rw [← this, List.take_append_drop]
/-- Nothing lies at the port that was cut off. -/
theorem cut_peer {l : List K4} {k : Nat} (hn : netB l = true) (h : k < l.length) : peerF (cutL l k) (lkAt l k).p (lkAt l k).s = (0, 0) := by
  rcases peerF_cases (cutL l k) (lkAt l k).p (lkAt l k).s with h0 | ⟨q, hq, hc⟩
  · exact h0
  · exfalso
    have h2 := ((netB_iff l).1 hn).2.1
    rw [dup_nodup, cutL_split h, endsL_append, endsL_cons] at h2
    rw [List.nodup_append] at h2
    obtain ⟨-, n2, n3⟩ := h2
    have hm : ((lkAt l k).p, (lkAt l k).s) ∈ endsL (cutL l k) := by
      unfold endsL
      rw [List.mem_flatMap]
      rcases hc with ⟨a, b, -⟩ | ⟨a, b, -⟩
      · exact ⟨q, hq, by simp [a, b]⟩
      · exact ⟨q, hq, by simp [a, b]⟩
    unfold cutL at hm
    rw [endsL_append, List.mem_append] at hm
    rcases hm with hm | hm
    · exact n3 _ hm _ List.mem_cons_self rfl
    · rw [List.nodup_cons] at n2
      exact n2.1 (List.mem_cons_of_mem _ hm)
theorem dist_sub {l m : List K4} {c : Nat} {D E : Nat → Int} (hs : ∀ k ∈ m, k ∈ l) (hD : IsDist m c D) (hE : IsDist l c E) : ∀ (n : Nat) (v : Nat), 1 ≤ v → v ≤ 4 → D v = (n : Int) → 0 ≤ E v ∧ E v ≤ (n : Int)
  | 0, v, h1, h4, h => by
    have := (hE.zero v h1 h4).2 ((hD.zero v h1 h4).1 (by simpa using h))
    omega
  | n + 1, v, h1, h4, h => by
    obtain ⟨u, u1, u4, ha, hu⟩ := hD.back v h1 h4 (by omega)
    obtain ⟨e0, e1⟩ := dist_sub hs hD hE n u u1 u4 (by omega)
    have ha' : Adj l u v := by
      obtain ⟨k, hk, hh⟩ := ha
      exact ⟨k, hs k hk, hh⟩
    obtain ⟨f0, f1⟩ := hE.step u v u1 u4 h1 h4 ha' e0
    exact ⟨f0, by omega⟩
/-- Without a link no one is nearer. -/
theorem cut_far {l : List K4} {k : Nat} (hn : netB l = true) {a b : Int} (ha : 1 ≤ a) (ha4 : a ≤ 4) (hb : 1 ≤ b) (hb4 : b ≤ 4) : farV (cutL l k) a b < 0 ∨ (0 ≤ farV l a b ∧ farV l a b ≤ farV (cutL l k) a b) := by
  have sa : swB a = true := inB_mk (by omega) (by omega)
  have sb : swB b = true := inB_mk (by omega) (by omega)
  have hm := netB_sub (cutL_sub l k) hn
  have e1 : farV l a b = farS l a.toNat b.toNat := by unfold farV; rw [hn, sa, sb]; rfl
  have e2 : farV (cutL l k) a b = farS (cutL l k) a.toNat b.toNat := by unfold farV; rw [hm, sa, sb]; rfl
  rw [e1, e2]
  have hD := farS_dist (net_ok hm) (c := a.toNat) (by omega) (by omega)
  have hE := farS_dist (net_ok hn) (c := a.toNat) (by omega) (by omega)
  rcases hD.low b.toNat (by omega) (by omega) with h | h
  · exact .inl (by omega)
  · have := dist_sub (fun q hq => (cutL_sub l k).subset hq) hD hE (farS (cutL l k) a.toNat b.toNat).toNat b.toNat (by omega) (by omega) (by omega)
    exact .inr (by omega)
/-- Two links are cut in any order. -/
theorem cut_two {l : List K4} {i k o b : Nat} (hi : i < l.length) (hk : k + 1 < l.length) (ho : o = if i ≤ k then k + 1 else k) (hb : b = if o < i then i - 1 else i) : cutL (cutL l i) k = cutL (cutL l o) b := by
  have e : ∀ (m : List K4) (j : Nat), cutL m j = m.eraseIdx j := fun m j => by rw [cutL, List.eraseIdx_eq_take_drop_succ]
  rw [e, e, e, e]
  apply List.ext_getElem?
  intro n
  simp only [List.getElem?_eraseIdx]
  split at ho <;> subst ho <;> split at hb <;> subst hb <;> (try omega) <;> (repeat' split) <;> (first | rfl | omega | (congr 1; omega))
theorem cutB_mk {l : List K4} {k : Nat} (hn : netB l = true) (h : k < l.length) : cutB l (k : Int) = true := by
  unfold cutB
  rw [hn]
  show inB (k : Int) 0 ((l.length : Int) - 1) = true
  exact inB_mk (by omega) (by omega)
theorem cutVL_mk {l : List K4} {k : Nat} (hn : netB l = true) (h : k < l.length) : cutVL l (k : Int) = cutL l k := by
  unfold cutVL
  rw [cutB_mk hn h]
  rfl
theorem netB_cut {l : List K4} {k : Nat} (hn : netB l = true) : netB (cutL l k) = true := netB_sub (cutL_sub l k) hn
/-- A link twice is no net. -/
theorem netB_twice (l : List K4) (x : K4) : netB (l ++ [x, x]) = false := by
  refine netB_dup ?_
  by_cases h : Dup (endsL (l ++ [x, x]))
  · exact h
  · exfalso
    rw [dup_nodup, endsL_append] at h
    have h2 := (List.nodup_append.1 h).2.1
    simp [endsL] at h2
/-- A switch is not linked to itself. -/
theorem netB_own (l : List K4) (x : K4) (h : x.p = x.o) : netB (l ++ [x]) = false := by
  refine netB_bad (i := l.length) (by simp) ?_
  have e : lkAt (l ++ [x]) l.length = x := by simp [lkAt]
  rw [e]
  unfold lkOk
  simp [h]

end Go.Proofs.Ytbjndcfdcjpkmaa
