/-
  Plain facts on what is left of a pattern without another one: each head of the first that is not of the second is of one piece, no other head is of any; how many heads the pieces have.
-/
import Derived.Test.YtddkpimmcmnogabWildLessS
import Derived.Test.YtddkpimmcmnogabWildFactsB
namespace Go.Proofs.Ytddkpimmcmnogab
open Go.ChangeShapes Go.WideShapes Go.ChangeAt Go.RowKit Go.Joins
set_option linter.unusedVariables false

/-- One place is set. -/
theorem hasM_set {c v c' v' : Nat → Bool} {k : Nat} {q : Bool} (hk : k < 6) (f : Nat → Bool) (hc : c k = false) (hv : v k = false)
    (h : ∀ i, i < 6 → i ≠ k → c' i = c i ∧ v' i = v i) (hc' : c' k = true) (hv' : v' k = q) : hasM c' v' f = (hasM c v f && (f k == q)) := by
  rw [Bool.eq_iff_iff, Bool.and_eq_true]
  unfold hasM
  rw [all6_iff, all6_iff]
  constructor
  · intro hh
    refine ⟨fun i hi => ?_, ?_⟩
    · by_cases e : i = k
      · subst e; rw [hc, hv]; simp
      · have := hh i hi
        rw [(h i hi e).1, (h i hi e).2] at this
        exact this
    · have := hh k hk
      rw [hc', hv', Bool.and_true] at this
      exact this
  · rintro ⟨h1, h2⟩ i hi
    by_cases e : i = k
    · subst e; rw [hc', hv', Bool.and_true]; exact h2
    · rw [(h i hi e).1, (h i hi e).2]; exact h1 i hi
theorem hasM_eq {c v c' v' : Nat → Bool} (f : Nat → Bool) (h : ∀ i, i < 6 → c' i = c i ∧ v' i = v i) : hasM c' v' f = hasM c v f := all6_congr fun i hi => by rw [(h i hi).1, (h i hi).2]
theorem ck_ne {ca cb : Nat → Bool} {k i : Nat} (e : i ≠ k) : ckB ca cb (k + 1) i = ckB ca cb k i := by
  have : (i < k + 1) = (i < k) := by apply propext; omega
  simp [ckB, this]
theorem vk_ne {ca va vb : Nat → Bool} {k i : Nat} (e : i ≠ k) : vkB ca va vb (k + 1) i = vkB ca va vb k i := by
  have : (i < k + 1) = (i < k) := by apply propext; omega
  simp [vkB, this]
theorem sel_parts {ca cb : Nat → Bool} {k : Nat} (h : selB ca cb k = true) : ca k = false ∧ cb k = true := by
  unfold selB at h
  revert h
  cases ca k <;> cases cb k <;> simp

/-- How many pieces of the first k places a number is of. -/
def cntP (l : List ((Nat → Bool) × (Nat → Bool))) (f : Nat → Bool) : Nat := (l.map fun p => (hasM p.1 p.2 f).toNat).sum
theorem cntP_step {ca va cb vb : Nat → Bool} (hv : ∀ i, vb i = true → cb i = true) (f : Nat → Bool) : ∀ k, k ≤ 6 → cntP (piecesTo ca va cb vb k) f + (hasM (ckB ca cb k) (vkB ca va vb k) f).toNat = (hasM (ckB ca cb 0) (vkB ca va vb 0) f).toNat
  | 0, _ => by simp [cntP, piecesTo]
  | k + 1, hk => by
    have ih := cntP_step (ca := ca) (va := va) hv f k (by omega)
    cases hs : selB ca cb k
    · have e : hasM (ckB ca cb (k + 1)) (vkB ca va vb (k + 1)) f = hasM (ckB ca cb k) (vkB ca va vb k) f := hasM_eq f fun i hi => by
        by_cases e : i = k
        · subst e
          have hv := hv i
          unfold selB at hs
          revert hs hv
          simp only [ckB, vkB]
          cases ca i <;> cases cb i <;> cases vb i <;> simp
        · exact ⟨ck_ne e, vk_ne e⟩
      rw [e]
      simpa [piecesTo, hs] using ih
    · obtain ⟨h1, h2⟩ := sel_parts hs
      have c0 : ckB ca cb k k = false := by simp [ckB, h1]
      have v0 : vkB ca va vb k k = false := by simp [vkB, h1]
      have e1 := hasM_set (c := ckB ca cb k) (v := vkB ca va vb k) (c' := ckB ca cb (k + 1)) (v' := vkB ca va vb (k + 1)) (k := k) (q := vb k) (by omega) f c0 v0 (fun i _ e => ⟨ck_ne e, vk_ne e⟩) (by simp [ckB, h2]) (by simp [vkB, h1])
      have e2 := hasM_set (c := ckB ca cb k) (v := vkB ca va vb k) (c' := pcB ca cb k) (v' := pvB ca va vb k) (k := k) (q := !vb k) (by omega) f c0 v0
        (fun i _ e => by have e' : (i == k) = false := by simpa using e
                         simp [pcB, pvB, e']) (by simp [pcB]) (by simp [pvB])
      have e3 : cntP (piecesTo ca va cb vb (k + 1)) f = cntP (piecesTo ca va cb vb k) f + (hasM (pcB ca cb k) (pvB ca va vb k) f).toNat := by simp [piecesTo, hs, cntP]
      rw [e3, e1, e2, ← ih]
      cases hasM (ckB ca cb k) (vkB ca va vb k) f <;> cases f k <;> cases vb k <;> simp

theorem hasM_txt {c v : Nat → Bool} (h : ∀ i, i < 6 → v i = true → c i = true) (f : Nat → Bool) : hasM (cf (txt c v)) (vf (txt c v)) f = hasM c v f := hasM_eq f fun i hi => by
  rw [cf_txt _ _ hi, vf_txt _ _ hi]
  have := h i hi
  revert this
  cases c i <;> cases v i <;> simp
theorem piece_vc {ca va cb vb : Nat → Bool} (ha : ∀ i, va i = true → ca i = true) (hb : ∀ i, vb i = true → cb i = true) (k i : Nat) (h : pvB ca va vb k i = true) : pcB ca cb k i = true := by
  have ha := ha i
  have hb := hb i
  revert h ha hb
  simp only [pvB, pcB, ckB, vkB]
  cases ca i <;> cases va i <;> cases cb i <;> cases vb i <;> cases (i == k) <;> cases decide (i < k) <;> simp
theorem pieces_vc {ca va cb vb : Nat → Bool} (ha : ∀ i, va i = true → ca i = true) (hb : ∀ i, vb i = true → cb i = true) : ∀ k, ∀ p ∈ piecesTo ca va cb vb k, ∀ i, p.2 i = true → p.1 i = true
  | 0, p, hp => by simp [piecesTo] at hp
  | k + 1, p, hp => by
    cases hs : selB ca cb k
    · rw [show piecesTo ca va cb vb (k + 1) = piecesTo ca va cb vb k from by simp [piecesTo, hs]] at hp
      exact pieces_vc ha hb k p hp
    · rw [show piecesTo ca va cb vb (k + 1) = piecesTo ca va cb vb k ++ [(pcB ca cb k, pvB ca va vb k)] from by simp [piecesTo, hs], List.mem_append] at hp
      rcases hp with hp | hp
      · exact pieces_vc ha hb k p hp
      · simp at hp
        subst hp
        exact fun i h => piece_vc ha hb k i h

/-- How many of a list of texts a number is of. -/
def cntL (l : List ByteArray) (f : Nat → Bool) : Nat := (l.map fun s => (okS s && hasM (cf s) (vf s) f).toNat).sum
theorem cntL_texts (ps : List ((Nat → Bool) × (Nat → Bool))) (h : ∀ p ∈ ps, ∀ i, p.2 i = true → p.1 i = true) (f : Nat → Bool) : cntL (textsOf ps) f = cntP ps f := by
  unfold cntL cntP textsOf
  rw [List.map_map]
  congr 1
  refine List.map_congr_left fun p hp => ?_
  show (okS (txt p.1 p.2) && _).toNat = _
  rw [okS_txt, Bool.true_and, hasM_txt (fun i _ => h p hp i)]
/-- Each head of the first that is not of the second is of one piece. -/
theorem less_count {a b : ByteArray} (ha : okS a = true) (hb : okS b = true) (f : Nat → Bool) : cntL (lessL a b) f = (hasM (cf a) (vf a) f && !hasM (cf b) (vf b) f).toNat := by
  have hand := hasM_and ha hb f
  cases hm : meetS a b
  · rw [show lessL a b = [a] from by unfold lessL; rw [ha, hb, hm]; rfl]
    rw [hm, Bool.false_and] at hand
    simp only [cntL, List.map_cons, List.map_nil, List.sum_cons, List.sum_nil, ha, Bool.true_and, Nat.add_zero]
    revert hand
    cases hasM (cf a) (vf a) f <;> cases hasM (cf b) (vf b) f <;> simp
  · rw [show lessL a b = textsOf (piecesTo (cf a) (vf a) (cf b) (vf b) 6) from by unfold lessL; rw [ha, hb, hm]; rfl]
    rw [cntL_texts _ (pieces_vc (fun i h => vf_cf i h) (fun i h => vf_cf i h) 6)]
    have h := cntP_step (ca := cf a) (va := vf a) (cb := cf b) (vb := vf b) (fun i h => vf_cf i h) f 6 (Nat.le_refl _)
    have e0 : hasM (ckB (cf a) (cf b) 0) (vkB (cf a) (vf a) (vf b) 0) f = hasM (cf a) (vf a) f := hasM_eq f fun i hi => by
      have := vf_cf (s := a) i
      simp only [ckB, vkB]
      revert this
      cases cf a i <;> cases vf a i <;> simp
    have e6 : hasM (ckB (cf a) (cf b) 6) (vkB (cf a) (vf a) (vf b) 6) f = hasM (cf (andS a b)) (vf (andS a b)) f := hasM_eq f fun i hi => by
      rw [cf_andS hm hi, vf_andS hm hi]
      have u1 := vf_cf (s := a) i
      have u2 := vf_cf (s := b) i
      have em := all6_iff.1 (meetS_parts hm).2.2 i hi
      simp only [ckB, vkB, hi, decide_true, Bool.true_and]
      revert u1 u2 em
      cases cf a i <;> cases vf a i <;> cases cf b i <;> cases vf b i <;> simp
    rw [hm, Bool.true_and] at hand
    rw [e0, e6, ← hand] at h
    revert h
    cases hasM (cf a) (vf a) f <;> cases hasM (cf b) (vf b) f <;> simp

/-! ### How many heads -/

theorem many_split {c : Nat → Bool} {k : Nat} (hk : k < 6) (hc : c k = false) : manyB c = 2 * manyB (fun i => c i || i == k) := by
  rw [many_prod, many_prod]
  match k, hk with
  | 0, _ => simp only [hc]; cases c 1 <;> cases c 2 <;> cases c 3 <;> cases c 4 <;> cases c 5 <;> rfl
  | 1, _ => simp only [hc]; cases c 0 <;> cases c 2 <;> cases c 3 <;> cases c 4 <;> cases c 5 <;> rfl
  | 2, _ => simp only [hc]; cases c 0 <;> cases c 1 <;> cases c 3 <;> cases c 4 <;> cases c 5 <;> rfl
  | 3, _ => simp only [hc]; cases c 0 <;> cases c 1 <;> cases c 2 <;> cases c 4 <;> cases c 5 <;> rfl
  | 4, _ => simp only [hc]; cases c 0 <;> cases c 1 <;> cases c 2 <;> cases c 3 <;> cases c 5 <;> rfl
  | 5, _ => simp only [hc]; cases c 0 <;> cases c 1 <;> cases c 2 <;> cases c 3 <;> cases c 4 <;> rfl
theorem manyB_congr {c d : Nat → Bool} (h : ∀ i, i < 6 → c i = d i) : manyB c = manyB d := by
  unfold manyB
  rw [h 0 (by omega), h 1 (by omega), h 2 (by omega), h 3 (by omega), h 4 (by omega), h 5 (by omega)]
def sumP (l : List ((Nat → Bool) × (Nat → Bool))) : Int := (l.map fun p => manyB p.1).sum
theorem sumP_step (ca va cb vb : Nat → Bool) : ∀ k, k ≤ 6 → sumP (piecesTo ca va cb vb k) + manyB (ckB ca cb k) = manyB (ckB ca cb 0)
  | 0, _ => by simp [sumP, piecesTo]
  | k + 1, hk => by
    have ih := sumP_step ca va cb vb k (by omega)
    cases hs : selB ca cb k
    · have e : manyB (ckB ca cb (k + 1)) = manyB (ckB ca cb k) := manyB_congr fun i hi => by
        by_cases e : i = k
        · subst e
          unfold selB at hs
          revert hs
          simp only [ckB]
          cases ca i <;> cases cb i <;> simp
        · exact ck_ne e
      rw [e]
      simpa [piecesTo, hs] using ih
    · obtain ⟨h1, h2⟩ := sel_parts hs
      have c0 : ckB ca cb k k = false := by simp [ckB, h1]
      have e1 : manyB (ckB ca cb (k + 1)) = manyB (pcB ca cb k) := manyB_congr fun i hi => by
        by_cases e : i = k
        · subst e; simp [ckB, pcB, h2]
        · have e' : (i == k) = false := by simpa using e
          rw [ck_ne e]; simp [pcB, e']
      have e2 : manyB (ckB ca cb k) = 2 * manyB (pcB ca cb k) := many_split (by omega) c0
      have e3 : sumP (piecesTo ca va cb vb (k + 1)) = sumP (piecesTo ca va cb vb k) + manyB (pcB ca cb k) := by simp [piecesTo, hs, sumP]
      rw [e3, e1]
      omega
def sumL (l : List ByteArray) : Int := (l.map fun s => manyS s).sum
theorem sumL_texts (ps : List ((Nat → Bool) × (Nat → Bool))) : sumL (textsOf ps) = sumP ps := by
  unfold sumL sumP textsOf
  rw [List.map_map]
  congr 1
  refine List.map_congr_left fun p hp => ?_
  show manyS (txt p.1 p.2) = _
  unfold manyS
  rw [okS_txt]
  show manyB (cf (txt p.1 p.2)) = _
  exact manyB_congr fun i hi => cf_txt _ _ hi
/-- What is left, and what is in common, are all. -/
theorem less_sum {a b : ByteArray} (ha : okS a = true) (hb : okS b = true) : sumL (lessL a b) + (bif meetS a b then manyS (andS a b) else 0) = manyS a := by
  have ea : manyS a = manyB (cf a) := by unfold manyS; rw [ha]; rfl
  cases hm : meetS a b
  · rw [show lessL a b = [a] from by unfold lessL; rw [ha, hb, hm]; rfl]
    simp [sumL]
  · rw [show lessL a b = textsOf (piecesTo (cf a) (vf a) (cf b) (vf b) 6) from by unfold lessL; rw [ha, hb, hm]; rfl, sumL_texts]
    have h := sumP_step (cf a) (vf a) (cf b) (vf b) 6 (Nat.le_refl _)
    rw [show manyB (ckB (cf a) (cf b) 0) = manyB (cf a) from manyB_congr fun i _ => by simp [ckB]] at h
    rw [ea, ← h]
    show _ + manyS (andS a b) = _
    unfold manyS
    rw [okS_andS hm]
    show _ + manyB _ = _
    congr 1
    refine manyB_congr fun i hi => ?_
    rw [cf_andS hm hi]
    simp [ckB, hi]
theorem pieces_none (ca va cb vb : Nat → Bool) : ∀ k, k ≤ 6 → (decide ((piecesTo ca va cb vb k).length = 0) = preTo (fun i => !selB ca cb i) k)
  | 0, _ => rfl
  | k + 1, hk => by
    have ih := pieces_none ca va cb vb k (by omega)
    simp only [preTo]
    rw [← ih]
    cases hs : selB ca cb k
    · simp [piecesTo, hs]
    · simp [piecesTo, hs]
/-- Nothing is left, if one is in the other. -/
theorem less_none {a b : ByteArray} (ha : okS a = true) (hb : okS b = true) : (((lessL a b).length : Int) == 0) = inS a b := by
  have e0 : inS a b = inM (cf a) (vf a) (cf b) (vf b) := by unfold inS; rw [ha, hb]; rfl
  have em : meetS a b = meetB (cf a) (vf a) (cf b) (vf b) := by unfold meetS; rw [ha, hb]; rfl
  rw [e0]
  unfold inM
  rw [← em]
  cases hm : meetS a b
  · rw [show lessL a b = [a] from by unfold lessL; rw [ha, hb, hm]; rfl]
    simp
  · rw [show lessL a b = textsOf (piecesTo (cf a) (vf a) (cf b) (vf b) 6) from by unfold lessL; rw [ha, hb, hm]; rfl, Bool.and_true]
    have h := pieces_none (cf a) (vf a) (cf b) (vf b) 6 (Nat.le_refl _)
    have e1 : (((textsOf (piecesTo (cf a) (vf a) (cf b) (vf b) 6)).length : Int) == 0) = decide ((piecesTo (cf a) (vf a) (cf b) (vf b) 6).length = 0) := by
      unfold textsOf
      rw [List.length_map, Bool.eq_iff_iff]
      simp
    rw [e1, h, Bool.eq_iff_iff, preTo_iff, all6_iff]
    rfl

end Go.Proofs.Ytddkpimmcmnogab
