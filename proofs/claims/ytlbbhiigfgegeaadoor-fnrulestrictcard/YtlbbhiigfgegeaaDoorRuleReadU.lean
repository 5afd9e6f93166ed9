/-
  What RuleRead returns, the model's and the program's: both the rule of a text that is a rule's, both none of any other.
-/
import Derived.Test.YtlbbhiigfgegeaaDoorRuleReadS
import Derived.Test.YtlbbhiigfgegeaaDoorRuleReadT
import Derived.Test.YtlbbhiigfgegeaaDoorRuleReadI
namespace Go.Proofs.YtlbbhiigfgegeaaDoor
open Go.ChangeShapes Go.WideShapes Go.ChangeAt Go.RowKit Go.Joins
set_option linter.unusedVariables false

theorem rTxt_lit {p : Int} {m : ByteArray} {o t : Int} (h : m.size = 6) : rTxt p m o t = ⟨#[dgt p, 32, byA m 0, byA m 1, byA m 2, byA m 3, byA m 4, byA m 5, 32, dgt o, 32, tagC t]⟩ := by
  apply byteArray_ext
  rw [rTxt_list]
  have e := congrArg (fun x : ByteArray => x.data.toList) (mk6_back h)
  have e' : m.data.toList = [byA m 0, byA m 1, byA m 2, byA m 3, byA m 4, byA m 5] := e.symm
  rw [e']
  rfl
theorem rTxt_match {p : Int} {m : ByteArray} {o t : Int} (h : m.size = 6) : (rTxt p m o t).extract 2 8 = m := by
  rw [rTxt_lit h]
  apply byteArray_ext
  have e := congrArg (fun x : ByteArray => x.data.toList) (mk6_back h)
  have e' : m.data.toList = [byA m 0, byA m 1, byA m 2, byA m 3, byA m 4, byA m 5] := e.symm
  rw [e', ByteArray.data_extract, Array.toList_extract]
  rfl

theorem sRuleRead_yes (p : Int) (m : ByteArray) (o t : Int) (hk : rOk p m o t = true) (w : World) :
    Calls Tryd.prog 20 #[.string (rTxt p m o t)] w fun e w' => e = .returned (someV p m o t) ∧ Below w.heap.size w w' := by
  obtain ⟨⟨p0, p1⟩, hs, ⟨o0, o1⟩, t0, t1⟩ := rOk_true hk
  have h6 := okS_size hs
  have h12 : (rTxt p m o t).size = 12 := rTxt_size hs
  have hm := rTxt_match (p := p) (o := o) (t := t) h6
  have e0 : ((byA (rTxt p m o t) 0).toNat : Int) = 48 + p := by rw [rTxt_lit h6]; exact dgt_toNat p0 p1
  have e9 : ((byA (rTxt p m o t) 9).toNat : Int) = 48 + o := by rw [rTxt_lit h6]; exact dgt_toNat o0 (by omega)
  have e11 : byA (rTxt p m o t) 11 = tagC t := by rw [rTxt_lit h6]; rfl
  have hT : ((rT p m o t).toList == (rTxt p m o t).toList) = true := by rw [rT_yes hk]; exact beq_self_eq_true _
  by_cases ht : t = -1
  · subst ht
    have h := sRuleRead_dash _ h12 m hm _ _ e0 e9 (by rw [e11]; rfl) w
    rw [show (48 + p : Int) - 48 = p by omega, show (48 + o : Int) - 48 = o by omega, hT] at h
    exact h
  · have et : ((byA (rTxt p m o t) 11).toNat : Int) = 48 + t := by
      rw [e11, tagC_toNat t0 t1, if_neg (by omega)]
    have h := sRuleRead_digit _ h12 m hm _ _ _ e0 e9 et (by omega) w
    rw [show (48 + p : Int) - 48 = p by omega, show (48 + o : Int) - 48 = o by omega, show (48 + t : Int) - 48 = t by omega, hT] at h
    exact h

theorem rT_ne {s : ByteArray} (h12 : s.size = 12) (hn : ∀ p m o t, rOk p m o t = true → s ≠ rTxt p m o t) (p : Int) (m : ByteArray) (o t : Int) : ((rT p m o t).toList == s.toList) = false := by
  apply beq_eq_false_iff_ne.2
  intro e
  rw [Lib.toList_data, Lib.toList_data] at e
  have e' := byteArray_ext e
  cases hk : rOk p m o t
  · rw [rT_no hk] at e'
    rw [← e'] at h12
    exact absurd h12 (by decide)
  · rw [rT_yes hk] at e'
    exact hn _ _ _ _ hk e'.symm

theorem sRuleRead_no (s : ByteArray) (hs : s.size ≤ 1048576) (hn : ∀ p m o t, rOk p m o t = true → s ≠ rTxt p m o t) (w : World) :
    Calls Tryd.prog 20 #[.string s] w fun e w' => e = .returned noneV ∧ Below w.heap.size w w' := by
  by_cases h12 : s.size = 12
  · by_cases hb : byA s 11 = 45
    · have h := sRuleRead_dash s h12 _ rfl _ _ rfl rfl hb w
      rw [rT_ne h12 hn] at h
      exact h
    · have h := sRuleRead_digit s h12 _ rfl _ _ _ rfl rfl rfl (fun e => hb (UInt8.toNat_inj.1 (by show _ = 45; omega))) w
      rw [rT_ne h12 hn] at h
      exact h
  · exact sRuleRead_short s hs h12 w

/-- Both read the same of a text: a rule of which it is the text, or none. -/
theorem ruleRead_told (s : ByteArray) (hs : s.size ≤ 1048576) : ∃ (p : Int) (m : ByteArray) (o t : Int) (k : Bool),
    (∀ W : World, Calls Tryd.prog 20 #[.string s] W fun e w' => e = .returned (.tuple #[.agg #[.int .i64 p, .string m, .int .i64 o, .int .i64 t], .bool k]) ∧ Below W.heap.size W w') ∧
    (∀ W : World, EtOk W → Calls Tryd.prog 17 #[.string s] W fun e w' => e = .returned (.tuple #[.agg #[.int .i64 p, .string m, .int .i64 o, .int .i64 t], .bool k]) ∧ Below W.heap.size W w') ∧
    m.size ≤ 1048576 ∧ (k = true → rOk p m o t = true ∧ rTxt p m o t = s) := by
  by_cases h : ∃ p m o t, rOk p m o t = true ∧ s = rTxt p m o t
  · obtain ⟨p, m, o, t, hk, rfl⟩ := h
    refine ⟨p, m, o, t, true, sRuleRead_yes p m o t hk, fun W _ => iRuleRead_yes p m o t hk W, ?_, fun _ => ⟨hk, rfl⟩⟩
    rw [okS_size (rOk_true hk).2.1]
    omega
  · have hn : ∀ p m o t, rOk p m o t = true → s ≠ rTxt p m o t := fun p m o t hk e => h ⟨p, m, o, t, hk, e⟩
    exact ⟨0, ⟨#[]⟩, 0, 0, false, sRuleRead_no s hs hn, fun W hE => iRuleRead_no s hs hn W hE, by decide, fun h => by cases h⟩

end Go.Proofs.YtlbbhiigfgegeaaDoor
