/-
  What RuleRead returns, the program's: a rule for its text, and none for any other text.
-/
import Derived.Test.YtlbbhiigfgegeaaDoorRuleImpl
import Derived.Test.YtlbbhiigfgegeaaDoorRuleSplit
import Derived.Test.YtlbbhiigfgegeaaDoorStrClone
import Derived.Deep.RegionHeld3
namespace Go.Proofs.YtlbbhiigfgegeaaDoor
open Go.ChangeShapes Go.WideShapes Go.ChangeAt Go.RowKit Go.Joins
set_option linter.unusedVariables false

set_option maxHeartbeats 1000000 in
theorem readDigit_any (x : ByteArray) (hx : x.size ≤ 1048576) (w : World) :
    Calls Tryd.prog 68 #[.string x] w fun e w' => e = .returned (.int .i64 (dgF x)) ∧ w = w' := by
  by_cases h1 : x.size = 1
  · obtain ⟨b, rfl⟩ : ∃ b : UInt8, x = ⟨#[b]⟩ := ⟨_, one_byte h1⟩
    have e : dgF ⟨#[b]⟩ = bif decide (48 ≤ b.toNat) && decide (b.toNat ≤ 57) then (b.toNat : Int) - 48 else -2 := rfl
    rw [e]
    clear e h1 hx
    have hb := b.toNat_lt
    have hg : ((⟨#[b]⟩ : ByteArray)[0]'(show 0 < 1 from Nat.zero_lt_one)) = b := rfl
    by_cases l : b.toNat < 48
    · rw [decide_eq_false (show ¬ 48 ≤ b.toNat by omega)]
      have l' : (b.toNat : Int) < 48 := by omega
      go_enter Tryd.func68, Tryd.ntmps68
      go_wp2
      go_ret
      exact ⟨rfl, rfl⟩
    · have l' : ¬ (b.toNat : Int) < 48 := by omega
      have l'' : decide ((b.toNat : Int) < 48) = false := by simpa using l'
      by_cases u : 57 < b.toNat
      · rw [decide_eq_false (show ¬ b.toNat ≤ 57 by omega), Bool.and_false]
        have u' : (57 : Int) < (b.toNat : Int) := by omega
        go_enter Tryd.func68, Tryd.ntmps68
        go_wp2
        go_ret
        exact ⟨rfl, rfl⟩
      · rw [decide_eq_true (show 48 ≤ b.toNat by omega), decide_eq_true (show b.toNat ≤ 57 by omega), Bool.and_self, cond_true]
        have u' : ¬ (57 : Int) < (b.toNat : Int) := by omega
        have u'' : decide ((57 : Int) < (b.toNat : Int)) = false := by simpa using u'
        go_enter Tryd.func68, Tryd.ntmps68
        go_wp2
        go_ret
        exact ⟨rfl, rfl⟩
  · have hne : (((x.size : Nat) : Int) != 1) = true := by simp; omega
    rw [show dgF x = -2 from by unfold dgF; rw [beq_eq_false_iff_ne.2 h1]; rfl]
    clear h1
    go_enter Tryd.func68, Tryd.ntmps68
    go_wp2
    go_ret
    exact ⟨rfl, rfl⟩

set_option maxHeartbeats 1000000 in
theorem readTag_any (x : ByteArray) (hx : x.size ≤ 1048576) (w : World) :
    Calls Tryd.prog 69 #[.string x] w fun e w' => e = .returned (.int .i64 (tgF x)) ∧ w = w' := by
  cases h : (x.toList == [45])
  · rw [show tgF x = dgF x from by unfold tgF; rw [← Lib.toList_data, h, cond_false]]
    go_enter Tryd.func69, Tryd.ntmps69
    go_wp2_with fail
    refine (readDigit_any _ hx _).mono ?_
    rintro e w1 ⟨rfl, rfl⟩
    go_wp2
    go_ret
    exact ⟨rfl, rfl⟩
  · rw [show tgF x = -1 from by unfold tgF; rw [← Lib.toList_data, h, cond_true]]
    go_enter Tryd.func69, Tryd.ntmps69
    go_wp2
    go_ret
    exact ⟨rfl, rfl⟩

/-- No rule is read. -/
def NoRule (w : World) (e : Ending) (w' : World) : Prop := ∃ m : ByteArray, e = .returned (.tuple #[.agg #[.int .i64 0, .string ⟨#[]⟩, .int .i64 0, .int .i64 0], errRule m]) ∧ Below w.heap.size w w'

theorem cells4 {a b c d : ByteArray} {N : Nat} (hN : 4 ≤ N) : (Lib.cellsOf [a, b, c, d] N)[0]? = some (.string a) ∧ (Lib.cellsOf [a, b, c, d] N)[1]? = some (.string b) ∧ (Lib.cellsOf [a, b, c, d] N)[2]? = some (.string c) ∧ (Lib.cellsOf [a, b, c, d] N)[3]? = some (.string d) := by
  simp [Lib.cellsOf]

set_option maxHeartbeats 2000000 in
theorem readRule_few (s : ByteArray) (hs : s.size ≤ 1048576) (hc : (cutK (min 5 (s.size + 1) - 1) s).length ≠ 4) (w : World) :
    Calls Tryd.prog 44 #[.string s] w (NoRule w) := by
  obtain ⟨M, hM⟩ : ∃ M, M = Lib.cellsOf (cutK (min 5 (s.size + 1) - 1) s) (min 5 (s.size + 1)) := ⟨_, rfl⟩
  have HG := Lib.hid (splitN_blank s hs _ rfl)
  rw [← hM] at HG
  clear hM
  generalize (cutK (min 5 (s.size + 1) - 1) s).length = L at hc HG
  generalize min 5 (s.size + 1) = N at HG
  have hne : (((L : Nat) : Int) != 4) = true := by simp; omega
  clear hc
  go_enter Tryd.func44, Tryd.ntmps44
  go_wp2_with fail
  refine (HG.out _).mono ?_
  rintro e w1 ⟨rfl, rfl⟩
  go_wp2
  exact bodyPost_ret (v := .tuple #[.agg #[.int .i64 0, .string ⟨#[]⟩, .int .i64 0, .int .i64 0], errRule ⟨#[110, 117, 109, 98, 101, 114, 32, 111, 102, 32, 112, 97, 114, 116, 115]⟩]) (by simp [results, Tryd.results44, go_sem, errRule]) rfl
    ⟨_, rfl, below_alloc2 _ _ _⟩

/-- The blocks of a reading: the result's and the rule's, behind calls that leave what was there. -/
theorem readKept {w w1 : World} {t u v : TypeId} {M : Array Value} {a b c d x y z k : Value} (h0 : Below ((((w.alloc (.cells #[x, y, z, k] t)).alloc (.cells M u)).alloc (.cells #[a, b, c, d] v)).drew).heap.size (((w.alloc (.cells #[x, y, z, k] t)).alloc (.cells M u)).alloc (.cells #[a, b, c, d] v)).drew w1) :
    (w1.cell? ⟨w.heap.size, 0, none⟩ = some x ∧ w1.cell? ⟨w.heap.size, 1, none⟩ = some y ∧ w1.cell? ⟨w.heap.size, 2, none⟩ = some z ∧ w1.cell? ⟨w.heap.size, 3, none⟩ = some k ∧ ∀ o, w1.frozen? ⟨w.heap.size, o, none⟩ = false) ∧
    (w1.cell? ⟨w.heap.size + 1 + 1, 0, none⟩ = some a ∧ w1.cell? ⟨w.heap.size + 1 + 1, 1, none⟩ = some b ∧ w1.cell? ⟨w.heap.size + 1 + 1, 2, none⟩ = some c ∧ w1.cell? ⟨w.heap.size + 1 + 1, 3, none⟩ = some d ∧ ∀ o, w1.frozen? ⟨w.heap.size + 1 + 1, o, none⟩ = false) ∧
    Below w.heap.size w w1 ∧ w.heap.size + 1 + 1 < w1.heap.size := by
  have hb : Below (((w.alloc (.cells #[x, y, z, k] t)).alloc (.cells M u)).alloc (.cells #[a, b, c, d] v)).heap.size (((w.alloc (.cells #[x, y, z, k] t)).alloc (.cells M u)).alloc (.cells #[a, b, c, d] v)) w1 := ((Below.refl _ _).drew).trans h0
  have hc := belCell hb
  have hf := belFrozen hb
  have hz := hb.size
  simp at hz
  refine ⟨⟨?_, ?_, ?_, ?_, fun o => ?_⟩, ⟨?_, ?_, ?_, ?_, fun o => ?_⟩, (below_alloc3 _ _ _ _).trans (hb.mono (by simp; omega)), by omega⟩ <;> first | (rw [hc _ _ (by simp; try omega)]; simp [go_sem]; done) | (rw [hf _ _ (by simp; try omega)]; simp [go_sem])

set_option maxHeartbeats 4000000 in
theorem readRule_four (s a b c d : ByteArray) (hs : s.size ≤ 1048576) (hc : cutK (min 5 (s.size + 1) - 1) s = [a, b, c, d]) (ha : a.size ≤ 1048576) (hb : b.size ≤ 1048576) (hcc : c.size ≤ 1048576) (hd : d.size ≤ 1048576) (w : World) :
    Calls Tryd.prog 44 #[.string s] w fun e w' => (rOk (dgF a) b (dgF c) (tgF d) = false → NoRule w e w') ∧ (rOk (dgF a) b (dgF c) (tgF d) = true → e = .returned (.tuple #[.agg #[.int .i64 (dgF a), .string b, .int .i64 (dgF c), .int .i64 (tgF d)], .nilIface]) ∧ Below w.heap.size w w') := by
  have h4 : 4 ≤ min 5 (s.size + 1) := by
    have := (cutK_len (min 5 (s.size + 1) - 1) s).2
    rw [hc] at this
    simp at this
    omega
  obtain ⟨M, hM⟩ : ∃ M, M = Lib.cellsOf (cutK (min 5 (s.size + 1) - 1) s) (min 5 (s.size + 1)) := ⟨_, rfl⟩
  have HG := Lib.hid (splitN_blank s hs _ rfl)
  rw [← hM, hc] at HG
  have HM := cells4 (a := a) (b := b) (c := c) (d := d) h4
  rw [hc] at hM
  rw [← hM] at HM
  obtain ⟨m0, m1, m2, m3⟩ := HM
  clear hM hc
  have h4' : (4 : Int) ≤ ((min 5 (s.size + 1) : Nat) : Int) := by omega
  clear h4
  generalize min 5 (s.size + 1) = N at HG h4'
  cases hk : rOk (dgF a) b (dgF c) (tgF d)
  · go_enter Tryd.func44, Tryd.ntmps44
    go_wp2_with fail
    refine (HG.out _).mono ?_
    rintro e w1 ⟨rfl, rfl⟩
    go_wp2
    go_region_held3 (fun w' => w'.cell? ⟨w.heap.size + 1, 0, none⟩ = some (.string a) ∧ w'.cell? ⟨w.heap.size + 1, 1, none⟩ = some (.string b) ∧ w'.cell? ⟨w.heap.size + 1, 2, none⟩ = some (.string c) ∧ w'.cell? ⟨w.heap.size + 1, 3, none⟩ = some (.string d))
      (first | assumption | (refine ⟨?_, ?_, ?_, ?_⟩ <;> simp [go_sem, m0, m1, m2, m3]))
      (first
        | (go_at_call 68; ((with_reducible refine (readDigit_any _ ha _).mono ?_); rintro e wq ⟨rfl, rfl⟩))
        | (go_at_call 68; ((with_reducible refine (readDigit_any _ hcc _).mono ?_); rintro e wq ⟨rfl, rfl⟩))
        | (go_at_call 69; ((with_reducible refine (readTag_any _ hd _).mono ?_); rintro e wq ⟨rfl, rfl⟩)))
    all_goals
      go_wp2_with fail
      refine (checkRule_no _ _ hb _ _ hk _).mono ?_
      rintro e w1 ⟨m, rfl, b1⟩
      obtain ⟨⟨z0, z1, z2, z3, zf⟩, ⟨r0, r1, r2, r3, rf⟩, B1, s1⟩ := readKept b1
      have HB := Lib.hid B1
      clear b1 B1
      unfold errRule
      go_wp2
      exact bodyPost_ret (v := .tuple #[.agg #[.int .i64 0, .string ⟨#[]⟩, .int .i64 0, .int .i64 0], errRule m]) (by simp [results, Tryd.results44, go_sem, errRule, z0, z1, z2, z3]) rfl
        ⟨fun _ => ⟨m, rfl, by repeat (first | exact HB.out | refine Below.setCell ?_ (by dsimp only; omega) _ | refine Below.drew ?_)⟩, fun h => by cases h⟩
  · go_enter Tryd.func44, Tryd.ntmps44
    go_wp2_with fail
    refine (HG.out _).mono ?_
    rintro e w1 ⟨rfl, rfl⟩
    go_wp2
    go_region_held3 (fun w' => w'.cell? ⟨w.heap.size + 1, 0, none⟩ = some (.string a) ∧ w'.cell? ⟨w.heap.size + 1, 1, none⟩ = some (.string b) ∧ w'.cell? ⟨w.heap.size + 1, 2, none⟩ = some (.string c) ∧ w'.cell? ⟨w.heap.size + 1, 3, none⟩ = some (.string d))
      (first | assumption | (refine ⟨?_, ?_, ?_, ?_⟩ <;> simp [go_sem, m0, m1, m2, m3]))
      (first
        | (go_at_call 68; ((with_reducible refine (readDigit_any _ ha _).mono ?_); rintro e wq ⟨rfl, rfl⟩))
        | (go_at_call 68; ((with_reducible refine (readDigit_any _ hcc _).mono ?_); rintro e wq ⟨rfl, rfl⟩))
        | (go_at_call 69; ((with_reducible refine (readTag_any _ hd _).mono ?_); rintro e wq ⟨rfl, rfl⟩)))
    all_goals
      go_wp2_with fail
      refine (checkRule_yes _ _ _ _ hk _).mono ?_
      rintro e w1 ⟨rfl, b1⟩
      obtain ⟨⟨z0, z1, z2, z3, zf⟩, ⟨r0, r1, r2, r3, rf⟩, B1, s1⟩ := readKept b1
      have HB := Lib.hid B1
      clear B1
      go_wp2_with fail
      refine (clone_any _ _ hb).mono ?_
      rintro e w2 ⟨rfl, b2⟩
      clear z0 z1 z2 z3 zf r0 r1 r2 r3 rf s1 HB
      obtain ⟨⟨z0, z1, z2, z3, zf⟩, ⟨r0, r1, r2, r3, rf⟩, B1, s1⟩ := readKept (belStep b1 b2)
      have HB := Lib.hid B1
      clear B1 b1 b2
      go_wp2
      exact bodyPost_ret (v := .tuple #[.agg #[.int .i64 (dgF a), .string b, .int .i64 (dgF c), .int .i64 (tgF d)], .nilIface]) (by simp [results, Tryd.results44, go_sem, z0, z1, z2, z3]) rfl
        ⟨(fun h => by cases h), fun _ => ⟨rfl, by repeat (first | exact HB.out | refine Below.setCell ?_ (by dsimp only; omega) _ | refine Below.drew ?_)⟩⟩

theorem readRule_yes (p : Int) (m : ByteArray) (o t : Int) (hk : rOk p m o t = true) (w : World) :
    Calls Tryd.prog 44 #[.string (rTxt p m o t)] w fun e w' => e = .returned (.tuple #[.agg #[.int .i64 p, .string m, .int .i64 o, .int .i64 t], .nilIface]) ∧ Below w.heap.size w w' := by
  obtain ⟨⟨p0, p1⟩, hs, ⟨o0, o1⟩, t0, t1⟩ := rOk_true hk
  have h12 : (rTxt p m o t).size = 12 := rTxt_size hs
  have h := readRule_four (rTxt p m o t) (digB p) m (digB o) (tagS t) (by omega) (by rw [h12]; exact cut_rTxt hk) (by rw [digB_size]; omega) (by rw [okS_size hs]; omega) (by rw [digB_size]; omega) (by rw [tagS_size]; omega) w
  rw [dgF_digB p0 p1, dgF_digB o0 (by omega), tgF_tagS t0 t1] at h
  exact h.mono fun e w' k => k.2 hk

theorem readRule_no (s : ByteArray) (hs : s.size ≤ 1048576) (hn : ∀ p m o t, rOk p m o t = true → s ≠ rTxt p m o t) (w : World) :
    Calls Tryd.prog 44 #[.string s] w (NoRule w) := by
  by_cases h4 : (cutK (min 5 (s.size + 1) - 1) s).length = 4
  · match e : cutK (min 5 (s.size + 1) - 1) s, h4 with
    | [a, b, c, d], _ =>
      have ej := cutK_join e
      have es : s.size = a.size + 1 + b.size + 1 + c.size + 1 + d.size := by
        rw [ej]
        simp only [ByteArray.size_append]
        rfl
      have h := readRule_four s a b c d hs e (by omega) (by omega) (by omega) (by omega) w
      cases hk : rOk (dgF a) b (dgF c) (tgF d)
      · exact h.mono fun e w' k => k.1 hk
      · exact absurd (ej.trans (parts_rTxt hk)) (hn _ _ _ _ hk)
  · exact readRule_few s hs h4 w

/-- What RuleRead returns of no rule's text. -/
def noneV : Value := .tuple #[.agg #[.int .i64 0, .string ⟨#[]⟩, .int .i64 0, .int .i64 0], .bool false]
def someV (p : Int) (m : ByteArray) (o t : Int) : Value := .tuple #[.agg #[.int .i64 p, .string m, .int .i64 o, .int .i64 t], .bool true]

set_option maxHeartbeats 2000000 in
theorem iRuleRead_yes (p : Int) (m : ByteArray) (o t : Int) (hk : rOk p m o t = true) (w : World) :
    Calls Tryd.prog 17 #[.string (rTxt p m o t)] w fun e w' => e = .returned (someV p m o t) ∧ Below w.heap.size w w' := by
  have HR := Lib.hid (readRule_yes p m o t hk)
  generalize rTxt p m o t = s at HR ⊢
  clear hk
  unfold someV
  go_enter Tryd.func17, Tryd.ntmps17
  go_wp2_with fail
  refine (HR.out _).mono ?_
  rintro e w1 ⟨rfl, b1⟩
  go_wp2_with fail
  refine (isErr_no _).mono ?_
  rintro e w2 ⟨rfl, b2⟩
  have B12 : Below w1.heap.size w1 w2 := (below_alloc1 _ _).trans (b2.mono (by simp))
  obtain ⟨q0, q1, q2, q3⟩ := fourKept (belStep b1 B12)
  obtain ⟨r0, r1, r2, r3⟩ := fourKept b2
  have qf : ∀ o, w2.frozen? ⟨w.heap.size, o, none⟩ = false := fun o => by rw [belFrozen (belStep b1 B12) _ _ (by simp)]; simp [go_sem]
  have HB : Hid (Below w.heap.size w w2) := (below_alloc1 _ _).trans ((belStep b1 B12).mono (by simp))
  clear b1 b2 B12
  go_wp2
  exact bodyPost_ret (v := .tuple #[.agg #[.int .i64 p, .string m, .int .i64 o, .int .i64 t], .bool true]) (by simp [results, Tryd.results17, go_sem, q0, q1, q2, q3]) rfl
    ⟨rfl, by repeat (first | exact HB.out | refine Below.setCell ?_ (by dsimp only; omega) _ | refine Below.drew ?_)⟩

set_option maxHeartbeats 2000000 in
theorem iRuleRead_no (s : ByteArray) (hs : s.size ≤ 1048576) (hn : ∀ p m o t, rOk p m o t = true → s ≠ rTxt p m o t) (w : World) (hE : EtOk w) :
    Calls Tryd.prog 17 #[.string s] w fun e w' => e = .returned noneV ∧ Below w.heap.size w w' := by
  have HR := Lib.hid (readRule_no s hs hn)
  have HE := Lib.hid (hE.alloc (.cells #[.int .i64 0, .string ⟨#[]⟩, .int .i64 0, .int .i64 0] 24))
  clear hn hE
  unfold noneV
  go_enter Tryd.func17, Tryd.ntmps17
  go_wp2_with fail
  refine (HR.out _).mono ?_
  rintro e w1 ⟨m, rfl, b1⟩
  go_wp2_with fail
  refine (isErr_yes _ _ ((HE.out.below b1).alloc _)).mono ?_
  rintro e w2 ⟨rfl, b2⟩
  have B12 : Below w1.heap.size w1 w2 := (below_alloc1 _ _).trans (b2.mono (by simp))
  obtain ⟨q0, q1, q2, q3⟩ := fourKept (belStep b1 B12)
  have qf : ∀ o, w2.frozen? ⟨w.heap.size, o, none⟩ = false := fun o => by rw [belFrozen (belStep b1 B12) _ _ (by simp)]; simp [go_sem]
  have HB : Hid (Below w.heap.size w w2) := (below_alloc1 _ _).trans ((belStep b1 B12).mono (by simp))
  clear b1 b2 B12
  go_wp2
  exact bodyPost_ret (v := .tuple #[.agg #[.int .i64 0, .string ⟨#[]⟩, .int .i64 0, .int .i64 0], .bool false]) (by simp [results, Tryd.results17, go_sem, q0, q1, q2, q3]) rfl
    ⟨rfl, by repeat (first | exact HB.out | refine Below.setCell ?_ (by dsimp only; omega) _ | refine Below.drew ?_)⟩

end Go.Proofs.YtlbbhiigfgegeaaDoor
