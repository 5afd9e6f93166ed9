/-
  What the model's WildLess returns: a slice of its own, with the same texts as the program's.
-/
import Derived.Test.YtcbnecpcmellhabWildLessJ
import Derived.Test.YtcbnecpcmellhabWildSpecB
namespace Go.Proofs.Ytcbnecpcmellhab
open Go.ChangeShapes Go.WideShapes Go.ChangeAt Go.RowKit Go.Joins
set_option linter.unusedVariables false

theorem byA_app (s t : ByteArray) (i : Nat) : byA (s ++ t) i = if i < s.size then byA s i else byA t (i - s.size) := by
  unfold byA
  rw [ByteArray.data_append]
  simp only [Array.getD_eq_getD_getElem?]
  by_cases h : i < s.data.size
  · rw [Array.getElem?_append_left h, if_pos (show i < s.size from h)]
  · rw [Array.getElem?_append_right (by omega), if_neg (show ¬ i < s.size from h)]
    rfl
theorem byA_ext (s : ByteArray) (a b i : Nat) (hb : b ≤ s.size) (hi : a + i < b) : byA (s.extract a b) i = byA s (a + i) := by
  unfold byA
  rw [ByteArray.data_extract]
  simp only [Array.getD_eq_getD_getElem?]
  rw [Array.getElem?_extract, if_pos (by have : b ≤ s.data.size := hb; omega)]
theorem preS_byA (k : Nat) (f : Nat → UInt8) {i : Nat} (h : i < k) : byA (preS k f) i = f i := by
  unfold byA preS
  simp [h]

/-- The other sign. -/
def othC (b : UInt8) : UInt8 := bif b == 48 then 49 else 48
/-- A piece, byte by byte. -/
theorem piece_text {a b : ByteArray} (ha : okS a = true) (hb : okS b = true) (hm : meetB (cf a) (vf a) (cf b) (vf b) = true) {k : Nat} (hk : k < 6) (hs : selB (cf a) (cf b) k = true) :
    preS k (fun i => andC (byA a i) (byA b i)) ++ ⟨#[othC (byA b k)]⟩ ++ a.extract (k + 1) 6 = txt (pcB (cf a) (cf b) k) (pvB (cf a) (vf a) (vf b) k) := by
  have ha6 := okS_size ha
  have z1 : (preS k (fun i => andC (byA a i) (byA b i)) ++ ⟨#[othC (byA b k)]⟩).size = k + 1 := by rw [ByteArray.size_append, preS_size]; rfl
  have z2 : (a.extract (k + 1) 6).size = 5 - k := by simp; omega
  have z : (preS k (fun i => andC (byA a i) (byA b i)) ++ ⟨#[othC (byA b k)]⟩ ++ a.extract (k + 1) 6).size = 6 := by rw [ByteArray.size_append, z1, z2]; omega
  rw [← mk6_back z]
  unfold txt
  rw [meet_pos ha hb] at hm
  refine mk6_congr fun i hi => ?_
  rw [byA_app, z1]
  have hmi := all6_iff.1 hm i hi
  by_cases h1 : i < k + 1
  · rw [if_pos h1, byA_app, preS_size]
    by_cases h2 : i < k
    · rw [if_pos h2, preS_byA _ _ h2]
      have e1 : (i == k) = false := by simp; omega
      simp only [pcB, pvB, ckB, vkB, e1, h2, decide_true, Bool.true_and, Bool.or_false, Bool.not_false, Bool.and_true, Bool.and_false]
      rcases okS_sgn ha i hi with e | e | e <;> rcases okS_sgn hb i hi with e' | e' | e' <;> simp [cf, vf, metC, andC, chr, e, e'] at hmi ⊢
    · obtain rfl : i = k := by omega
      rw [if_neg h2, Nat.sub_self]
      show othC (byA b i) = _
      unfold selB at hs
      simp only [pcB, pvB, beq_self_eq_true, Bool.or_true, Bool.not_true, Bool.and_false, Bool.false_or, Bool.and_true]
      rcases okS_sgn ha i hi with e | e | e <;> rcases okS_sgn hb i hi with e' | e' | e' <;> simp [cf, vf, othC, chr, e, e'] at hs ⊢
  · rw [if_neg h1, byA_ext _ _ _ _ (by omega) (by omega), show k + 1 + (i - (k + 1)) = i from by omega]
    have e1 : (i == k) = false := by simp; omega
    have e2 : decide (i < k) = false := by simp; omega
    simp only [pcB, pvB, ckB, vkB, e1, e2, Bool.false_and, Bool.or_false, Bool.not_false, Bool.and_true, Bool.and_false]
    rcases okS_sgn ha i hi with e | e | e <;> simp [cf, vf, chr, e]
theorem pieces_step (ca va cb vb : Nat → Bool) (k : Nat) (h : selB ca cb k = true) : textsOf (piecesTo ca va cb vb (k + 1)) = textsOf (piecesTo ca va cb vb k) ++ [txt (pcB ca cb k) (pvB ca va vb k)] := by
  simp [piecesTo, h, textsOf]
theorem pieces_stay (ca va cb vb : Nat → Bool) (k : Nat) (h : selB ca cb k = false) : textsOf (piecesTo ca va cb vb (k + 1)) = textsOf (piecesTo ca va cb vb k) := by
  simp [piecesTo, h]
theorem texts_len (ca va cb vb : Nat → Bool) (k : Nat) : (textsOf (piecesTo ca va cb vb k)).length ≤ k := by
  unfold textsOf
  rw [List.length_map]
  exact pieces_len _ _ _ _ _

set_option maxRecDepth 100000 in
set_option maxHeartbeats 4000000 in
theorem sWildLess_meet (a b : ByteArray) (hka : okS a = true) (hkb : okS b = true) (hm : meetS a b = true) (w : World) :
    Calls Try.prog 34 #[.string a, .string b] w fun e w' => ∃ v, e = .returned v ∧ StrRow w' w.heap.size v (textsOf (piecesTo (cf a) (vf a) (cf b) (vf b) 6)) ∧ Below w.heap.size w w' := by
  have ha6 : a.size = 6 := okS_size hka
  have hb6 : b.size = 6 := okS_size hkb
  have hmb : meetB (cf a) (vf a) (cf b) (vf b) = true := by unfold meetS at hm; rw [hka, hkb] at hm; simpa using hm
  have HL := Lib.hid (l2And_any a b hka hkb)
  rw [show andS a b = mk6 (fun i => andC (byA a i) (byA b i)) from by unfold andS; rw [hm]; exact and_pos hka hkb hmb] at HL
  have hml := mk6_list (fun i => andC (byA a i) (byA b i))
  have HP := Lib.hid (fun k (hk : k < 6) hs => piece_text hka hkb hmb hk hs)
  have HS := Lib.hid (fun k hs => pieces_step (cf a) (vf a) (cf b) (vf b) k hs)
  have HT := Lib.hid (fun k hs => pieces_stay (cf a) (vf a) (cf b) (vf b) k hs)
  have HN := Lib.hid (fun k => texts_len (cf a) (vf a) (cf b) (vf b) k)
  have HQ : Hid (∀ k, k < 6 → selB (cf a) (cf b) k = ((byA a k == 120) && !(byA b k == 120))) := fun k hk => by
    unfold selB cf
    cases byA a k == 120 <;> cases byA b k == 120 <;> rfl
  have HGB : Hid (∀ k, k < 6 → byA b k = 48 ∨ byA b k = 49 ∨ byA b k = 120) := fun k hk => okS_sgn hkb k hk
  obtain ⟨i0, hi, hz0, hz1, hz2⟩ := info_parts infoStr
  have HI := Lib.hid hi
  have HZ0 := Lib.hid hz0
  have HZ1 := Lib.hid hz1
  have HZ2 := Lib.hid hz2
  clear hi hz0 hz1 hz2 hm hmb
  generalize hf : (fun i => andC (byA a i) (byA b i)) = f at *
  have HF : Hid (∀ i, f i = andC (byA a i) (byA b i)) := fun i => by rw [← hf]
  clear hf
  go_enter Try.func34, Try.ntmps34
  go_wp2_with fail
  refine (sWildOk_any a (by omega) _).mono ?_
  rintro e w' ⟨rfl, rfl⟩
  rw [hka]
  go_wp2_with fail
  refine (sWildOk_any b (by omega) _).mono ?_
  rintro e w' ⟨rfl, rfl⟩
  rw [hkb]
  go_wp2_with fail
  refine (HL.out _).mono ?_
  rintro e w1 ⟨rfl, b1⟩
  have s1 := b1.size
  simp at s1
  have HO1 : Hid (w1.ownsRow w.heap.size 9 1 (.slice (some ⟨w.heap.size, 0, none⟩) 0 0) 0 []) := ownsBelow (World.ownsRow_made w #[] 0 (Nat.le_refl _) (Nat.zero_le _) rfl) b1
  have B1 : Hid (Below w.heap.size w w1) := (below_alloc1 _ _).trans (b1.mono (by simp))
  clear b1
  go_wp2
  go_loopw [5, 6, 7] (fun o h i wr => ∃ k : Nat, k ≤ 6 ∧ i = .int .i64 k ∧ h = .string (preS k f) ∧ wr.ownsRow w.heap.size 9 1 o (textsOf (piecesTo (cf a) (vf a) (cf b) (vf b) k)).length ((textsOf (piecesTo (cf a) (vf a) (cf b) (vf b) k)).map Value.string) ∧ w.heap.size ≤ wr.heap.size ∧ Below w.heap.size w wr) (fun _ _ i _ => 6 - (intOf i).toNat)
  case atStart => exact ⟨0, Nat.zero_le _, rfl, rfl, HO1.out, by omega, B1.out⟩
  case round =>
    clear HO1 B1 hml
    obtain ⟨k, hk, rfl, rfl, hown, hsz, hbel⟩ := hrel
    have HO := Lib.hid hown
    clear hown
    have hps := preS_size k f
    have hs1 : ∀ c : UInt8, (⟨#[c]⟩ : ByteArray).size = 1 := fun _ => rfl
    have hnk := HN.out k
    by_cases hlt : k < 6
    · have ga : (a[k]'(by omega)) = byA a k := byA_get _
      have gb : (b[k]'(by omega)) = byA b k := byA_get _
      have hza : (k : Int) < (a.size : Int) := by omega
      have hzb : (k : Int) < (b.size : Int) := by omega
      have hsa := slice_one (s := a) (k := k) (by omega)
      have hsb := slice_one (s := b) (k := k) (by omega)
      have z3 : (a.extract (k + 1) 6).size = 5 - k := by simp; omega
      have f3 : ∀ W : World, (Instr.slice 9 (.string a) (some (.int .i64 ((k : Int) + 1))) none none).run Try.prog W = .ok (.string (a.extract (k + 1) 6)) W := fun W => by
        rw [run_slice_string_from_if (P := Try.prog) W 9 a .i64 ((k : Int) + 1) Try.underlying9]
        have e1 : ((k : Int) + 1).toNat = k + 1 := by omega
        have e2 : (0 : Int) ≤ (k : Int) + 1 ∧ (k : Int) + 1 ≤ 6 := by omega
        simp [ha6, e1, e2]
      by_cases ea : byA a k = 120
      · rcases HGB.out k hlt with eb | eb | eb
        · -- the sign of the second is 48
          have hsel : Hid (selB (cf a) (cf b) k = true) := by show _ = _; rw [HQ.out k hlt, ea, eb]; rfl
          have HPK := Lib.hid (HP.out k hlt hsel.out)
          have HSK := Lib.hid (HS.out k hsel.out)
          rw [eb] at HPK
          rw [show othC 48 = 49 from rfl] at HPK
          have hst := Lib.hid (preS_one k f (byA b k) (by rw [HF.out, ea]; rfl))
          rw [ea] at ga
          rw [eb] at gb hsb hst
          generalize txt (pcB (cf a) (cf b) k) (pvB (cf a) (vf a) (vf b) k) = t at *
          go_wp2_with (at_builtin; refine wpList_append_own _ rfl _ _ 23 rfl w.heap.size 9 i0 (.string ⟨#[]⟩) 1 16 Try.underlying23 HI.out HZ0.out HZ1.out HZ2.out rfl (by decide) _ _ _ rfl (HO.out.alloc _) ⟨wr.heap.size, 0, none⟩ 1 1 [.string (preS k f ++ ⟨#[49]⟩ ++ a.extract (k + 1) 6)] rfl rfl ?c1 ?c2 ?c3 ?c4 ?c5 ?_)
          case c1 =>
            intro j u hj
            match j, hj with
            | 0, hj => simp at hj; subst hj; simp [Addr.add]
          case c2 => intro u hu; simp at hu; subst hu; rfl
          case c3 => unfold maxLen; omega
          case c4 => omega
          case c5 => simp; omega
          intro v' w5 hown5 hg5 _
          have s5 := hg5.size
          simp at s5
          have B5 : Hid (Below w.heap.size w w5) := (hbel.alloc hsz _).trans (grownBelow (HO.out.alloc _) hg5 (by simp; omega))
          have HO5 : Hid (w5.ownsRow w.heap.size 9 1 v' (textsOf (piecesTo (cf a) (vf a) (cf b) (vf b) (k + 1))).length ((textsOf (piecesTo (cf a) (vf a) (cf b) (vf b) (k + 1))).map Value.string)) := by
            show w5.ownsRow _ _ _ _ _ _
            rw [HSK.out, List.map_append, List.length_append, ← HPK.out]
            exact hown5
          clear hown5 hg5 HO hbel
          go_wp2
          go_roundw
          case rel => exact ⟨k + 1, by omega, by go_num, by rw [hst.out], HO5.out, by omega, B5.out⟩
          case measure => simp [intOf]; omega
        · -- the sign of the second is 49
          have hsel : Hid (selB (cf a) (cf b) k = true) := by show _ = _; rw [HQ.out k hlt, ea, eb]; rfl
          have HPK := Lib.hid (HP.out k hlt hsel.out)
          have HSK := Lib.hid (HS.out k hsel.out)
          rw [eb] at HPK
          rw [show othC 49 = 48 from rfl] at HPK
          have hst := Lib.hid (preS_one k f (byA b k) (by rw [HF.out, ea]; rfl))
          rw [ea] at ga
          rw [eb] at gb hsb hst
          generalize txt (pcB (cf a) (cf b) k) (pvB (cf a) (vf a) (vf b) k) = t at *
          go_wp2_with (at_builtin; refine wpList_append_own _ rfl _ _ 23 rfl w.heap.size 9 i0 (.string ⟨#[]⟩) 1 16 Try.underlying23 HI.out HZ0.out HZ1.out HZ2.out rfl (by decide) _ _ _ rfl (HO.out.alloc _) ⟨wr.heap.size, 0, none⟩ 1 1 [.string (preS k f ++ ⟨#[48]⟩ ++ a.extract (k + 1) 6)] rfl rfl ?c1 ?c2 ?c3 ?c4 ?c5 ?_)
          case c1 =>
            intro j u hj
            match j, hj with
            | 0, hj => simp at hj; subst hj; simp [Addr.add]
          case c2 => intro u hu; simp at hu; subst hu; rfl
          case c3 => unfold maxLen; omega
          case c4 => omega
          case c5 => simp; omega
          intro v' w5 hown5 hg5 _
          have s5 := hg5.size
          simp at s5
          have B5 : Hid (Below w.heap.size w w5) := (hbel.alloc hsz _).trans (grownBelow (HO.out.alloc _) hg5 (by simp; omega))
          have HO5 : Hid (w5.ownsRow w.heap.size 9 1 v' (textsOf (piecesTo (cf a) (vf a) (cf b) (vf b) (k + 1))).length ((textsOf (piecesTo (cf a) (vf a) (cf b) (vf b) (k + 1))).map Value.string)) := by
            show w5.ownsRow _ _ _ _ _ _
            rw [HSK.out, List.map_append, List.length_append, ← HPK.out]
            exact hown5
          clear hown5 hg5 HO hbel
          go_wp2
          go_roundw
          case rel => exact ⟨k + 1, by omega, by go_num, by rw [hst.out], HO5.out, by omega, B5.out⟩
          case measure => simp [intOf]; omega
        · -- both are x
          have hsel : Hid (selB (cf a) (cf b) k = false) := by show _ = _; rw [HQ.out k hlt, ea, eb]; rfl
          have HTK := Lib.hid (HT.out k hsel.out)
          have hst := Lib.hid (preS_one k f (byA a k) (by rw [HF.out, ea, eb]; rfl))
          rw [ea] at ga hsa hst
          rw [eb] at gb
          go_wp2
          go_roundw
          case rel => exact ⟨k + 1, by omega, by go_num, by rw [hst.out], by rw [HTK.out]; exact HO.out, hsz, hbel⟩
          case measure => simp [intOf]; omega
      · have na := (byte_ne 120 120 rfl (by omega) ea).1
        have ea' : (byA a k == 120) = false := by simpa using ea
        have hsel : Hid (selB (cf a) (cf b) k = false) := by show _ = _; rw [HQ.out k hlt, ea']; rfl
        have HTK := Lib.hid (HT.out k hsel.out)
        have hst := Lib.hid (preS_one k f (byA a k) (by rw [HF.out]; unfold andC; rw [ea']; rfl))
        clear ea ea'
        go_wp2
        go_roundw
        case rel => exact ⟨k + 1, by omega, by go_num, by rw [hst.out], by rw [HTK.out]; exact HO.out, hsz, hbel⟩
        case measure => simp [intOf]; omega
    · obtain rfl : k = 6 := by omega
      go_wp2
      go_ret
      exact ⟨_, rfl, HO.out, hbel⟩

set_option maxRecDepth 100000 in
set_option maxHeartbeats 4000000 in
theorem sWildLess_any (a b : ByteArray) (ha : a.size ≤ 1048576) (hb : b.size ≤ 1048576) (w : World) :
    Calls Try.prog 34 #[.string a, .string b] w fun e w' => ∃ v, e = .returned v ∧ StrRow w' w.heap.size v (lessL a b) ∧ Below w.heap.size w w' := by
  have HO := Lib.hid (World.ownsRow_made (e := 9) (size := 1) w #[] 0 (Nat.le_refl _) (Nat.zero_le _) rfl)
  cases hka : okS a
  · rw [show lessL a b = [] from by unfold lessL; rw [hka]; rfl]
    go_enter Try.func34, Try.ntmps34
    go_wp2_with (go_at_call 35; refine (sWildOk_any _ ha _).mono ?_; rintro e w' ⟨rfl, rfl⟩; rw [hka])
    go_ret
    exact ⟨_, rfl, HO.out, below_alloc1 _ _⟩
  · cases hkb : okS b
    · rw [show lessL a b = [] from by unfold lessL; rw [hka, hkb]; rfl]
      go_enter Try.func34, Try.ntmps34
      go_wp2_with fail
      refine (sWildOk_any _ ha _).mono ?_
      rintro e w' ⟨rfl, rfl⟩
      rw [hka]
      go_wp2_with fail
      refine (sWildOk_any _ hb _).mono ?_
      rintro e w' ⟨rfl, rfl⟩
      rw [hkb]
      go_wp2
      go_ret
      exact ⟨_, rfl, HO.out, below_alloc1 _ _⟩
    · cases hm : meetS a b
      · rw [show lessL a b = [a] from by unfold lessL; rw [hka, hkb, hm]; rfl]
        have HL := Lib.hid (l2And_any a b hka hkb)
        rw [show andS a b = ⟨#[]⟩ from by unfold andS; rw [hm]; rfl] at HL
        obtain ⟨i0, hi, hz0, hz1, hz2⟩ := info_parts infoStr
        have HI := Lib.hid hi
        have HZ0 := Lib.hid hz0
        have HZ1 := Lib.hid hz1
        have HZ2 := Lib.hid hz2
        clear hi hz0 hz1 hz2
        go_enter Try.func34, Try.ntmps34
        go_wp2_with fail
        refine (sWildOk_any _ ha _).mono ?_
        rintro e w' ⟨rfl, rfl⟩
        rw [hka]
        go_wp2_with fail
        refine (sWildOk_any _ hb _).mono ?_
        rintro e w' ⟨rfl, rfl⟩
        rw [hkb]
        go_wp2_with fail
        refine (HL.out _).mono ?_
        rintro e w1 ⟨rfl, b1⟩
        have s1 := b1.size
        simp at s1
        have HO1 : Hid (w1.ownsRow w.heap.size 9 1 (.slice (some ⟨w.heap.size, 0, none⟩) 0 0) 0 []) := ownsBelow HO.out b1
        have B1 : Hid (Below w.heap.size w w1) := (below_alloc1 _ _).trans (b1.mono (by simp))
        clear b1
        go_wp2_with (at_builtin; refine wpList_append_own _ rfl _ _ 23 rfl w.heap.size 9 i0 (.string ⟨#[]⟩) 1 16 Try.underlying23 HI.out HZ0.out HZ1.out HZ2.out rfl (by decide) _ _ _ rfl (HO1.out.alloc _) ⟨w1.heap.size, 0, none⟩ 1 1 [.string a] rfl rfl ?c1 ?c2 ?c3 ?c4 ?c5 ?_)
        case c1 =>
          intro j u hj
          match j, hj with
          | 0, hj => simp at hj; subst hj; simp [Addr.add]
        case c2 => intro u hu; simp at hu; subst hu; rfl
        case c3 => unfold maxLen; omega
        case c4 => omega
        case c5 => simp; omega
        intro v' w5 hown5 hg5 _
        have B5 : Hid (Below w.heap.size w w5) := (B1.out.alloc (by omega) _).trans (grownBelow (HO1.out.alloc _) hg5 (by simp; omega))
        have HO5 : Hid (StrRow w5 w.heap.size v' [a]) := hown5
        clear hown5 hg5
        go_wp2
        go_ret
        exact ⟨_, rfl, HO5.out, B5.out⟩
      · rw [show lessL a b = textsOf (piecesTo (cf a) (vf a) (cf b) (vf b) 6) from by unfold lessL; rw [hka, hkb, hm]; rfl]
        exact sWildLess_meet a b hka hkb hm w

end Go.Proofs.Ytcbnecpcmellhab
