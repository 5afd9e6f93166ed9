/-
  Proved: promise 33 (conditions are put together as spaces are), at every code from which the condition is drawn, and every length of the other code; both codes read on as they did. No condition but the card's own: the program's error value stands as its text lays it.
-/
import Derived.Test.YtddkpimmcmnogabDoorPredCard
import Derived.Test.YtddkpimmcmnogabDoorPredDrawB
import Derived.Test.YtddkpimmcmnogabDoorPredLxP
namespace Go.Proofs.YtddkpimmcmnogabDoor
open Go.ChangeShapes Go.WideShapes Go.ChangeAt Go.RowKit Go.Joins
set_option linter.unusedVariables false

theorem evM_zip (f : Bool → Bool → Bool) {c c' d : Cnd} (h : ∀ n, f (evn c n) (evn c' n) = evn d n) : List.zipWith f (evM c) (evM c') = evM d := by
  rw [evM_tab, evM_tab, evM_tab, tabF_zip]
  exact tabF_congr 6 fun l _ => h _
theorem op_ev (f : Bool → Bool → Bool) {c c' d : Cnd} (h : ∀ n, f (evn c n) (evn c' n) = evn d n) : opR f (tidyT (evM c)) (tidyT (evM c')) = tidyT (evM d) := by
  rw [opR_ok f (okSp_tidy _) (okSp_tidy _), spL_tidy (evM_len c), spL_tidy (evM_len c'), evM_zip f h]
theorem less_ev (c : Cnd) : opR (fun x y => x && !y) [⟨#[120, 120, 120, 120, 120, 120]⟩] (tidyT (evM c)) = tidyT (evM (.neg c)) := by
  have hx : okSp [⟨#[120, 120, 120, 120, 120, 120]⟩] = true := by decide
  rw [opR_ok _ hx (okSp_tidy _), spL_tidy (evM_len c), spL, evM_tab c, evM_tab (.neg c), tabF_zip]
  congr 1
theorem size1 (x : UInt8) (s : ByteArray) : ((⟨#[x]⟩ : ByteArray) ++ s).size = 1 + s.size := by rw [ByteArray.size_append]; rfl
theorem cat1 (x : UInt8) (s : ByteArray) (hs : s.size ≤ 26) : ((⟨#[x]⟩ : ByteArray) ++ s).size ≤ 1000 := by rw [size1]; omega
theorem cat2 (x : UInt8) (s t : ByteArray) (hs : s.size ≤ 26) (ht : t.size ≤ 26) : ((⟨#[x]⟩ : ByteArray) ++ s ++ t).size ≤ 1000 := by rw [ByteArray.size_append, size1]; omega
theorem lB_cat (s t : ByteArray) : lB (s ++ t) = lB s ++ lB t := by simp [lB]
theorem spaceT_txt {c : Cnd} (hk : c.ok = true) (h16 : c.txt.length ≤ 16) : spaceT c.txt = tidyT (evM c) := by
  unfold spaceT
  rw [whole_of hk h16]

/-- One of the other conditions. -/
def OneB (t : ByteArray) : Prop := ∃ d : Cnd, d.ok = true ∧ lB t = d.txt ∧ t.size ≤ 5 ∧ 1 ≤ t.size

theorem oneB_all : ∀ t ∈ ([⟨#[115, 49]⟩, ⟨#[100, 50]⟩, ⟨#[33, 116, 48]⟩, ⟨#[124, 115, 48, 100, 51]⟩, ⟨#[49]⟩] : List ByteArray), OneB t := by
  intro t ht
  simp only [List.mem_cons, List.not_mem_nil, or_false] at ht
  rcases ht with rfl | rfl | rfl | rfl | rfl
  · exact ⟨.fld 115 49, by decide, rfl, by decide, by decide⟩
  · exact ⟨.fld 100 50, by decide, rfl, by decide, by decide⟩
  · exact ⟨.neg (.fld 116 48), by decide, rfl, by decide, by decide⟩
  · exact ⟨.two 124 (.fld 115 48) (.fld 100 51), by decide, rfl, by decide, by decide⟩
  · exact ⟨.one true, by decide, rfl, by decide, by decide⟩

set_option maxRecDepth 100000 in
set_option maxHeartbeats 8000000 in
theorem walk_FnPredAlg (a : Option Addr) (len cap : Nat) (a' : Option Addr) (len' cap' : Nat) (w : World) (hb : BytesIn w w.heap.size a len cap) (hb' : BytesIn w w.heap.size a' len' cap') (ep : Addr) (hE : w.cell? ⟨0, 0, none⟩ = some (errV ep)) :
    Calls Tryd.prog 4 #[.slice a len cap, .slice a' len' cap'] w fun e w' => e = .returned (.bool true) ∧ Below w.heap.size w w' := by
  have HB := Lib.hid hb
  have HE := Lib.hid hE
  have hm : (len : Int) ≤ maxLen := by have := hb.1; have := hb.2.1; omega
  have hm' : (len' : Int) ≤ maxLen := by have := hb'.1; have := hb'.2.1; omega
  unfold maxLen at hm hm'
  clear hb hb' hE
  by_cases hlen : (1048576 : Int) < (len : Int)
  · go_enter Tryd.func4, Tryd.ntmps4
    go_wp2
    go_ret
    exact ⟨rfl, Below.refl _ _⟩
  by_cases hlen' : (1048576 : Int) < (len' : Int)
  · go_enter Tryd.func4, Tryd.ntmps4
    go_wp2
    go_ret
    exact ⟨rfl, Below.refl _ _⟩
  obtain ⟨k, hmod, hk5⟩ : ∃ k : Nat, (len' : Int) % 5 = (k : Int) ∧ k < 5 := ⟨len' % 5, by simp, Nat.mod_lt _ (by omega)⟩
  go_enter Tryd.func4, Tryd.ntmps4
  go_wp2_with fail
  refine (drawPredSpace_any _ _ _ _ HB.out).mono ?_
  rintro e w1 ⟨s, hs, rfl, b1⟩
  have B1 := Lib.hid b1
  have IA : Hid (∀ (t : ByteArray) (W : World), t.size ≤ 1000 → Below w.heap.size w W → Calls Tryd.prog 6 #[.string t] W fun e w' => ∃ v, e = .returned v ∧ StrRow w' W.heap.size v (spaceT (lB t)) ∧ Below W.heap.size W w') := fun t W ht hb => iSpace_at t ht ep W (cellLater HE.out hb)
  have SP : Hid (∀ W : World, Calls Tryd.prog 8 #[.string s] W fun e w' => ∃ v, e = .returned v ∧ StrRow w' W.heap.size v (spaceT (lB s)) ∧ Below W.heap.size W w') := fun W => sSpace_at s (by omega) W
  have SO : Hid (∀ W : World, Calls Tryd.prog 9 #[.string s] W fun e w' => e = .returned (.bool (whole (lB s)).isSome) ∧ Below W.heap.size W w') := fun W => sOkP_at s (by omega) W
  have hln := spaceT_len (lB s)
  clear b1 HB HE
  go_wp2_with fail
  refine (IA.out s _ (by omega) B1.out).mono ?_
  rintro e w2 ⟨u, rfl, r2, b2⟩
  have B2 := Lib.hid (belStep B1.out b2)
  have RU := Lib.hid r2
  clear b2 r2 B1
  go_wp2_with fail
  refine (SP.out _).mono ?_
  rintro e w3 ⟨u3, rfl, r3, b3⟩
  have B3 := Lib.hid (belStep B2.out b3)
  have R3 := Lib.hid r3
  replace RU := Lib.hid (RU.out.below b3)
  clear b3 r3 B2
  go_wp2_with fail
  refine (lxTexts_same _ _ _ _ _ _ RU.out R3.out (by omega)).mono ?_
  rintro e w4 ⟨rfl, b4⟩
  have B4 := Lib.hid (belStep B3.out b4)
  replace RU := Lib.hid (RU.out.below b4)
  clear b4 R3 B3
  go_wp2_with fail
  refine (SO.out _).mono ?_
  rintro e w5 ⟨rfl, b5⟩
  have B5 := Lib.hid (belStep B4.out b5)
  replace RU := Lib.hid (RU.out.below b5)
  clear b5 B4 SO
  cases hw : whole (lB s) with
  | none =>
    simp only [Option.isSome_none]
    clear hw
    go_wp2_with fail
    refine (SP.out _).mono ?_
    rintro e w6 ⟨u6, rfl, r6, b6⟩
    have B6 := Lib.hid (belStep B5.out b6)
    have R6 := Lib.hid r6
    replace RU := Lib.hid (RU.out.below b6)
    clear b6 r6 B5
    go_wp2_with fail
    refine (lxTexts_same _ _ _ _ _ _ RU.out R6.out (by omega)).mono ?_
    rintro e w7 ⟨rfl, b7⟩
    go_wp2
    go_ret
    exact ⟨rfl, belStep B6.out b7⟩
  | some c =>
    simp only [Option.isSome_some]
    obtain ⟨hl, hkc, h16⟩ := whole_some hw
    have zs : s.size = c.txt.length := by rw [← lB_len, hl]
    have s5 := B5.out.size
    obtain ⟨t, ⟨d, hkd, hld, ht5, ht1⟩, hct⟩ := listCells OneB (newBlock w5 (.cells ([⟨#[115, 49]⟩, ⟨#[100, 50]⟩, ⟨#[33, 116, 48]⟩, ⟨#[124, 115, 48, 100, 51]⟩, ⟨#[49]⟩].map Value.string).toArray 9)) oneB_all k (by simpa using hk5)
    simp only [List.map_cons, List.map_nil] at hct
    have zt : t.size = d.txt.length := by rw [← lB_len, hld]
    have HTs : Hid (spaceT (lB s) = tidyT (evM c)) := by show _ = _; rw [hl]; exact spaceT_txt hkc (by rw [← hl]; exact h16)
    have HTt : Hid (spaceT (lB t) = tidyT (evM d)) := by show _ = _; rw [hld]; exact spaceT_txt hkd (by omega)
    have HN : Hid (s.size + t.size + 1 ≤ 16 → spaceT (lB ((⟨#[33]⟩ : ByteArray) ++ s)) = tidyT (evM (.neg c))) := fun h => by
      rw [lB_cat, hl, show lB ⟨#[33]⟩ ++ c.txt = (Cnd.neg c).txt from by simp [lB, Cnd.txt]]
      exact spaceT_txt hkc (by simp [Cnd.txt]; omega)
    have HA : Hid (s.size + t.size + 1 ≤ 16 → spaceT (lB ((⟨#[38]⟩ : ByteArray) ++ s ++ t)) = tidyT (evM (.two 38 c d))) := fun h => by
      rw [lB_cat, lB_cat, hl, hld, show lB ⟨#[38]⟩ ++ c.txt ++ d.txt = (Cnd.two 38 c d).txt from by simp [lB, Cnd.txt]]
      exact spaceT_txt (by simp [Cnd.ok, hkc, hkd]; rfl) (by simp [Cnd.txt]; omega)
    have HO : Hid (s.size + t.size + 1 ≤ 16 → spaceT (lB ((⟨#[124]⟩ : ByteArray) ++ t ++ s)) = tidyT (evM (.two 124 d c))) := fun h => by
      rw [lB_cat, lB_cat, hl, hld, show lB ⟨#[124]⟩ ++ d.txt ++ c.txt = (Cnd.two 124 d c).txt from by simp [lB, Cnd.txt]]
      exact spaceT_txt (by simp [Cnd.ok, hkc, hkd]; rfl) (by simp [Cnd.txt]; omega)
    have HL1 : Hid (opR (fun x y => x && !y) [⟨#[120, 120, 120, 120, 120, 120]⟩] (tidyT (evM c)) = tidyT (evM (.neg c))) := less_ev c
    have HL2 : Hid (opR (fun x y => x && y) (tidyT (evM c)) (tidyT (evM d)) = tidyT (evM (.two 38 c d))) := op_ev _ fun n => rfl
    have HL3 : Hid (opR (fun x y => x || y) (tidyT (evM c)) (tidyT (evM d)) = tidyT (evM (.two 124 d c))) := op_ev _ fun n => by
      show (evn c n || evn d n) = (evn d n || evn c n)
      exact Bool.or_comm _ _
    rw [HTs.out] at RU
    have HF1 : Hid (Fit6 (tidyT (evM c))) := fit_tidy _
    have HF2 : Hid (Fit6 (tidyT (evM d))) := fit_tidy _
    have G1 := tidyT_len (evM (.neg c))
    have G2 := tidyT_len (evM (.two 38 c d))
    have G3 := tidyT_len (evM (.two 124 d c))
    have hk0 : (0 : Int) ≤ (k : Int) := by omega
    have hk5' : (k : Int) < 5 := by omega
    have BA : Hid (Below w.heap.size w (w5.alloc (.cells #[.string ⟨#[115, 49]⟩, .string ⟨#[100, 50]⟩, .string ⟨#[33, 116, 48]⟩, .string ⟨#[124, 115, 48, 100, 51]⟩, .string ⟨#[49]⟩] 9))) := B5.out.alloc s5 _
    replace RU := Lib.hid (RU.out.below (below_alloc1 w5 (.cells #[.string ⟨#[115, 49]⟩, .string ⟨#[100, 50]⟩, .string ⟨#[33, 116, 48]⟩, .string ⟨#[124, 115, 48, 100, 51]⟩, .string ⟨#[49]⟩] 9)))
    have ht26 : t.size ≤ 26 := by omega
    have F1 : Hid (∀ W : World, Below w.heap.size w W → Calls Tryd.prog 6 #[.string ((⟨#[33]⟩ : ByteArray) ++ s)] W fun e w' => ∃ v, e = .returned v ∧ StrRow w' W.heap.size v (spaceT (lB ((⟨#[33]⟩ : ByteArray) ++ s))) ∧ Below W.heap.size W w') := fun W hb => IA.out ((⟨#[33]⟩ : ByteArray) ++ s) W (cat1 _ _ hs) hb
    have F2 : Hid (∀ W : World, Below w.heap.size w W → Calls Tryd.prog 6 #[.string ((⟨#[38]⟩ : ByteArray) ++ s ++ t)] W fun e w' => ∃ v, e = .returned v ∧ StrRow w' W.heap.size v (spaceT (lB ((⟨#[38]⟩ : ByteArray) ++ s ++ t))) ∧ Below W.heap.size W w') := fun W hb => IA.out ((⟨#[38]⟩ : ByteArray) ++ s ++ t) W (cat2 _ _ _ hs ht26) hb
    have F3 : Hid (∀ W : World, Below w.heap.size w W → Calls Tryd.prog 6 #[.string ((⟨#[124]⟩ : ByteArray) ++ t ++ s)] W fun e w' => ∃ v, e = .returned v ∧ StrRow w' W.heap.size v (spaceT (lB ((⟨#[124]⟩ : ByteArray) ++ t ++ s))) ∧ Below W.heap.size W w') := fun W hb => IA.out ((⟨#[124]⟩ : ByteArray) ++ t ++ s) W (cat2 _ _ _ ht26 hs) hb
    have F0 : Hid (∀ W : World, Below w.heap.size w W → Calls Tryd.prog 6 #[.string t] W fun e w' => ∃ v, e = .returned v ∧ StrRow w' W.heap.size v (spaceT (lB t)) ∧ Below W.heap.size W w') := fun W hb => IA.out t W (by omega) hb
    clear hw hl hkc h16 zs zt hkd hld SP IA ht26
    generalize tidyT (evM c) = L at *
    generalize tidyT (evM d) = M at *
    generalize tidyT (evM (.neg c)) = LN at *
    generalize tidyT (evM (.two 38 c d)) = LA at *
    generalize tidyT (evM (.two 124 d c)) = LO at *
    go_wp2_with fail
    clear hmod hct hk0 hk5' hk5 hln
    refine (F0.out _ BA.out).mono ?_
    rintro e w6 ⟨um, rfl, r6, b6⟩
    rw [HTt.out] at r6
    have RM := Lib.hid r6
    have B6 := Lib.hid (belStep BA.out b6)
    replace RU := Lib.hid (RU.out.below b6)
    clear b6 r6 BA
    go_wp2_with fail
    refine (F1.out _ B6.out).mono ?_
    rintro e w7 ⟨un, rfl, r7, b7⟩
    have RN := Lib.hid r7
    have B7 := Lib.hid (belStep B6.out b7)
    replace RU := Lib.hid (RU.out.below b7)
    replace RM := Lib.hid (RM.out.below b7)
    clear b7 r7 B6
    go_wp2_with fail
    refine (F2.out _ B7.out).mono ?_
    rintro e w8 ⟨ua, rfl, r8, b8⟩
    have RA := Lib.hid r8
    have B8 := Lib.hid (belStep B7.out b8)
    replace RU := Lib.hid (RU.out.below b8)
    replace RM := Lib.hid (RM.out.below b8)
    replace RN := Lib.hid (RN.out.below b8)
    clear b8 r8 B7
    go_wp2_with fail
    refine (F3.out _ B8.out).mono ?_
    rintro e w9 ⟨uo, rfl, r9, b9⟩
    have RO := Lib.hid r9
    have B9 := Lib.hid (belStep B8.out b9)
    replace RU := Lib.hid (RU.out.below b9)
    replace RM := Lib.hid (RM.out.below b9)
    replace RN := Lib.hid (RN.out.below b9)
    replace RA := Lib.hid (RA.out.below b9)
    clear b9 r9 B8
    by_cases hlong : (16 : Int) < (s.size : Int) + (t.size : Int) + 1
    · go_wp2
      go_ret
      exact ⟨rfl, B9.out⟩
    have h16 : s.size + t.size + 1 ≤ 16 := by omega
    rw [HN.out h16] at RN
    rw [HA.out h16] at RA
    rw [HO.out h16] at RO
    have s9 := B9.out.size
    have RX := Lib.hid (oneRow w9 ⟨#[120, 120, 120, 120, 120, 120]⟩ (Nat.zero_le _))
    have HFX : Hid (Fit6 [⟨#[120, 120, 120, 120, 120, 120]⟩]) := strs_max fun x hx => by simp at hx; subst hx; decide
    have b9 := below_alloc1 w9 (.cells #[.string ⟨#[120, 120, 120, 120, 120, 120]⟩] 9)
    have BB : Hid (Below w.heap.size w (w9.alloc (.cells #[.string ⟨#[120, 120, 120, 120, 120, 120]⟩] 9))) := B9.out.alloc s9 _
    replace RU := Lib.hid (RU.out.below b9)
    replace RM := Lib.hid (RM.out.below b9)
    replace RN := Lib.hid (RN.out.below b9)
    replace RA := Lib.hid (RA.out.below b9)
    replace RO := Lib.hid (RO.out.below b9)
    clear b9 B9 HN HA HO HTs HTt
    go_wp2_with fail
    refine (iSpaceLess_any _ _ _ [⟨#[120, 120, 120, 120, 120, 120]⟩] L RX.out.strs RU.out.strs HFX.out HF1.out).mono ?_
    rintro e w10 ⟨u10, rfl, r10, b10⟩
    rw [HL1.out] at r10
    have R10 := Lib.hid r10
    have B10 := Lib.hid (belStep BB.out b10)
    replace RU := Lib.hid (RU.out.below b10)
    replace RM := Lib.hid (RM.out.below b10)
    replace RN := Lib.hid (RN.out.below b10)
    replace RA := Lib.hid (RA.out.below b10)
    replace RO := Lib.hid (RO.out.below b10)
    clear b10 r10 BB RX
    go_wp2_with fail
    refine (lxTexts_same _ _ _ _ _ _ RN.out R10.out (by omega)).mono ?_
    rintro e w11 ⟨rfl, b11⟩
    have B11 := Lib.hid (belStep B10.out b11)
    replace RU := Lib.hid (RU.out.below b11)
    replace RM := Lib.hid (RM.out.below b11)
    replace RA := Lib.hid (RA.out.below b11)
    replace RO := Lib.hid (RO.out.below b11)
    clear b11 B10 R10 RN
    go_wp2_with fail
    refine (iSpaceAnd_any _ _ _ L M RU.out.strs RM.out.strs HF1.out HF2.out).mono ?_
    rintro e w12 ⟨u12, rfl, r12, b12⟩
    rw [HL2.out] at r12
    have R12 := Lib.hid r12
    have B12 := Lib.hid (belStep B11.out b12)
    replace RU := Lib.hid (RU.out.below b12)
    replace RM := Lib.hid (RM.out.below b12)
    replace RA := Lib.hid (RA.out.below b12)
    replace RO := Lib.hid (RO.out.below b12)
    clear b12 r12 B11
    go_wp2_with fail
    refine (lxTexts_same _ _ _ _ _ _ RA.out R12.out (by omega)).mono ?_
    rintro e w13 ⟨rfl, b13⟩
    have B13 := Lib.hid (belStep B12.out b13)
    replace RU := Lib.hid (RU.out.below b13)
    replace RM := Lib.hid (RM.out.below b13)
    replace RO := Lib.hid (RO.out.below b13)
    clear b13 B12 R12 RA
    go_wp2_with fail
    refine (iSpaceOr_any _ _ _ L M RU.out.strs RM.out.strs HF1.out HF2.out).mono ?_
    rintro e w14 ⟨u14, rfl, r14, b14⟩
    rw [HL3.out] at r14
    have R14 := Lib.hid r14
    have B14 := Lib.hid (belStep B13.out b14)
    replace RO := Lib.hid (RO.out.below b14)
    clear b14 r14 B13
    go_wp2_with fail
    refine (lxTexts_same _ _ _ _ _ _ RO.out R14.out (by omega)).mono ?_
    rintro e w15 ⟨rfl, b15⟩
    go_wp2
    go_ret
    exact ⟨rfl, belStep B14.out b15⟩

set_option maxRecDepth 100000 in
theorem contract_FnPredAlg (H : Type) (enc : TypeId × Value → H) (W : World) (base : Nat) (args : Array Value) (ds gs : List (DataW H)) (before : List MemPlace)
    (hval : ∀ (j : Nat) t v, Tryd.f4.params[j]? = some t → args[j]? = some v → Value.okWide Tryd.prog W .any base t v)
    (hW : DataW.Whole enc Tryd.prog Tryd.f4.params.toList Rows.fnPredAlgSpec.vars false W args.toList ds gs before) (hL : laidMet Tryd.prog [("loop.example/crossbuck/impl.errPred", Rows.laid_loop_example_crossbuck_impl_errPred)] W) :
    Calls Tryd.prog 4 args W fun e W' => ∃ v, e = .returned v ∧ Rows.fnPredAlgSpec.post enc Tryd.prog Tryd.f4 false true false false W args v W' := by
  have hW' := hW
  obtain ⟨p, q, hA0, hV0, rfl, hfz, hnd⟩ := hW
  have hA : DataW.TrodAll enc Tryd.prog W 0 (fun _ => true) true Tryd.f4.params.toList args.toList ds p := hA0
  have hV : DataW.TrodVars enc Tryd.prog W (fun _ => true) ["loop.example/crossbuck/impl.errPred"] gs q := hV0
  rw [Tryd.params4] at hA hval
  obtain ⟨v0, vs0, d0, ds0, p0, q0, hargs, rfl, rfl, h0, r0⟩ := trodAll_cons hA
  obtain ⟨v1, vs1, d1, ds1, p1, q1, rfl, rfl, rfl, h1, r1⟩ := trodAll_cons r0
  obtain ⟨rfl, rfl, rfl⟩ := trodAll_nil r1
  obtain rfl : args = #[v0, v1] := by cases args; simp_all
  obtain ⟨ep, hv⟩ := laidErr hL
  obtain ⟨rfl, rfl⟩ := hV.unique (vars_read1 enc gE gEt Tryd.underlying45 hv trivial _)
  have k0 := h0
  have lt0 : ∀ x ∈ p0, x.block < W.heap.size := by obtain ⟨m, hm⟩ := k0; exact DataW.trod_lt m _ _ _ hm
  have k1 := h1
  have lt1 : ∀ x ∈ p1, x.block < W.heap.size := by obtain ⟨m, hm⟩ := k1; exact DataW.trod_lt m _ _ _ hm
  obtain ⟨a0, len0, cap0, rfl⟩ := okWide_slice Tryd.underlying22 (hval 0 22 v0 rfl rfl)
  have w0 : BytesIn W W.heap.size a0 len0 cap0 := isRow_of h0
  obtain ⟨a1, len1, cap1, rfl⟩ := okWide_slice Tryd.underlying22 (hval 1 22 v1 rfl rfl)
  have w1 : BytesIn W W.heap.size a1 len1 cap1 := isRow_of h1
  clear hA0 hV0
  refine (walk_FnPredAlg a0 len0 cap0 a1 len1 cap1 W w0 w1 ep (varCell hv)).mono fun e W' ⟨he, bel⟩ => ?_
  subst he
  exact ⟨_, rfl, _, _, _, [], _, _, hW', trodAll_mk1 (shut_bool Tryd.underlying4 _), (trodAll_cons_mk (Below.trod laidOut (by kernel_rfl) (of_decide_eq_true (by kernel_rfl)) k0 bel lt0) (trodAll_cons_mk (Below.trod laidOut (by kernel_rfl) (of_decide_eq_true (by kernel_rfl)) k1 bel lt1) (trodAll_mk0))), vars_read1 enc gE gEt Tryd.underlying45 (varLater hv bel) trivial _, bel.frame _, fun h => by cases h⟩

noncomputable def low_FnPredAlg : Nat := (World.holding Tryd.prog default ⟨#[], #[], []⟩).heap.size
/-- A world for the witness: the settled one, with the error value as the text lays it. -/
noncomputable def laidWorld_FnPredAlg (os : Os) : World :=
  { World.holding Tryd.prog os ⟨#[.cells #[.string ⟨#[110, 111, 32, 99, 111, 110, 100, 105, 116, 105, 111, 110]⟩] 157], #[], []⟩ with heap := (World.holding Tryd.prog os ⟨#[.cells #[.string ⟨#[110, 111, 32, 99, 111, 110, 100, 105, 116, 105, 111, 110]⟩] 157], #[], []⟩).heap.modify 0 (fun | .cells _ t frozen => .cells #[.iface 132 (.pointer (some ⟨low_FnPredAlg, 0, none⟩))] t frozen | o => o) }

theorem laidMet_FnPredAlg (os : Os) : laidMet Tryd.prog Rows.fnPredAlgRow.laid ((laidWorld_FnPredAlg os).forCall (fun _ _ => 0) ⟨#[], #[.slice none 0 0, .slice none 0 0], []⟩).memory :=
  laidMet_of_run' 8 (by kernel_rfl) (by kernel_rfl)

set_option maxRecDepth 100000 in
theorem lifted_FnPredAlg (os : Os) (started : os.Started) (H : Type) (enc : TypeId × Value → H) (F : Stop.Interp) :
    ReturnsInHanded {} Tryd.checked os 4 .any ((OpenSpec.ofChange Rows.fnPredAlgSpec).preRow enc Tryd.prog Tryd.f4 Rows.fnPredAlgRow.domain false Rows.fnPredAlgRow.laid) (((OpenSpec.ofChange Rows.fnPredAlgSpec).at F).post enc Tryd.prog Tryd.f4 false true false false) := by
  refine returnsInHanded_of_row (C := Tryd.checked) (s := OpenSpec.ofChange Rows.fnPredAlgSpec) own started (by kernel_rfl) Tryd.func4
    (witness_row_at (enc := enc) (C := Tryd.checked) false (laidWorld_FnPredAlg os) #[.slice none 0 0, .slice none 0 0] rfl (by kernel_rfl) (by kernel_rfl) (by kernel_rfl)
      (OpenSpec.preRow_of_B rfl 8 (by kernel_rfl) (by kernel_rfl) (laidMet_FnPredAlg os))) ?_
  intro W base args ds gs before hval hW _ _ _ hL _ _
  exact contract_FnPredAlg H enc W base args ds gs before hval hW hL

theorem said_FnPredAlg : Rows.FnPredAlgSaid :=
  OpenClaim.holds_of_cond 4 Tryd.f4 rfl rfl rfl rfl rfl rfl rfl ⟨rfl, rfl, rfl, rfl, rfl⟩ rfl rfl rfl rfl rfl (by kernel_rfl) Tryd.func4 (by kernel_rfl)
    (of_decide_eq_true (by kernel_rfl)) (by unfold Func.isWrapper; first | (rw [if_pos (by decide +kernel)]; kernel_rfl) | (rw [if_neg (by decide +kernel)]; exact ⟨rfl, rfl⟩))
    (fun os started H enc _ F => by rw [OpenClaim.pre_eq_preRow]; exact lifted_FnPredAlg os started H enc F)

theorem plain_FnPredAlg (f : FuncId) (fn : Func) (hf : Tryd.pinned.checked.prog.funcNamed "loop.example/crossbuck/laws.FnPredAlg" = some f) (hfn : Tryd.pinned.checked.prog.funcs[f]? = some fn) :
    true = Tryd.pinned.checked.prog.looks [] ∧ ∀ (j : Nat) t, fn.params[j]? = some t → Tryd.pinned.checked.prog.wantsStandIn t = false := by
  obtain rfl : f = 4 := Option.some.inj ((show Tryd.prog.funcNamed "loop.example/crossbuck/laws.FnPredAlg" = some 4 by kernel_rfl).symm.trans hf) |>.symm
  obtain rfl : fn = Tryd.f4 := (Option.some.inj (Tryd.func4.symm.trans hfn)).symm
  refine ⟨by kernel_rfl, fun j t ht => ?_⟩
  rw [Tryd.params4] at ht
  obtain rfl : t = 22 := by simpa using Array.mem_of_getElem? ht
  exact (show Tryd.prog.wantsStandIn 22 = false by kernel_rfl)

theorem proved_FnPredAlg : Rows.FnPredAlgCardSaid :=
  Claim7.holds_tied_plain_at .later [] _ _ _ _ said_FnPredAlg (fun _ h => by cases h) (by kernel_rfl) (fun _ h => by cases h) fnPredAlg_row_tie rfl ⟨rfl, rfl⟩ (by kernel_rfl) rfl plain_FnPredAlg (by kernel_rfl)

end Go.Proofs.YtddkpimmcmnogabDoor
