/-
  Proved: promise 50 (the part of a rule is its pattern without those ahead), at every code from which the table and the place are drawn; the code reads on as it did. No condition but the card's own: the listed variables of the library stand as its text lays them.
-/
import Derived.Test.YtehgpehhpijkjaaGreatDoorRuleCard
import Derived.Test.YtehgpehhpijkjaaGreatDoorOwnB
import Derived.Test.YtehgpehhpijkjaaGreatDoorTabPartF
import Derived.Test.YtehgpehhpijkjaaGreatDoorTabDrawC
import Derived.Test.YtehgpehhpijkjaaGreatDoorTabOkI
namespace Go.Proofs.YtehgpehhpijkjaaGreatDoor
open Go.ChangeShapes Go.WideShapes Go.ChangeAt Go.RowKit Go.Joins
set_option linter.unusedVariables false

theorem less_area {l : List R4} (ht : tOk l = true) {k : Nat} (hk : k < l.length) : opR (fun x y => x && !y) [(ruAt l k).s] ((l.take k).map R4.s) = areaT l (k : Int) := by
  have hok := tOk_at ht
  have hlen := tOk_len ht
  have o1 : okSp [(ruAt l k).s] = true := by
    unfold okSp
    simp [(rOk_true (hok k hk)).2.1]
  have hm : ∀ r ∈ l.take k, okS r.s = true := fun r hr => by
    obtain ⟨i, hi, rfl⟩ := mem_ruAt (List.mem_of_mem_take hr)
    exact (rOk_true (hok i hi)).2.1
  have o2 : okSp ((l.take k).map R4.s) = true := by
    unfold okSp
    rw [Bool.and_eq_true, decide_eq_true_eq, List.all_eq_true]
    refine ⟨by rw [List.length_map, List.length_take]; omega, fun s hs => ?_⟩
    obtain ⟨r, hr, rfl⟩ := List.mem_map.1 hs
    exact hm r hr
  unfold opR
  rw [o1, o2, areaT_yes ht (by omega) (by omega), ← areaF_area l hk]
  show tidyT _ = tidyT _
  congr 1
  unfold spL areaF
  rw [tabF_zip]
  refine tabF_congr 6 fun b _ => ?_
  have e1 : inSp [(ruAt l k).s] b = hasR b (ruAt l k) := by
    unfold inSp hasR
    rw [(rOk_true (hok k hk)).2.1]
    simp
  have e2 : inSp ((l.take k).map R4.s) b = (l.take k).any (hasR b) := by
    unfold inSp
    rw [List.any_map]
    refine any_mem fun r hr => ?_
    unfold hasR
    rw [hm r hr]
    rfl
  rw [e1, e2, Bool.and_comm]
theorem oneStr (w : World) (s : ByteArray) : Strs (w.alloc (.cells #[.string s] 9)) (w.alloc (.cells #[.string s] 9)).heap.size (.slice (some ⟨w.heap.size, 0, none⟩) 1 1) [s] := by
  refine ⟨_, 1, rfl, Nat.le_refl _, by unfold maxLen; omega, .inr ⟨w.heap.size, 0, rfl, by simp, fun i hi => ?_⟩⟩
  obtain rfl : i = 0 := by simpa using hi
  rw [cell_of_block (newBlockM w (.cells #[.string s] 9))]
  rfl
/-- One text is appended to texts of the call's own. -/
theorem app_str {w : World} {ops : Array Oper} {rest : List Oper} {o : Oper} {a : Act} {Q : Exit → Act → World → Prop} (hgd : o.guard = none) (s x : Operand)
    (ho : o.op = .call { callee := .builtin .append, args := #[s, x], argTypes := #[26, 26] }) (base : Nat) (v : Value) (L : List ByteArray) (hs : a.eval s = v) (hrow : StrRow w base v L) (g : Nat) (r : ByteArray)
    (hx : a.eval x = .slice (some ⟨g, 0, none⟩) 1 1) (hf : w.cell? ⟨g, 0, none⟩ = some (.string r)) (hn : L.length ≤ 1000000) (hb : base ≤ w.heap.size)
    (h : ∀ v' w', StrRow w' base v' (L ++ [r]) → Below base w w' → w.heap.size ≤ w'.heap.size → (∃ g' cap', v' = .slice (some ⟨g', 0, none⟩) (L.length + 1) cap') → wpList Tryz.prog ops Q rest (a.put o.dst v') w') : wpList Tryz.prog ops Q (o :: rest) a w := by
  obtain ⟨i0, hi, hz0, hz1, hz2⟩ := info_parts infoStr
  refine wpList_append_own _ hgd s x 26 ho base 9 i0 (.string ⟨#[]⟩) 1 16 Tryz.underlying26 hi hz0 hz1 hz2 rfl (by decide) v L.length _ hs hrow ⟨g, 0, none⟩ 1 1 [.string r] hx rfl ?c1 ?c2 ?c3 ?c4 hb ?c6
  case c1 =>
    intro j u hj
    match j, hj with
    | 0, hj => simp at hj; subst hj; rw [add_none]; exact hf
    | j + 1, hj => simp at hj
  case c2 =>
    intro u hu
    simp at hu
    subst hu
    rfl
  case c3 => unfold maxLen; omega
  case c4 => omega
  case c6 =>
    intro v' w' hown hg hnil
    refine h v' w' (by unfold StrRow; rw [List.length_append, List.map_append]; exact hown) ⟨hg.os, hg.tape, hg.output, hg.size, fun j hj => hg.block j (by omega) (fun e => by have := (World.ownsRow.lt hrow j e.symm).1; omega)⟩ hg.size ?_
    obtain ⟨hl, h1 | ⟨g', cap', cur, h1, -⟩⟩ := hown
    · exact absurd h1.2 (by omega)
    · exact ⟨g', cap', h1⟩

set_option maxRecDepth 100000 in
set_option maxHeartbeats 8000000 in
theorem walk_FnAreaLess (a : Option Addr) (len cap : Nat) (w : World) (hb : BytesIn w w.heap.size a len cap) (hE : EtOk w) :
    Calls Tryz.prog 3 #[.slice a len cap] w fun e w' => e = .returned (.bool true) ∧ Below w.heap.size w w' := by
  have HB := Lib.hid hb
  have HE := Lib.hid hE
  have hm : (len : Int) ≤ maxLen := by have := hb.1; have := hb.2.1; omega
  unfold maxLen at hm
  clear hb hE
  by_cases hlen : (1048576 : Int) < (len : Int)
  · go_enter Tryz.func3, Tryz.ntmps3
    go_wp2
    go_ret
    exact ⟨rfl, Below.refl _ _⟩
  go_enter Tryz.func3, Tryz.ntmps3
  go_wp2_with fail
  refine (drawTableArea_any _ _ _ _ HB.out).mono ?_
  rintro e w1 ⟨v, l, q, rfl, hl, hq1, hq2, hx, b1⟩
  have hn : l.length ≤ 1048576 := by omega
  have HL : Hid (∀ W, Below w1.heap.size w1 W → Rls W W.heap.size v l) := fun W hb => (hx.rls.below hb (Nat.le_refl _)).mono hb.size
  have HEW : Hid (∀ W, Below w1.heap.size w1 W → EtOk W) := fun W hb => (HE.out.below b1).below hb
  have BW : Hid (∀ W, Below w1.heap.size w1 W → Below w.heap.size w W) := fun W hb => belStep b1 hb
  have HI := Lib.hid (fun W q h => iTableArea_any W v l h hn q)
  have HS := Lib.hid (fun W h => sTableArea_any W v l h hn q)
  have HT := Lib.hid (fun W h => sTableOk_any W v l h hn)
  have HAL : Hid (∀ z : Int, (areaT l z).length ≤ 64) := fun z => areaT_len l z
  obtain ⟨va, vc, rfl⟩ : ∃ va vc, v = .slice va l.length vc := by
    obtain ⟨va, vc, rfl, -⟩ := hx.rls
    exact ⟨va, vc, rfl⟩
  clear hx b1
  go_wp2_with fail
  refine (HI.out _ q (HL.out _ (Below.refl _ _)) (HEW.out _ (Below.refl _ _))).mono ?_
  rintro e w2 ⟨s, rfl, hrow, b2⟩
  have HR := Lib.hid hrow
  have B2 := Lib.hid b2
  clear hrow b2
  go_wp2_with fail
  refine (HS.out _ (HL.out _ B2.out)).mono ?_
  rintro e w3 ⟨u, rfl, hrow, b3⟩
  have HU := Lib.hid hrow
  replace HR := Lib.hid (HR.out.below b3)
  have B3 := Lib.hid (belStep B2.out b3)
  clear hrow b3 B2
  go_wp2_with fail
  refine (lxTexts_same _ _ _ _ _ _ HR.out HU.out (by have := HAL.out q; omega)).mono ?_
  rintro e w4 ⟨rfl, b4⟩
  replace HR := Lib.hid (HR.out.below b4)
  have B4 := Lib.hid (belStep B3.out b4)
  clear b4 B3 HU
  go_wp2_with fail
  refine (HT.out _ (HL.out _ B4.out)).mono ?_
  rintro e w5 ⟨rfl, b5⟩
  replace HR := Lib.hid (HR.out.below b5)
  have B5 := Lib.hid (belStep B4.out b5)
  clear b5 B4
  cases ht : tOk l
  · rw [ht] at HT
    go_wp2_with fail
    refine (HS.out _ (HL.out _ B5.out)).mono ?_
    rintro e w6 ⟨u, rfl, hrow, b6⟩
    have HU := Lib.hid hrow
    replace HR := Lib.hid (HR.out.below b6)
    have B6 := Lib.hid (belStep B5.out b6)
    clear hrow b6
    go_wp2_with fail
    refine (lxTexts_same _ _ _ _ _ _ HR.out HU.out (by have := HAL.out q; omega)).mono ?_
    rintro e w7 ⟨rfl, b7⟩
    have B7 := Lib.hid (belStep B6.out b7)
    clear b7
    go_wp2
    go_ret
    exact ⟨rfl, BW.out _ B7.out⟩
  by_cases hlo : q < 0
  · clear HT ht
    go_wp2_with fail
    refine (HS.out _ (HL.out _ B5.out)).mono ?_
    rintro e w6 ⟨u, rfl, hrow, b6⟩
    have HU := Lib.hid hrow
    replace HR := Lib.hid (HR.out.below b6)
    have B6 := Lib.hid (belStep B5.out b6)
    clear hrow b6
    go_wp2_with fail
    refine (lxTexts_same _ _ _ _ _ _ HR.out HU.out (by have := HAL.out q; omega)).mono ?_
    rintro e w7 ⟨rfl, b7⟩
    have B7 := Lib.hid (belStep B6.out b7)
    clear b7
    go_wp2
    go_ret
    exact ⟨rfl, BW.out _ B7.out⟩
  by_cases hhi : (l.length : Int) ≤ q
  · clear HT ht
    go_wp2_with fail
    refine (HS.out _ (HL.out _ B5.out)).mono ?_
    rintro e w6 ⟨u, rfl, hrow, b6⟩
    have HU := Lib.hid hrow
    replace HR := Lib.hid (HR.out.below b6)
    have B6 := Lib.hid (belStep B5.out b6)
    clear hrow b6
    go_wp2_with fail
    refine (lxTexts_same _ _ _ _ _ _ HR.out HU.out (by have := HAL.out q; omega)).mono ?_
    rintro e w7 ⟨rfl, b7⟩
    have B7 := Lib.hid (belStep B6.out b7)
    clear b7
    go_wp2
    go_ret
    exact ⟨rfl, BW.out _ B7.out⟩
  have hq3 : 0 ≤ q := by omega
  have hq4 : q < (l.length : Int) := by omega
  obtain ⟨n, rfl⟩ : ∃ n : Nat, q = (n : Int) := ⟨q.toNat, by omega⟩
  have hnl : n < l.length := by omega
  obtain ⟨D, hD⟩ : ∃ D : Nat → List ByteArray, D = fun k => (l.take k).map R4.s := ⟨_, rfl⟩
  have HD0 : Hid ([] = D 0) := by show _ = D 0; rw [hD]; rfl
  have HDS : Hid (∀ k : Nat, k < l.length → D (k + 1) = D k ++ [(ruAt l k).s]) := fun k hk => by
    rw [hD]
    show (l.take (k + 1)).map R4.s = (l.take k).map R4.s ++ [(ruAt l k).s]
    rw [take_step l hk, List.map_append]
    rfl
  have HDL : Hid (∀ k : Nat, (D k).length ≤ 1000000) := fun k => by rw [hD]; show ((l.take k).map R4.s).length ≤ _; rw [List.length_map, List.length_take]; omega
  have HDA : Hid (opR (fun x y => x && !y) [(ruAt l n).s] (D n) = areaT l (n : Int)) := by
    show opR _ _ (D n) = _
    rw [hD]
    exact less_area ht hnl
  have HFD : Hid (Fit6 (D n)) := by
    show Fit6 (D n)
    rw [hD]
    refine strs_max fun s hs => ?_
    obtain ⟨r, hr, rfl⟩ := List.mem_map.1 hs
    exact r.hs
  have HF1 : Hid (Fit6 [(ruAt l n).s]) := strs_max fun s hs => by
    obtain rfl : s = (ruAt l n).s := by simpa using hs
    exact (ruAt l n).hs
  obtain ⟨b, off, rfl, hb, HC, hvc, hvm⟩ : ∃ b off, va = some ⟨b, off, none⟩ ∧ b < w5.heap.size ∧ Hid (∀ i, i < l.length → Four w5 b (off + i * 4) (ruAt l i)) ∧ l.length ≤ vc ∧ vc ≤ maxLen := by
    obtain ⟨va', vc', hve, hvc, hvm, hvx⟩ := HL.out _ B5.out
    obtain ⟨rfl, rfl⟩ : va = va' ∧ vc = vc' := by simpa using hve
    rcases hvx with h | ⟨b, off, h1, h2, h3⟩
    · rw [h] at hnl
      simp at hnl
    · exact ⟨b, off, h1, h2, h3, hvc, hvm⟩
  unfold maxLen at hvm
  have HAL2 := Lib.hid (HAL.out (n : Int))
  have HY0 : Hid (StrRow (w5.alloc (.cells #[] 9)) w5.heap.size (.slice (some ⟨w5.heap.size, 0, none⟩) 0 0) (D 0)) := by show StrRow _ _ _ _; rw [← HD0.out]; exact emptyS w5 (Nat.le_refl _)
  have BS : Hid (Below w5.heap.size w5 (w5.alloc (.cells #[] 9))) := (Below.refl _ _).alloc (Nat.le_refl _) _
  clear ht HT HS HI hq1 hq2 hlo hhi hD HAL HD0
  go_wp2
  rw [show decide (l.length ≤ n) = false from by simpa using hnl, Bool.or_false]
  go_loopw [6, 7] (fun y i wr => ∃ k : Nat, k ≤ n ∧ i = .int .i64 k ∧ StrRow wr w5.heap.size y (D k) ∧ Below w5.heap.size w5 wr) (fun _ i _ => n - (intOf i).toNat)
  case atStart => exact ⟨0, Nat.zero_le _, rfl, HY0.out, BS.out⟩
  case round =>
    obtain ⟨k, hk, rfl, hrow, hbel⟩ := hrel
    have HBL := Lib.hid hbel
    have HRW := Lib.hid hrow
    clear hrow
    by_cases hlt : k < n
    · have hkz : (k : Int) < (n : Int) := by omega
      have hkl : (k : Int) < (l.length : Int) := by omega
      obtain ⟨c0, c1, c2, c3⟩ := (HC.out k (by omega)).below hbel hb
      have HDK := Lib.hid (HDS.out k (by omega))
      have HLK := Lib.hid (HDL.out k)
      have zwr : w5.heap.size ≤ wr.heap.size := hbel.size
      clear hbel HC HDS HDL HDA HF1 HFD
      generalize ruAt l k = r at *
      go_wp2_with (at_builtin; refine app_str rfl _ _ rfl w5.heap.size _ _ rfl (HRW.out.below (below_alloc1 _ _)) _ r.s rfl (by rw [cell_of_block (newBlockM wr (.cells #[.string r.s] 9))]; rfl) (HLK.out) (by simp; omega) ?_; rintro v' w8 hrow8 hb8 hs8 ⟨g', cap', rfl⟩; have HR8 := Lib.hid hrow8; have HB8 := Lib.hid (((below_alloc1 wr (.cells #[.string r.s] 9)).mono zwr).trans hb8); clear hrow8 hb8 hs8)
      rw [← HDK.out] at HR8
      go_wp2
      go_roundw
      case rel => exact ⟨k + 1, by omega, by go_num, HR8.out, HBL.out.trans HB8.out⟩
      case measure => simp [intOf]; omega
    · obtain rfl : k = n := by omega
      obtain ⟨c0, c1, c2, c3⟩ := (HC.out k hnl).below hbel hb
      have hkl : (k : Int) < (l.length : Int) := by omega
      clear hbel HC HDS HDL
      generalize ruAt l k = r at *
      have HO := Lib.hid (oneStr wr r.s)
      have BO : Hid (Below wr.heap.size wr (wr.alloc (.cells #[.string r.s] 9))) := below_alloc1 _ _
      have HRO := Lib.hid (HRW.out.below BO.out)
      have BB := Lib.hid (belStep HBL.out BO.out)
      clear HRW BO
      go_wp2_with fail
      refine (iSpaceLess_any _ _ _ _ _ HO.out HRO.out.strs HF1.out HFD.out).mono ?_
      rintro e w8 ⟨u, rfl, hrow, b8⟩
      rw [HDA.out] at hrow
      have HU := Lib.hid hrow
      have B8 := Lib.hid (belStep BB.out b8)
      clear hrow b8 c0 c1 c2 c3 HO HRO
      go_wp2_with fail
      refine (lxTexts_same _ _ _ _ _ _ (HR.out.below B8.out) HU.out (by have := HAL2.out; omega)).mono ?_
      rintro e w9 ⟨rfl, b9⟩
      have B9 := Lib.hid (belStep B8.out b9)
      clear b9
      go_wp2
      go_ret
      exact ⟨rfl, BW.out _ (B5.out.trans (B9.out.mono B5.out.size))⟩

set_option maxRecDepth 100000 in
theorem contract_FnAreaLess (H : Type) (enc : TypeId × Value → H) (W : World) (base : Nat) (args : Array Value) (ds gs : List (DataW H)) (before : List MemPlace)
    (hval : ∀ (j : Nat) t v, Tryz.f3.params[j]? = some t → args[j]? = some v → Value.okWide Tryz.prog W .any base t v)
    (hW : DataW.Whole enc Tryz.prog Tryz.f3.params.toList Rows.fnAreaLessSpec.vars false W args.toList ds gs before) (hE : EtOk W) :
    Calls Tryz.prog 3 args W fun e W' => ∃ v, e = .returned v ∧ Rows.fnAreaLessSpec.post enc Tryz.prog Tryz.f3 false true false false W args v W' := by
  have hW' := hW
  obtain ⟨p, q, hA0, hV, rfl, hfz, hnd⟩ := hW
  have hA : DataW.TrodAll enc Tryz.prog W 0 (fun _ => true) true Tryz.f3.params.toList args.toList ds p := hA0
  rw [Tryz.params3] at hA hval
  obtain ⟨v0, vs0, d0, ds0, p0, q0, hargs, rfl, rfl, h0, r0⟩ := trodAll_cons hA
  obtain ⟨rfl, rfl, rfl⟩ := trodAll_nil r0
  obtain rfl : args = #[v0] := by cases args; simp_all
  obtain ⟨rfl, rfl⟩ := trodVars_none hV
  have k0 := h0
  have lt0 : ∀ x ∈ p0, x.block < W.heap.size := by obtain ⟨m, hm⟩ := k0; exact DataW.trod_lt m _ _ _ hm
  obtain ⟨a0, len0, cap0, rfl⟩ := okWide_slice Tryz.underlying22 (hval 0 22 v0 rfl rfl)
  have w0 : BytesIn W W.heap.size a0 len0 cap0 := isRow_of h0
  clear hA0
  refine (walk_FnAreaLess a0 len0 cap0 W w0 hE).mono fun e W' ⟨he, bel⟩ => ?_
  subst he
  exact ⟨_, rfl, _, _, _, [], _, [], hW', trodAll_mk1 (shut_bool Tryz.underlying4 _), (trodAll_cons_mk (Below.trod laidOut (by kernel_rfl) (of_decide_eq_true (by kernel_rfl)) k0 bel lt0) (trodAll_mk0)), rfl, bel.frame _, fun h => by cases h⟩

/-- A world for the witness: the settled one, with the listed variables as the text lays them. -/
noncomputable def laidWorld_FnAreaLess (os : Os) : World :=
  { World.holding Tryz.prog os ⟨#[], #[], []⟩ with heap := (((((World.holding Tryz.prog os ⟨#[], #[], []⟩).heap).modify 3 (fun | .cells _ t frozen => .cells #[.int .u8 0, .int .u8 1, .int .u8 28, .int .u8 2, .int .u8 29, .int .u8 14, .int .u8 24, .int .u8 3, .int .u8 30, .int .u8 22, .int .u8 20, .int .u8 15, .int .u8 25, .int .u8 17, .int .u8 4, .int .u8 8, .int .u8 31, .int .u8 27, .int .u8 13, .int .u8 23, .int .u8 21, .int .u8 19, .int .u8 16, .int .u8 7, .int .u8 26, .int .u8 12, .int .u8 18, .int .u8 6, .int .u8 11, .int .u8 5, .int .u8 10, .int .u8 9] t frozen | o => o)).modify 4 (fun | .cells _ t frozen => .cells #[.int .u8 0, .int .u8 1, .int .u8 56, .int .u8 2, .int .u8 57, .int .u8 49, .int .u8 28, .int .u8 3, .int .u8 61, .int .u8 58, .int .u8 42, .int .u8 50, .int .u8 38, .int .u8 29, .int .u8 17, .int .u8 4, .int .u8 62, .int .u8 47, .int .u8 59, .int .u8 36, .int .u8 45, .int .u8 43, .int .u8 51, .int .u8 22, .int .u8 53, .int .u8 39, .int .u8 33, .int .u8 30, .int .u8 24, .int .u8 18, .int .u8 12, .int .u8 5, .int .u8 63, .int .u8 55, .int .u8 48, .int .u8 27, .int .u8 60, .int .u8 41, .int .u8 37, .int .u8 16, .int .u8 46, .int .u8 35, .int .u8 44, .int .u8 21, .int .u8 52, .int .u8 32, .int .u8 23, .int .u8 11, .int .u8 54, .int .u8 26, .int .u8 40, .int .u8 15, .int .u8 34, .int .u8 20, .int .u8 31, .int .u8 10, .int .u8 25, .int .u8 14, .int .u8 19, .int .u8 9, .int .u8 13, .int .u8 8, .int .u8 7, .int .u8 6] t frozen | o => o)).modify 2 (fun | .cells _ t frozen => .cells #[.int .u64 1, .int .u64 10, .int .u64 100, .int .u64 1000, .int .u64 10000, .int .u64 100000, .int .u64 1000000, .int .u64 10000000, .int .u64 100000000, .int .u64 1000000000, .int .u64 10000000000, .int .u64 100000000000, .int .u64 1000000000000, .int .u64 10000000000000, .int .u64 100000000000000, .int .u64 1000000000000000, .int .u64 10000000000000000, .int .u64 100000000000000000, .int .u64 1000000000000000000, .int .u64 10000000000000000000] t frozen | o => o)).modify 0 (fun | .cells _ t frozen => .cells #[.iface 176 (.agg #[.pointer (some ⟨5, 131, none⟩)])] t frozen | o => o) }

theorem laidMet_FnAreaLess (os : Os) : laidMetH Tryz.prog Rows.fnAreaLessRow.laid ((laidWorld_FnAreaLess os).forCall (fun _ _ => 0) ⟨#[], #[.slice none 0 0], []⟩).memory :=
  laidMetH_of_parts (laidMet_of_run' 8 (by kernel_rfl) (by kernel_rfl)) (by kernel_rfl)

theorem reads_FnAreaLess (os : Os) {H : Type} (enc : TypeId × Value → H) : ∃ places, DataW.whole enc Tryz.prog ((laidWorld_FnAreaLess os).forCall (fun _ _ => 0) ⟨#[], #[.slice none 0 0], []⟩).memory Tryz.f3.params.toList Rows.fnAreaLessSpec.vars false (#[.slice none 0 0] : Array Value).toList 8 = some ([.nil], [], places) :=
  ⟨[], by kernel_rfl⟩

set_option maxRecDepth 100000 in
theorem lifted_FnAreaLess (os : Os) (started : os.Started) (H : Type) (enc : TypeId × Value → H) (F : Stop.Interp) :
    ReturnsInHanded {} Tryz.checked os 3 .any ((OpenSpec.ofChange Rows.fnAreaLessSpec).preRow enc Tryz.prog Tryz.f3 Rows.fnAreaLessRow.domain false Rows.fnAreaLessRow.laid) (((OpenSpec.ofChange Rows.fnAreaLessSpec).at F).post enc Tryz.prog Tryz.f3 false true false false) := by
  obtain ⟨places, hx⟩ := reads_FnAreaLess os enc
  refine returnsInHanded_of_row (C := Tryz.checked) (s := OpenSpec.ofChange Rows.fnAreaLessSpec) own started (by kernel_rfl) Tryz.func3
    (witness_row_at (enc := enc) (C := Tryz.checked) false (laidWorld_FnAreaLess os) #[.slice none 0 0] rfl (by kernel_rfl) (by kernel_rfl) (by kernel_rfl)
      (OpenSpec.preRow_of_cond 8 hx (by kernel_rfl) (fun k hk => by cases hk) (by kernel_rfl) (laidMet_FnAreaLess os))) ?_
  intro W base args ds gs before hval hW _ _ _ hL _ _
  exact contract_FnAreaLess H enc W base args ds gs before hval hW (etOk_of hL (by simp [Rows.fnAreaLessRow]))

theorem said_FnAreaLess : Rows.FnAreaLessSaid :=
  OpenClaim.holds_of_cond 3 Tryz.f3 rfl rfl rfl rfl rfl rfl rfl ⟨rfl, rfl, rfl, rfl, rfl⟩ rfl rfl rfl rfl rfl (by kernel_rfl) Tryz.func3 (by kernel_rfl)
    (of_decide_eq_true (by kernel_rfl)) (by unfold Func.isWrapper; first | (rw [if_pos (by decide +kernel)]; kernel_rfl) | (rw [if_neg (by decide +kernel)]; exact ⟨rfl, rfl⟩))
    (fun os started H enc _ F => by rw [OpenClaim.pre_eq_preRow]; exact lifted_FnAreaLess os started H enc F)

theorem plain_FnAreaLess (f : FuncId) (fn : Func) (hf : Tryz.pinned.checked.prog.funcNamed "loop.example/crossbuck/laws.FnAreaLess" = some f) (hfn : Tryz.pinned.checked.prog.funcs[f]? = some fn) :
    true = Tryz.pinned.checked.prog.looks [] ∧ ∀ (j : Nat) t, fn.params[j]? = some t → Tryz.pinned.checked.prog.wantsStandIn t = false := by
  obtain rfl : f = 3 := Option.some.inj ((show Tryz.prog.funcNamed "loop.example/crossbuck/laws.FnAreaLess" = some 3 by kernel_rfl).symm.trans hf) |>.symm
  obtain rfl : fn = Tryz.f3 := (Option.some.inj (Tryz.func3.symm.trans hfn)).symm
  refine ⟨by kernel_rfl, fun j t ht => ?_⟩
  rw [Tryz.params3] at ht
  obtain rfl : t = 22 := by simpa using Array.mem_of_getElem? ht
  exact (show Tryz.prog.wantsStandIn 22 = false by kernel_rfl)

theorem proved_FnAreaLess : Rows.FnAreaLessCardSaid :=
  Claim7.holds_tied_plain_at .later [] _ _ _ _ said_FnAreaLess (fun _ h => by cases h) (by kernel_rfl) (fun _ h => by cases h) fnAreaLess_row_tie rfl ⟨rfl, rfl⟩ (by kernel_rfl) rfl plain_FnAreaLess (by kernel_rfl)

end Go.Proofs.YtehgpehhpijkjaaGreatDoor
