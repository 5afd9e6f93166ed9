/-
  Proved: promise 25 (a space is of patterns), at every code from which the texts are drawn, and every length of the other code; both codes read on as they did. No condition.
-/
import Derived.Test.YtddkpimmcmnogabSpaceLx
import Derived.Test.YtddkpimmcmnogabDrawSpace
import Derived.Test.YtddkpimmcmnogabSpaceImplA
import Derived.Test.YtddkpimmcmnogabOwnB
import Derived.Laws.AppendOwnNone
namespace Go.Proofs.Ytddkpimmcmnogab
open Go.ChangeShapes Go.WideShapes Go.ChangeAt Go.RowKit Go.Joins
set_option linter.unusedVariables false

theorem twoCells {w : World} {j : Nat} {t : TypeId} {s0 s1 : ByteArray} (P : ByteArray → Prop) (h : w.heap[j]? = some (.cells #[.string s0, .string s1] t))
    (h0 : P s0) (h1 : P s1) : ∀ i, i < 2 → ∃ s, P s ∧ w.cell? ⟨j, i, none⟩ = some (.string s) := by
  intro i hi
  rw [cell_of_block h]
  obtain rfl | rfl : i = 0 ∨ i = 1 := by omega
  · exact ⟨_, h0, rfl⟩
  · exact ⟨_, h1, rfl⟩

/-- Short texts, one more. -/
def Short2 (l : List ByteArray) : Prop := l.length ≤ 67 ∧ ∀ s ∈ l, s.size ≤ 8

set_option maxRecDepth 100000 in
set_option maxHeartbeats 4000000 in
theorem drawSpaceOk_any (w : World) (a : Option Addr) (len cap : Nat) (hb : BytesIn w w.heap.size a len cap) :
    Calls Try.prog 12 #[.slice a len cap] w fun e w' => ∃ v l, e = .returned v ∧ Short2 l ∧ StrRow w' w.heap.size v l ∧ Below w.heap.size w w' := by
  have HB := Lib.hid hb
  clear hb
  obtain ⟨i0, hi, hz0, hz1, hz2⟩ := info_parts infoStr
  have HI := Lib.hid hi
  have HQ0 := Lib.hid hz0
  have HQ1 := Lib.hid hz1
  have HQ2 := Lib.hid hz2
  clear hi hz0 hz1 hz2
  go_enter Try.func12, Try.ntmps12
  go_wp2_with fail
  refine (open_any _ _ _ _ HB.out).mono ?_
  rintro e w1 ⟨rfl, hr, b1⟩
  have HR := Lib.hid hr
  have s1 := hr.lt
  have z1 := b1.size
  clear hr
  go_wp2_with fail
  refine (l91Space_any _ _ _ HR.out (by omega)).mono ?_
  rintro e w2 ⟨v, l, rfl, hsh, hrow, hr2, g2⟩
  have h66 := hsh.1
  have HSM := Lib.hid hsh.2
  have HW2 := Lib.hid hrow
  have HR2 := Lib.hid hr2
  have G2 := Lib.hid g2
  have s2 := g2.size
  clear hsh hrow hr2 g2
  go_wp2_with fail
  refine (pick_any _ _ _ _ HR2.out (by omega) (by omega)).mono ?_
  rintro e w3 ⟨p, p0, p1, rfl, hr3, g3⟩
  have HR3 := Lib.hid hr3
  have s3 := g3.size
  have HW3 : Hid (StrRow w3 w1.heap.size v l) := HW2.out.apart2 (w := w1) g3 s1
  have G3 := Lib.hid (gTrans G2.out g3)
  clear hr3 g3 G2 HW2 HR2 HR
  by_cases hp : p = 0
  · subst hp
    go_wp2_with fail
    refine (l91Wild_any _ _ _ HR3.out (by omega)).mono ?_
    rintro e w4 ⟨t, ht, rfl, hr4, g4⟩
    have HR4 := Lib.hid hr4
    have s4 := g4.size
    have HW4 : Hid (StrRow w4 w1.heap.size v l) := HW3.out.apart2 (w := w1) g4 s1
    have G4 := Lib.hid (gTrans G3.out g4)
    have HRs := Lib.hid (HR4.out.alloc (.cells #[.string ⟨#[]⟩, .string ⟨#[120]⟩] 9))
    have HC := Lib.hid (twoCells (fun s => s.size ≤ 1) (newBlock w4 (.cells #[.string ⟨#[]⟩, .string ⟨#[120]⟩] 9)) (by decide) (by decide))
    clear hr4 g4 HW3 HR3 G3
    go_wp2_with fail
    refine (of_some _ _ _ _ _ (fun s => s.size ≤ 1) HRs.out (by omega) (by omega) (by omega) (by omega) (by simp) HC.out).mono ?_
    rintro e w5 ⟨u, hu, rfl, hr5, g5⟩
    have s5 := g5.size
    simp at s5
    have HW5 : Hid (StrRow w5 w1.heap.size v l) := (HW4.out.below (below_alloc1 _ _)).apart2 (w := w1) g5 s1
    have G5 := Lib.hid (gTrans (gAlloc G4.out _) g5)
    clear hr5 g5 HW4 G4 HRs HC HR4
    have B5 : Hid (Below w.heap.size w w5) := b1.trans (gBel G5.out (Nat.le_refl _) z1)
    go_wp2_with (at_builtin; refine wpList_append_own _ rfl _ _ 23 rfl w1.heap.size 9 i0 (.string ⟨#[]⟩) 1 16 Try.underlying23 HI.out HQ0.out HQ1.out HQ2.out rfl (by decide) _ _ _ rfl (World.ownsRow.alloc HW5.out _) ⟨w5.heap.size, 0, none⟩ 1 1 [.string (t ++ u)] rfl rfl ?c1 ?c2 ?c3 ?c4 ?c5 ?_)
    case c1 =>
      intro j x hj
      match j, hj with
      | 0, hj => simp at hj; subst hj; simp [Addr.add]
    case c2 => intro x hx; simp at hx; subst hx; rfl
    case c3 => unfold maxLen; omega
    case c4 => omega
    case c5 => simp; omega
    intro v' w6 hown6 hg6 _
    have hb6 : Below w1.heap.size (w5.alloc (.cells #[.string (t ++ u)] 9)) w6 := grownBelow (World.ownsRow.alloc HW5.out _) hg6 (by simp; omega)
    have B6 : Hid (Below w.heap.size w w6) := (B5.out.alloc (by have := B5.out.size; omega) _).trans (hb6.mono (by omega))
    have R6 : Hid (StrRow w6 w1.heap.size v' (l ++ [t ++ u])) := by
      show w6.ownsRow _ _ _ _ _ _
      rw [List.length_append, List.map_append]
      exact hown6
    clear hown6 hg6 hb6 HW5 G5 B5 b1
    go_wp2
    go_ret
    refine ⟨v', l ++ [t ++ u], rfl, ⟨by simp; omega, fun s hs => ?_⟩, R6.out.mono (by omega), B6.out⟩
    rcases List.mem_append.1 hs with h | h
    · exact HSM.out s h
    · simp at h
      subst h
      rw [ByteArray.size_append]
      omega
  · have e0 : (p == 0) = false := by simpa using hp
    have B3 : Hid (Below w.heap.size w w3) := b1.trans (gBel G3.out (Nat.le_refl _) z1)
    go_wp2
    go_ret
    exact ⟨v, l, rfl, ⟨by omega, HSM.out⟩, HW3.out.mono (by omega), B3.out⟩

theorem okSp_take {l : List ByteArray} (h : okSp l = true) (k : Nat) : okSp (l.take k) = true := by
  unfold okSp at *
  rw [Bool.and_eq_true, List.all_eq_true, decide_eq_true_eq] at *
  exact ⟨by rw [List.length_take]; omega, fun s hs => h.2 s (List.mem_of_mem_take hs)⟩
theorem okSp_drop {l : List ByteArray} (h : okSp l = true) (k : Nat) : okSp (l.drop k) = true := by
  unfold okSp at *
  rw [Bool.and_eq_true, List.all_eq_true, decide_eq_true_eq] at *
  exact ⟨by rw [List.length_drop]; omega, fun s hs => h.2 s (List.mem_of_mem_drop hs)⟩
theorem okSp_0101 (l : List ByteArray) : okSp (l ++ [⟨#[48, 49, 48, 49]⟩]) = false := by
  unfold okSp
  rw [List.all_append]
  have : ([(⟨#[48, 49, 48, 49]⟩ : ByteArray)].all okS) = false := by decide
  rw [this]
  simp

theorem strAt_take {l : List ByteArray} {k i : Nat} (h : i < k) : strAt (l.take k) i = strAt l i := by
  simp only [strAt, List.getD_eq_getElem?_getD, List.getElem?_take, h, if_true]
theorem strAt_drop {l : List ByteArray} {k i : Nat} : strAt (l.drop k) i = strAt l (k + i) := by
  simp only [strAt, List.getD_eq_getElem?_getD, List.getElem?_drop]
theorem Strs.cutTo {w : World} {g ga N capa k : Nat} {l : List ByteArray} (h : Strs w g (.slice (some ⟨ga, 0, none⟩) N capa) l) (hN : N = l.length) (hk : k ≤ N) : Strs w g (.slice (some ⟨ga, 0, none⟩) k capa) (l.take k) := by
  have e : (l.take k).length = k := by rw [List.length_take]; omega
  obtain ⟨a, cap, hv, hc, hm, h⟩ := h
  injection hv with h1 h2 h3
  subst h1 h3
  refine ⟨_, _, by rw [e], by rw [e]; omega, hm, ?_⟩
  rcases h with rfl | ⟨b, off, ha, hbg, hcell⟩
  · exact .inl (by simp)
  · refine .inr ⟨b, off, ha, hbg, fun i hi => ?_⟩
    rw [e] at hi
    rw [strAt_take hi]
    exact hcell i (by omega)
theorem Strs.cutFrom {w : World} {g ga N capa k off c : Nat} {l : List ByteArray} (h : Strs w g (.slice (some ⟨ga, 0, none⟩) N capa) l) (hN : N = l.length) (hk : k ≤ N) (ho : off = k ∨ N ≤ k) (hc' : N - k ≤ c) (hm' : c ≤ maxLen) : Strs w g (.slice (some ⟨ga, off, none⟩) (N - k) c) (l.drop k) := by
  have e : (l.drop k).length = N - k := by rw [List.length_drop]; omega
  obtain ⟨a, cap, hv, hc, hm, h⟩ := h
  injection hv with h1 h2 h3
  subst h1 h3
  refine ⟨_, _, by rw [e], by rw [e]; exact hc', hm', ?_⟩
  by_cases h0 : N ≤ k
  · exact .inl (List.eq_nil_of_length_eq_zero (by omega))
  rcases h with rfl | ⟨b, off', ha, hbg, hcell⟩
  · exact .inl (by simp)
  · obtain rfl : off = k := by omega
    cases ha
    refine .inr ⟨_, _, rfl, hbg, fun i hi => ?_⟩
    rw [e] at hi
    rw [strAt_drop]
    have := hcell (off + i) (by omega)
    simpa using this
theorem fit_take {l : List ByteArray} (h : Fit6 l) (k : Nat) : Fit6 (l.take k) := fun i hi => by
  rw [List.length_take] at hi
  rw [strAt_take (by omega)]
  exact h i (by omega)
theorem fit_drop {l : List ByteArray} (h : Fit6 l) (k : Nat) : Fit6 (l.drop k) := fun i hi => by
  rw [List.length_drop] at hi
  rw [strAt_drop]
  exact h _ (by omega)

set_option maxRecDepth 100000 in
set_option maxHeartbeats 4000000 in
theorem walk_FnSpaceForm (a : Option Addr) (len cap : Nat) (a' : Option Addr) (len' cap' : Nat) (w : World) (hb : BytesIn w w.heap.size a len cap) (hb' : BytesIn w w.heap.size a' len' cap') :
    Calls Try.prog 4 #[.slice a len cap, .slice a' len' cap'] w fun e w' => e = .returned (.bool true) ∧ Below w.heap.size w w' := by
  have HB := Lib.hid hb
  have hm : (len : Int) ≤ maxLen := by have := hb.1; have := hb.2.1; omega
  have hm' : (len' : Int) ≤ maxLen := by have := hb'.1; have := hb'.2.1; omega
  unfold maxLen at hm hm'
  clear hb hb'
  by_cases hlen : (1048576 : Int) < (len : Int)
  · go_enter Try.func4, Try.ntmps4
    go_wp2
    go_ret
    exact ⟨rfl, Below.refl _ _⟩
  by_cases hlen' : (1048576 : Int) < (len' : Int)
  · go_enter Try.func4, Try.ntmps4
    go_wp2
    go_ret
    exact ⟨rfl, Below.refl _ _⟩
  obtain ⟨i0, hi, hz0, hz1, hz2⟩ := info_parts infoStr
  have HI := Lib.hid hi
  have HQ0 := Lib.hid hz0
  have HQ1 := Lib.hid hz1
  have HQ2 := Lib.hid hz2
  clear hi hz0 hz1 hz2
  go_enter Try.func4, Try.ntmps4
  go_wp2_with fail
  refine (drawSpaceOk_any _ _ _ _ HB.out).mono ?_
  rintro e w1 ⟨v, l, rfl, hsh, hrow, b1⟩
  have HF : Hid (Fit6 l) := strs_max fun s hs => Nat.le_trans (hsh.2 s hs) (by omega)
  have h67 := hsh.1
  have HSM := Lib.hid hsh.2
  have HX : Hid (∀ W, Below w1.heap.size w1 W → Strs W W.heap.size v l) := fun W hb => (hrow.below hb).strs
  have HRW := Lib.hid hrow
  have BW : Hid (∀ W, Below w1.heap.size w1 W → Below w.heap.size w W) := fun W hb => belStep b1 hb
  clear hsh hrow b1
  go_wp2_with fail
  refine (iSpaceOk_any _ _ l (HX.out _ (Below.refl _ _)) HF.out).mono ?_
  rintro e w2 ⟨rfl, B⟩
  replace B := Lib.hid B
  cases hk : okSp l
  · have HK := Lib.hid hk
    clear hk
    go_wp2_with fail
    refine (sSpaceOk_any _ _ l (HX.out _ B.out) HF.out).mono ?_
    rintro e w3 ⟨rfl, b3⟩
    replace B := Lib.hid (belStep B.out b3)
    clear b3
    rw [HK.out]
    go_wp2_with fail
    refine (sSpaceOk_any _ _ l (HX.out _ B.out) HF.out).mono ?_
    rintro e w4 ⟨rfl, b4⟩
    rw [HK.out]
    go_wp2
    go_ret
    exact ⟨rfl, BW.out _ (belStep B.out b4)⟩
  have HK := Lib.hid hk
  clear hk
  go_wp2_with fail
  refine (sSpaceOk_any _ _ l (HX.out _ B.out) HF.out).mono ?_
  rintro e w3 ⟨rfl, b3⟩
  replace B := Lib.hid (belStep B.out b3)
  clear b3
  rw [HK.out]
  have HNIL : Hid (∀ W : World, Calls Try.prog 13 #[.slice none 0 0] W fun e w' => e = .returned (.bool true) ∧ Below W.heap.size W w') := fun W => iSpaceOk_any W _ [] (Strs.nil _ _) (fun i hi => by simp at hi)
  rcases (HRW.out.below B.out).form with ⟨rfl, rfl⟩ | ⟨ga, capa, rfl, hba, hga, hca, hma, hcell, hfr⟩
  · have HE : Hid (StrRow (w3.alloc (.cells #[] 9)) w3.heap.size (.slice (some ⟨w3.heap.size, 0, none⟩) 0 0) []) := World.ownsRow_made w3 #[] 0 (Nat.le_refl _) (Nat.zero_le _) rfl
    go_wp2_with (first
      | (at_builtin; refine wpList_append_own_none rfl _ _ 23 rfl w3.heap.size 9 i0 1 Try.underlying23 HI.out _ _ _ rfl HE.out rfl ?_)
      | (at_builtin; refine wpList_append_own _ rfl _ _ 23 rfl w3.heap.size 9 i0 (.string ⟨#[]⟩) 1 16 Try.underlying23 HI.out HQ0.out HQ1.out HQ2.out rfl (by decide) _ _ _ rfl (World.ownsRow.alloc HE.out _) ⟨w3.heap.size + 1, 0, none⟩ 1 1 [.string ⟨#[48, 49, 48, 49]⟩] rfl rfl ?c1 ?c2 ?c3 ?c4 ?c5 ?_))
    case c1 =>
      intro j x hj
      match j, hj with
      | 0, hj => simp at hj; subst hj; simp [Addr.add]
    case c2 => intro x hx; simp at hx; subst hx; rfl
    case c3 => unfold maxLen; omega
    case c4 => simp
    case c5 => simp; omega
    intro v' w6 hown6 hg6 _
    have R6 : Hid (StrRow w6 w3.heap.size v' ([] ++ [⟨#[48, 49, 48, 49]⟩])) := by
      show w6.ownsRow _ _ _ _ _ _
      simpa using hown6
    have B6 : Hid (Below w3.heap.size w3 w6) := (below_alloc2 w3 (.cells #[] 9) (.cells #[.string ⟨#[48, 49, 48, 49]⟩] 9)).trans (grownBelow (World.ownsRow.alloc HE.out _) hg6 (by simp; omega))
    clear hown6 hg6 HE
    go_wp2_with fail
    refine (HNIL.out _).mono ?_
    rintro e w7 ⟨rfl, b7⟩
    have B7 := Lib.hid (B6.out.trans (b7.mono B6.out.size))
    have R7 := Lib.hid (R6.out.below b7)
    clear b7 R6 B6
    go_wp2_with fail
    refine (HNIL.out _).mono ?_
    rintro e w8 ⟨rfl, b8⟩
    have B8 := Lib.hid (B7.out.trans (b8.mono B7.out.size))
    have R8 := Lib.hid (R7.out.below b8)
    clear b8 R7 B7
    have HBAD : Hid (Calls Try.prog 13 #[v'] w8 fun e w' => e = .returned (.bool false) ∧ Below w8.heap.size w8 w') := by
      have := iSpaceOk_any w8 v' _ R8.out.strs (strs_max fun s hs => by simp at hs; subst hs; decide)
      rwa [okSp_0101] at this
    go_wp2_with fail
    refine HBAD.out.mono ?_
    rintro e w9 ⟨rfl, b9⟩
    have B9 := Lib.hid (B8.out.trans (b9.mono B8.out.size))
    clear b9 B8 R8 HBAD
    go_wp2_with fail
    refine (HNIL.out _).mono ?_
    rintro e w10 ⟨rfl, b10⟩
    go_wp2
    go_ret
    exact ⟨rfl, BW.out _ (belStep B.out (belStep B9.out b10))⟩
  · have HCE := Lib.hid hcell
    clear hcell hfr
    unfold maxLen at hma
    obtain ⟨k, hmod, hkl⟩ : ∃ k : Nat, (len' : Int) % ((l.length : Int) + 1) = (k : Int) ∧ k ≤ l.length := ⟨len' % (l.length + 1), by simp, by have := Nat.mod_lt len' (show 0 < l.length + 1 by omega); omega⟩
    obtain ⟨N, hN⟩ : ∃ N, N = l.length := ⟨_, rfl⟩
    have HN := Lib.hid hN
    rw [← hN] at h67 hca hmod hkl ⊢
    have HKL : Hid (((l.take k).map Value.string).length = k * 1) := by show _ = _; rw [List.length_map, List.length_take, ← hN]; omega
    clear hN
    have hk0 : (0 : Int) ≤ (k : Int) := by omega
    have hk1 : (k : Int) ≤ (N : Int) := by omega
    have hk2 : (k : Int) ≤ (capa : Int) := by omega
    have HE : Hid (StrRow (w3.alloc (.cells #[] 9)) w3.heap.size (.slice (some ⟨w3.heap.size, 0, none⟩) 0 0) []) := World.ownsRow_made w3 #[] 0 (Nat.le_refl _) (Nat.zero_le _) rfl
    go_wp2_with (at_builtin; refine wpList_append_own _ rfl _ _ 23 rfl w3.heap.size 9 i0 (.string ⟨#[]⟩) 1 16 Try.underlying23 HI.out HQ0.out HQ1.out HQ2.out rfl (by decide) _ _ _ rfl HE.out ⟨ga, 0, none⟩ k capa ((l.take k).map Value.string) rfl HKL.out ?c1 ?c2 ?c3 ?c4 ?c5 ?_)
    case c1 =>
      intro j u hj
      rw [List.getElem?_map, List.getElem?_take] at hj
      by_cases hjk : j < k
      · rw [if_pos hjk] at hj
        cases hx : l[j]? with
        | none => rw [hx] at hj; cases hj
        | some x =>
          rw [hx] at hj
          cases hj
          have := (Below.refl w3.heap.size w3 |>.alloc (Nat.le_refl _) (.cells #[] 9)).cell (p := ⟨ga, j, none⟩) hga
          have h2 := HCE.out j (by have := HN.out; omega)
          rw [strAt, List.getD_eq_getElem?_getD, hx] at h2
          have h3 := this.trans h2
          rcases j with _ | j <;> simpa [Addr.add] using h3
      · rw [if_neg hjk] at hj
        cases hj
    case c2 =>
      intro u hu
      obtain ⟨x, _, rfl⟩ := List.mem_map.1 hu
      rfl
    case c3 => rw [List.length_nil]; unfold maxLen; omega
    case c4 => rw [List.length_nil]; omega
    case c5 => simp
    intro v' w4 hown4 hg4 hnn
    have HB4 : Hid (Below w3.heap.size w3 w4) := (below_alloc1 _ _).trans (grownBelow HE.out hg4 (by simp))
    have HV4 : Hid (StrRow w4 w3.heap.size v' (l.take k)) := by
      show w4.ownsRow _ _ _ _ _ _
      have e : (l.take k).length = k := by rw [List.length_take, ← HN.out]; omega
      rw [e]
      simpa using hown4
    have hs4 := HB4.out.size
    clear hown4 hg4 HE HKL
    rcases HV4.out.form with ⟨rfl, -⟩ | ⟨gb, capb, rfl, hbb, hgb, hcb, hmb, -, -⟩
    · exfalso
      simp at hnn
    clear hnn
    go_wp2_with (at_builtin; refine wpList_append_own _ rfl _ _ 23 rfl w3.heap.size 9 i0 (.string ⟨#[]⟩) 1 16 Try.underlying23 HI.out HQ0.out HQ1.out HQ2.out rfl (by decide) _ _ _ rfl (World.ownsRow.alloc HV4.out _) ⟨w4.heap.size, 0, none⟩ 1 1 [.string ⟨#[48, 49, 48, 49]⟩] rfl rfl ?d1 ?d2 ?d3 ?d4 ?d5 ?_)
    case d1 =>
      intro j x hj
      match j, hj with
      | 0, hj => simp at hj; subst hj; simp [Addr.add]
    case d2 => intro x hx; simp at hx; subst hx; rfl
    case d3 => rw [List.length_take]; unfold maxLen; omega
    case d4 => rw [List.length_take]; omega
    case d5 => simp; omega
    intro v6 w6 hown6 hg6 _
    have R6 : Hid (StrRow w6 w3.heap.size v6 (l.take k ++ [⟨#[48, 49, 48, 49]⟩])) := by
      show w6.ownsRow _ _ _ _ _ _
      rw [List.length_append, List.map_append]
      simpa using hown6
    have B6 : Hid (Below w3.heap.size w3 w6) := (HB4.out.alloc hs4 _).trans (grownBelow (World.ownsRow.alloc HV4.out _) hg6 (by simp; omega))
    clear hown6 hg6 HV4 HB4
    have HS6 : Hid (∀ W, Below w6.heap.size w6 W → Strs W W.heap.size (.slice (some ⟨ga, 0, none⟩) N capa) l) := fun W hb => by
      have h := HX.out W (belStep B.out (B6.out.trans (hb.mono B6.out.size)))
      rwa [← HN.out] at h
    go_wp2_with fail
    refine (iSpaceOk_any _ _ (l.take k) ((HS6.out _ (Below.refl _ _)).cutTo HN.out hkl) (fit_take HF.out k)).mono ?_
    rintro e w7 ⟨rfl, b7⟩
    rw [okSp_take HK.out]
    have D7 := Lib.hid b7
    clear b7
    have HBAD : Hid (∀ W, Below w6.heap.size w6 W → Calls Try.prog 13 #[v6] W fun e w' => e = .returned (.bool false) ∧ Below W.heap.size W w') := fun W hb => by
      have := iSpaceOk_any W v6 _ (R6.out.below hb).strs (strs_max fun s hs => by
        rcases List.mem_append.1 hs with h | h
        · exact Nat.le_trans (HSM.out s (List.mem_of_mem_take h)) (by omega)
        · simp at h; subst h; decide)
      rwa [okSp_0101] at this
    go_wp2_with fail
    all_goals
      refine (iSpaceOk_any _ _ (l.drop k) ((HS6.out _ D7.out).cutFrom HN.out hkl (by omega) (by omega) (by unfold maxLen; omega)) (fit_drop HF.out k)).mono ?_
      rintro e w8 ⟨rfl, b8⟩
      rw [okSp_drop HK.out]
      have D8 := Lib.hid (belStep D7.out b8)
      clear b8
      go_wp2_with fail
      refine (HBAD.out _ D8.out).mono ?_
      rintro e w9 ⟨rfl, b9⟩
      have D9 := Lib.hid (belStep D8.out b9)
      clear b9
      go_wp2_with fail
      refine (HNIL.out _).mono ?_
      rintro e w10 ⟨rfl, b10⟩
      go_wp2
      go_ret
      exact ⟨rfl, BW.out _ (belStep B.out (B6.out.trans ((belStep D9.out b10).mono B6.out.size)))⟩

set_option maxRecDepth 100000 in
theorem lifted_FnSpaceForm (os : Os) (started : os.Started) (H : Type) (enc : TypeId × Value → H) :
    ReturnsInHanded {} Try.checked os 4 .any (Rows.fnSpaceFormSpec.pre6 enc Try.prog Try.f4 Rows.fnSpaceFormRow.domain false) (Rows.fnSpaceFormSpec.post enc Try.prog Try.f4 false true false false) := by
  refine returnsInHanded_of_change (C := Try.checked) own started (by kernel_rfl) Try.func4
    (ChangeSpec.witness6 (enc := enc) (C := Try.checked) false ⟨#[], #[.slice none 0 0, .slice none 0 0], []⟩ 8 (by kernel_rfl) (by kernel_rfl) (by kernel_rfl) (by kernel_rfl)) ?_
  intro W base args ds gs before hval0 hW hcnd _
  have hval : ∀ (j : Nat) t v, Try.f4.params[j]? = some t → args[j]? = some v → Value.okWide Try.prog W .any base t v := hval0
  have hW' := hW
  obtain ⟨p, q, hA0, hV, rfl, hfz, hnd⟩ := hW
  have hA : DataW.TrodAll enc Try.prog W 0 (fun _ => true) true Try.f4.params.toList args.toList ds p := hA0
  rw [Try.params4] at hA hval
  obtain ⟨v0, vs0, d0, ds0, p0, q0, hargs, rfl, rfl, h0, r0⟩ := trodAll_cons hA
  obtain ⟨v1, vs1, d1, ds1, p1, q1, rfl, rfl, rfl, h1, r1⟩ := trodAll_cons r0
  obtain ⟨rfl, rfl, rfl⟩ := trodAll_nil r1
  obtain rfl : args = #[v0, v1] := by cases args; simp_all
  obtain ⟨rfl, rfl⟩ := trodVars_none hV
  have k0 := h0
  have lt0 : ∀ x ∈ p0, x.block < W.heap.size := by obtain ⟨m, hm⟩ := k0; exact DataW.trod_lt m _ _ _ hm
  have k1 := h1
  have lt1 : ∀ x ∈ p1, x.block < W.heap.size := by obtain ⟨m, hm⟩ := k1; exact DataW.trod_lt m _ _ _ hm
  obtain ⟨a0, len0, cap0, rfl⟩ := okWide_slice Try.underlying22 (hval 0 22 v0 rfl rfl)
  have w0 : BytesIn W W.heap.size a0 len0 cap0 := isRow_of h0
  obtain ⟨a1, len1, cap1, rfl⟩ := okWide_slice Try.underlying22 (hval 1 22 v1 rfl rfl)
  have w1 : BytesIn W W.heap.size a1 len1 cap1 := isRow_of h1
  clear hA0 hval0
  refine (walk_FnSpaceForm a0 len0 cap0 a1 len1 cap1 W w0 w1).mono fun e W' ⟨he, bel⟩ => ?_
  subst he
  exact ⟨_, rfl, _, _, _, [], _, [], hW', trodAll_mk1 (shut_bool Try.underlying4 _), (trodAll_cons_mk (Below.trod laidOut (by kernel_rfl) (of_decide_eq_true (by kernel_rfl)) k0 bel lt0) (trodAll_cons_mk (Below.trod laidOut (by kernel_rfl) (of_decide_eq_true (by kernel_rfl)) k1 bel lt1) (trodAll_mk0))), rfl, bel.frame _, fun h => by cases h⟩

theorem over_FnSpaceForm : Rows.fnSpaceFormRow.holds Try.pinned (OpenSpec.ofChange Rows.fnSpaceFormSpec) :=
  OpenClaim.holds_of_wide 4 Try.f4 rfl rfl rfl rfl rfl rfl rfl ⟨rfl, rfl, rfl, rfl, rfl⟩ rfl rfl rfl rfl rfl (by kernel_rfl) Try.func4 (by kernel_rfl)
    (of_decide_eq_true (by kernel_rfl)) (by unfold Func.isWrapper; first | (rw [if_pos (by decide +kernel)]; kernel_rfl) | (rw [if_neg (by decide +kernel)]; exact ⟨rfl, rfl⟩))
    (fun os started H enc _ => lifted_FnSpaceForm os started H enc)

theorem proved_FnSpaceForm : Rows.FnSpaceFormSaid := over_FnSpaceForm

end Go.Proofs.Ytddkpimmcmnogab
