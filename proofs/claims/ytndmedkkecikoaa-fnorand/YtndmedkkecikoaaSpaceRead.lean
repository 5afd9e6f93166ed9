/-
  Chapter 3, the program: a space is read.
-/
import Derived.Test.YtndmedkkecikoaaSpaceN
import Derived.Test.YtndmedkkecikoaaStrB
import Derived.Test.YtndmedkkecikoaaWildLs
namespace Go.Proofs.Ytndmedkkecikoaa
open Go.ChangeShapes Go.WideShapes Go.ChangeAt Go.RowKit Go.Joins
set_option linter.unusedVariables false

/-- Masks of texts. -/
def mskL (l : List ByteArray) : List ((Nat → Bool) × (Nat → Bool)) := l.map fun s => (cf s, vf s)
theorem mskL_len (l : List ByteArray) : (mskL l).length = l.length := by simp [mskL]
theorem mskL_take {l : List ByteArray} {k : Nat} (h : k < l.length) : mskL (l.take (k + 1)) = mskL (l.take k) ++ [(cf (strAt l k), vf (strAt l k))] := by
  have : l.take (k + 1) = l.take k ++ [strAt l k] := by
    rw [List.take_add_one, List.getElem?_eq_getElem h, strAt, List.getD_eq_getElem?_getD, List.getElem?_eq_getElem h]
    rfl
  rw [this]
  simp [mskL]
theorem pAt_mskL {l : List ByteArray} {k : Nat} (h : k < l.length) : pAt (mskL l) k = (cf (strAt l k), vf (strAt l k)) := by
  simp [pAt, mskL, strAt, List.getD_eq_getElem?_getD, List.getElem?_eq_getElem h]
theorem okSp_bad {l : List ByteArray} {k : Nat} (hk : k < l.length) (h : okS (strAt l k) = false) : okSp l = false := by
  simp only [okSp, Bool.and_eq_false_iff]
  right
  rw [List.all_eq_false]
  refine ⟨strAt l k, ?_, by simp [h]⟩
  rw [strAt, List.getD_eq_getElem?_getD, List.getElem?_eq_getElem hk]
  exact List.getElem_mem hk
theorem okSp_end {l : List ByteArray} (hl : l.length ≤ 64) (h : ∀ i, i < l.length → okS (strAt l i) = true) : okSp l = true := by
  simp only [okSp, Bool.and_eq_true, decide_eq_true_eq, List.all_eq_true]
  refine ⟨hl, fun s hs => ?_⟩
  obtain ⟨i, hi, rfl⟩ := List.getElem_of_mem hs
  have := h i hi
  rwa [strAt, List.getD_eq_getElem?_getD, List.getElem?_eq_getElem hi] at this
theorem okSp_long {l : List ByteArray} (hl : ¬ l.length ≤ 64) : okSp l = false := by simp [okSp, hl]
theorem okSp_parts {l : List ByteArray} (h : okSp l = true) : l.length ≤ 64 ∧ ∀ i, i < l.length → okS (strAt l i) = true := by
  simp only [okSp, Bool.and_eq_true, decide_eq_true_eq, List.all_eq_true] at h
  refine ⟨h.1, fun i hi => h.2 _ ?_⟩
  rw [strAt, List.getD_eq_getElem?_getD, List.getElem?_eq_getElem hi]
  exact List.getElem_mem hi

set_option maxRecDepth 100000 in
set_option maxHeartbeats 4000000 in
theorem readSpace_any (w : World) (v : Value) (l : List ByteArray) (hl : Strs w w.heap.size v l) (hs : ∀ i, i < l.length → (strAt l i).size ≤ 1048576) :
    Calls Try.prog 68 #[v] w fun ex w' => ∃ u, ex = .returned (.tuple #[u, .bool (okSp l)]) ∧ Below w.heap.size w w' ∧ (okSp l = false → u = .slice none 0 0) ∧ (okSp l = true → w'.ownsRow w.heap.size 87 2 u l.length (flatM (mskL l))) := by
  obtain ⟨a, cap, rfl, hc, hm, hh⟩ := hl
  have HS := Lib.hid hs
  have HH := Lib.hid hh
  clear hs hh
  unfold maxLen at hm
  obtain ⟨i0, hi, hz0, hz1, hz2⟩ := info_parts infoMasks
  have HI := Lib.hid hi
  have HZ0 := Lib.hid hz0
  have HZ1 := Lib.hid hz1
  have HZ2 := Lib.hid hz2
  clear hi hz0 hz1 hz2
  by_cases h64 : l.length ≤ 64
  · have HE : Hid ((∀ i, i < l.length → okS (strAt l i) = true) → okSp l = true) := okSp_end h64
    have HB : Hid (∀ k, k < l.length → okS (strAt l k) = false → okSp l = false) := fun k hk h => okSp_bad hk h
    have HT : Hid (∀ k, k < l.length → mskL (l.take (k + 1)) = mskL (l.take k) ++ [(cf (strAt l k), vf (strAt l k))]) := fun k hk => mskL_take hk
    have HA : Hid (mskL (l.take l.length) = mskL l) := by rw [List.take_length]; rfl
    have HO0 : Hid (w.ownsRow w.heap.size 87 2 (.slice none 0 0) 0 (flatM (mskL (l.take 0)))) := World.ownsRow_nil _ _ _ _
    have hnz : l.length = 0 ∨ ∃ b off, a = some ⟨b, off, none⟩ ∧ b < w.heap.size ∧ Hid (∀ i, i < l.length → w.cell? ⟨b, off + i, none⟩ = some (.string (strAt l i))) := by
      rcases HH.out with h | ⟨b, off, h1, h2, h3⟩
      · exact .inl (by rw [h]; rfl)
      · exact .inr ⟨b, off, h1, h2, h3⟩
    clear HH
    have h64z : ¬ ((l.length : Int) > 64) := by omega
    generalize hN : l.length = n at *
    go_enter Try.func68, Try.ntmps68
    go_wp2
    go_loopw [4, 14] (fun u i wr => ∃ k : Nat, k ≤ n ∧ i = .int .i64 k ∧ wr.ownsRow w.heap.size 87 2 u k (flatM (mskL (l.take k))) ∧ (∀ j, j < k → okS (strAt l j) = true) ∧ Below w.heap.size w wr) (fun _ i _ => n - (intOf i).toNat)
    case atStart => exact ⟨0, Nat.zero_le _, rfl, HO0.out, fun j hj => absurd hj (Nat.not_lt_zero _), Below.refl _ _⟩
    case round =>
      obtain ⟨k, hk, rfl, hown, hok, hbel⟩ := hrel
      have HO := Lib.hid hown
      have HK := Lib.hid hok
      have hws := hbel.size
      clear hown hok
      by_cases hlt : k < n
      · have hkz : (k : Int) < (n : Int) := by omega
        rcases hnz with h0 | ⟨b, off, rfl, hb, HC⟩
        · omega
        have c1 : wr.cell? ⟨b, off + k, none⟩ = some (.string (strAt l k)) := (belCell hbel _ _ hb).trans (HC.out k hlt)
        have hsz := HS.out k hlt
        have HB1 := Lib.hid (HB.out k hlt)
        have HT1 := Lib.hid (HT.out k hlt)
        have HE1 : Hid (okS (strAt l k) = true → ∀ j, j < k + 1 → okS (strAt l j) = true) := fun h j hj => by
          by_cases e : j = k
          · subst e; exact h
          · exact HK.out j (by omega)
        generalize strAt l k = s at *
        cases hks : okS s
        · go_wp2_with fail
          refine (readWild_no s hks hsz _).mono ?_
          rintro e w1 ⟨rfl, b1⟩
          go_wp2_with fail
          refine (masksOf_no _).mono ?_
          rintro e w2 ⟨rfl, b2⟩
          have s2 := b2.size
          have s1 := b1.size
          go_wp2
          have e0 := HB1.out hks
          refine bodyPost_ret (v := .tuple #[.slice none 0 0, .bool (okSp l)]) (by rw [e0]; simp [results, Try.results68, go_sem]) rfl ⟨_, rfl, ?_, fun _ => rfl, fun h => by rw [e0] at h; cases h⟩
          exact (belStep (belStep hbel b1) b2).alloc (by omega) _
        · go_wp2_with fail
          refine (readWild_yes s hks _).mono ?_
          rintro e w1 ⟨rfl, b1⟩
          go_wp2_with fail
          refine (masksOf_yes _ _ _).mono ?_
          rintro e w2 ⟨rfl, b2⟩
          have s2 := b2.size
          have s1 := b1.size
          have HO2 : Hid (w2.ownsRow w.heap.size 87 2 u4 k (flatM (mskL (l.take k)))) := ownsBelow (ownsBelow HO.out b1) b2
          have B2 : Hid (Below w.heap.size w w2) := belStep (belStep hbel b1) b2
          clear b1 b2 hbel HO c1
          go_wp2_with (at_builtin; refine wpList_append_own _ rfl _ _ 82 rfl w.heap.size 87 i0 (.agg #[.int .u8 0, .int .u8 0]) 2 2 Try.underlying82 HI.out HZ0.out HZ1.out HZ2.out rfl (by decide) _ _ _ rfl ((HO2.out.alloc _).alloc _) ⟨w2.heap.size + 1, 0, none⟩ 1 1 [.int .u8 (ofB (cf s)), .int .u8 (ofB (vf s))] rfl rfl ?c1 ?c2 ?c3 ?c4 ?c5 ?_)
          case c1 =>
            intro j u hj
            match j, hj with
            | 0, hj => simp at hj; subst hj; simp [Addr.add]
            | 1, hj => simp at hj; subst hj; simp [Addr.add]
          case c2 => intro u hu; simp at hu; rcases hu with rfl | rfl <;> rfl
          case c3 => unfold maxLen; omega
          case c4 => omega
          case c5 => simp; omega
          intro v' w3 hown3 hg3 _
          have s3 := hg3.size
          simp at s3
          have HO3 : Hid (w3.ownsRow w.heap.size 87 2 v' (k + 1) (flatM (mskL (l.take (k + 1))))) := by
            show w3.ownsRow _ _ _ _ _ _
            rw [HT1.out, flatM_append]
            exact hown3
          have B3 : Hid (Below w.heap.size w w3) := ((B2.out.alloc (by omega) _).alloc (by simp; omega) _).trans ((grownBelow ((HO2.out.alloc _).alloc _) hg3 (by simp; omega)).mono (by omega))
          clear hown3 hg3 HO2 B2
          go_wp2
          go_roundw
          case rel => exact ⟨k + 1, by omega, by go_num, HO3.out, HE1.out hks, B3.out⟩
          case measure => simp [intOf]; omega
      · obtain rfl : k = n := by omega
        have e1 := HE.out HK.out
        go_wp2
        refine bodyPost_ret (v := .tuple #[u4, .bool (okSp l)]) (by rw [e1]; simp [results, Try.results68, go_sem]) rfl ⟨_, rfl, hbel, (fun h => by rw [e1] at h; cases h), fun _ => ?_⟩
        have := HO.out
        rw [HA.out] at this
        exact this
  · have h64z : (l.length : Int) > 64 := by omega
    have e0 := okSp_long h64
    go_enter Try.func68, Try.ntmps68
    go_wp2
    exact bodyPost_ret (v := .tuple #[.slice none 0 0, .bool (okSp l)]) (by rw [e0]; simp [results, Try.results68, go_sem]) rfl ⟨_, rfl, Below.refl _ _, fun _ => rfl, fun h => by rw [e0] at h; cases h⟩

end Go.Proofs.Ytndmedkkecikoaa
