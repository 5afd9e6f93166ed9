/-
  SpaceSpecA: Chapter 3, what the model's SpaceOk returns.
  SpaceSpecB: Chapter 3, the model's masks: the set of a space, as a slice of bools; whether two are the same; what the model's SpaceHas and SpaceSame return.
  SpaceSpecC: Chapter 3, what the model's SpaceHas and SpaceSame return.
  SpaceTidyS: Chapter 3, the model: the canonical list of a mask.
-/
import Derived.Test.YtndmedkkecikoaaSpaceRead
import Derived.Test.YtndmedkkecikoaaWildSpec
import Derived.Test.YtndmedkkecikoaaStrB
import Derived.Test.YtndmedkkecikoaaSpaceImplA
namespace Go.Proofs.Ytndmedkkecikoaa
open Go.ChangeShapes Go.WideShapes Go.ChangeAt Go.RowKit Go.Joins
set_option linter.unusedVariables false

set_option maxRecDepth 100000 in
set_option maxHeartbeats 2000000 in
theorem sSpaceOk_any (w : World) (v : Value) (l : List ByteArray) (hl : Strs w w.heap.size v l) (hs : ∀ i, i < l.length → (strAt l i).size ≤ 1048576) :
    Calls Try.prog 18 #[v] w fun ex w' => ex = .returned (.bool (okSp l)) ∧ Below w.heap.size w w' := by
  obtain ⟨a, cap, rfl, hc, hm, hh⟩ := hl
  have HS := Lib.hid hs
  have HE : Hid ((∀ i, i < l.length → okS (strAt l i) = true) → okSp l = decide ((l.length : Int) ≤ 64)) := fun h => by
    by_cases h64 : l.length ≤ 64
    · rw [okSp_end h64 h]; symm; simp; omega
    · rw [okSp_long h64]; symm; simp; omega
  have HB : Hid (∀ k, k < l.length → okS (strAt l k) = false → okSp l = false) := fun k hk h => okSp_bad hk h
  have hnz : l.length = 0 ∨ ∃ b off, a = some ⟨b, off, none⟩ ∧ b < w.heap.size ∧ Hid (∀ i, i < l.length → w.cell? ⟨b, off + i, none⟩ = some (.string (strAt l i))) := by
    rcases hh with h | ⟨b, off, h1, h2, h3⟩
    · exact .inl (by rw [h]; rfl)
    · exact .inr ⟨b, off, h1, h2, h3⟩
  clear hh hs
  unfold maxLen at hm
  generalize hN : l.length = n at *
  go_enter Try.func18, Try.ntmps18
  go_wp2
  go_loopw [3] (fun i wr => ∃ k : Nat, k ≤ n ∧ i = .int .i64 k ∧ (∀ j, j < k → okS (strAt l j) = true) ∧ Below w.heap.size w wr) (fun i _ => n - (intOf i).toNat)
  case atStart => exact ⟨0, Nat.zero_le _, rfl, fun j hj => absurd hj (Nat.not_lt_zero _), Below.refl _ _⟩
  case round =>
    obtain ⟨k, hk, rfl, hok, hbel⟩ := hrel
    have HK := Lib.hid hok
    clear hok
    by_cases hlt : k < n
    · have hkz : (k : Int) < (n : Int) := by omega
      rcases hnz with h0 | ⟨b, off, rfl, hb, HC⟩
      · omega
      have c1 : wr.cell? ⟨b, off + k, none⟩ = some (.string (strAt l k)) := (belCell hbel _ _ hb).trans (HC.out k hlt)
      have hsz := HS.out k hlt
      have HB1 := Lib.hid (HB.out k hlt)
      have HE1 : Hid (okS (strAt l k) = true → ∀ j, j < k + 1 → okS (strAt l j) = true) := fun h j hj => by
        by_cases e : j = k
        · subst e; exact h
        · exact HK.out j (by omega)
      generalize strAt l k = s at *
      go_wp2_with fail
      refine (sWildOk_any s hsz _).mono ?_
      rintro e w1 ⟨rfl, rfl⟩
      have B1 := Lib.hid hbel
      clear hbel c1
      cases hks : okS s
      · go_wp2
        go_ret
        exact ⟨congrArg (fun x => Ending.returned (Value.bool x)) (HB1.out hks).symm, B1.out⟩
      · go_wp2
        go_roundw
        case rel => exact ⟨k + 1, by omega, by go_num, HE1.out hks, B1.out⟩
        case measure => simp [intOf]; omega
    · obtain rfl : k = n := by omega
      go_wp2
      go_ret
      exact ⟨congrArg (fun x => Ending.returned (Value.bool x)) (HE.out HK.out).symm, hbel⟩

end Go.Proofs.Ytndmedkkecikoaa

namespace Go.Proofs.Ytndmedkkecikoaa
open Go.ChangeShapes Go.WideShapes Go.ChangeAt Go.RowKit Go.Joins
set_option linter.unusedVariables false

theorem infoB : (Try.prog.info? 4).map (fun i => (i.zero, i.size, i.bytes)) = some (some (.bool false), 1, 1) := by kernel_rfl

/-- A value is a slice with these bools, in a block below g. -/
def Bools (w : World) (g : Nat) (v : Value) (m : List Bool) : Prop :=
  ∃ (b off cap : Nat), v = .slice (some ⟨b, off, none⟩) m.length cap ∧ m.length ≤ cap ∧ cap ≤ 64 ∧ b < g ∧ ∀ i, i < m.length → w.cell? ⟨b, off + i, none⟩ = some (.bool (m.getD i false))
theorem Bools.below {w w' : World} {g n : Nat} {v : Value} {m : List Bool} (h : Bools w g v m) (hb : Below n w w') (hg : g ≤ n) : Bools w' g v m := by
  obtain ⟨b, off, cap, hv, hc, hm, hbg, hcell⟩ := h
  exact ⟨b, off, cap, hv, hc, hm, hbg, fun i hi => (hb.cell (p := ⟨b, off + i, none⟩) (Nat.lt_of_lt_of_le hbg hg)).trans (hcell i hi)⟩
theorem Bools.mono {w : World} {g g' : Nat} {v : Value} {m : List Bool} (h : Bools w g v m) (hg : g ≤ g') : Bools w g' v m := by
  obtain ⟨b, off, cap, hv, hc, hm, hbg, hcell⟩ := h
  exact ⟨b, off, cap, hv, hc, hm, Nat.lt_of_lt_of_le hbg hg, hcell⟩
/-- A slice of 64 bools of a call's own. -/
def BoolRow (w : World) (g : Nat) (m : List Bool) : Prop := w.ownsRow g 4 1 (.slice (some ⟨g, 0, none⟩) 64 64) 64 (m.map Value.bool) ∧ m.length = 64
theorem BoolRow.bools {w : World} {g : Nat} {m : List Bool} (h : BoolRow w g m) : Bools w w.heap.size (.slice (some ⟨g, 0, none⟩) 64 64) m := by
  refine ⟨g, 0, 64, by rw [h.2], by rw [h.2]; omega, by omega, (World.ownsRow.lt h.1 g rfl).2, fun i hi => ?_⟩
  rw [Nat.zero_add, World.ownsRow.cellAt h.1 i (by rw [h.2] at hi; omega)]
  simp [hi]
theorem BoolRow.cells {w : World} {g : Nat} {m : List Bool} (h : BoolRow w g m) : (∀ j, j < 64 → w.cell? ⟨g, j, none⟩ = some (.bool (m.getD j false))) ∧ (∀ j, w.frozen? ⟨g, j, none⟩ = false) ∧ g < w.heap.size := by
  refine ⟨fun j hj => ?_, fun j => World.ownsRow.frozenAt h.1 j, (World.ownsRow.lt h.1 g rfl).2⟩
  rw [World.ownsRow.cellAt h.1 j (by omega)]
  have : j < m.length := by rw [h.2]; exact hj
  simp [this]
theorem BoolRow.put {w : World} {g : Nat} {m : List Bool} (h : BoolRow w g m) (j : Nat) (x : Bool) : BoolRow (w.setCell ⟨g, j, none⟩ (.bool x)) g (m.set j x) := by
  have := (World.ownsRow.stored h.1 j (.bool x)).1
  exact ⟨by simpa [List.map_set] using this, by simp [h.2]⟩
theorem BoolRow.below {w w' : World} {g : Nat} {m : List Bool} (h : BoolRow w g m) (hb : Below w.heap.size w w') : BoolRow w' g m :=
  ⟨World.ownsRow.kept h.1 (row := none) ⟨hb.os, hb.tape, hb.output, hb.size, fun k hk _ => hb.block k hk⟩ (by cases (Value.slice (some ⟨g, 0, none⟩) 64 64).ownBlock <;> simp), h.2⟩

/-- The mask while it is filled: at n the first i texts are in. -/
def mixM (l : List ByteArray) (n i : Nat) : List Bool := (List.range 64).map fun j => bif decide (j < n) then inSp l (kb6 j) else (bif decide (j = n) then inSp (l.take i) (kb6 j) else false)
theorem mixM_len (l : List ByteArray) (n i : Nat) : (mixM l n i).length = 64 := by simp [mixM]
theorem mixM_get (l : List ByteArray) {n : Nat} (i : Nat) (hn : n < 64) : (mixM l n i).getD n false = inSp (l.take i) (kb6 n) := by
  simp [mixM, List.getD_eq_getElem?_getD, List.getElem?_range hn]
theorem mixM_start (l : List ByteArray) : mixM l 0 0 = List.replicate 64 false := by
  refine List.eq_replicate_iff.2 ⟨mixM_len _ _ _, fun b hb => ?_⟩
  obtain ⟨j, _, rfl⟩ := List.mem_map.1 hb
  simp [inSp]
theorem mixM_next (l : List ByteArray) (n : Nat) : mixM l n l.length = mixM l (n + 1) 0 := by
  unfold mixM
  apply List.map_congr_left
  intro j _
  by_cases h : j < n
  · simp [h, show j < n + 1 by omega]
  · by_cases e : j = n
    · subst e; simp
    · simp [h, e, show ¬ j < n + 1 by omega, inSp]
theorem mixM_end (l : List ByteArray) : mixM l 64 0 = spL l := by
  unfold mixM spL
  rw [tab6]
  apply List.map_congr_left
  intro j hj
  have := List.mem_range.1 hj
  simp [this]
theorem inSp_take {l : List ByteArray} {k : Nat} (hk : k < l.length) (q : List Bool) : inSp (l.take (k + 1)) q = (inSp (l.take k) q || hasM (cf (strAt l k)) (vf (strAt l k)) (bitF q)) := by
  have e : l.take (k + 1) = l.take k ++ [strAt l k] := by
    rw [List.take_add_one, List.getElem?_eq_getElem hk, strAt, List.getD_eq_getElem?_getD, List.getElem?_eq_getElem hk]
    rfl
  rw [e]
  simp [inSp]
theorem mixM_step (l : List ByteArray) {n i : Nat} (hn : n < 64) : mixM l n (i + 1) = (mixM l n i).set n (inSp (l.take (i + 1)) (kb6 n)) := by
  apply List.ext_getElem
  · simp [mixM]
  · intro j h1 h2
    rw [List.getElem_set]
    by_cases e : n = j
    · subst e
      simp [mixM]
    · have e' : ¬ j = n := fun h => e h.symm
      simp [mixM, e, e']

set_option maxRecDepth 100000 in
set_option maxHeartbeats 4000000 in
theorem l3Mask_any (w : World) (v : Value) (l : List ByteArray) (hl : Strs w w.heap.size v l) (hk : okSp l = true) :
    Calls Try.prog 58 #[v] w fun ex w' => ex = .returned (.slice (some ⟨w.heap.size, 0, none⟩) 64 64) ∧ BoolRow w' w.heap.size (spL l) ∧ Below w.heap.size w w' := by
  obtain ⟨a, cap, rfl, hc, hm, hh⟩ := hl
  obtain ⟨i0, hi, hz0, hz1, hz2⟩ := info_parts infoB
  have HI := Lib.hid hi
  have HZ0 := Lib.hid hz0
  have HZ1 := Lib.hid hz1
  have HZ2 := Lib.hid hz2
  clear hi hz0 hz1 hz2
  have HOK : Hid (∀ i, i < l.length → okS (strAt l i) = true) := (okSp_parts hk).2
  have h64 := (okSp_parts hk).1
  have HST : Hid (mixM l 0 0 = List.replicate 64 false) := mixM_start l
  have HNX : Hid (∀ n, mixM l n l.length = mixM l (n + 1) 0) := fun n => mixM_next l n
  have HEN : Hid (mixM l 64 0 = spL l) := mixM_end l
  have HSP : Hid (∀ n i, n < 64 → mixM l n (i + 1) = (mixM l n i).set n (inSp (l.take (i + 1)) (kb6 n))) := fun n i hn => mixM_step l hn
  have HTK : Hid (∀ k q, k < l.length → inSp (l.take (k + 1)) q = (inSp (l.take k) q || hasM (cf (strAt l k)) (vf (strAt l k)) (bitF q))) := fun k q hk => inSp_take hk q
  have hnz : l.length = 0 ∨ ∃ b off, a = some ⟨b, off, none⟩ ∧ b < w.heap.size ∧ Hid (∀ i, i < l.length → w.cell? ⟨b, off + i, none⟩ = some (.string (strAt l i))) := by
    rcases hh with h | ⟨b, off, h1, h2, h3⟩
    · exact .inl (by rw [h]; rfl)
    · exact .inr ⟨b, off, h1, h2, h3⟩
  clear hh hk
  unfold maxLen at hm
  generalize hN : l.length = N at *
  go_enter Try.func58, Try.ntmps58
  go_wp2_with (at_make; refine wpList_make_full _ rfl _ _ 66 rfl w.heap.size 4 i0 (.bool false) 1 Try.underlying66 HI.out HZ0.out HZ1.out .i64 .i64 _ _ 64 rfl rfl rfl rfl ?b2 ?b3 (Nat.le_refl _) ?_)
  case b2 => rw [HZ2.out]; omega
  case b3 => unfold maxLen; omega
  intro w1 hown hg1
  have HB1 : Hid (Below w.heap.size w w1) := ⟨hg1.os, hg1.tape, hg1.output, hg1.size, fun k hk => hg1.block k hk (by simp)⟩
  have HR1 : Hid (BoolRow w1 w.heap.size (mixM l 0 0)) := by
    refine ⟨?_, mixM_len _ _ _⟩
    have := hown
    rw [made_one] at this
    rw [HST.out, List.map_replicate]
    exact this
  clear hown hg1
  go_wp2
  go_loopw [4] (fun x wr => ∃ n : Nat, n ≤ 64 ∧ x = .int .i64 n ∧ BoolRow wr w.heap.size (mixM l n 0) ∧ Below w.heap.size w wr) (fun x _ => 64 - (intOf x).toNat)
  case atStart => exact ⟨0, Nat.zero_le _, rfl, HR1.out, HB1.out⟩
  case round =>
    obtain ⟨n, hn, rfl, hrow, hbel⟩ := hrel
    have HR := Lib.hid hrow
    have HB := Lib.hid hbel
    clear hrow hbel HR1 HB1
    by_cases hlt : n < 64
    · have hnz64 : (n : Int) < 64 := by omega
      go_wp2
      go_loopw [5] (fun x wq => ∃ i : Nat, i ≤ N ∧ x = .int .i64 i ∧ BoolRow wq w.heap.size (mixM l n i) ∧ Below w.heap.size w wq) (fun x _ => N - (intOf x).toNat)
      case atStart => exact ⟨0, Nat.zero_le _, rfl, HR.out, HB.out⟩
      case round =>
        obtain ⟨i, hi, rfl, hrow, hbel⟩ := hrel
        have HR2 := Lib.hid hrow
        by_cases hil : i < N
        · have hiz : (i : Int) < (N : Int) := by omega
          rcases hnz with h0 | ⟨b, off, rfl, hb, HC⟩
          · omega
          have hgt := hrow.cells.1 n hlt
          rw [mixM_get l i hlt] at hgt
          have hfr := hrow.cells.2.1
          have hgl := hrow.cells.2.2
          clear hrow
          have HS2 := Lib.hid (HSP.out n i hlt)
          have HT2 := Lib.hid (HTK.out i (kb6 n) hil)
          have hkb := kb6_num hlt
          have hks := HOK.out i hil
          have HH := Lib.hid (l2Has_any (strAt l i) hks (bitF (kb6 n)))
          rw [hkb] at HH
          have c1 : ∀ W, Below w.heap.size w W → W.cell? ⟨b, off + i, none⟩ = some (.string (strAt l i)) := fun W hW => (belCell hW _ _ hb).trans (HC.out i hil)
          have c1' := c1 _ hbel
          clear c1
          generalize inSp (l.take (i + 1)) (kb6 n) = nx at *
          generalize hasM (cf (strAt l i)) (vf (strAt l i)) (bitF (kb6 n)) = hx at *
          generalize inSp (l.take i) (kb6 n) = ox at *
          generalize strAt l i = s at *
          clear hkb hks
          cases ox
          · go_wp2_with fail
            refine (HH.out _).mono ?_
            rintro e w3 ⟨rfl, b3⟩
            have HR3 := Lib.hid (HR2.out.below b3)
            have B3 := Lib.hid (belStep hbel b3)
            have s3 := b3.size
            have hgt3 := HR3.out.cells.1 n hlt
            have hfr3 := HR3.out.cells.2.1
            have hgl3 := HR3.out.cells.2.2
            generalize (mixM l n i).getD n false = oo at *
            have hnx : nx = hx := by have := HT2.out; simpa using this
            subst hnx
            clear b3 hbel c1' hgt hfr hgl
            go_wp2
            go_roundw
            case rel => exact ⟨i + 1, by omega, by go_num, by rw [HS2.out]; exact HR3.out.put n nx, B3.out.setCell (by exact Nat.le_refl _) _⟩
            case measure => simp [intOf]; omega
          · have hnx : nx = true := by have := HT2.out; simpa using this
            subst hnx
            go_wp2
            go_roundw
            case rel => exact ⟨i + 1, by omega, by go_num, by rw [HS2.out]; exact HR2.out.put n true, hbel.setCell (by exact Nat.le_refl _) _⟩
            case measure => simp [intOf]; omega
        · obtain rfl : i = N := by omega
          have HR3 : Hid (BoolRow wr w.heap.size (mixM l (n + 1) 0)) := by show BoolRow _ _ _; rw [← HNX.out n]; exact HR2.out
          clear hrow
          go_wp2
          go_roundw
          case rel => exact ⟨n + 1, by omega, by go_num, HR3.out, hbel⟩
          case measure => simp [intOf]; omega
    · obtain rfl : n = 64 := by omega
      go_wp2
      go_ret
      exact ⟨rfl, by rw [← HEN.out]; exact HR.out, HB.out⟩

end Go.Proofs.Ytndmedkkecikoaa

namespace Go.Proofs.Ytndmedkkecikoaa
open Go.ChangeShapes Go.WideShapes Go.ChangeAt Go.RowKit Go.Joins
set_option linter.unusedVariables false

theorem boolL_eq {m m' : List Bool} (hl : m.length = m'.length) (h : ∀ j, j < m.length → m.getD j false = m'.getD j false) : m = m' := by
  apply List.ext_getElem hl
  intro i h1 h2
  have := h i h1
  rwa [List.getD_eq_getElem?_getD, List.getD_eq_getElem?_getD, List.getElem?_eq_getElem h1, List.getElem?_eq_getElem h2] at this

set_option maxRecDepth 100000 in
set_option maxHeartbeats 2000000 in
theorem l3Same_any (w : World) (v v' : Value) (m m' : List Bool) (hm : Bools w w.heap.size v m) (hm' : Bools w w.heap.size v' m') (hl : m.length = m'.length) :
    Calls Try.prog 66 #[v, v'] w fun ex w' => ex = .returned (.bool (m == m')) ∧ Below w.heap.size w w' := by
  obtain ⟨b, off, cap, rfl, hc, hmx, hb, hcell⟩ := hm
  obtain ⟨b', off', cap', rfl, hc', hmx', hb', hcell'⟩ := hm'
  have HC := Lib.hid hcell
  have HC' := Lib.hid hcell'
  have HE : Hid ((∀ j, j < m.length → m.getD j false = m'.getD j false) → (m == m') = true) := fun h => by rw [boolL_eq hl h]; simp
  have HN : Hid (∀ j, m.getD j false ≠ m'.getD j false → (m == m') = false) := fun j h => by
    cases e : (m == m')
    · rfl
    · rw [beq_iff_eq] at e; subst e; exact absurd rfl h
  rw [← hl] at HC' hc' ⊢
  clear hcell hcell'
  generalize hN : m.length = n at *
  go_enter Try.func66, Try.ntmps66
  go_wp2
  go_loopw [5] (fun i wr => ∃ k : Nat, k ≤ n ∧ i = .int .i64 k ∧ (∀ j, j < k → m.getD j false = m'.getD j false) ∧ Below w.heap.size w wr) (fun i _ => n - (intOf i).toNat)
  case atStart => exact ⟨0, Nat.zero_le _, rfl, fun j hj => absurd hj (Nat.not_lt_zero _), Below.refl _ _⟩
  case round =>
    obtain ⟨k, hk, rfl, hsame, hbel⟩ := hrel
    have HS := Lib.hid hsame
    clear hsame
    by_cases hlt : k < n
    · have hkz : (k : Int) < (n : Int) := by omega
      have c1 : wr.cell? ⟨b, off + k, none⟩ = some (.bool (m.getD k false)) := (belCell hbel _ _ hb).trans (HC.out k hlt)
      have c2 : wr.cell? ⟨b', off' + k, none⟩ = some (.bool (m'.getD k false)) := (belCell hbel _ _ hb').trans (HC'.out k hlt)
      have HN1 := Lib.hid (HN.out k)
      have HE1 : Hid (m.getD k false = m'.getD k false → ∀ j, j < k + 1 → m.getD j false = m'.getD j false) := fun h j hj => by
        by_cases e : j = k
        · subst e; exact h
        · exact HS.out j (by omega)
      generalize m.getD k false = x at *
      generalize m'.getD k false = y at *
      by_cases hxy : x = y
      · have hd : (x == y) = true := by simp [hxy]
        go_wp2_with fail
        go_quiet (fail)
        go_wp2
        go_roundw
        case rel => exact ⟨k + 1, by omega, by go_num, HE1.out hxy, belDrewN hbel _⟩
        case measure => simp [intOf]; omega
      · have hd : (x == y) = false := by simp [hxy]
        go_wp2_with fail
        go_quiet (fail)
        go_wp2
        go_ret
        exact ⟨congrArg (fun x => Ending.returned (Value.bool x)) (HN1.out hxy).symm, belDrewN hbel _⟩
    · obtain rfl : k = n := by omega
      go_wp2
      go_ret
      exact ⟨congrArg (fun x => Ending.returned (Value.bool x)) (HE.out HS.out).symm, hbel⟩

set_option maxRecDepth 100000 in
set_option maxHeartbeats 2000000 in
theorem sSpaceSame_any (w : World) (v v' : Value) (l l' : List ByteArray) (hl : Strs w w.heap.size v l) (hl' : Strs w w.heap.size v' l') (hs : Fit6 l) (hs' : Fit6 l') :
    Calls Try.prog 28 #[v, v'] w fun ex w' => ex = .returned (.bool (okSp l && okSp l' && (spL l == spL l'))) ∧ Below w.heap.size w w' := by
  have HW : Hid (∀ W, Below w.heap.size w W → Strs W W.heap.size v l) := fun W hb => (hl.below hb (Nat.le_refl _)).mono hb.size
  have HW' : Hid (∀ W, Below w.heap.size w W → Strs W W.heap.size v' l') := fun W hb => (hl'.below hb (Nat.le_refl _)).mono hb.size
  have HS := Lib.hid hs
  have HS' := Lib.hid hs'
  clear hl hl' hs hs'
  go_enter Try.func28, Try.ntmps28
  go_wp2_with fail
  refine (sSpaceOk_any _ _ l (HW.out _ (Below.refl _ _)) HS.out).mono ?_
  rintro e w1 ⟨rfl, b1⟩
  cases hk : okSp l
  · go_wp2
    go_ret
    exact ⟨by rw [hk]; rfl, b1⟩
  have B1 := Lib.hid b1
  clear b1
  go_wp2_with fail
  refine (sSpaceOk_any _ _ l' (HW'.out _ B1.out) HS'.out).mono ?_
  rintro e w2 ⟨rfl, b2⟩
  have B2 := Lib.hid (belStep B1.out b2)
  clear b2 B1
  cases hk' : okSp l'
  · go_wp2
    go_ret
    exact ⟨by rw [hk, hk']; rfl, B2.out⟩
  go_wp2_with fail
  refine (l3Mask_any _ _ l (HW.out _ B2.out) hk).mono ?_
  rintro e w3 ⟨rfl, r3, b3⟩
  have R3 := Lib.hid r3
  have B3 := Lib.hid (belStep B2.out b3)
  clear r3 b3 B2
  go_wp2_with fail
  refine (l3Mask_any _ _ l' (HW'.out _ B3.out) hk').mono ?_
  rintro e w4 ⟨rfl, r4, b4⟩
  have R3' := Lib.hid (R3.out.below b4)
  have R4 := Lib.hid r4
  have B4 := Lib.hid (belStep B3.out b4)
  clear r4 b4 B3 R3
  go_wp2_with fail
  refine (l3Same_any _ _ _ _ _ R3'.out.bools R4.out.bools (by rw [spL_len, spL_len])).mono ?_
  rintro e w5 ⟨rfl, b5⟩
  go_wp2
  go_ret
  exact ⟨by rw [hk, hk']; rfl, belStep B4.out b5⟩

set_option maxRecDepth 100000 in
set_option maxHeartbeats 4000000 in
theorem sSpaceHas_any (w : World) (v : Value) (l : List ByteArray) (x y z : Int) (hl : Strs w w.heap.size v l) (hs : Fit6 l) :
    Calls Try.prog 17 #[v, .agg #[.int .i64 x, .int .i64 y, .int .i64 z]] w fun ex w' => ex = .returned (.bool (okB x y z && (okSp l && inSp l (f6 (hB x y z))))) ∧ Below w.heap.size w w' := by
  have HA : Hid (∀ W, Below (w.heap.size + 1) (w.alloc (.cells #[.int .i64 x, .int .i64 y, .int .i64 z] 25)) W → W.cell? ⟨w.heap.size, 0, none⟩ = some (.int .i64 x) ∧ W.cell? ⟨w.heap.size, 1, none⟩ = some (.int .i64 y) ∧ W.cell? ⟨w.heap.size, 2, none⟩ = some (.int .i64 z)) := fun W hb =>
    trioCells ((hb.block _ (by omega)).trans (newBlockM w _))
  have HW : Hid (∀ W, Below (w.heap.size + 1) (w.alloc (.cells #[.int .i64 x, .int .i64 y, .int .i64 z] 25)) W → Strs W W.heap.size v l ∧ Below w.heap.size w W) := fun W hb => by
    have h0 := (below_alloc1 w (.cells #[.int .i64 x, .int .i64 y, .int .i64 z] 25)).trans (hb.mono (by omega))
    exact ⟨(hl.below h0 (Nat.le_refl _)).mono h0.size, h0⟩
  have HS : Hid (∀ i, i < l.length → (strAt l i).size ≤ 1048576) := hs
  have hsz : (w.alloc (.cells #[.int .i64 x, .int .i64 y, .int .i64 z] 25)).heap.size = w.heap.size + 1 := by simp
  have HST : Hid (∀ {A B : World}, Below (w.heap.size + 1) (w.alloc (.cells #[.int .i64 x, .int .i64 y, .int .i64 z] 25)) A → Below A.heap.size A B → Below (w.heap.size + 1) (w.alloc (.cells #[.int .i64 x, .int .i64 y, .int .i64 z] 25)) B) := fun h k => h.trans (k.mono (by have := h.size; omega))
  have H0 : Hid (Below (w.heap.size + 1) (w.alloc (.cells #[.int .i64 x, .int .i64 y, .int .i64 z] 25)) (w.alloc (.cells #[.int .i64 x, .int .i64 y, .int .i64 z] 25)).drew) := (Below.refl _ _).drew
  have HKK : Hid (okB x y z = true → (0 ≤ x ∧ x ≤ 3 ∧ 0 ≤ y ∧ y ≤ 3 ∧ 0 ≤ z ∧ z ≤ 3) ∧ 16 * x + 4 * y + z = ofB (hB x y z)) := fun h => ⟨by have := okB_true h; omega, num_ofB h⟩
  clear hl hs hsz
  go_enter Try.func17, Try.ntmps17
  go_wp2_with fail
  generalize w.alloc (.cells #[.int .i64 x, .int .i64 y, .int .i64 z] 25) = W at *
  obtain ⟨d0, d1, d2⟩ := HA.out _ H0.out
  cases hk : okSp l
  · first
      | go_region_with (first
          | (go_at_call 18; refine (sSpaceOk_any _ _ l (HW.out _ H0.out).1 HS.out).mono ?_; rintro e w1 ⟨rfl, b1⟩; rw [hk]; have B1 := Lib.hid (HST.out H0.out b1); obtain ⟨p0, p1, p2⟩ := HA.out _ B1.out; clear b1))
      | fail
    all_goals
      go_wp2
      go_ret
      exact ⟨by rw [hk]; cases okB x y z <;> rfl, (HW.out _ B1.out).2⟩
  · cases hh : okB x y z
    · first
        | go_region_with (first
            | (go_at_call 18; refine (sSpaceOk_any _ _ l (HW.out _ H0.out).1 HS.out).mono ?_; rintro e w1 ⟨rfl, b1⟩; rw [hk]; have B1 := Lib.hid (HST.out H0.out b1); obtain ⟨p0, p1, p2⟩ := HA.out _ B1.out; clear b1)
            | (go_at_call 19; refine (sHeadOk_any _ _ _ _).mono ?_; rintro e w2 ⟨rfl, b2⟩; rw [hh]; have B2 := Lib.hid (HST.out B1.out b2); obtain ⟨p0, p1, p2⟩ := HA.out _ B2.out; clear b2))
        | fail
      all_goals
        go_wp2
        go_ret
        exact ⟨by rw [hh]; rfl, (HW.out _ B2.out).2⟩
    · obtain ⟨⟨hx0, hx3, hy0, hy3, hz0, hz3⟩, hnum⟩ := HKK.out hh
      have hb6 := ofB_bound (hB x y z)
      have hg : (spL l).getD (ofB (hB x y z)).toNat false = inSp l (f6 (hB x y z)) := by
        have h1 : (ofB (hB x y z)).toNat < 64 := by omega
        have := tab6_get (inSp l) h1
        rw [kb6_back] at this
        rw [List.getD_eq_getElem?_getD, spL, this]
        rfl
      have HG := Lib.hid hg
      have HNM := Lib.hid hnum
      have hn0 : 0 ≤ 16 * x + 4 * y + z := by omega
      have hn64 : 16 * x + 4 * y + z < 64 := by omega
      clear hg hnum hb6
      go_region_with (first
        | (go_at_call 18; refine (sSpaceOk_any _ _ l (HW.out _ H0.out).1 HS.out).mono ?_; rintro e w1 ⟨rfl, b1⟩; rw [hk]; have B1 := Lib.hid (HST.out H0.out b1); obtain ⟨p0, p1, p2⟩ := HA.out _ B1.out; clear b1)
        | (go_at_call 19; refine (sHeadOk_any _ _ _ _).mono ?_; rintro e w2 ⟨rfl, b2⟩; rw [hh]; have B2 := Lib.hid (HST.out B1.out b2); obtain ⟨p0, p1, p2⟩ := HA.out _ B2.out; clear b2)
        | (go_at_call 58; refine (l3Mask_any _ _ l (HW.out _ B2.out).1 hk).mono ?_; rintro e w3 ⟨rfl, r3, b3⟩; have R3 := Lib.hid r3; have B3 := Lib.hid (HST.out B2.out b3); obtain ⟨p0, p1, p2⟩ := HA.out _ B3.out; clear b3 r3)
        | (go_at_call 59; refine (l1Num_yes _ _ _ hx0 hx3 hy0 hy3 hz0 hz3 _).mono ?_; rintro e w4 ⟨rfl, b4⟩; have R4 := Lib.hid (R3.out.below b4); have B4 := Lib.hid (HST.out B3.out b4); have c4 := R4.out.cells.1 (16 * x + 4 * y + z).toNat (by omega); clear b4))
      all_goals
        go_wp2
        go_ret
        refine ⟨?_, (HW.out _ B4.out).2⟩
        rw [hh, hk, ← HG.out, ← HNM.out]
        rfl

end Go.Proofs.Ytndmedkkecikoaa

namespace Go.Proofs.Ytndmedkkecikoaa
open Go.ChangeShapes Go.WideShapes Go.ChangeAt Go.RowKit Go.Joins
set_option linter.unusedVariables false

/-- All of a mask are false. -/
def allNo (m : List Bool) : Bool := m.all fun x => !x
theorem allNo_at {m : List Bool} {k : Nat} (hk : k < m.length) (h : m.getD k false = true) : allNo m = false := by
  unfold allNo
  rw [List.all_eq_false]
  refine ⟨m.getD k false, ?_, by rw [h]; decide⟩
  rw [List.getD_eq_getElem?_getD, List.getElem?_eq_getElem hk]
  exact List.getElem_mem hk
theorem allNo_end {m : List Bool} (h : ∀ j, j < m.length → m.getD j false = false) : allNo m = true := by
  unfold allNo
  rw [List.all_eq_true]
  intro x hx
  obtain ⟨i, hi, rfl⟩ := List.getElem_of_mem hx
  have := h i hi
  rw [List.getD_eq_getElem?_getD, List.getElem?_eq_getElem hi] at this
  simpa using this
theorem allNo_no {h : Nat} {m : List Bool} (hl : m.length = 2 ^ h) (hn : allNo m = true) : m = noL h := by
  refine List.eq_replicate_iff.2 ⟨hl, fun b hb => ?_⟩
  have := List.all_eq_true.1 hn b hb
  simpa using this

set_option maxRecDepth 100000 in
set_option maxHeartbeats 2000000 in
theorem l3All_any (w : World) (v : Value) (m : List Bool) (hm : Bools w w.heap.size v m) :
    Calls Try.prog 86 #[v, .bool false] w fun ex w' => ex = .returned (.bool (allNo m)) ∧ Below w.heap.size w w' := by
  obtain ⟨b, off, cap, rfl, hc, hmx, hb, hcell⟩ := hm
  have HC := Lib.hid hcell
  have HE : Hid ((∀ j, j < m.length → m.getD j false = false) → allNo m = true) := fun h => allNo_end h
  have HN : Hid (∀ j, j < m.length → m.getD j false = true → allNo m = false) := fun j hj h => allNo_at hj h
  clear hcell
  generalize hN : m.length = n at *
  go_enter Try.func86, Try.ntmps86
  go_wp2
  go_loopw [5] (fun i wr => ∃ k : Nat, k ≤ n ∧ i = .int .i64 k ∧ (∀ j, j < k → m.getD j false = false) ∧ Below w.heap.size w wr) (fun i _ => n - (intOf i).toNat)
  case atStart => exact ⟨0, Nat.zero_le _, rfl, fun j hj => absurd hj (Nat.not_lt_zero _), Below.refl _ _⟩
  case round =>
    obtain ⟨k, hk, rfl, hsame, hbel⟩ := hrel
    have HS := Lib.hid hsame
    clear hsame
    by_cases hlt : k < n
    · have hkz : (k : Int) < (n : Int) := by omega
      have c1 : wr.cell? ⟨b, off + k, none⟩ = some (.bool (m.getD k false)) := (belCell hbel _ _ hb).trans (HC.out k hlt)
      have HN1 := Lib.hid (HN.out k hlt)
      have HE1 : Hid (m.getD k false = false → ∀ j, j < k + 1 → m.getD j false = false) := fun h j hj => by
        by_cases e : j = k
        · subst e; exact h
        · exact HS.out j (by omega)
      generalize m.getD k false = x at *
      cases x
      · go_wp2
        go_roundw
        case rel => exact ⟨k + 1, by omega, by go_num, HE1.out rfl, hbel⟩
        case measure => simp [intOf]; omega
      · go_wp2
        go_ret
        exact ⟨congrArg (fun x => Ending.returned (Value.bool x)) (HN1.out trivial).symm, hbel⟩
    · obtain rfl : k = n := by omega
      go_wp2
      go_ret
      exact ⟨congrArg (fun x => Ending.returned (Value.bool x)) (HE.out HS.out).symm, hbel⟩

/-- One sign ahead of each. -/
def preC (c : UInt8) (l : List ByteArray) : List ByteArray := l.map fun s => ⟨#[c]⟩ ++ s
theorem preC_sText (c : UInt8) (l : List (List UInt8)) : preC c (l.map sText) = (l.map (fun x => c :: x)).map sText := by
  simp only [preC, List.map_map]
  apply List.map_congr_left
  intro x _
  simp only [Function.comp, sText]
  apply ByteArray.ext
  simp
theorem preC_len (c : UInt8) (l : List ByteArray) : (preC c l).length = l.length := by simp [preC]
theorem preC_take {c : UInt8} {l : List ByteArray} {k : Nat} (hk : k < l.length) : preC c (l.take (k + 1)) = preC c (l.take k) ++ [⟨#[c]⟩ ++ strAt l k] := by
  have e : l.take (k + 1) = l.take k ++ [strAt l k] := by
    rw [List.take_add_one, List.getElem?_eq_getElem hk, strAt, List.getD_eq_getElem?_getD, List.getElem?_eq_getElem hk]
    rfl
  rw [e]
  simp [preC]
theorem sText_size (l : List UInt8) : (sText l).size = l.length := by simp [sText, ByteArray.size]
theorem tidyB_none {h : Nat} {m : List Bool} (hl : m.length = 2 ^ h) (hn : allNo m = true) : tidyB h m = [] := by rw [allNo_no hl hn, tidyB_no]
theorem tidyB_one {m : List Bool} (hl : m.length = 2 ^ 0) (hn : allNo m = false) : tidyB 0 m = [[]] := by
  match m, hl with
  | [true], _ => rfl
  | [false], _ => simp [allNo] at hn

/-- A part of a slice of bools. -/
theorem Bools.parts {w : World} {g b off cap N : Nat} {m0 m1 : List Bool} (h0 : m0.length = N) (h1 : m1.length = N) (hb : b < g) (hc : N + N ≤ cap) (hm : cap ≤ 64) (hcell : ∀ i, i < N + N → w.cell? ⟨b, off + i, none⟩ = some (.bool ((m0 ++ m1).getD i false))) :
    Bools w g (.slice (some ⟨b, off, none⟩) N cap) m0 ∧ Bools w g (.slice (some ⟨b, off + N, none⟩) N (cap - N)) m1 := by
  constructor
  · refine ⟨b, off, cap, by rw [h0], by omega, hm, hb, fun i hi => ?_⟩
    rw [hcell i (by omega), List.getD_eq_getElem?_getD, List.getD_eq_getElem?_getD, List.getElem?_append_left hi]
  · refine ⟨b, off + N, cap - N, by rw [h1], by omega, by omega, hb, fun i hi => ?_⟩
    rw [Nat.add_assoc, hcell (N + i) (by omega), List.getD_eq_getElem?_getD, List.getD_eq_getElem?_getD, List.getElem?_append_right (by omega), h0, Nat.add_sub_cancel_left]

set_option maxRecDepth 100000 in
set_option maxHeartbeats 4000000 in
theorem l3Tidy_none (w : World) (v : Value) (h : Nat) (m : List Bool) (hm : Bools w w.heap.size v m) (hl : m.length = 2 ^ h) (hn : allNo m = true) :
    Calls Try.prog 63 #[v] w fun ex w' => ∃ u, ex = .returned u ∧ StrRow w' w.heap.size u ((tidyB h m).map sText) ∧ Below w.heap.size w w' := by
  have HM := Lib.hid hm
  have HT : Hid ((tidyB h m).map sText = []) := by show _ = _; rw [tidyB_none hl hn]; rfl
  have HN := Lib.hid hn
  clear hm hl hn
  go_enter Try.func63, Try.ntmps63
  go_wp2_with (go_at_call 86; refine (l3All_any _ _ _ HM.out).mono ?_; rintro ex w1 ⟨rfl, b1⟩; rw [HN.out])
  go_ret
  have s1 := b1.size
  refine ⟨_, rfl, ?_, b1.alloc b1.size _⟩
  rw [HT.out]
  exact (World.ownsRow_made w1 #[] 0 (Nat.le_refl _) (Nat.zero_le _) rfl).mono s1

set_option maxRecDepth 100000 in
set_option maxHeartbeats 4000000 in
theorem l3Tidy_one (w : World) (v : Value) (m : List Bool) (hm : Bools w w.heap.size v m) (hl : m.length = 2 ^ 0) (hn : allNo m = false) :
    Calls Try.prog 63 #[v] w fun ex w' => ∃ u, ex = .returned u ∧ StrRow w' w.heap.size u ((tidyB 0 m).map sText) ∧ Below w.heap.size w w' := by
  have HM := Lib.hid hm
  have HT : Hid ((tidyB 0 m).map sText = [⟨#[]⟩]) := by show _ = _; rw [tidyB_one hl hn]; rfl
  have HN := Lib.hid hn
  obtain ⟨b, off, cap, rfl, hc, hmx, hb, hcell⟩ := hm
  have hl1 : m.length = 1 := hl
  rw [hl1] at HM hc ⊢
  clear hcell hl hn
  go_enter Try.func63, Try.ntmps63
  go_wp2_with (go_at_call 86; refine (l3All_any _ _ _ HM.out).mono ?_; rintro ex w1 ⟨rfl, b1⟩; rw [HN.out])
  go_ret
  have s1 := b1.size
  refine ⟨_, rfl, ?_, b1.alloc b1.size _⟩
  rw [HT.out]
  exact ⟨rfl, .inr ⟨w1.heap.size, 1, #[.string ⟨#[]⟩], rfl, s1, newBlockM w1 _, Nat.le_refl _, by unfold maxLen; omega, rfl, rfl⟩⟩

/-- Where a row lies, as cells behind calls that leave it. -/
theorem StrRow.at {w : World} {base : Nat} {v : Value} {l : List ByteArray} (h : StrRow w base v l) :
    ∃ (a : Option Addr) (cap : Nat), v = .slice a l.length cap ∧ l.length ≤ cap ∧ cap ≤ maxLen ∧ (l.length = 0 ∨ ∃ g, a = some ⟨g, 0, none⟩ ∧ g < w.heap.size ∧ Hid (∀ j, j < l.length → w.cell? ⟨g, j, none⟩ = some (.string (strAt l j)))) := by
  rcases h.form with ⟨rfl, rfl⟩ | ⟨g, cap, rfl, hb, hg, hc, hm, hcell, hfr⟩
  · exact ⟨none, 0, rfl, Nat.le_refl _, by unfold maxLen; omega, .inl rfl⟩
  · exact ⟨_, cap, rfl, hc, hm, .inr ⟨g, rfl, hg, hcell⟩⟩

set_option maxRecDepth 100000 in
set_option maxHeartbeats 8000000 in
theorem l3Tidy_deep (w : World) (v : Value) (h N : Nat) (m0 m1 : List Bool) (hN : N = 2 ^ h) (h0 : m0.length = N) (h1 : m1.length = N) (hn1 : 1 ≤ N) (hn32 : N ≤ 32) (hm : Bools w w.heap.size v (m0 ++ m1)) (hn : allNo (m0 ++ m1) = false)
    (ih : ∀ (w : World) (v : Value) (m : List Bool), m.length = N → Bools w w.heap.size v m → Calls Try.prog 63 #[v] w fun ex w' => ∃ u, ex = .returned u ∧ StrRow w' w.heap.size u ((tidyB h m).map sText) ∧ Below w.heap.size w w') :
    Calls Try.prog 63 #[v] w fun ex w' => ∃ u, ex = .returned u ∧ StrRow w' w.heap.size u ((tidyB (h + 1) (m0 ++ m1)).map sText) ∧ Below w.heap.size w w' := by
  have HM := Lib.hid hm
  have HN := Lib.hid hn
  obtain ⟨b, off, cap, rfl, hc, hmx, hb, hcell⟩ := hm
  have hlen : (m0 ++ m1).length = N + N := by simp [h0, h1]
  rw [hlen] at HM hc ⊢
  have HP : Hid (∀ W, Below w.heap.size w W → Bools W W.heap.size (.slice (some ⟨b, off, none⟩) N cap) m0 ∧ Bools W W.heap.size (.slice (some ⟨b, off + N, none⟩) N (cap - N)) m1) := fun W hW => by
    have := Bools.parts (w := w) (off := off) h0 h1 hb hc hmx (fun i hi => hcell i (by rw [hlen]; exact hi))
    exact ⟨(this.1.below hW (Nat.le_refl _)).mono hW.size, (this.2.below hW (Nat.le_refl _)).mono hW.size⟩
  have HI0 : Hid (∀ W, Below w.heap.size w W → Calls Try.prog 63 #[.slice (some ⟨b, off, none⟩) N cap] W fun ex w' => ∃ u, ex = .returned u ∧ StrRow w' W.heap.size u ((tidyB h m0).map sText) ∧ Below W.heap.size W w') := fun W hW => ih W _ m0 h0 (HP.out W hW).1
  have HI1 : Hid (∀ W, Below w.heap.size w W → Calls Try.prog 63 #[.slice (some ⟨b, off + N, none⟩) N (cap - N)] W fun ex w' => ∃ u, ex = .returned u ∧ StrRow w' W.heap.size u ((tidyB h m1).map sText) ∧ Below W.heap.size W w') := fun W hW => ih W _ m1 h1 (HP.out W hW).2
  have HSM : Hid (∀ W, Below w.heap.size w W → Calls Try.prog 66 #[.slice (some ⟨b, off, none⟩) N cap, .slice (some ⟨b, off + N, none⟩) N (cap - N)] W fun ex w' => ex = .returned (.bool (m0 == m1)) ∧ Below W.heap.size W w') := fun W hW => l3Same_any W _ _ m0 m1 (HP.out W hW).1 (HP.out W hW).2 (by rw [h0, h1])
  have hT0 : ((tidyB h m0).map sText).length ≤ 64 := by
    have := tidyB_many h m0
    rw [← hN] at this
    simp; omega
  have hT1 : ((tidyB h m1).map sText).length ≤ 64 := by
    have := tidyB_many h m1
    rw [← hN] at this
    simp; omega
  have HZ0 : Hid (∀ j, j < ((tidyB h m0).map sText).length → (strAt ((tidyB h m0).map sText) j).size ≤ 64) := strs_max fun s hs => by
    obtain ⟨x, hx, rfl⟩ := List.mem_map.1 hs
    rw [sText_size, tidyB_len h m0 x hx]
    have : h < 2 ^ h := Nat.lt_two_pow_self
    omega
  have HZ1 : Hid (∀ j, j < ((tidyB h m1).map sText).length → (strAt ((tidyB h m1).map sText) j).size ≤ 64) := strs_max fun s hs => by
    obtain ⟨x, hx, rfl⟩ := List.mem_map.1 hs
    rw [sText_size, tidyB_len h m1 x hx]
    have : h < 2 ^ h := Nat.lt_two_pow_self
    omega
  have HRX : Hid ((m0 == m1) = true → (tidyB (h + 1) (m0 ++ m1)).map sText = preC 120 ((tidyB h m0).map sText)) := fun he => by
    rw [tidyB_app (by rw [h0, hN]), he, preC_sText]; rfl
  have HRS : Hid ((m0 == m1) = false → (tidyB (h + 1) (m0 ++ m1)).map sText = preC 48 ((tidyB h m0).map sText) ++ preC 49 ((tidyB h m1).map sText)) := fun he => by
    rw [tidyB_app (by rw [h0, hN]), he, preC_sText, preC_sText, cond_false, List.map_append]
  clear hcell hn ih hlen
  generalize (tidyB (h + 1) (m0 ++ m1)).map sText = RES at *
  generalize (tidyB h m0).map sText = T0 at *
  generalize (tidyB h m1).map sText = T1 at *
  obtain ⟨i0, hi, hz0, hz1, hz2⟩ := info_parts infoStr
  have HI := Lib.hid hi
  have HQ0 := Lib.hid hz0
  have HQ1 := Lib.hid hz1
  have HQ2 := Lib.hid hz2
  clear hi hz0 hz1 hz2 h0 h1 hN
  have d1 : ¬ ((N + N : Nat) : Int) = 1 := by omega
  have d2 : ((N : Int) + (N : Int)).tdiv 2 = (N : Int) := by rw [Int.tdiv_eq_ediv_of_nonneg (by omega)]; omega
  have d3 : ((N : Int) + (N : Int)) / 2 = (N : Int) := by omega
  have e0 : (0 : Int) ≤ (N : Int) := Int.natCast_nonneg _
  have e1 : (N : Int) ≤ (N : Int) + (N : Int) := by omega
  have e2 : (N : Int) ≤ (cap : Int) := by omega
  have e3 : (N : Int) + (N : Int) ≤ (cap : Int) := by omega
  have e4 : N ≤ cap := by omega
  have e5 : ¬ cap < N := by omega
  have e6 : ¬ cap = N := by omega
  go_enter Try.func63, Try.ntmps63
  go_wp2_with (go_at_call 86; refine (l3All_any _ _ _ HM.out).mono ?_; rintro ex w1 ⟨rfl, b1⟩; rw [HN.out])
  have B1 := Lib.hid b1
  clear b1
  refine (HI0.out _ B1.out).mono ?_
  rintro ex w2 ⟨u0, rfl, r0, b2⟩
  have B2 := Lib.hid (belStep B1.out b2)
  have R0 := Lib.hid r0
  clear r0 b2
  go_wp2_with fail
  refine (HI1.out _ B2.out).mono ?_
  rintro ex w3 ⟨u1, rfl, r1, b3⟩
  have B3 := Lib.hid (belStep B2.out b3)
  have hA0 := (R0.out.below b3).at
  have hA1 := r1.at
  clear r1 b3 R0
  obtain ⟨a0, cap0, rfl, hc0, hm0, hn0⟩ := hA0
  obtain ⟨a1, cap1, rfl, hc1, hm1, hnn1⟩ := hA1
  unfold maxLen at hm0 hm1
  go_wp2_with fail
  have B4 : Hid (Below w.heap.size w (w3.alloc (.cells #[] 9)).drew) := (B3.out.alloc B3.out.size _).drew
  have HOE : Hid ((w3.alloc (.cells #[] 9)).drew.ownsRow w3.heap.size 9 1 (.slice (some ⟨w3.heap.size, 0, none⟩) 0 0) 0 []) := World.ownsRow_made w3 #[] 0 (Nat.le_refl _) (Nat.zero_le _) rfl
  have B34 : Hid (Below w3.heap.size w3 (w3.alloc (.cells #[] 9)).drew) := (below_alloc1 _ _).drew
  have hs3 := B3.out.size
  go_region_held3 (fun _ => True) (exact trivial)
    (first | (go_at_call 66; ((with_reducible refine (HSM.out _ B4.out).mono ?_); rintro ex w5 ⟨rfl, b5⟩; have HO5 := Lib.hid (ownsBelow HOE.out b5); have B5 : Hid (Below w3.heap.size w3 w5) := belStep B34.out b5; clear b5)))
  cases he : (m0 == m1)
  · have HR := Lib.hid (HRS.out he)
    clear HRX HRS HSM HI0 HI1 HP HM HN B4 HOE B34 B1 B2
    go_wp2
    go_loopw [6, 8] (fun o i wr => ∃ k : Nat, k ≤ T0.length ∧ i = .int .i64 k ∧ wr.ownsRow w3.heap.size 9 1 o k ((preC 48 (T0.take k)).map Value.string) ∧ Below w3.heap.size w3 wr) (fun _ i _ => T0.length - (intOf i).toNat)
    case atStart => exact ⟨0, Nat.zero_le _, rfl, HO5.out, B5.out⟩
    case round =>
      obtain ⟨k, hk, rfl, hown, hbel⟩ := hrel
      have HO := Lib.hid hown
      clear hown
      by_cases hlt : k < T0.length
      · rcases hn0 with hx | ⟨g, rfl, hg, HC⟩
        · omega
        have hlt' := hlt
        have c1 : wr.cell? ⟨g, k, none⟩ = some (.string (strAt T0 k)) := (hbel.cell (p := ⟨g, k, none⟩) (by exact hg)).trans (HC.out k hlt)
        have hsz := HZ0.out k hlt
        have HTK := Lib.hid (preC_take (c := 48) hlt')
        generalize strAt T0 k = x at *
        have hx1 : (⟨#[48]⟩ : ByteArray).size = 1 := rfl
        have hkz : (k : Int) < (T0.length : Int) := by omega
        have s4 := hbel.size
        go_wp2_with (at_builtin; refine wpList_append_own _ rfl _ _ 23 rfl w3.heap.size 9 i0 (.string ⟨#[]⟩) 1 16 Try.underlying23 HI.out HQ0.out HQ1.out HQ2.out rfl (by decide) _ _ _ rfl (HO.out.alloc _) ⟨wr.heap.size, 0, none⟩ 1 1 [.string (⟨#[48]⟩ ++ x)] rfl rfl ?c1 ?c2 ?c3 ?c4 ?c5 ?_)
        case c1 =>
          intro j u hj
          match j, hj with
          | 0, hj => simp at hj; subst hj; simp [Addr.add]
        case c2 => intro u hu; simp at hu; subst hu; rfl
        case c3 => unfold maxLen; omega
        case c4 => omega
        case c5 => simp; omega
        intro v' w6 hown6 hg6 _
        have s6 := hg6.size
        simp at s6
        have HO6 : Hid (w6.ownsRow w3.heap.size 9 1 v' (k + 1) ((preC 48 (T0.take (k + 1))).map Value.string)) := by
          show w6.ownsRow _ _ _ _ _ _
          rw [HTK.out, List.map_append]
          exact hown6
        have B6 : Hid (Below w3.heap.size w3 w6) := (hbel.alloc (by omega) _).trans (grownBelow (HO.out.alloc _) hg6 (by simp; omega))
        clear hown6 hg6
        go_wp2
        go_roundw
        case rel => exact ⟨k + 1, by omega, by go_num, HO6.out, B6.out⟩
        case measure => simp [intOf]; omega
      · obtain rfl : k = T0.length := by omega
        have HOA : Hid (wr.ownsRow w3.heap.size 9 1 u6 (T0.length + 0) ((preC 48 T0 ++ preC 49 (T1.take 0)).map Value.string)) := by
          show wr.ownsRow _ _ _ _ _ _
          have := HO.out
          rw [List.take_length] at this
          simpa [preC] using this
        have hbel' := hbel
        clear HO
        go_wp2
        go_loopw [6, 9] (fun o i wr => ∃ k : Nat, k ≤ T1.length ∧ i = .int .i64 k ∧ wr.ownsRow w3.heap.size 9 1 o (T0.length + k) ((preC 48 T0 ++ preC 49 (T1.take k)).map Value.string) ∧ Below w3.heap.size w3 wr) (fun _ i _ => T1.length - (intOf i).toNat)
        case atStart => exact ⟨0, Nat.zero_le _, rfl, HOA.out, hbel'⟩
        case round =>
          clear HOA hbel hbel' hk hlt
          obtain ⟨k, hk, rfl, hown, hbel⟩ := hrel
          have HO := Lib.hid hown
          clear hown
          by_cases hlt : k < T1.length
          · rcases hnn1 with hx | ⟨g, rfl, hg, HC⟩
            · omega
            have hlt' := hlt
            have c1 : wr.cell? ⟨g, k, none⟩ = some (.string (strAt T1 k)) := (hbel.cell (p := ⟨g, k, none⟩) (by exact hg)).trans (HC.out k hlt)
            have hsz := HZ1.out k hlt
            have HTK := Lib.hid (preC_take (c := 49) hlt')
            generalize strAt T1 k = x at *
            have hx1 : (⟨#[49]⟩ : ByteArray).size = 1 := rfl
            have hkz : (k : Int) < (T1.length : Int) := by omega
            have s4 := hbel.size
            go_wp2_with (at_builtin; refine wpList_append_own _ rfl _ _ 23 rfl w3.heap.size 9 i0 (.string ⟨#[]⟩) 1 16 Try.underlying23 HI.out HQ0.out HQ1.out HQ2.out rfl (by decide) _ _ _ rfl (HO.out.alloc _) ⟨wr.heap.size, 0, none⟩ 1 1 [.string (⟨#[49]⟩ ++ x)] rfl rfl ?c1 ?c2 ?c3 ?c4 ?c5 ?_)
            case c1 =>
              intro j u hj
              match j, hj with
              | 0, hj => simp at hj; subst hj; simp [Addr.add]
            case c2 => intro u hu; simp at hu; subst hu; rfl
            case c3 => unfold maxLen; omega
            case c4 => omega
            case c5 => simp; omega
            intro v' w6 hown6 hg6 _
            have s6 := hg6.size
            simp at s6
            have HO6 : Hid (w6.ownsRow w3.heap.size 9 1 v' (T0.length + (k + 1)) ((preC 48 T0 ++ preC 49 (T1.take (k + 1))).map Value.string)) := by
              show w6.ownsRow _ _ _ _ _ _
              rw [HTK.out, List.map_append, List.map_append, ← Nat.add_assoc]
              exact hown6
            have B6 : Hid (Below w3.heap.size w3 w6) := (hbel.alloc (by omega) _).trans (grownBelow (HO.out.alloc _) hg6 (by simp; omega))
            clear hown6 hg6
            go_wp2
            go_roundw
            case rel => exact ⟨k + 1, by omega, by go_num, HO6.out, B6.out⟩
            case measure => simp [intOf]; omega
          · obtain rfl : k = T1.length := by omega
            go_wp2
            go_ret
            refine ⟨_, rfl, ?_, B3.out.trans (hbel.mono (by omega))⟩
            rw [HR.out]
            have := HO.out
            rw [List.take_length] at this
            show World.ownsRow _ _ _ _ _ _ _
            rw [List.length_append, preC_len, preC_len]
            exact this.mono (by omega)
  · have HR := Lib.hid (HRX.out he)
    clear HRX HRS HSM HI0 HI1 HP HM HN B4 HOE B34 B1 B2
    go_wp2
    go_loopw [6, 7] (fun o i wr => ∃ k : Nat, k ≤ T0.length ∧ i = .int .i64 k ∧ wr.ownsRow w3.heap.size 9 1 o k ((preC 120 (T0.take k)).map Value.string) ∧ Below w3.heap.size w3 wr) (fun _ i _ => T0.length - (intOf i).toNat)
    case atStart => exact ⟨0, Nat.zero_le _, rfl, HO5.out, B5.out⟩
    case round =>
      obtain ⟨k, hk, rfl, hown, hbel⟩ := hrel
      have HO := Lib.hid hown
      clear hown
      by_cases hlt : k < T0.length
      · rcases hn0 with hx | ⟨g, rfl, hg, HC⟩
        · omega
        have hlt' := hlt
        have c1 : wr.cell? ⟨g, k, none⟩ = some (.string (strAt T0 k)) := (hbel.cell (p := ⟨g, k, none⟩) (by exact hg)).trans (HC.out k hlt)
        have hsz := HZ0.out k hlt
        have HTK := Lib.hid (preC_take (c := 120) hlt')
        generalize strAt T0 k = x at *
        have hx1 : (⟨#[120]⟩ : ByteArray).size = 1 := rfl
        have hkz : (k : Int) < (T0.length : Int) := by omega
        have s4 := hbel.size
        go_wp2_with (at_builtin; refine wpList_append_own _ rfl _ _ 23 rfl w3.heap.size 9 i0 (.string ⟨#[]⟩) 1 16 Try.underlying23 HI.out HQ0.out HQ1.out HQ2.out rfl (by decide) _ _ _ rfl (HO.out.alloc _) ⟨wr.heap.size, 0, none⟩ 1 1 [.string (⟨#[120]⟩ ++ x)] rfl rfl ?c1 ?c2 ?c3 ?c4 ?c5 ?_)
        case c1 =>
          intro j u hj
          match j, hj with
          | 0, hj => simp at hj; subst hj; simp [Addr.add]
        case c2 => intro u hu; simp at hu; subst hu; rfl
        case c3 => unfold maxLen; omega
        case c4 => omega
        case c5 => simp; omega
        intro v' w6 hown6 hg6 _
        have s6 := hg6.size
        simp at s6
        have HO6 : Hid (w6.ownsRow w3.heap.size 9 1 v' (k + 1) ((preC 120 (T0.take (k + 1))).map Value.string)) := by
          show w6.ownsRow _ _ _ _ _ _
          rw [HTK.out, List.map_append]
          exact hown6
        have B6 : Hid (Below w3.heap.size w3 w6) := (hbel.alloc (by omega) _).trans (grownBelow (HO.out.alloc _) hg6 (by simp; omega))
        clear hown6 hg6
        go_wp2
        go_roundw
        case rel => exact ⟨k + 1, by omega, by go_num, HO6.out, B6.out⟩
        case measure => simp [intOf]; omega
      · obtain rfl : k = T0.length := by omega
        go_wp2
        go_ret
        refine ⟨_, rfl, ?_, B3.out.trans (hbel.mono (by omega))⟩
        rw [HR.out]
        have := HO.out
        rw [List.take_length] at this
        show World.ownsRow _ _ _ _ _ _ _
        rw [preC_len]
        exact this.mono (by omega)

theorem l3Tidy_any : ∀ (h : Nat), h ≤ 6 → ∀ (w : World) (v : Value) (m : List Bool), m.length = 2 ^ h → Bools w w.heap.size v m →
    Calls Try.prog 63 #[v] w fun ex w' => ∃ u, ex = .returned u ∧ StrRow w' w.heap.size u ((tidyB h m).map sText) ∧ Below w.heap.size w w'
  | h, hh, w, v, m, hl, hm => by
    cases hn : allNo m
    · match h, hh, hl with
      | 0, _, hl => exact l3Tidy_one w v m hm hl hn
      | h + 1, hh, hl =>
        have hsp : m = m.take (2 ^ h) ++ m.drop (2 ^ h) := (List.take_append_drop _ _).symm
        have hp : 2 ^ (h + 1) = 2 ^ h + 2 ^ h := by rw [Nat.pow_succ]; omega
        have h5 : 2 ^ h ≤ 2 ^ 5 := Nat.pow_le_pow_right (by omega) (by omega)
        have h1 : 1 ≤ 2 ^ h := Nat.one_le_two_pow
        rw [hsp] at hm hn ⊢
        exact l3Tidy_deep w v h (2 ^ h) _ _ rfl (by simp; omega) (by simp; omega) h1 (by omega) hm hn (fun w v m hl hm => l3Tidy_any h (by omega) w v m hl hm)
    · exact l3Tidy_none w v h m hm hl hn

end Go.Proofs.Ytndmedkkecikoaa
