/-
  Chapter 3, the model's masks: the set of a space, as a slice of bools; whether two are the same; what the model's SpaceHas and SpaceSame return.
-/
import Derived.Test.YtddkpimmcmnogabSpaceSpecA
import Derived.Test.YtddkpimmcmnogabStrCopy
import Derived.Test.YtddkpimmcmnogabSpaceImplA
namespace Go.Proofs.Ytddkpimmcmnogab
open Go.ChangeShapes Go.WideShapes Go.ChangeAt Go.RowKit Go.Joins
set_option linter.unusedVariables false

theorem infoB : (Try.prog.info? 4).map (fun i => (i.zero, i.size, i.bytes)) = some (some (.bool false), 1, 1) := by kernel_rfl

/-- A value is a slice with these bools, in a block below g. -/
def Bools (w : World) (g : Nat) (v : Value) (m : List Bool) : Prop :=
  ∃ (b off cap : Nat), v = .slice (some ⟨b, off, none⟩) m.length cap ∧ m.length ≤ cap ∧ cap ≤ 64 ∧ b < g ∧ ∀ i, i < m.length → w.cell? ⟨b, off + i, none⟩ = some (.bool (m.getD i false))
theorem Bools.below {w w' : World} {g n : Nat} {v : Value} {m : List Bool} (h : Bools w g v m) (hb : Below n w w') (hg : g ≤ n) : Bools w' g v m := by
  obtain ⟨b, off, cap, hv, hc, hm, hbg, hcell⟩ := h
  exact ⟨b, off, cap, hv, hc, hm, hbg, fun i hi => (hb.cell (p := ⟨b, off + i, none⟩) (Nat.lt_of_lt_of_le hbg hg)).trans (hcell i hi)⟩
theorem Bools.mono {w : World} {g g' : Nat} {v : Value} {m : List Bool} (h : Bools w g v m) (hg : g ≤ g') : Bools w g' v m := by
  obtain ⟨b, off, cap, hv, hc, hm, hbg, hcell⟩ := h
  exact ⟨b, off, cap, hv, hc, hm, Nat.lt_of_lt_of_le hbg hg, hcell⟩
/-- A slice of 64 bools of a call's own. -/
def BoolRow (w : World) (g : Nat) (m : List Bool) : Prop := w.ownsRow g 4 1 (.slice (some ⟨g, 0, none⟩) 64 64) 64 (m.map Value.bool) ∧ m.length = 64
theorem BoolRow.bools {w : World} {g : Nat} {m : List Bool} (h : BoolRow w g m) : Bools w w.heap.size (.slice (some ⟨g, 0, none⟩) 64 64) m := by
  refine ⟨g, 0, 64, by rw [h.2], by rw [h.2]; omega, by omega, (World.ownsRow.lt h.1 g rfl).2, fun i hi => ?_⟩
  rw [Nat.zero_add, World.ownsRow.cellAt h.1 i (by rw [h.2] at hi; omega)]
  simp [hi]
theorem BoolRow.cells {w : World} {g : Nat} {m : List Bool} (h : BoolRow w g m) : (∀ j, j < 64 → w.cell? ⟨g, j, none⟩ = some (.bool (m.getD j false))) ∧ (∀ j, w.frozen? ⟨g, j, none⟩ = false) ∧ g < w.heap.size := by
  refine ⟨fun j hj => ?_, fun j => World.ownsRow.frozenAt h.1 j, (World.ownsRow.lt h.1 g rfl).2⟩
  rw [World.ownsRow.cellAt h.1 j (by omega)]
  have : j < m.length := by rw [h.2]; exact hj
  simp [this]
theorem BoolRow.put {w : World} {g : Nat} {m : List Bool} (h : BoolRow w g m) (j : Nat) (x : Bool) : BoolRow (w.setCell ⟨g, j, none⟩ (.bool x)) g (m.set j x) := by
  have := (World.ownsRow.stored h.1 j (.bool x)).1
  exact ⟨by simpa [List.map_set] using this, by simp [h.2]⟩
theorem BoolRow.below {w w' : World} {g : Nat} {m : List Bool} (h : BoolRow w g m) (hb : Below w.heap.size w w') : BoolRow w' g m :=
  ⟨World.ownsRow.kept h.1 (row := none) ⟨hb.os, hb.tape, hb.output, hb.size, fun k hk _ => hb.block k hk⟩ (by cases (Value.slice (some ⟨g, 0, none⟩) 64 64).ownBlock <;> simp), h.2⟩

/-- The mask while it is filled: at n the first i texts are in. -/
def mixM (l : List ByteArray) (n i : Nat) : List Bool := (List.range 64).map fun j => bif decide (j < n) then inSp l (kb6 j) else (bif decide (j = n) then inSp (l.take i) (kb6 j) else false)
theorem mixM_len (l : List ByteArray) (n i : Nat) : (mixM l n i).length = 64 := by simp [mixM]
theorem mixM_get (l : List ByteArray) {n : Nat} (i : Nat) (hn : n < 64) : (mixM l n i).getD n false = inSp (l.take i) (kb6 n) := by
  simp [mixM, List.getD_eq_getElem?_getD, List.getElem?_range hn]
theorem mixM_start (l : List ByteArray) : mixM l 0 0 = List.replicate 64 false := by
  refine List.eq_replicate_iff.2 ⟨mixM_len _ _ _, fun b hb => ?_⟩
  obtain ⟨j, _, rfl⟩ := List.mem_map.1 hb
  simp [inSp]
theorem mixM_next (l : List ByteArray) (n : Nat) : mixM l n l.length = mixM l (n + 1) 0 := by
  unfold mixM
  apply List.map_congr_left
  intro j _
  by_cases h : j < n
  · simp [h, show j < n + 1 by omega]
  · by_cases e : j = n
    · subst e; simp
    · simp [h, e, show ¬ j < n + 1 by omega, inSp]
theorem mixM_end (l : List ByteArray) : mixM l 64 0 = spL l := by
  unfold mixM spL
  rw [tab6]
  apply List.map_congr_left
  intro j hj
  have := List.mem_range.1 hj
  simp [this]
theorem inSp_take {l : List ByteArray} {k : Nat} (hk : k < l.length) (q : List Bool) : inSp (l.take (k + 1)) q = (inSp (l.take k) q || hasM (cf (strAt l k)) (vf (strAt l k)) (bitF q)) := by
  have e : l.take (k + 1) = l.take k ++ [strAt l k] := by
    rw [List.take_add_one, List.getElem?_eq_getElem hk, strAt, List.getD_eq_getElem?_getD, List.getElem?_eq_getElem hk]
    rfl
  rw [e]
  simp [inSp]
theorem mixM_step (l : List ByteArray) {n i : Nat} (hn : n < 64) : mixM l n (i + 1) = (mixM l n i).set n (inSp (l.take (i + 1)) (kb6 n)) := by
  apply List.ext_getElem
  · simp [mixM]
  · intro j h1 h2
    rw [List.getElem_set]
    by_cases e : n = j
    · subst e
      simp [mixM]
    · have e' : ¬ j = n := fun h => e h.symm
      simp [mixM, e, e']

set_option maxRecDepth 100000 in
set_option maxHeartbeats 4000000 in
theorem l3Mask_any (w : World) (v : Value) (l : List ByteArray) (hl : Strs w w.heap.size v l) (hk : okSp l = true) :
    Calls Try.prog 27 #[v] w fun ex w' => ex = .returned (.slice (some ⟨w.heap.size, 0, none⟩) 64 64) ∧ BoolRow w' w.heap.size (spL l) ∧ Below w.heap.size w w' := by
  obtain ⟨a, cap, rfl, hc, hm, hh⟩ := hl
  obtain ⟨i0, hi, hz0, hz1, hz2⟩ := info_parts infoB
  have HI := Lib.hid hi
  have HZ0 := Lib.hid hz0
  have HZ1 := Lib.hid hz1
  have HZ2 := Lib.hid hz2
  clear hi hz0 hz1 hz2
  have HOK : Hid (∀ i, i < l.length → okS (strAt l i) = true) := (okSp_parts hk).2
  have h64 := (okSp_parts hk).1
  have HST : Hid (mixM l 0 0 = List.replicate 64 false) := mixM_start l
  have HNX : Hid (∀ n, mixM l n l.length = mixM l (n + 1) 0) := fun n => mixM_next l n
  have HEN : Hid (mixM l 64 0 = spL l) := mixM_end l
  have HSP : Hid (∀ n i, n < 64 → mixM l n (i + 1) = (mixM l n i).set n (inSp (l.take (i + 1)) (kb6 n))) := fun n i hn => mixM_step l hn
  have HTK : Hid (∀ k q, k < l.length → inSp (l.take (k + 1)) q = (inSp (l.take k) q || hasM (cf (strAt l k)) (vf (strAt l k)) (bitF q))) := fun k q hk => inSp_take hk q
  have hnz : l.length = 0 ∨ ∃ b off, a = some ⟨b, off, none⟩ ∧ b < w.heap.size ∧ Hid (∀ i, i < l.length → w.cell? ⟨b, off + i, none⟩ = some (.string (strAt l i))) := by
    rcases hh with h | ⟨b, off, h1, h2, h3⟩
    · exact .inl (by rw [h]; rfl)
    · exact .inr ⟨b, off, h1, h2, h3⟩
  clear hh hk
  unfold maxLen at hm
  generalize hN : l.length = N at *
  go_enter Try.func27, Try.ntmps27
  go_wp2_with (at_make; refine wpList_make_full _ rfl _ _ 50 rfl w.heap.size 4 i0 (.bool false) 1 Try.underlying50 HI.out HZ0.out HZ1.out .i64 .i64 _ _ 64 rfl rfl rfl rfl ?b2 ?b3 (Nat.le_refl _) ?_)
  case b2 => rw [HZ2.out]; omega
  case b3 => unfold maxLen; omega
  intro w1 hown hg1
  have HB1 : Hid (Below w.heap.size w w1) := ⟨hg1.os, hg1.tape, hg1.output, hg1.size, fun k hk => hg1.block k hk (by simp)⟩
  have HR1 : Hid (BoolRow w1 w.heap.size (mixM l 0 0)) := by
    refine ⟨?_, mixM_len _ _ _⟩
    have := hown
    rw [made_one] at this
    rw [HST.out, List.map_replicate]
    exact this
  clear hown hg1
  go_wp2
  go_loopw [4] (fun x wr => ∃ n : Nat, n ≤ 64 ∧ x = .int .i64 n ∧ BoolRow wr w.heap.size (mixM l n 0) ∧ Below w.heap.size w wr) (fun x _ => 64 - (intOf x).toNat)
  case atStart => exact ⟨0, Nat.zero_le _, rfl, HR1.out, HB1.out⟩
  case round =>
    obtain ⟨n, hn, rfl, hrow, hbel⟩ := hrel
    have HR := Lib.hid hrow
    have HB := Lib.hid hbel
    clear hrow hbel HR1 HB1
    by_cases hlt : n < 64
    · have hnz64 : (n : Int) < 64 := by omega
      go_wp2
      go_loopw [5] (fun x wq => ∃ i : Nat, i ≤ N ∧ x = .int .i64 i ∧ BoolRow wq w.heap.size (mixM l n i) ∧ Below w.heap.size w wq) (fun x _ => N - (intOf x).toNat)
      case atStart => exact ⟨0, Nat.zero_le _, rfl, HR.out, HB.out⟩
      case round =>
        obtain ⟨i, hi, rfl, hrow, hbel⟩ := hrel
        have HR2 := Lib.hid hrow
        by_cases hil : i < N
        · have hiz : (i : Int) < (N : Int) := by omega
          rcases hnz with h0 | ⟨b, off, rfl, hb, HC⟩
          · omega
          have hgt := hrow.cells.1 n hlt
          rw [mixM_get l i hlt] at hgt
          have hfr := hrow.cells.2.1
          have hgl := hrow.cells.2.2
          clear hrow
          have HS2 := Lib.hid (HSP.out n i hlt)
          have HT2 := Lib.hid (HTK.out i (kb6 n) hil)
          have hkb := kb6_num hlt
          have hks := HOK.out i hil
          have HH := Lib.hid (l2Has_any (strAt l i) hks (bitF (kb6 n)))
          rw [hkb] at HH
          have c1 : ∀ W, Below w.heap.size w W → W.cell? ⟨b, off + i, none⟩ = some (.string (strAt l i)) := fun W hW => (belCell hW _ _ hb).trans (HC.out i hil)
          have c1' := c1 _ hbel
          clear c1
          generalize inSp (l.take (i + 1)) (kb6 n) = nx at *
          generalize hasM (cf (strAt l i)) (vf (strAt l i)) (bitF (kb6 n)) = hx at *
          generalize inSp (l.take i) (kb6 n) = ox at *
          generalize strAt l i = s at *
          clear hkb hks
          cases ox
          · go_wp2_with fail
            refine (HH.out _).mono ?_
            rintro e w3 ⟨rfl, b3⟩
            have HR3 := Lib.hid (HR2.out.below b3)
            have B3 := Lib.hid (belStep hbel b3)
            have s3 := b3.size
            have hgt3 := HR3.out.cells.1 n hlt
            have hfr3 := HR3.out.cells.2.1
            have hgl3 := HR3.out.cells.2.2
            generalize (mixM l n i).getD n false = oo at *
            have hnx : nx = hx := by have := HT2.out; simpa using this
            subst hnx
            clear b3 hbel c1' hgt hfr hgl
            go_wp2
            go_roundw
            case rel => exact ⟨i + 1, by omega, by go_num, by rw [HS2.out]; exact HR3.out.put n nx, B3.out.setCell (by exact Nat.le_refl _) _⟩
            case measure => simp [intOf]; omega
          · have hnx : nx = true := by have := HT2.out; simpa using this
            subst hnx
            go_wp2
            go_roundw
            case rel => exact ⟨i + 1, by omega, by go_num, by rw [HS2.out]; exact HR2.out.put n true, hbel.setCell (by exact Nat.le_refl _) _⟩
            case measure => simp [intOf]; omega
        · obtain rfl : i = N := by omega
          have HR3 : Hid (BoolRow wr w.heap.size (mixM l (n + 1) 0)) := by show BoolRow _ _ _; rw [← HNX.out n]; exact HR2.out
          clear hrow
          go_wp2
          go_roundw
          case rel => exact ⟨n + 1, by omega, by go_num, HR3.out, hbel⟩
          case measure => simp [intOf]; omega
    · obtain rfl : n = 64 := by omega
      go_wp2
      go_ret
      exact ⟨rfl, by rw [← HEN.out]; exact HR.out, HB.out⟩

end Go.Proofs.Ytddkpimmcmnogab
