/-
  Slices of slices of rules: those that a call is handed, those that it makes; what the statements' own helpers do with them.
-/
import Derived.Test.YtjjhahhchimmlaaGreatDoorTabS
namespace Go.Proofs.YtjjhahhchimmlaaGreatDoor
open Go.ChangeShapes Go.WideShapes Go.ChangeAt Go.RowKit Go.Joins
set_option linter.unusedVariables false

/-- The table at a place of a list. -/
def tbAt (L : List (List R4)) (j : Nat) : List R4 := L.getD j []
/-- A value is a slice with these tables. -/
def Cfs (w : World) (g : Nat) (v : Value) (L : List (List R4)) : Prop :=
  ∃ (a : Option Addr) (cap : Nat), v = .slice a L.length cap ∧ L.length ≤ cap ∧ cap ≤ maxLen ∧
    (L = [] ∨ ∃ b off, a = some ⟨b, off, none⟩ ∧ b < g ∧ ∀ i, i < L.length → ∃ u, w.cell? ⟨b, off + i, none⟩ = some u ∧ Rls w g u (tbAt L i))
theorem Cfs.below {w w' : World} {g n : Nat} {v : Value} {L : List (List R4)} (h : Cfs w g v L) (hb : Below n w w') (hg : g ≤ n) : Cfs w' g v L := by
  obtain ⟨a, cap, hv, hc, hm, h | ⟨b, off, ha, hbg, hcell⟩⟩ := h
  · exact ⟨a, cap, hv, hc, hm, .inl h⟩
  · refine ⟨a, cap, hv, hc, hm, .inr ⟨b, off, ha, hbg, fun i hi => ?_⟩⟩
    obtain ⟨u, h1, h2⟩ := hcell i hi
    exact ⟨u, (hb.cell (p := ⟨b, _, none⟩) (Nat.lt_of_lt_of_le hbg hg)).trans h1, h2.below hb hg⟩
theorem Cfs.mono {w : World} {g g' : Nat} {v : Value} {L : List (List R4)} (h : Cfs w g v L) (hg : g ≤ g') : Cfs w g' v L := by
  obtain ⟨a, cap, hv, hc, hm, h | ⟨b, off, ha, hbg, hcell⟩⟩ := h
  · exact ⟨a, cap, hv, hc, hm, .inl h⟩
  · refine ⟨a, cap, hv, hc, hm, .inr ⟨b, off, ha, Nat.lt_of_lt_of_le hbg hg, fun i hi => ?_⟩⟩
    obtain ⟨u, h1, h2⟩ := hcell i hi
    exact ⟨u, h1, h2.mono hg⟩
/-- One that came in: its patterns may be of any length. -/
def RawF (w : World) (g : Nat) (v : Value) (n : Nat) (ms : Nat → Nat) (fs : Nat → Nat → Int × ByteArray × Int × Int) : Prop :=
  ∃ (a : Option Addr) (cap : Nat), v = .slice a n cap ∧ n ≤ cap ∧ cap ≤ maxLen ∧
    (n = 0 ∨ ∃ b off, a = some ⟨b, off, none⟩ ∧ b < g ∧ ∀ i, i < n → ∃ u, w.cell? ⟨b, off + i, none⟩ = some u ∧ Raws w g u (ms i) (fs i))
theorem RawF.below {w w' : World} {g k n : Nat} {v : Value} {ms : Nat → Nat} {fs : Nat → Nat → Int × ByteArray × Int × Int} (h : RawF w g v n ms fs) (hb : Below k w w') (hg : g ≤ k) : RawF w' g v n ms fs := by
  obtain ⟨a, cap, hv, hc, hm, h | ⟨b, off, ha, hbg, hcell⟩⟩ := h
  · exact ⟨a, cap, hv, hc, hm, .inl h⟩
  · refine ⟨a, cap, hv, hc, hm, .inr ⟨b, off, ha, hbg, fun i hi => ?_⟩⟩
    obtain ⟨u, h1, h2⟩ := hcell i hi
    exact ⟨u, (hb.cell (p := ⟨b, _, none⟩) (Nat.lt_of_lt_of_le hbg hg)).trans h1, h2.below hb hg⟩
theorem RawF.mono {w : World} {g g' n : Nat} {v : Value} {ms : Nat → Nat} {fs : Nat → Nat → Int × ByteArray × Int × Int} (h : RawF w g v n ms fs) (hg : g ≤ g') : RawF w g' v n ms fs := by
  obtain ⟨a, cap, hv, hc, hm, h | ⟨b, off, ha, hbg, hcell⟩⟩ := h
  · exact ⟨a, cap, hv, hc, hm, .inl h⟩
  · refine ⟨a, cap, hv, hc, hm, .inr ⟨b, off, ha, Nat.lt_of_lt_of_le hbg hg, fun i hi => ?_⟩⟩
    obtain ⟨u, h1, h2⟩ := hcell i hi
    exact ⟨u, h1, h2.mono hg⟩
def smallF (ms : Nat → Nat) (fs : Nat → Nat → Int × ByteArray × Int × Int) (i : Nat) : List R4 := (List.range (ms i)).map (small (fs i))
theorem RawF.cfs {w : World} {g n : Nat} {v : Value} {ms : Nat → Nat} {fs : Nat → Nat → Int × ByteArray × Int × Int} (h : RawF w g v n ms fs) (hf : ∀ i, i < n → ∀ j, j < ms i → (fs i j).2.1.size ≤ 1048576) : Cfs w g v ((List.range n).map (smallF ms fs)) := by
  have hl : ((List.range n).map (smallF ms fs)).length = n := by simp
  obtain ⟨a, cap, hv, hc, hm, h | ⟨b, off, ha, hbg, hcell⟩⟩ := h
  · subst h
    exact ⟨a, cap, by rw [hl]; exact hv, by rw [hl]; exact hc, hm, .inl (by simp)⟩
  · refine ⟨a, cap, by rw [hl]; exact hv, by rw [hl]; exact hc, hm, .inr ⟨b, off, ha, hbg, fun i hi => ?_⟩⟩
    have hi' : i < n := by rw [hl] at hi; exact hi
    obtain ⟨u, h1, h2⟩ := hcell i hi'
    refine ⟨u, h1, ?_⟩
    have e : tbAt ((List.range n).map (smallF ms fs)) i = smallF ms fs i := by
      unfold tbAt
      rw [List.getD_eq_getElem?_getD, List.getElem?_eq_getElem (by rw [hl]; exact hi')]
      simp
    rw [e]
    exact h2.rls (hf i hi')

/-- Tables that the statement's row hands over. -/
theorem conf_of {H : Type} {enc : TypeId × Value → H} {w : World} {v : Value} {d : DataW H} {ps : List MemPlace}
    (h : DataW.Trod enc Tryz.prog w 0 (fun _ => true) true 23 v d ps) (hv : ∃ a len cap, v = .slice a len cap) : ∃ n ms fs, RawF w w.heap.size v n ms fs ∧ ∀ i, i < n → ∀ j, j < ms i → (fs i j).2.1.size ≤ maxLen := by
  obtain ⟨a, len, cap, rfl⟩ := hv
  obtain ⟨fuel, hf⟩ := h
  rcases Go.Deep.open_slice1 Tryz.underlying23 (by kernel_rfl) hf with ⟨hcs, _⟩ | ⟨x, l, c, m, n, V, D, Pl, hcs, _, hl, hm, hmm, _, hel⟩
  · simp [Value.cells] at hcs
    obtain ⟨rfl, rfl, rfl⟩ := hcs
    exact ⟨0, fun _ => 0, fun _ _ => (0, ⟨#[]⟩, 0, 0), ⟨none, 0, rfl, Nat.le_refl _, by unfold maxLen; omega, .inl rfl⟩, fun i hi => absurd hi (Nat.not_lt_zero _)⟩
  · simp [Value.cells] at hcs
    obtain ⟨rfl, rfl, rfl⟩ := hcs
    have hml : len ≤ m := by rw [hmm]; simpa using hl
    have key : ∀ i, i < len → ∃ z : Nat × (Nat → Int × ByteArray × Int × Int), w.cell? (x.add i) = some (V i) ∧ Raws w w.heap.size (V i) z.1 z.2 ∧ ∀ j, j < z.1 → (z.2 j).2.1.size ≤ maxLen := by
      intro i hi
      obtain ⟨h1, h2⟩ := hel i (by omega)
      have hs : ∃ a len cap, V i = .slice a len cap := by
        rcases Go.Deep.open_slice Tryz.underlying53 h2 with ⟨hcs, _⟩ | ⟨a', l', c', _, _, _, _, hcs, _⟩
        · simp at hcs; exact ⟨_, _, _, hcs⟩
        · simp at hcs; exact ⟨_, _, _, hcs⟩
      obtain ⟨a', l', c', hvi⟩ := hs
      have ht : DataW.Trod enc Tryz.prog w 0 (fun _ => true) true 53 (V i) (D i) (Pl i) := by
        rw [hvi] at h2 ⊢
        exact ⟨n, by simpa [Value.cells] using h2⟩
      obtain ⟨k, f, hr, hz⟩ := rules_of ht ⟨a', l', c', hvi⟩
      exact ⟨(k, f), h1, hr, hz⟩
    haveI : Inhabited (Nat × (Nat → Int × ByteArray × Int × Int)) := ⟨(0, fun _ => (0, ⟨#[]⟩, 0, 0))⟩
    obtain ⟨f, hfx⟩ := Go.Deep.choose_lt key
    refine ⟨len, fun i => (f i).1, fun i => (f i).2, ⟨some x, cap, rfl, hl, hm, ?_⟩, fun i hi => (hfx i hi).2.2⟩
    by_cases h0 : len = 0
    · exact .inl h0
    right
    obtain ⟨b, off, spot⟩ := x
    have h1 := (hfx 0 (by omega)).1
    have hsp : spot = none := by
      cases spot with
      | none => rfl
      | some s =>
        simp [Addr.add, World.cell?] at h1
        split at h1 <;> simp at h1
    subst hsp
    refine ⟨b, off, rfl, ?_, fun i hi => ?_⟩
    · simp [Addr.add, World.cell?] at h1
      cases hb : w.heap[b]? with
      | none => rw [hb] at h1; simp at h1
      | some o => exact (Array.getElem?_eq_some_iff.1 hb).1
    · have := hfx i hi
      simp only [add_none] at this
      exact ⟨V i, this.1, this.2.1⟩

set_option maxRecDepth 100000 in
set_option maxHeartbeats 2000000 in
theorem szRuleSS_any (w : World) (v : Value) (m n : Nat) (ms : Nat → Nat) (fs : Nat → Nat → Int × ByteArray × Int × Int) (h : RawF w w.heap.size v m ms fs) (hs : ∀ i, i < m → ∀ j, j < ms i → (fs i j).2.1.size ≤ maxLen) (hn : n ≤ 1048576) :
    Calls Tryz.prog 7 #[v, .int .i64 n] w fun e w' => (e = .returned (.int .i64 (-1)) ∨ ∃ r : Nat, e = .returned (.int .i64 r) ∧ r ≤ n ∧ m ≤ n ∧ ∀ i, i < m → ms i ≤ n ∧ ∀ j, j < ms i → (fs i j).2.1.size ≤ n) ∧ Below w.heap.size w w' := by
  obtain ⟨a, cap, rfl, hc, hm, hh⟩ := h
  have HS := Lib.hid hs
  have HH := Lib.hid hh
  clear hs hh
  unfold maxLen at hm
  by_cases h0 : n < m
  · have hz : (n : Int) - (m : Int) < 0 := by omega
    go_enter Tryz.func7, Tryz.ntmps7
    go_wp2
    go_ret
    exact ⟨.inl rfl, Below.refl _ _⟩
  · have hz : ¬ (n : Int) - (m : Int) < 0 := by omega
    go_enter Tryz.func7, Tryz.ntmps7
    go_wp2
    go_loopw [1, 5] (fun x i wr => ∃ k q : Nat, k ≤ m ∧ q ≤ n ∧ i = .int .i64 k ∧ x = .int .i64 q ∧ (∀ j, j < k → ms j ≤ n ∧ ∀ t, t < ms j → (fs j t).2.1.size ≤ n) ∧ Below w.heap.size w wr) (fun _ i _ => m - (intOf i).toNat)
    case atStart => exact ⟨0, n - m, Nat.zero_le _, by omega, rfl, by simp only [Value.int.injEq, true_and]; omega, fun j hj => absurd hj (Nat.not_lt_zero _), Below.refl _ _⟩
    case round =>
      obtain ⟨k, q, hk, hq, rfl, rfl, hsm, hbel⟩ := hrel
      have HSM := Lib.hid hsm
      clear hsm
      by_cases hlt : k < m
      · have hkz : (k : Int) < (m : Int) := by omega
        rcases HH.out with h1 | ⟨b, off, rfl, hb, hcell⟩
        · omega
        obtain ⟨u, c0, hraw⟩ := hcell k hlt
        have d0 := (belCell hbel _ _ hb).trans c0
        have hraw' := (hraw.below hbel (Nat.le_refl _)).mono hbel.size
        obtain ⟨ua, ucap, hu, -⟩ := id hraw'
        have HZ := Lib.hid (szRuleS_any wr u (ms k) q (fs k) hraw' (HS.out k hlt) (by omega))
        subst hu
        have HBL := Lib.hid hbel
        clear hcell c0 hraw hraw' hbel
        go_wp2_with fail
        refine HZ.out.mono ?_
        rintro e w1 ⟨rfl | ⟨r, rfl, hr1, hr2, hr3⟩, b1⟩
        · have B1 := Lib.hid (belStep HBL.out b1)
          clear b1
          go_wp2
          go_ret
          exact ⟨.inl rfl, B1.out⟩
        · have B1 := Lib.hid (belStep HBL.out b1)
          have HX : Hid (∀ j, j < k + 1 → ms j ≤ n ∧ ∀ t, t < ms j → (fs j t).2.1.size ≤ n) := fun j hj => by
            by_cases e : j = k
            · subst e
              exact ⟨by omega, fun t ht => Nat.le_trans (hr3 t ht) hq⟩
            · exact HSM.out j (by omega)
          have h3 : ¬ (r : Int) < 0 := by omega
          clear b1 hr3
          go_wp2
          go_roundw
          case rel => exact ⟨k + 1, r, by omega, by omega, by go_num, rfl, HX.out, B1.out⟩
          case measure => simp [intOf]; omega
      · obtain rfl : k = m := by omega
        go_wp2
        go_ret
        exact ⟨.inr ⟨q, rfl, hq, by omega, HSM.out⟩, hbel⟩

set_option maxRecDepth 100000 in
set_option maxHeartbeats 2000000 in
theorem eqRuleSS_same (w : World) (v v' : Value) (L : List (List R4)) (h : Cfs w w.heap.size v L) (h' : Cfs w w.heap.size v' L) (hn : L.length ≤ 1048576) (hL : ∀ i, i < L.length → (tbAt L i).length ≤ 1048576) :
    Calls Tryz.prog 15 #[v, v'] w fun e w' => e = .returned (.bool true) ∧ Below w.heap.size w w' := by
  obtain ⟨a, cap, rfl, hc, hm, hh⟩ := h
  obtain ⟨a', cap', rfl, hc', hm', hh'⟩ := h'
  have HH := Lib.hid hh
  have HH' := Lib.hid hh'
  have HLL := Lib.hid hL
  clear hh hh' hL
  unfold maxLen at hm hm'
  generalize hN : L.length = n at *
  go_enter Tryz.func15, Tryz.ntmps15
  go_wp2
  go_loopw [5] (fun i wr => ∃ k : Nat, k ≤ n ∧ i = .int .i64 k ∧ Below w.heap.size w wr) (fun i _ => n - (intOf i).toNat)
  case atStart => exact ⟨0, Nat.zero_le _, rfl, Below.refl _ _⟩
  case round =>
    obtain ⟨k, hk, rfl, hbel⟩ := hrel
    by_cases hlt : k < n
    · have hz : (k : Int) < (n : Int) := by omega
      rcases HH.out with h1 | ⟨b, off, rfl, hb, hcell⟩
      · rw [h1] at hN; simp at hN; omega
      rcases HH'.out with h1 | ⟨b', off', rfl, hb', hcell'⟩
      · rw [h1] at hN; simp at hN; omega
      obtain ⟨u, c0, hr⟩ := hcell k hlt
      obtain ⟨u', c0', hr'⟩ := hcell' k hlt
      have HE : Hid (∀ W, Below w.heap.size w W → Calls Tryz.prog 38 #[u, u'] W fun e w' => e = .returned (.bool true) ∧ Below W.heap.size W w') := fun W hW => eqRuleS_same W u u' (tbAt L k) ((hr.below hW (Nat.le_refl _)).mono hW.size) ((hr'.below hW (Nat.le_refl _)).mono hW.size) (HLL.out k hlt)
      have d0 := (belCell hbel _ _ hb).trans c0
      have d1 := (belCell hbel _ _ hb').trans c0'
      obtain ⟨ua, ucap, hu, -⟩ := hr
      obtain ⟨ua', ucap', hu', -⟩ := hr'
      subst hu hu'
      have HBL := Lib.hid hbel
      have hbr : b < wr.heap.size := Nat.lt_of_lt_of_le hb HBL.out.size
      have hbr' : b' < wr.heap.size := Nat.lt_of_lt_of_le hb' HBL.out.size
      have q0 := fun m : Ext wr => m.cell hbr d0
      have q1 := fun m : Ext wr => m.cell hbr' d1
      clear hcell hcell' c0 c0' d0 d1 hbel
      go_wp2
      refine wp_region_ext (w0 := wr) (by kernel_rfl) (by kernel_rfl) (Below.refl _ _) ?_
      repeat (go_big_quiet_step (first | (go_at_call 38; exact ext_of (HE.out _ (belStep HBL.out (Ext.h _))))))
      refine wpQuiet_nil ?_
      rintro _ ⟨⟨w1, b1⟩, rfl⟩
      go_wp2
      go_roundw
      case rel => exact ⟨k + 1, by omega, by go_num, belStep HBL.out b1⟩
      case measure => simp [intOf]; omega
    · obtain rfl : k = n := by omega
      go_wp2
      go_ret
      exact ⟨rfl, hbel⟩

end Go.Proofs.YtjjhahhchimmlaaGreatDoor
