/-
  Slices of strings that a call is handed: where they lie, what the statements' own helpers do with them (their sizes, a copy, whether two are the same).
-/
import Derived.Test.YtcbnecpcmellhaaStrRow
import Derived.SliceStrings
namespace Go.Proofs.Ytcbnecpcmellhaa
open Go.ChangeShapes Go.WideShapes Go.ChangeAt Go.RowKit Go.Joins
set_option linter.unusedVariables false

/-- A value is a slice with these strings, in a block below g (or it has none). -/
def Strs (w : World) (g : Nat) (v : Value) (l : List ByteArray) : Prop :=
  ∃ (a : Option Addr) (cap : Nat), v = .slice a l.length cap ∧ l.length ≤ cap ∧ cap ≤ maxLen ∧
    (l = [] ∨ ∃ b off, a = some ⟨b, off, none⟩ ∧ b < g ∧ ∀ i, i < l.length → w.cell? ⟨b, off + i, none⟩ = some (.string (strAt l i)))
theorem Strs.below {w w' : World} {g n : Nat} {v : Value} {l : List ByteArray} (h : Strs w g v l) (hb : Below n w w') (hg : g ≤ n) : Strs w' g v l := by
  obtain ⟨a, cap, hv, hc, hm, h | ⟨b, off, ha, hbg, hcell⟩⟩ := h
  · exact ⟨a, cap, hv, hc, hm, .inl h⟩
  · exact ⟨a, cap, hv, hc, hm, .inr ⟨b, off, ha, hbg, fun i hi => (hb.cell (p := ⟨b, off + i, none⟩) (Nat.lt_of_lt_of_le hbg hg)).trans (hcell i hi)⟩⟩
theorem Strs.mono {w : World} {g g' : Nat} {v : Value} {l : List ByteArray} (h : Strs w g v l) (hg : g ≤ g') : Strs w g' v l := by
  obtain ⟨a, cap, hv, hc, hm, h | ⟨b, off, ha, hbg, hcell⟩⟩ := h
  · exact ⟨a, cap, hv, hc, hm, .inl h⟩
  · exact ⟨a, cap, hv, hc, hm, .inr ⟨b, off, ha, Nat.lt_of_lt_of_le hbg hg, hcell⟩⟩
theorem StrRow.strs {w : World} {base : Nat} {v : Value} {l : List ByteArray} (h : StrRow w base v l) : Strs w w.heap.size v l := by
  rcases h.form with ⟨rfl, rfl⟩ | ⟨g, cap, rfl, hb, hg, hc, hm, hcell, hfr⟩
  · exact ⟨none, 0, rfl, Nat.le_refl _, by unfold maxLen; omega, .inl rfl⟩
  · exact ⟨_, cap, rfl, hc, hm, .inr ⟨g, 0, rfl, hg, fun i hi => by rw [Nat.zero_add]; exact hcell i hi⟩⟩
theorem Strs.nil (w : World) (g : Nat) : Strs w g (.slice none 0 0) [] := ⟨none, 0, rfl, Nat.le_refl _, by unfold maxLen; omega, .inl rfl⟩

/-- One that came in. -/
theorem strs_of {H : Type} {enc : TypeId × Value → H} {w : World} {v : Value} {d : DataW H} {ps : List MemPlace}
    (h : DataW.Trod enc Try.prog w 0 (fun _ => true) true 22 v d ps) (hv : ∃ a len cap, v = .slice a len cap) : ∃ l, Strs w w.heap.size v l ∧ ∀ s ∈ l, s.size ≤ maxLen := by
  obtain ⟨a, len, cap, rfl⟩ := hv
  obtain ⟨fuel, hf⟩ := h
  rcases open_strings Try.underlying22 Try.underlying9 (by kernel_rfl) hf with ⟨hcs, _⟩ | ⟨x, l, c, zs, hcs, _, hl, hm, hz, _, hcell, hwz⟩
  · simp [Value.cells] at hcs
    obtain ⟨rfl, rfl, rfl⟩ := hcs
    exact ⟨[], Strs.nil _ _, by simp⟩
  · simp [Value.cells] at hcs
    obtain ⟨rfl, rfl, rfl⟩ := hcs
    have hzl : zs.length = cap := by simpa using hz
    have hl' : (zs.take len).length = len := by simp; omega
    refine ⟨zs.take len, ⟨some x, cap, by rw [hl'], by omega, hm, ?_⟩, fun s hs => hwz s (List.mem_of_mem_take hs)⟩
    by_cases h0 : len = 0
    · exact .inl (by simp [h0])
    right
    obtain ⟨b, off, spot⟩ := x
    have h1 := hcell 0 (by omega)
    have hsp : spot = none := by
      cases spot with
      | none => rfl
      | some s =>
        simp [Addr.add, World.cell?] at h1
        split at h1 <;> simp at h1
    subst hsp
    refine ⟨b, off, rfl, ?_, fun i hi => ?_⟩
    · have := hcell 0 (by omega)
      simp [Addr.add, World.cell?] at this
      cases hb : w.heap[b]? with
      | none => rw [hb] at this; simp at this
      | some o => exact (Array.getElem?_eq_some_iff.1 hb).1
    · rw [hl'] at hi
      have hc := hcell i (by omega)
      have e1 : (Addr.add ⟨b, off, none⟩ i) = ⟨b, off + i, none⟩ := by
        unfold Addr.add
        split
        · rename_i hh; subst hh; rfl
        · rfl
      rw [e1] at hc
      rw [hc, strAt, List.getD_eq_getElem?_getD, List.getD_eq_getElem?_getD, List.getElem?_take_of_lt hi]
      rfl

/-- No more than so many, none of them longer. -/
def Small (n : Nat) (l : List ByteArray) : Prop := l.length ≤ n ∧ ∀ i, i < l.length → (strAt l i).size ≤ n

set_option maxHeartbeats 2000000 in
theorem szStringS_any (w : World) (v : Value) (l : List ByteArray) (n : Nat) (h : Strs w w.heap.size v l) (hs : ∀ i, i < l.length → (strAt l i).size ≤ maxLen) (hn : n ≤ 1048576) :
    Calls Try.prog 15 #[v, .int .i64 n] w fun e w' => (e = .returned (.int .i64 (-1)) ∨ ∃ r : Nat, e = .returned (.int .i64 r) ∧ r ≤ n ∧ Small n l) ∧ Below w.heap.size w w' := by
  obtain ⟨a, cap, rfl, hc, hm, hh⟩ := h
  have HS := Lib.hid hs
  have HH := Lib.hid hh
  clear hs hh
  unfold maxLen at hm HS
  generalize hN : l.length = m at *
  by_cases h0 : n < m
  · have hz : (n : Int) - (m : Int) < 0 := by omega
    go_enter Try.func15, Try.ntmps15
    go_wp2
    go_ret
    exact ⟨.inl rfl, Below.refl _ _⟩
  · have hz : ¬ (n : Int) - (m : Int) < 0 := by omega
    go_enter Try.func15, Try.ntmps15
    go_wp2
    go_loopw [1, 5] (fun x i wr => ∃ k q : Nat, k ≤ m ∧ q ≤ n ∧ i = .int .i64 k ∧ x = .int .i64 q ∧ (∀ j, j < k → (strAt l j).size ≤ n) ∧ Below w.heap.size w wr) (fun _ i _ => m - (intOf i).toNat)
    case atStart => exact ⟨0, n - m, Nat.zero_le _, by omega, rfl, by simp only [Value.int.injEq, true_and]; omega, fun j hj => absurd hj (Nat.not_lt_zero _), Below.refl _ _⟩
    case round =>
      obtain ⟨k, q, hk, hq, rfl, rfl, hsm, hbel⟩ := hrel
      have HSM := Lib.hid hsm
      clear hsm
      by_cases hlt : k < m
      · have hkz : (k : Int) < (m : Int) := by omega
        rcases HH.out with h1 | ⟨b, off, rfl, hb, hcell⟩
        · rw [h1] at hN; simp at hN; omega
        have c1 : wr.cell? ⟨b, off + k, none⟩ = some (.string (strAt l k)) := (belCell hbel _ _ hb).trans (hcell k hlt)
        have hsz := HS.out k hlt
        clear hcell
        have hkk : (strAt l k).size ≤ q ∨ q < (strAt l k).size := by omega
        have HX : Hid (∀ j, j < k + 1 → (strAt l k).size ≤ q → (strAt l j).size ≤ n) := fun j hj hle => by
          by_cases e : j = k
          · subst e; omega
          · exact HSM.out j (by omega)
        generalize strAt l k = s at *
        rcases hkk with hle | hgt
        · have h3 : ¬ (q : Int) - (s.size : Int) < 0 := by omega
          go_wp2
          go_roundw
          case rel => exact ⟨k + 1, q - s.size, by omega, by omega, by go_num, by simp only [Value.int.injEq, true_and]; omega, fun j hj => HX.out j hj hle, hbel⟩
          case measure => simp [intOf]; omega
        · have h3 : (q : Int) - (s.size : Int) < 0 := by omega
          go_wp2
          go_ret
          exact ⟨.inl rfl, hbel⟩
      · obtain rfl : k = m := by omega
        go_wp2
        go_ret
        exact ⟨.inr ⟨q, rfl, hq, by rw [hN]; omega, fun i hi => HSM.out i (by omega)⟩, hbel⟩

theorem szStringS_big (w : World) (v : Value) (l : List ByteArray) (h : Strs w w.heap.size v l) (hs : ∀ s ∈ l, s.size ≤ maxLen) :
    Calls Try.prog 15 #[v, .int .i64 1048576] w fun e w' => (e = .returned (.int .i64 (-1)) ∨ ∃ r : Nat, e = .returned (.int .i64 r) ∧ r ≤ 1048576 ∧ Small 1048576 l) ∧ Below w.heap.size w w' :=
  szStringS_any w v l 1048576 h (fun i hi => hs _ (by rw [strAt, List.getD_eq_getElem?_getD, List.getElem?_eq_getElem hi]; exact List.getElem_mem hi)) (Nat.le_refl _)

end Go.Proofs.Ytcbnecpcmellhaa
