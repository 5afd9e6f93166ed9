/-
  The program's TableArea.
-/
import Derived.Test.YtahobeigbjhbbaaGreatDoorTabAreaI
import Derived.Test.YtahobeigbjhbbaaGreatDoorTabAreaS
import Derived.Deep.RegionWith
namespace Go.Proofs.YtahobeigbjhbbaaGreatDoor
open Go.ChangeShapes Go.WideShapes Go.ChangeAt Go.RowKit Go.Joins
open Go.Shelf
set_option linter.unusedVariables false

theorem PtrRow.at {w : World} {base : Nat} {v : Value} {ps : List (Option Addr)} (h : PtrRow w base v ps) {k : Nat} (hk : k < ps.length) : ∃ g cap, v = .slice (some ⟨g, 0, none⟩) ps.length cap ∧ ps.length ≤ cap ∧ cap ≤ maxLen ∧ base ≤ g ∧ g < w.heap.size ∧ w.cell? ⟨g, k, none⟩ = some (.pointer (ptAt ps k)) := by
  have h0 := h
  obtain ⟨hl, h1 | ⟨g, cap, cur, rfl, hb, hg, hc, hm, hs, ht⟩⟩ := h
  · have := h1.2; omega
  · refine ⟨g, cap, rfl, hc, hm, hb, (World.ownsRow.lt h0 g rfl).2, ?_⟩
    have := World.ownsRow.cellAt h0 k (by omega)
    rw [this, List.getElem?_map, ptAt, List.getD_eq_getElem?_getD, List.getElem?_eq_getElem hk]
    rfl

set_option maxRecDepth 100000 in
set_option maxHeartbeats 4000000 in
theorem iTableArea_any (w : World) (v : Value) (l : List R4) (h : Rls w w.heap.size v l) (hn : l.length ≤ 1048576) (q : Int) (hE : EtOk w) :
    Calls Tryz.prog 38 #[v, .int .i64 q] w fun e w' => ∃ u, e = .returned u ∧ StrRow w' w.heap.size u (areaT l q) ∧ Below w.heap.size w w' := by
  have HC := Lib.hid (readTable_any w v l h hn hE)
  obtain ⟨a, cap, rfl⟩ : ∃ a cap, v = .slice a l.length cap := by
    obtain ⟨a, cap, rfl, -⟩ := h
    exact ⟨a, cap, rfl⟩
  clear h hE
  by_cases hin : tOk l = true ∧ -1 ≤ q ∧ q < (l.length : Int)
  · obtain ⟨ht, hq1, hq2⟩ := hin
    have h48 := tOk_len ht
    have HT : Hid (areaT l q = tidyT (areaM l q)) := by
      show _ = _
      unfold areaT inB
      rw [ht, decide_eq_true hq1, decide_eq_true (show q ≤ (l.length : Int) - 1 by omega)]
      rfl
    rw [HT.out]
    have hq1' : decide (q < -1) = false := by simp; omega
    have hq2' : decide ((l.length : Int) ≤ q) = false := by simp; omega
    have HRA := Lib.hid (restF_area l)
    have HAA : Hid (∀ k : Nat, k < l.length → areaF l k = areaM l (k : Int)) := fun k hk => areaF_area l hk
    rw [ht] at HC
    go_enter Tryz.func38, Tryz.ntmps38
    go_wp2_with fail
    refine HC.out.mono ?_
    rintro e w1 ⟨g, rfl, hg, hlr, b1⟩
    have HLR := Lib.hid (hlr trivial)
    have hgl : g < w1.heap.size := (Array.getElem?_eq_some_iff.1 (hlr trivial).choose_spec.1).1
    have B1 := Lib.hid b1
    have s1 := b1.size
    have L0 := Lib.hid (newBlockM w1 (lstO g))
    unfold lstV
    clear hlr b1 HC
    by_cases hz : q = -1
    · subst hz
      go_wp2
      generalize hV : w1.alloc (.cells #[.func (.func 102) #[] #[], .pointer (some ⟨g, 0, none⟩)] 75) = V at *
      have hvs : w1.heap.size < V.heap.size := by rw [← hV]; simp
      have BV : Hid (Below w1.heap.size w1 V.drew) := by show Below _ _ _; rw [← hV]; exact (below_alloc1 w1 _).drew
      have LV : Hid (V.heap[w1.heap.size]? = some (lstO g)) := by show _ = _; rw [← hV]; exact newBlockM w1 _
      clear hV
      obtain ⟨v0, v1, -⟩ := cells2 (show V.drew.heap[w1.heap.size]? = some (.cells #[.func (.func 102) #[] #[], .pointer (some ⟨g, 0, none⟩)] 75) from LV.out)
      go_region_with (first | (go_at_call 86; ((with_reducible refine (newDiagram_any _).mono ?_); rintro ex w2 ⟨b, e, rfl, hb, d2, b2⟩; have D2 := Lib.hid d2; have s2 := b2.size; have hb2 : w1.heap.size ≤ b := Nat.le_trans (Nat.le_of_lt hvs) hb; have B12 : Hid (Below w1.heap.size w1 w2) := BV.out.trans (b2.mono (Nat.le_of_lt hvs)); have L2 : Hid (w2.heap[w1.heap.size]? = some (lstO g)) := ((b2.block _ hvs).trans LV.out); obtain ⟨t0, t1, -⟩ := cells2 (show w2.heap[w1.heap.size]? = some (.cells #[.func (.func 102) #[] #[], .pointer (some ⟨g, 0, none⟩)] 75) from L2.out); clear d2 b2 hb)) | (go_at_call 87; (have HAS := areas_any w2 w1 g b e [] l (by omega) HLR.out B12.out hb2 D2.out; unfold lstV at HAS; (with_reducible refine HAS.mono ?_); clear HAS; rintro ex w3 ⟨u, p, ps, E', rfl, hrow, har, hg3⟩; have HROW := Lib.hid hrow; have HAR := Lib.hid har; have HG3 := Lib.hid hg3; clear hrow har hg3)))
      all_goals
        have s3 := HG3.out.size
        have s1' := B1.out.size
        have R3 : Hid (Rep E' e 6 p (areaM l (-1))) := by rw [← HRA.out]; exact HAR.out.2.1
        have D3 := Lib.hid HAR.out.1
        have B3 : Hid (Below w.heap.size w w3) := (B1.out.trans (B12.out.mono s1')).trans (sBel HG3.out (by omega) (by have := B12.out.size; omega))
        go_wp2_with fail
        refine (texts_any _ _ _ _ _ _ D3.out R3.out).mono ?_
        rintro ex w4 ⟨v4, rfl, hrow, b4⟩
        have HS := Lib.hid (hrow.mono B3.out.size)
        have B4 := Lib.hid (belStep B3.out b4)
        clear hrow b4
        go_wp2
        go_ret
        exact ⟨_, rfl, HS.out, B4.out⟩
    · obtain ⟨k, rfl⟩ : ∃ k : Nat, q = k := ⟨q.toNat, by omega⟩
      have hk : k < l.length := by omega
      have hzb : ((k : Int) == -1) = false := by simp
      go_wp2
      generalize hV : w1.alloc (.cells #[.func (.func 102) #[] #[], .pointer (some ⟨g, 0, none⟩)] 75) = V at *
      have hvs : w1.heap.size < V.heap.size := by rw [← hV]; simp
      have BV : Hid (Below w1.heap.size w1 V.drew) := by show Below _ _ _; rw [← hV]; exact (below_alloc1 w1 _).drew
      have LV : Hid (V.heap[w1.heap.size]? = some (lstO g)) := by show _ = _; rw [← hV]; exact newBlockM w1 _
      clear hV
      obtain ⟨v0, v1, -⟩ := cells2 (show V.drew.heap[w1.heap.size]? = some (.cells #[.func (.func 102) #[] #[], .pointer (some ⟨g, 0, none⟩)] 75) from LV.out)
      go_region_with (first | (go_at_call 86; ((with_reducible refine (newDiagram_any _).mono ?_); rintro ex w2 ⟨b, e, rfl, hb, d2, b2⟩; have D2 := Lib.hid d2; have s2 := b2.size; have hb2 : w1.heap.size ≤ b := Nat.le_trans (Nat.le_of_lt hvs) hb; have B12 : Hid (Below w1.heap.size w1 w2) := BV.out.trans (b2.mono (Nat.le_of_lt hvs)); have L2 : Hid (w2.heap[w1.heap.size]? = some (lstO g)) := ((b2.block _ hvs).trans LV.out); obtain ⟨t0, t1, -⟩ := cells2 (show w2.heap[w1.heap.size]? = some (.cells #[.func (.func 102) #[] #[], .pointer (some ⟨g, 0, none⟩)] 75) from L2.out); clear d2 b2 hb)) | (go_at_call 87; (have HAS := areas_any w2 w1 g b e [] l (by omega) HLR.out B12.out hb2 D2.out; unfold lstV at HAS; (with_reducible refine HAS.mono ?_); clear HAS; rintro ex w3 ⟨u, p, ps, E', rfl, hrow, har, hg3⟩; have HROW := Lib.hid hrow; have HAR := Lib.hid har; have HG3 := Lib.hid hg3; clear hrow har hg3)))
      all_goals
        have s3 := HG3.out.size
        have s1' := B1.out.size
        have R3 : Hid (Rep E' e 6 (ptAt ps k) (areaM l (k : Int))) := by rw [← HAA.out k hk]; exact HAR.out.2.2.2 k hk
        have D3 := Lib.hid HAR.out.1
        have B3 : Hid (Below w.heap.size w w3) := (B1.out.trans (B12.out.mono s1')).trans (sBel HG3.out (by omega) (by have := B12.out.size; omega))
        have hlp := HAR.out.2.2.1
        obtain ⟨gg, cp, rfl, hcp, hmx, -, hgg, hcell⟩ := HROW.out.at (k := k) (by omega)
        have hkp : (k : Int) < (ps.length : Int) := by omega
        unfold maxLen at hmx
        clear HROW HAR hlp
        generalize ps.length = m at *
        generalize ptAt ps k = pk at *
        go_wp2_with fail
        refine (texts_any _ _ _ _ _ _ D3.out R3.out).mono ?_
        rintro ex w4 ⟨v4, rfl, hrow, b4⟩
        have HS := Lib.hid (hrow.mono B3.out.size)
        have B4 := Lib.hid (belStep B3.out b4)
        clear hrow b4
        go_wp2
        go_ret
        exact ⟨_, rfl, HS.out, B4.out⟩
  · have HT : Hid (areaT l q = []) := by
      show _ = _
      unfold areaT inB
      by_cases ht : tOk l = true
      · by_cases h1 : -1 ≤ q
        · have h2 : ¬ q ≤ (l.length : Int) - 1 := fun hh => hin ⟨ht, h1, by omega⟩
          rw [decide_eq_false h2]
          simp
        · rw [decide_eq_false h1]
          simp
      · simp [ht]
    rw [HT.out]
    go_enter Tryz.func38, Tryz.ntmps38
    go_wp2_with fail
    refine HC.out.mono ?_
    rintro e w1 ⟨g, rfl, hg, hlr, b1⟩
    have B1 := Lib.hid (b1.alloc b1.size (lstO g))
    unfold lstV
    clear hlr b1 HC hg
    cases ht : tOk l
    · go_wp2
      go_ret
      exact ⟨_, rfl, ⟨rfl, .inl ⟨rfl, rfl⟩⟩, B1.out⟩
    by_cases h1 : q < -1
    · go_wp2
      go_ret
      exact ⟨_, rfl, ⟨rfl, .inl ⟨rfl, rfl⟩⟩, B1.out⟩
    have h2 : (l.length : Int) ≤ q := by
      have : ¬ q < (l.length : Int) := fun hh => hin ⟨ht, by omega, hh⟩
      omega
    have h1' : decide (q < -1) = false := by simp; omega
    clear hin
    go_wp2
    go_ret
    exact ⟨_, rfl, ⟨rfl, .inl ⟨rfl, rfl⟩⟩, B1.out⟩

end Go.Proofs.YtahobeigbjhbbaaGreatDoor
