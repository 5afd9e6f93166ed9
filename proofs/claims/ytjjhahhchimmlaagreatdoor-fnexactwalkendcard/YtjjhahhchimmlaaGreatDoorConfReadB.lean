/-
  The program's tables of a configuration, read: readConf, ConfOk.
-/
import Derived.Test.YtjjhahhchimmlaaGreatDoorConfRead
namespace Go.Proofs.YtjjhahhchimmlaaGreatDoor
open Go.ChangeShapes Go.WideShapes Go.ChangeAt Go.RowKit Go.Joins
set_option linter.unusedVariables false

/-- What readConf leaves: eight cells; if all is ok they are those of the tables. -/
def ConfRd (L : List (List R4)) (w : World) (e : Ending) (w' : World) : Prop :=
  ∃ (gs : Nat → Nat) (k : Nat), e = .returned (.tuple #[.agg (cF gs k), .bool (cfB L)]) ∧ (cfB L = true → k = 4 ∧ ∀ j, j < 4 → w.heap.size ≤ gs j ∧ LR w' (gs j) (tbAt L j)) ∧ Below w.heap.size w w'

set_option maxRecDepth 100000 in
set_option maxHeartbeats 4000000 in
theorem readConf_any (w : World) (v : Value) (L : List (List R4)) (h : Cfs w w.heap.size v L) (hn : L.length ≤ 1048576) (hL : ∀ i, i < L.length → (tbAt L i).length ≤ 1048576) (hE : EtOk w) :
    Calls Tryz.prog 53 #[v] w (ConfRd L w) := by
  obtain ⟨a, cap, rfl, hc, hm, hh⟩ := h
  have HH := Lib.hid hh
  have HLL := Lib.hid hL
  have HE := Lib.hid hE
  have hat : ∀ k, k < L.length → tbAt L k ∈ L := fun k hk => by
    unfold tbAt
    rw [List.getD_eq_getElem?_getD, List.getElem?_eq_getElem hk]
    exact List.getElem_mem hk
  have HALL : Hid (∀ k, k < L.length → tOk (tbAt L k) = false → cfB L = false) := fun k hk hb => by
    unfold cfB
    have : L.all tOk = false := by
      rw [List.all_eq_false]
      exact ⟨tbAt L k, hat k hk, by simp [hb]⟩
    rw [this]
    rfl
  have HEND : Hid ((∀ k, k < L.length → tOk (tbAt L k) = true) → cfB L = decide (L.length = 4)) := fun hk => by
    unfold cfB
    have : L.all tOk = true := by
      rw [List.all_eq_true]
      intro x hx
      obtain ⟨i, hi, rfl⟩ := List.getElem_of_mem hx
      have := hk i hi
      unfold tbAt at this
      rwa [List.getD_eq_getElem?_getD, List.getElem?_eq_getElem hi] at this
    rw [this]
    rfl
  have HBAD : Hid (L.length ≠ 4 → cfB L = false) := fun hk => by
    unfold cfB
    rw [show decide (L.length = 4) = false from by simp [hk], Bool.and_false]
  clear hh hL hat hE
  unfold maxLen at hm
  generalize hN : L.length = n at *
  have HN := Lib.hid hN
  clear hN
  go_enter Tryz.func53, Tryz.ntmps53
  go_wp2_with (refine ct_alloc rfl rfl ?_)
  intro w1 p1 b1 s1
  go_wp2_with (refine ct_alloc rfl rfl ?_)
  intro w2 p2 b2 s2
  have p1' := (b2.block w.heap.size (by omega)).trans p1
  have B2 := Lib.hid (b1.trans (b2.mono (Nat.le_succ _)))
  have P1 := Lib.hid p1'
  have P2 := Lib.hid p2
  have hs2 : w2.heap.size = w.heap.size + 2 := by omega
  clear p1 p2 p1' b1 b2 s2
  by_cases h4 : n = 4
  · subst h4
    go_wp2_with fail
    go_loopw [15] (fun i wr => ∃ (k : Nat) (gs : Nat → Nat), k ≤ 4 ∧ i = .int .i64 (k : Int) ∧ wr.heap[w.heap.size + 1]? = some (.cells (cF gs k) 74) ∧ wr.heap[w.heap.size]? = some (.cells (cF (fun _ => 0) 0) 74) ∧ (∀ j, j < k → tOk (tbAt L j) = true ∧ w.heap.size + 1 < gs j ∧ LR wr (gs j) (tbAt L j)) ∧ Below w.heap.size w wr) (fun i _ => 4 - (intOf i).toNat)
    case atStart => exact ⟨0, fun _ => 0, by omega, rfl, P2.out, P1.out, fun j hj => absurd hj (Nat.not_lt_zero _), B2.out⟩
    case round =>
      obtain ⟨k, gs, hk, rfl, hp2, hp1, hall, hbel⟩ := hrel
      have Q2 := Lib.hid hp2
      have Q1 := Lib.hid hp1
      have HA := Lib.hid hall
      have HBL := Lib.hid hbel
      have hws : w.heap.size + 1 < wr.heap.size := (Array.getElem?_eq_some_iff.1 hp2).1
      clear hp2 hp1 hall
      by_cases hlt : k < 4
      · have hz : (k : Int) < 4 := by omega
        rcases HH.out with h1 | ⟨b, off, rfl, hb, hcell⟩
        · have := HN.out; rw [h1] at this; simp at this
        obtain ⟨u, c0, hr⟩ := hcell k hlt
        have d0 := (belCell hbel _ _ hb).trans c0
        have HT := Lib.hid (readTable_any wr u (tbAt L k) ((hr.below hbel (Nat.le_refl _)).mono hbel.size) (HLL.out k hlt) (HE.out.below hbel))
        have HNO := Lib.hid (HALL.out k hlt)
        obtain ⟨ua, ucap, hu, -⟩ := hr
        subst hu
        clear hcell c0 hbel
        unfold lstV at HT
        generalize hto : tOk (tbAt L k) = ok at *
        have HTO := Lib.hid hto
        clear hto
        go_wp2_with fail
        refine HT.out.mono ?_
        rintro e w3 ⟨g, rfl, hg, hlr, b3⟩
        have B3 := Lib.hid (belStep HBL.out b3)
        have R2 := Lib.hid ((b3.block (w.heap.size + 1) hws).trans Q2.out)
        have R1 := Lib.hid ((b3.block w.heap.size (by omega)).trans Q1.out)
        have s3 := b3.size
        have HA3 : Hid (∀ j, j < k → tOk (tbAt L j) = true ∧ w.heap.size + 1 < gs j ∧ LR w3 (gs j) (tbAt L j)) := fun j hj => by
          obtain ⟨h1, h2, h3⟩ := HA.out j hj
          exact ⟨h1, h2, h3.below b3⟩
        have HLR := Lib.hid hlr
        have hA := below_alloc1 w3 (.cells #[.func (.func 77) #[] #[], .pointer (some ⟨g, 0, none⟩)] 72)
        have HAl := Lib.hid hA
        have RA2 := Lib.hid ((hA.block (w.heap.size + 1) (by omega)).trans R2.out)
        have RA1 := Lib.hid ((hA.block w.heap.size (by omega)).trans R1.out)
        clear b3 hlr HT d0 HA Q2 Q1 hA
        cases ok
        · have hF := HNO.out (by trivial)
          go_wp2_with (first | refine ct_load rfl _ rfl _ rfl _ _ RA2.out ?_ | refine ct_store rfl _ _ rfl _ rfl _ _ rfl _ _ RA1.out ?_)
          intro w4 p4 g4
          go_wp2
          refine bodyPost_ret (v := .tuple #[.agg (cF gs k), .bool false]) (ct_results Tryz.results53 _ _ _ _ _ _ rfl rfl p4) rfl ⟨_, _, by rw [hF], (fun h => by rw [hF] at h; cases h), (belStep B3.out HAl.out).trans (ct_grown g4 (Nat.le_refl _) (by simp; omega))⟩
        · obtain ⟨⟨x, hx⟩, ⟨y, hy⟩, hfz⟩ := cF_cell RA2.out hlt
          have hF0 := hfz (k * 2)
          have hF1 := hfz (k * 2 + 1)
          clear hfz
          have hgw := hg
          have hsA : (w3.alloc (.cells #[.func (.func 77) #[] #[], .pointer (some ⟨g, 0, none⟩)] 72)).heap.size = w3.heap.size + 1 := World.size_alloc _ _
          have HB4 := Lib.hid (belStep B3.out HAl.out)
          have HLR4 : Hid (LR (w3.alloc (.cells #[.func (.func 77) #[] #[], .pointer (some ⟨g, 0, none⟩)] 72)) g (tbAt L k)) := (HLR.out rfl).below HAl.out
          have HA4 : Hid (∀ j, j < k → tOk (tbAt L j) = true ∧ w.heap.size + 1 < gs j ∧ LR (w3.alloc (.cells #[.func (.func 77) #[] #[], .pointer (some ⟨g, 0, none⟩)] 72)) (gs j) (tbAt L j)) := fun j hj => ⟨(HA3.out j hj).1, (HA3.out j hj).2.1, (HA3.out j hj).2.2.below HAl.out⟩
          clear HA3 HLR HAl
          go_wp2_with fail
          generalize w3.alloc _ = W4 at *
          refine ⟨⟨k + 1, fun i => if i = k then g else gs i, by omega, by go_num, ?_, ?_, fun j hj => ?_, ?_⟩, by simp [intOf]; omega⟩
          · rw [← cF_step gs g hlt]
            exact block_setCell (block_setCell RA2.out _) _
          · exact (Below.heap_setCell _ _ _ _ (by dsimp only; omega)).trans ((Below.heap_setCell _ _ _ _ (by dsimp only; omega)).trans RA1.out)
          · by_cases e : j = k
            · subst e
              dsimp only
              rw [if_pos rfl]
              exact ⟨HTO.out, by omega, (HLR4.out.far (by omega)).far (by omega)⟩
            · dsimp only
              rw [if_neg e]
              obtain ⟨h1, h2, h3⟩ := HA4.out j (by omega)
              exact ⟨h1, h2, (h3.far h2).far h2⟩
          · exact (HB4.out.setCell (by dsimp only; omega) _).setCell (by dsimp only; omega) _
      · obtain rfl : k = 4 := by omega
        have hF : cfB L = true := by rw [HEND.out fun j hj => (HA.out j hj).1]; decide
        have HFF := Lib.hid hF
        clear hF hlt
        go_wp2_with (first | refine ct_load rfl _ rfl _ rfl _ _ Q2.out ?_ | refine ct_store rfl _ _ rfl _ rfl _ _ rfl _ _ Q1.out ?_)
        intro w4 p4 g4
        go_wp2
        refine bodyPost_ret (v := .tuple #[.agg (cF gs 4), .bool true]) (ct_results Tryz.results53 _ _ _ _ _ _ rfl rfl p4) rfl ⟨gs, 4, by rw [HFF.out], (fun _ => ⟨rfl, fun j hj => ⟨by have := (HA.out j hj).2.1; omega, (HA.out j hj).2.2.far' (Nat.lt_trans (Nat.lt_succ_self _) (HA.out j hj).2.1) g4⟩⟩), HBL.out.trans (ct_grown g4 (Nat.le_refl _) (by omega))⟩
  · have hF := HBAD.out h4
    have h4' : ((n : Int) == 4) = false := by simp; omega
    have h4n : ¬ (n : Int) = 4 := by omega
    go_wp2_with (first | refine ct_load rfl _ rfl _ rfl _ _ P2.out ?_ | refine ct_store rfl _ _ rfl _ rfl _ _ rfl _ _ P1.out ?_)
    intro w3 p3 g3
    go_wp2
    refine bodyPost_ret (v := .tuple #[.agg (cF (fun _ => 0) 0), .bool false]) (ct_results Tryz.results53 _ _ _ _ _ _ rfl rfl p3) rfl ⟨_, _, by rw [hF], (fun h => by rw [hF] at h; cases h), B2.out.trans (ct_grown g3 (Nat.le_refl _) (by omega))⟩

end Go.Proofs.YtjjhahhchimmlaaGreatDoor
