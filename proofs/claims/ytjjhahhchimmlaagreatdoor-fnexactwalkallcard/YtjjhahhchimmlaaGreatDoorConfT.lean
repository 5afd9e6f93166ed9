/-
  Tables of a configuration: a copy; whether they are ok, the model's and the program's answer; the program's tables.
-/
import Derived.Test.YtjjhahhchimmlaaGreatDoorConfS
import Derived.Test.YtjjhahhchimmlaaGreatDoorTabSpec
import Derived.Test.YtjjhahhchimmlaaGreatDoorTabL
import Derived.Deep.WholeRow
import Derived.Lib.SmallJoins
namespace Go.Proofs.YtjjhahhchimmlaaGreatDoor
open Go.ChangeShapes Go.WideShapes Go.ChangeAt Go.RowKit Go.Joins
set_option linter.unusedVariables false

theorem infoT : (Tryz.prog.info? 61).map (fun i => (i.zero, i.size, i.bytes)) = some (some (.slice none 0 0), 1, 24) := by kernel_rfl
theorem tab_zero (n : Nat) : List.replicate n (Value.slice none 0 0) = (madeCells #[Value.slice none 0 0] n).toList := by
  apply List.ext_getElem?
  intro j
  by_cases hj : j < n
  · simp only [madeCells, Array.toList_map, Array.toList_range, List.getElem?_map, List.getElem?_range hj, Option.map_some]
    simp [hj, Nat.mod_one]
  · rw [List.getElem?_eq_none (by simp; omega), List.getElem?_eq_none (by rw [Array.length_toList, size_madeCells]; omega)]
theorem rowKept {w w' : World} {base n size : Nat} {e : TypeId} {v : Value} {xs : List Value} (h : w.ownsRow base e size v n xs) (hb : Below w.heap.size w w') : w'.ownsRow base e size v n xs :=
  World.ownsRow.kept h (row := none) ⟨hb.os, hb.tape, hb.output, hb.size, fun k hk _ => hb.block k hk⟩ (by cases v.ownBlock <;> simp)
theorem rulFar {w : World} {base g j : Nat} {v x : Value} {l : List R4} (h : RulRow w base v l) (hb : g < base) : RulRow (w.setCell ⟨g, j, none⟩ x) base v l := by
  refine World.ownsRow.kept h (row := some g) ⟨rfl, rfl, rfl, by simp, fun k _ hk => Below.heap_setCell _ _ _ k (fun e => hk (by rw [e]))⟩ ?_
  cases hv : v.ownBlock with
  | none => exact .inl rfl
  | some k =>
    have := (World.ownsRow.lt h k hv).1
    exact .inr (fun e => by have := Option.some.inj e; omega)

set_option maxRecDepth 100000 in
set_option maxHeartbeats 2000000 in
theorem toRuleSS_any (w : World) (v : Value) (L : List (List R4)) (h : Cfs w w.heap.size v L) (hn : L.length ≤ 1048576) (hL : ∀ i, i < L.length → (tbAt L i).length ≤ 1048576) :
    Calls Tryz.prog 10 #[v] w fun e w' => ∃ u, e = .returned u ∧ Cfs w' w'.heap.size u L ∧ Below w.heap.size w w' := by
  obtain ⟨a, cap, rfl, hc, hm, hh⟩ := h
  obtain ⟨i0, hi, hz0, hz1, hz2⟩ := info_parts infoT
  have HI := Lib.hid hi
  have HZ0 := Lib.hid hz0
  have HZ1 := Lib.hid hz1
  have HZ2 := Lib.hid hz2
  have HLL := Lib.hid hL
  clear hi hz0 hz1 hz2 hL
  have HH := Lib.hid hh
  clear hh
  unfold maxLen at hm
  have HFZ := Lib.hid (tab_zero L.length)
  generalize hN : L.length = n at *
  have HN := Lib.hid hN
  clear hN
  go_enter Tryz.func10, Tryz.ntmps10
  go_wp2_with (at_make; refine wpList_make_full _ rfl _ _ 37 rfl w.heap.size 61 i0 (.slice none 0 0) 1 Tryz.underlying37 HI.out HZ0.out HZ1.out .i64 .i64 _ _ n rfl rfl rfl rfl ?b2 ?b3 (Nat.le_refl _) ?_)
  case b2 => rw [HZ2.out]; omega
  case b3 => unfold maxLen; omega
  intro w1 hown hg1
  have HB1 : Hid (Below w.heap.size w w1) := ⟨hg1.os, hg1.tape, hg1.output, hg1.size, fun k hk => hg1.block k hk (by simp)⟩
  have HR1 : Hid (w1.ownsRow w.heap.size 61 1 (.slice (some ⟨w.heap.size, 0, none⟩) n n) n (List.replicate n (Value.slice none 0 0))) := by
    show w1.ownsRow _ _ _ _ _ _
    rw [HFZ.out]
    exact hown
  clear hown hg1 HFZ
  go_wp2
  go_loopw [4] (fun i wr => ∃ (k : Nat) (us : List Value), k ≤ n ∧ i = .int .i64 k ∧ us.length = n ∧ wr.ownsRow w.heap.size 61 1 (.slice (some ⟨w.heap.size, 0, none⟩) n n) n us ∧ (∀ j, j < k → ∃ u, us[j]? = some u ∧ RulRow wr (w.heap.size + 1) u (tbAt L j)) ∧ Below w.heap.size w wr) (fun i _ => n - (intOf i).toNat)
  case atStart => exact ⟨0, _, Nat.zero_le _, rfl, by simp, HR1.out, fun j hj => absurd hj (Nat.not_lt_zero _), HB1.out⟩
  case round =>
    obtain ⟨k, us, hk, rfl, hus, hrow, hall, hbel⟩ := hrel
    have HR := Lib.hid hrow
    have HA := Lib.hid hall
    have HBL := Lib.hid hbel
    have HUS := Lib.hid hus
    have hgl := (World.ownsRow.lt hrow w.heap.size rfl).2
    clear hrow hall hus
    by_cases hlt : k < n
    · have hkz : (k : Int) < (n : Int) := by omega
      rcases HH.out with h0 | ⟨b, off, rfl, hb, hcell⟩
      · have := HN.out; rw [h0] at this; simp at this; omega
      obtain ⟨u, c0, hr⟩ := hcell k hlt
      have d0 := (belCell hbel _ _ hb).trans c0
      have HT := Lib.hid (toRuleS_any wr u (tbAt L k) ((hr.below hbel (Nat.le_refl _)).mono hbel.size) (HLL.out k hlt))
      obtain ⟨ua, ucap, hu, -⟩ := hr
      subst hu
      clear hcell c0 hbel
      go_wp2_with fail
      refine HT.out.mono ?_
      rintro e w2 ⟨x, rfl, hx, b2⟩
      obtain ⟨xa, xc, hxe, -⟩ := RulRow.rls hx
      subst hxe
      have HX := Lib.hid (RulRow.mono hx (show w.heap.size + 1 ≤ wr.heap.size by omega))
      have HR2 : Hid (w2.ownsRow w.heap.size 61 1 (.slice (some ⟨w.heap.size, 0, none⟩) n n) n us) := rowKept HR.out b2
      have HA2 : Hid (∀ j, j < k → ∃ u, us[j]? = some u ∧ RulRow w2 (w.heap.size + 1) u (tbAt L j)) := fun j hj => by
        obtain ⟨u, h1, h2⟩ := HA.out j hj
        exact ⟨u, h1, h2.below b2⟩
      have B2 := Lib.hid (belStep HBL.out b2)
      have hcl := World.ownsRow.cellAt HR2.out k (by omega)
      have hfz := World.ownsRow.frozenAt HR2.out k
      obtain ⟨uk, huk⟩ : ∃ uk, us[k]? = some uk := ⟨_, List.getElem?_eq_getElem (by rw [HUS.out]; exact hlt)⟩
      rw [huk] at hcl
      clear huk
      have hst := (World.ownsRow.stored HR2.out k (.slice xa (tbAt L k).length xc)).1
      have HST := Lib.hid hst
      clear b2 hx HR HA HBL hst d0 HT
      go_wp2
      go_roundw
      case rel =>
        refine ⟨k + 1, us.set k (.slice xa (tbAt L k).length xc), by omega, by go_num, by rw [List.length_set]; exact HUS.out, HST.out, fun j hj => ?_, B2.out.setCell (by exact Nat.le_refl _) _⟩
        by_cases e : j = k
        · subst e
          exact ⟨_, by rw [List.getElem?_set_self (by rw [HUS.out]; exact hlt)], rulFar HX.out (by omega)⟩
        · obtain ⟨u, h1, h2⟩ := HA2.out j (by omega)
          exact ⟨u, by rw [List.getElem?_set_ne (fun h => e h.symm)]; exact h1, rulFar h2 (by omega)⟩
      case measure => simp [intOf]; omega
    · obtain rfl : k = n := by omega
      go_wp2
      go_ret
      refine ⟨_, rfl, ⟨some ⟨w.heap.size, 0, none⟩, k, by rw [HN.out]; rfl, by rw [HN.out]; exact Nat.le_refl _, by unfold maxLen; omega, .inr ⟨w.heap.size, 0, rfl, hgl, fun i hi => ?_⟩⟩, hbel⟩
      rw [HN.out] at hi
      obtain ⟨u, h1, h2⟩ := HA.out i hi
      refine ⟨u, ?_, h2.rls⟩
      have hcl := World.ownsRow.cellAt HR.out i (by omega)
      rw [Nat.zero_add]
      exact hcl.trans h1

/-- One table of each switch, each ok. -/
def cfB (L : List (List R4)) : Bool := L.all tOk && decide (L.length = 4)

set_option maxRecDepth 100000 in
set_option maxHeartbeats 2000000 in
theorem sConfOk_any (w : World) (v : Value) (L : List (List R4)) (h : Cfs w w.heap.size v L) (hn : L.length ≤ 1048576) (hL : ∀ i, i < L.length → (tbAt L i).length ≤ 1048576) :
    Calls Tryz.prog 27 #[v] w fun e w' => e = .returned (.bool (cfB L)) ∧ Below w.heap.size w w' := by
  obtain ⟨a, cap, rfl, hc, hm, hh⟩ := h
  have HH := Lib.hid hh
  have HLL := Lib.hid hL
  have hat : ∀ k, k < L.length → tbAt L k ∈ L := fun k hk => by
    unfold tbAt
    rw [List.getD_eq_getElem?_getD, List.getElem?_eq_getElem hk]
    exact List.getElem_mem hk
  have HALL : Hid (∀ k, k < L.length → tOk (tbAt L k) = false → cfB L = false) := fun k hk hb => by
    unfold cfB
    have : L.all tOk = false := by
      rw [List.all_eq_false]
      exact ⟨tbAt L k, hat k hk, by simp [hb]⟩
    rw [this]
    rfl
  have HEND : Hid ((∀ k, k < L.length → tOk (tbAt L k) = true) → cfB L = decide (L.length = 4)) := fun hk => by
    unfold cfB
    have : L.all tOk = true := by
      rw [List.all_eq_true]
      intro x hx
      obtain ⟨i, hi, rfl⟩ := List.getElem_of_mem hx
      have := hk i hi
      unfold tbAt at this
      rwa [List.getD_eq_getElem?_getD, List.getElem?_eq_getElem hi] at this
    rw [this]
    rfl
  clear hh hL hat
  unfold maxLen at hm
  generalize hN : L.length = n at *
  have HN := Lib.hid hN
  clear hN
  go_enter Tryz.func27, Tryz.ntmps27
  go_wp2
  go_loopw [3] (fun i wr => ∃ k : Nat, k ≤ n ∧ i = .int .i64 (k : Int) ∧ (∀ j, j < k → tOk (tbAt L j) = true) ∧ Below w.heap.size w wr) (fun i _ => n - (intOf i).toNat)
  case atStart => exact ⟨0, Nat.zero_le _, rfl, fun j hj => absurd hj (Nat.not_lt_zero _), Below.refl _ _⟩
  case round =>
    obtain ⟨k, hk, rfl, hall, hbel⟩ := hrel
    have HA := Lib.hid hall
    have HBL := Lib.hid hbel
    clear hall
    by_cases hlt : k < n
    · have hz : (k : Int) < (n : Int) := by omega
      rcases HH.out with h1 | ⟨b, off, rfl, hb, hcell⟩
      · have := HN.out; rw [h1] at this; simp at this; omega
      obtain ⟨u, c0, hr⟩ := hcell k hlt
      have d0 := (belCell hbel _ _ hb).trans c0
      have HT := Lib.hid (sTableOk_any wr u (tbAt L k) ((hr.below hbel (Nat.le_refl _)).mono hbel.size) (HLL.out k hlt))
      have HNO := Lib.hid (HALL.out k hlt)
      have HYES : Hid (tOk (tbAt L k) = true → ∀ j, j < k + 1 → tOk (tbAt L j) = true) := fun ho j hj => by
        by_cases e : j = k
        · rw [e]; exact ho
        · exact HA.out j (by omega)
      obtain ⟨ua, ucap, hu, -⟩ := hr
      subst hu
      clear hcell c0 hbel HA
      generalize tOk (tbAt L k) = ox at *
      go_wp2_with fail
      refine HT.out.mono ?_
      rintro e w1 ⟨rfl, b1⟩
      have HB1 := Lib.hid (belStep HBL.out b1)
      clear b1 HT d0
      cases ox
      · have hF := HNO.out (by rfl)
        go_wp2
        go_ret
        exact ⟨by first | (rw [hF]; done) | simp [hF], HB1.out⟩
      have HY := Lib.hid (HYES.out (by rfl))
      go_wp2
      go_roundw
      case rel => exact ⟨k + 1, by omega, by go_num, HY.out, HB1.out⟩
      case measure => simp [intOf]; omega
    · obtain rfl : k = n := by omega
      have hF := HEND.out HA.out
      have hd : ((k : Int) == 4) = decide (k = 4) := by
        by_cases h : k = 4
        · rw [h]; rfl
        · have h' : ¬ (k : Int) = 4 := by omega
          simp [h, h']
      go_wp2
      go_ret
      exact ⟨by rw [hF]; first | rfl | (simp [hd]; done) | (rw [← hd]; rfl), HBL.out⟩

end Go.Proofs.YtjjhahhchimmlaaGreatDoor
