/-
  The program's tables of a configuration, read.
  The program's tables of a configuration, read: readConf, ConfOk.
-/
import Derived.Test.YtjjhahhchimmlaaGreatDoorConfT
import Derived.Test.YtjjhahhchimmlaaGreatDoorTabOkI

namespace Go.Proofs.YtjjhahhchimmlaaGreatDoor
open Go.ChangeShapes Go.WideShapes Go.ChangeAt Go.RowKit Go.Joins
set_option linter.unusedVariables false

def fnC : Value := .func (.func 77) #[] #[]
/-- The eight cells of four tables of which so many are read. -/
def cF (gs : Nat → Nat) (k : Nat) : Array Value := #[if 0 < k then fnC else .nilFunc, if 0 < k then .pointer (some ⟨gs 0, 0, none⟩) else .pointer none, if 1 < k then fnC else .nilFunc, if 1 < k then .pointer (some ⟨gs 1, 0, none⟩) else .pointer none,
  if 2 < k then fnC else .nilFunc, if 2 < k then .pointer (some ⟨gs 2, 0, none⟩) else .pointer none, if 3 < k then fnC else .nilFunc, if 3 < k then .pointer (some ⟨gs 3, 0, none⟩) else .pointer none]
theorem cF_size (gs : Nat → Nat) (k : Nat) : (cF gs k).size = 8 := rfl
theorem cF_one (gs : Nat → Nat) (k : Nat) : (cF gs k).all (·.oneCell') = true := by
  unfold cF fnC
  by_cases h0 : 0 < k <;> by_cases h1 : 1 < k <;> by_cases h2 : 2 < k <;> by_cases h3 : 3 < k <;> simp [h0, h1, h2, h3, Value.oneCell']
theorem cF_step (gs : Nat → Nat) (g : Nat) {k : Nat} (h : k < 4) : ((cF gs k).setIfInBounds (k * 2) fnC).setIfInBounds (k * 2 + 1) (.pointer (some ⟨g, 0, none⟩)) = cF (fun i => if i = k then g else gs i) (k + 1) := by
  have : k = 0 ∨ k = 1 ∨ k = 2 ∨ k = 3 := by omega
  rcases this with rfl | rfl | rfl | rfl <;> rfl
theorem cF_cell {w : World} {b k : Nat} {gs : Nat → Nat} {t : TypeId} (h : w.heap[b]? = some (.cells (cF gs k) t)) (hk : k < 4) : (∃ x, w.cell? ⟨b, k * 2, none⟩ = some x) ∧ (∃ y, w.cell? ⟨b, k * 2 + 1, none⟩ = some y) ∧ ∀ j, w.frozen? ⟨b, j, none⟩ = false := by
  refine ⟨⟨(cF gs k)[k * 2]'(by rw [cF_size]; omega), ?_⟩, ⟨(cF gs k)[k * 2 + 1]'(by rw [cF_size]; omega), ?_⟩, fun j => ?_⟩
  · simp only [World.cell?, h]
    exact Array.getElem?_eq_getElem _
  · simp only [World.cell?, h]
    exact Array.getElem?_eq_getElem _
  · simp [World.frozen?, h]
theorem infoCT : (Tryz.prog.info? 74).map (·.size) = some 8 := by kernel_rfl
theorem infoCZ : (Tryz.prog.info? 74).map (·.zero) = some (some (.agg (cF (fun _ => 0) 0))) := by kernel_rfl
theorem ct_alloc {ops : Array Oper} {rest : List Oper} {o : Oper} {a : Act} {w : World} {Q : Exit → Act → World → Prop} (hgd : o.guard = none) (ho : o.op = .alloc 74)
    (h : ∀ w', w'.heap[w.heap.size]? = some (.cells (cF (fun _ => 0) 0) 74) → Below w.heap.size w w' → w'.heap.size = w.heap.size + 1 → wpList Tryz.prog ops Q rest (a.put o.dst (.pointer (some ⟨w.heap.size, 0, none⟩))) w') : wpList Tryz.prog ops Q (o :: rest) a w := by
  refine wpList_plain hgd fun K hK => ?_
  have hz := infoCZ
  cases hq : Tryz.prog.info? 74 with
  | none => rw [hq] at hz; simp at hz
  | some i =>
    rw [hq] at hz
    have hz' : i.zero = some (.agg (cF (fun _ => 0) 0)) := by simpa using hz
    have := hK _ _ (h _ (heap_alloc_new w (.cells (cF (fun _ => 0) 0) 74)) (below_alloc1 _ _) (by simp))
    unfold Oper.wp execOp
    simp [ho, Instr.alloc, zeroValue, typeInfo, Sem.run_bind, hq, hz', go_sem, newVar, newRow, Value.cells, Result.andThen]
    exact this
theorem ct_load {ops : Array Oper} {rest : List Oper} {o : Oper} {a : Act} {w : World} {Q : Exit → Act → World → Prop} (hgd : o.guard = none) (x : Operand) (ho : o.op = .load 74 x) (g : Nat) (hx : a.eval x = .pointer (some ⟨g, 0, none⟩)) (gs : Nat → Nat) (k : Nat)
    (hp : w.heap[g]? = some (.cells (cF gs k) 74)) (h : wpList Tryz.prog ops Q rest (a.put o.dst (.agg (cF gs k))) w) : wpList Tryz.prog ops Q (o :: rest) a w :=
  wpList_load_row hgd _ x ho g hx _ _ _ _ hp Tryz.underlying74 rfl (by rw [infoCT, cF_size]) h
theorem ct_store {ops : Array Oper} {rest : List Oper} {o : Oper} {a : Act} {w : World} {Q : Exit → Act → World → Prop} (hgd : o.guard = none) (x y : Operand) (ho : o.op = .store 74 x y) (g : Nat) (hx : a.eval x = .pointer (some ⟨g, 0, none⟩)) (gs : Nat → Nat) (k : Nat)
    (hy : a.eval y = .agg (cF gs k)) (gs' : Nat → Nat) (k' : Nat) (hp : w.heap[g]? = some (.cells (cF gs' k') 74))
    (h : ∀ w', w'.heap[g]? = some (.cells (cF gs k) 74) → w.grownBy w' (some g) → wpList Tryz.prog ops Q rest (a.put o.dst undef) w') : wpList Tryz.prog ops Q (o :: rest) a w := by
  refine wpList_store_row hgd _ x y ho g (cF gs k) hx hy _ _ hp (by rw [infoCT, cF_size]) (by rw [cF_size, cF_size]) (cF_one gs k) (h _ (setRow_heap w g _ _ _ _ hp) ⟨rfl, rfl, rfl, by simp [World.setRow], fun k hk hne => ?_⟩)
  simp only [World.setRow]
  rw [Array.getElem?_modify, if_neg (fun e => hne (by rw [e]))]
theorem ct_results {fn : Func} {p q : Tmp} (h : fn.results = #[.cell p 74, .tmp q]) (tmps : Array Value) (w : World) (g : Nat) (gs : Nat → Nat) (k : Nat) (b : Bool) (hp : tmps[p]?.getD undef = .pointer (some ⟨g, 0, none⟩)) (hq : tmps[q]?.getD undef = .bool b) (hb : w.heap[g]? = some (.cells (cF gs k) 74)) :
    (results fn tmps).run Tryz.prog w = .ok (.tuple #[.agg (cF gs k), .bool b]) w := by
  have hl : (loadVar 74 ⟨g, 0, none⟩).run Tryz.prog w = .ok (.agg (cF gs k)) w := run_loadVar_row w g _ _ _ _ _ hb Tryz.underlying74 rfl (by rw [infoCT, cF_size])
  simp [results, h, hp, hq, asAddr, hl]
theorem ct_grown {a w : World} {g n : Nat} (h : a.grownBy w (some g)) (hg : n ≤ g) (hn : n ≤ a.heap.size) : Below n a w :=
  ⟨h.os, h.tape, h.output, h.size, fun k hk => h.block k (by omega) (fun e => by cases e; omega)⟩
theorem LR.far {w : World} {g b j : Nat} {v : Value} {l : List R4} (h : LR w g l) (hb : b < g) : LR (w.setCell ⟨b, j, none⟩ v) g l := by
  obtain ⟨q, h1, h2⟩ := h
  refine ⟨q, (Below.heap_setCell _ _ _ g (by dsimp only; omega)).trans h1, h2.keep fun c r q' hc hh => (Below.heap_setCell _ _ _ c (by dsimp only; omega)).trans hh⟩
theorem LR.far' {w w' : World} {g b : Nat} {l : List R4} (h : LR w g l) (hb : b < g) (hg : w.grownBy w' (some b)) : LR w' g l := by
  obtain ⟨q, h1, h2⟩ := h
  refine ⟨q, ?_, h2.keep fun c r q' hc hh => ?_⟩
  · exact (hg.block g (Array.getElem?_eq_some_iff.1 h1).1 (fun e => by cases e; omega)).trans h1
  · exact (hg.block c (Array.getElem?_eq_some_iff.1 hh).1 (fun e => by cases e; omega)).trans hh

end Go.Proofs.YtjjhahhchimmlaaGreatDoor

namespace Go.Proofs.YtjjhahhchimmlaaGreatDoor
open Go.ChangeShapes Go.WideShapes Go.ChangeAt Go.RowKit Go.Joins
set_option linter.unusedVariables false

/-- What readConf leaves: eight cells; if all is ok they are those of the tables. -/
def ConfRd (L : List (List R4)) (w : World) (e : Ending) (w' : World) : Prop :=
  ∃ (gs : Nat → Nat) (k : Nat), e = .returned (.tuple #[.agg (cF gs k), .bool (cfB L)]) ∧ (cfB L = true → k = 4 ∧ ∀ j, j < 4 → w.heap.size ≤ gs j ∧ LR w' (gs j) (tbAt L j)) ∧ Below w.heap.size w w'

set_option maxRecDepth 100000 in
set_option maxHeartbeats 4000000 in
theorem readConf_any (w : World) (v : Value) (L : List (List R4)) (h : Cfs w w.heap.size v L) (hn : L.length ≤ 1048576) (hL : ∀ i, i < L.length → (tbAt L i).length ≤ 1048576) (hE : EtOk w) :
    Calls Tryz.prog 53 #[v] w (ConfRd L w) := by
  obtain ⟨a, cap, rfl, hc, hm, hh⟩ := h
  have HH := Lib.hid hh
  have HLL := Lib.hid hL
  have HE := Lib.hid hE
  have hat : ∀ k, k < L.length → tbAt L k ∈ L := fun k hk => by
    unfold tbAt
    rw [List.getD_eq_getElem?_getD, List.getElem?_eq_getElem hk]
    exact List.getElem_mem hk
  have HALL : Hid (∀ k, k < L.length → tOk (tbAt L k) = false → cfB L = false) := fun k hk hb => by
    unfold cfB
    have : L.all tOk = false := by
      rw [List.all_eq_false]
      exact ⟨tbAt L k, hat k hk, by simp [hb]⟩
    rw [this]
    rfl
  have HEND : Hid ((∀ k, k < L.length → tOk (tbAt L k) = true) → cfB L = decide (L.length = 4)) := fun hk => by
    unfold cfB
    have : L.all tOk = true := by
      rw [List.all_eq_true]
      intro x hx
      obtain ⟨i, hi, rfl⟩ := List.getElem_of_mem hx
      have := hk i hi
      unfold tbAt at this
      rwa [List.getD_eq_getElem?_getD, List.getElem?_eq_getElem hi] at this
    rw [this]
    rfl
  have HBAD : Hid (L.length ≠ 4 → cfB L = false) := fun hk => by
    unfold cfB
    rw [show decide (L.length = 4) = false from by simp [hk], Bool.and_false]
  clear hh hL hat hE
  unfold maxLen at hm
  generalize hN : L.length = n at *
  have HN := Lib.hid hN
  clear hN
  go_enter Tryz.func53, Tryz.ntmps53
  go_wp2_with (refine ct_alloc rfl rfl ?_)
  intro w1 p1 b1 s1
  go_wp2_with (refine ct_alloc rfl rfl ?_)
  intro w2 p2 b2 s2
  have p1' := (b2.block w.heap.size (by omega)).trans p1
  have B2 := Lib.hid (b1.trans (b2.mono (Nat.le_succ _)))
  have P1 := Lib.hid p1'
  have P2 := Lib.hid p2
  have hs2 : w2.heap.size = w.heap.size + 2 := by omega
  clear p1 p2 p1' b1 b2 s2
  by_cases h4 : n = 4
  · subst h4
    go_wp2_with fail
    go_loopw [15] (fun i wr => ∃ (k : Nat) (gs : Nat → Nat), k ≤ 4 ∧ i = .int .i64 (k : Int) ∧ wr.heap[w.heap.size + 1]? = some (.cells (cF gs k) 74) ∧ wr.heap[w.heap.size]? = some (.cells (cF (fun _ => 0) 0) 74) ∧ (∀ j, j < k → tOk (tbAt L j) = true ∧ w.heap.size + 1 < gs j ∧ LR wr (gs j) (tbAt L j)) ∧ Below w.heap.size w wr) (fun i _ => 4 - (intOf i).toNat)
    case atStart => exact ⟨0, fun _ => 0, by omega, rfl, P2.out, P1.out, fun j hj => absurd hj (Nat.not_lt_zero _), B2.out⟩
    case round =>
      obtain ⟨k, gs, hk, rfl, hp2, hp1, hall, hbel⟩ := hrel
      have Q2 := Lib.hid hp2
      have Q1 := Lib.hid hp1
      have HA := Lib.hid hall
      have HBL := Lib.hid hbel
      have hws : w.heap.size + 1 < wr.heap.size := (Array.getElem?_eq_some_iff.1 hp2).1
      clear hp2 hp1 hall
      by_cases hlt : k < 4
      · have hz : (k : Int) < 4 := by omega
        rcases HH.out with h1 | ⟨b, off, rfl, hb, hcell⟩
        · have := HN.out; rw [h1] at this; simp at this
        obtain ⟨u, c0, hr⟩ := hcell k hlt
        have d0 := (belCell hbel _ _ hb).trans c0
        have HT := Lib.hid (readTable_any wr u (tbAt L k) ((hr.below hbel (Nat.le_refl _)).mono hbel.size) (HLL.out k hlt) (HE.out.below hbel))
        have HNO := Lib.hid (HALL.out k hlt)
        obtain ⟨ua, ucap, hu, -⟩ := hr
        subst hu
        clear hcell c0 hbel
        unfold lstV at HT
        generalize hto : tOk (tbAt L k) = ok at *
        have HTO := Lib.hid hto
        clear hto
        go_wp2_with fail
        refine HT.out.mono ?_
        rintro e w3 ⟨g, rfl, hg, hlr, b3⟩
        have B3 := Lib.hid (belStep HBL.out b3)
        have R2 := Lib.hid ((b3.block (w.heap.size + 1) hws).trans Q2.out)
        have R1 := Lib.hid ((b3.block w.heap.size (by omega)).trans Q1.out)
        have s3 := b3.size
        have HA3 : Hid (∀ j, j < k → tOk (tbAt L j) = true ∧ w.heap.size + 1 < gs j ∧ LR w3 (gs j) (tbAt L j)) := fun j hj => by
          obtain ⟨h1, h2, h3⟩ := HA.out j hj
          exact ⟨h1, h2, h3.below b3⟩
        have HLR := Lib.hid hlr
        have hA := below_alloc1 w3 (.cells #[.func (.func 77) #[] #[], .pointer (some ⟨g, 0, none⟩)] 72)
        have HAl := Lib.hid hA
        have RA2 := Lib.hid ((hA.block (w.heap.size + 1) (by omega)).trans R2.out)
        have RA1 := Lib.hid ((hA.block w.heap.size (by omega)).trans R1.out)
        clear b3 hlr HT d0 HA Q2 Q1 hA
        cases ok
        · have hF := HNO.out (by trivial)
          go_wp2_with (first | refine ct_load rfl _ rfl _ rfl _ _ RA2.out ?_ | refine ct_store rfl _ _ rfl _ rfl _ _ rfl _ _ RA1.out ?_)
          intro w4 p4 g4
          go_wp2
          refine bodyPost_ret (v := .tuple #[.agg (cF gs k), .bool false]) (ct_results Tryz.results53 _ _ _ _ _ _ rfl rfl p4) rfl ⟨_, _, by rw [hF], (fun h => by rw [hF] at h; cases h), (belStep B3.out HAl.out).trans (ct_grown g4 (Nat.le_refl _) (by simp; omega))⟩
        · obtain ⟨⟨x, hx⟩, ⟨y, hy⟩, hfz⟩ := cF_cell RA2.out hlt
          have hF0 := hfz (k * 2)
          have hF1 := hfz (k * 2 + 1)
          clear hfz
          have hgw := hg
          have hsA : (w3.alloc (.cells #[.func (.func 77) #[] #[], .pointer (some ⟨g, 0, none⟩)] 72)).heap.size = w3.heap.size + 1 := World.size_alloc _ _
          have HB4 := Lib.hid (belStep B3.out HAl.out)
          have HLR4 : Hid (LR (w3.alloc (.cells #[.func (.func 77) #[] #[], .pointer (some ⟨g, 0, none⟩)] 72)) g (tbAt L k)) := (HLR.out rfl).below HAl.out
          have HA4 : Hid (∀ j, j < k → tOk (tbAt L j) = true ∧ w.heap.size + 1 < gs j ∧ LR (w3.alloc (.cells #[.func (.func 77) #[] #[], .pointer (some ⟨g, 0, none⟩)] 72)) (gs j) (tbAt L j)) := fun j hj => ⟨(HA3.out j hj).1, (HA3.out j hj).2.1, (HA3.out j hj).2.2.below HAl.out⟩
          clear HA3 HLR HAl
          go_wp2_with fail
          generalize w3.alloc _ = W4 at *
          refine ⟨⟨k + 1, fun i => if i = k then g else gs i, by omega, by go_num, ?_, ?_, fun j hj => ?_, ?_⟩, by simp [intOf]; omega⟩
          · rw [← cF_step gs g hlt]
            exact block_setCell (block_setCell RA2.out _) _
          · exact (Below.heap_setCell _ _ _ _ (by dsimp only; omega)).trans ((Below.heap_setCell _ _ _ _ (by dsimp only; omega)).trans RA1.out)
          · by_cases e : j = k
            · subst e
              dsimp only
              rw [if_pos rfl]
              exact ⟨HTO.out, by omega, (HLR4.out.far (by omega)).far (by omega)⟩
            · dsimp only
              rw [if_neg e]
              obtain ⟨h1, h2, h3⟩ := HA4.out j (by omega)
              exact ⟨h1, h2, (h3.far h2).far h2⟩
          · exact (HB4.out.setCell (by dsimp only; omega) _).setCell (by dsimp only; omega) _
      · obtain rfl : k = 4 := by omega
        have hF : cfB L = true := by rw [HEND.out fun j hj => (HA.out j hj).1]; decide
        have HFF := Lib.hid hF
        clear hF hlt
        go_wp2_with (first | refine ct_load rfl _ rfl _ rfl _ _ Q2.out ?_ | refine ct_store rfl _ _ rfl _ rfl _ _ rfl _ _ Q1.out ?_)
        intro w4 p4 g4
        go_wp2
        refine bodyPost_ret (v := .tuple #[.agg (cF gs 4), .bool true]) (ct_results Tryz.results53 _ _ _ _ _ _ rfl rfl p4) rfl ⟨gs, 4, by rw [HFF.out], (fun _ => ⟨rfl, fun j hj => ⟨by have := (HA.out j hj).2.1; omega, (HA.out j hj).2.2.far' (Nat.lt_trans (Nat.lt_succ_self _) (HA.out j hj).2.1) g4⟩⟩), HBL.out.trans (ct_grown g4 (Nat.le_refl _) (by omega))⟩
  · have hF := HBAD.out h4
    have h4' : ((n : Int) == 4) = false := by simp; omega
    have h4n : ¬ (n : Int) = 4 := by omega
    go_wp2_with (first | refine ct_load rfl _ rfl _ rfl _ _ P2.out ?_ | refine ct_store rfl _ _ rfl _ rfl _ _ rfl _ _ P1.out ?_)
    intro w3 p3 g3
    go_wp2
    refine bodyPost_ret (v := .tuple #[.agg (cF (fun _ => 0) 0), .bool false]) (ct_results Tryz.results53 _ _ _ _ _ _ rfl rfl p3) rfl ⟨_, _, by rw [hF], (fun h => by rw [hF] at h; cases h), B2.out.trans (ct_grown g3 (Nat.le_refl _) (by omega))⟩

end Go.Proofs.YtjjhahhchimmlaaGreatDoor
