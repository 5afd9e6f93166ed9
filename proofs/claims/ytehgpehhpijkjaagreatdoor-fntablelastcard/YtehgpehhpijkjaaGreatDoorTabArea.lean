/-
  The model's TableArea: head by head.
  The program's areas of a table: what each rule is the first of, and what none is of, in one diagram.
  The program's TableArea.
-/
import Derived.Test.YtehgpehhpijkjaaGreatDoorTabAreaM
import Derived.Test.YtehgpehhpijkjaaGreatDoorTabAtS
import Derived.Test.YtehgpehhpijkjaaGreatDoorSpaceSp
import Derived.Test.YtehgpehhpijkjaaGreatDoorTabL
import Derived.Test.YtehgpehhpijkjaaGreatDoorSpaceV
import Derived.Test.YtehgpehhpijkjaaGreatDoorTabRules
import Derived.OwnWalkIn
import Derived.RangeFuncBox
import Derived.Deep.RegionWith

namespace Go.Proofs.YtehgpehhpijkjaaGreatDoor
open Go.ChangeShapes Go.WideShapes Go.ChangeAt Go.RowKit Go.Joins
set_option linter.unusedVariables false

theorem emptyS (w : World) {base : Nat} (hb : base ≤ w.heap.size) : StrRow (w.alloc (.cells #[] 9)) base (.slice (some ⟨w.heap.size, 0, none⟩) 0 0) [] :=
  World.ownsRow.mono (World.ownsRow_made w #[] 0 (Nat.le_refl _) (Nat.zero_le _) rfl) hb
theorem okB_numA (n : Nat) (hn : n < 64) : okB ((n : Int) / 16) ((n : Int) / 4 % 4) ((n : Int) % 4) = true := by
  unfold okB
  rw [fldB_mk (by omega) (by omega), fldB_mk (by omega) (by omega), fldB_mk (by omega) (by omega)]
  rfl
theorem num_hB {n : Nat} (hn : n < 64) : (n : Int) = ofB (hB ((n : Int) / 16) ((n : Int) / 4 % 4) ((n : Int) % 4)) := by
  rw [← num_ofB (okB_numA n hn)]
  omega
theorem kb6_hB {n : Nat} (hn : n < 64) : kb6 n = f6 (hB ((n : Int) / 16) ((n : Int) / 4 % 4) ((n : Int) % 4)) := by
  have h := kb6_back (hB ((n : Int) / 16) ((n : Int) / 4 % 4) ((n : Int) % 4))
  rw [← num_hB hn] at h
  exact h
theorem bitF_f6 (c v f : Nat → Bool) : hasM c v (bitF (f6 f)) = hasM c v f := all6_congr fun i hi => by
  match i, hi with
  | 0, _ => rfl
  | 1, _ => rfl
  | 2, _ => rfl
  | 3, _ => rfl
  | 4, _ => rfl
  | 5, _ => rfl
theorem findIdx_congr {p q : R4 → Bool} : ∀ {l : List R4}, (∀ x ∈ l, p x = q x) → l.findIdx? p = l.findIdx? q
  | [], _ => rfl
  | x :: l, h => by
    rw [List.findIdx?_cons, List.findIdx?_cons, h x (List.mem_cons_self ..), findIdx_congr (fun y hy => h y (List.mem_cons_of_mem _ hy))]
theorem mR_kb {l : List R4} (hok : ∀ i, i < l.length → okR (ruAt l i) = true) {n : Nat} (hn : n < 64) : l.findIdx? (mR ((n : Int) / 16) ((n : Int) / 4 % 4) ((n : Int) % 4)) = l.findIdx? (hasR (kb6 n)) := findIdx_congr fun x hx => by
  obtain ⟨i, hi, rfl⟩ := mem_ruAt hx
  rw [mR_has (okB_numA n hn) (hok i hi), hasR, kb6_hB hn, bitF_f6, (rOk_true (hok i hi)).2.1]
  rfl
theorem atI_kb {l : List R4} (hok : ∀ i, i < l.length → okR (ruAt l i) = true) {n : Nat} (hn : n < 64) : atI ((n : Int) / 16) ((n : Int) / 4 % 4) ((n : Int) % 4) l = atF (kb6 n) l := by
  unfold atI atF
  rw [mR_kb hok hn]
  cases l.findIdx? (hasR (kb6 n)) <;> rfl
theorem areaM_get (l : List R4) (i : Int) {n : Nat} (hn : n < 64) : (areaM l i).getD n false = decide (atF (kb6 n) l = i) := by
  rw [List.getD_eq_getElem?_getD, areaM, tab6_get _ hn]
  rfl

/-- A row of bools that is filled from its first place on. -/
def fillB (m : List Bool) (k : Nat) : List Bool := m.take k ++ List.replicate (64 - k) false
theorem fillB_zero (m : List Bool) : fillB m 0 = List.replicate 64 false := rfl
theorem fillB_all {m : List Bool} (h : m.length = 64) : fillB m 64 = m := by
  unfold fillB
  rw [Nat.sub_self, List.take_of_length_le (by omega)]
  simp
theorem fillB_len {m : List Bool} (h : m.length = 64) {k : Nat} (hk : k ≤ 64) : (fillB m k).length = 64 := by simp [fillB]; omega
theorem fillB_step {m : List Bool} (h : m.length = 64) {k : Nat} (hk : k < 64) : fillB m (k + 1) = (fillB m k).set k (m.getD k false) := by
  unfold fillB
  have hl : (m.take k).length = k := by simp; omega
  rw [List.set_append_right _ _ (by omega), hl, Nat.sub_self, show 64 - k = (64 - (k + 1)) + 1 from by omega, List.replicate_succ, List.set_cons_zero, List.take_add_one, List.getElem?_eq_getElem (show k < m.length by omega), List.getD_eq_getElem?_getD, List.getElem?_eq_getElem (show k < m.length by omega), List.append_assoc]
  rfl

set_option maxRecDepth 100000 in
set_option maxHeartbeats 4000000 in
theorem l12Area_any (w : World) (v : Value) (l : List R4) (h : Rls w w.heap.size v l) (hn : l.length ≤ 1048576) (hok : ∀ i, i < l.length → okR (ruAt l i) = true) (q : Int) :
    Calls Tryz.prog 36 #[v, .int .i64 q] w fun ex w' => ex = .returned (.slice (some ⟨w.heap.size, 0, none⟩) 64 64) ∧ BoolRow w' w.heap.size (areaM l q) ∧ Below w.heap.size w w' := by
  have HL : Hid (∀ W, Below w.heap.size w W → Rls W W.heap.size v l) := fun W hb => (h.below hb (Nat.le_refl _)).mono hb.size
  have HAT : Hid (∀ n : Nat, n < 64 → ∀ W, Rls W W.heap.size v l → Calls Tryz.prog 73 #[v, .int .i64 (n : Int)] W fun e w' => e = .returned (.int .i64 (atF (kb6 n) l)) ∧ Below W.heap.size W w') := fun n hlt W hW => by
    have := l12At_any W v l hW hn hok _ _ _ (okB_numA n hlt)
    rw [← num_hB hlt, atI_kb hok hlt] at this
    exact this
  obtain ⟨i0, hi, hz0, hz1, hz2⟩ := info_parts infoB
  have HI := Lib.hid hi
  have HZ0 := Lib.hid hz0
  have HZ1 := Lib.hid hz1
  have HZ2 := Lib.hid hz2
  have HM := Lib.hid (areaM_len l q)
  have HG : Hid (∀ n, n < 64 → (areaM l q).getD n false = decide (atF (kb6 n) l = q)) := fun n hn => areaM_get l q hn
  clear hi hz0 hz1 hz2 h hok
  generalize areaM l q = m at *
  go_enter Tryz.func36, Tryz.ntmps36
  go_wp2_with (at_make; refine wpList_make_full _ rfl _ _ 69 rfl w.heap.size 4 i0 (.bool false) 1 Tryz.underlying69 HI.out HZ0.out HZ1.out .i64 .i64 _ _ 64 rfl rfl rfl rfl ?b2 ?b3 (Nat.le_refl _) ?_)
  case b2 => rw [HZ2.out]; omega
  case b3 => unfold maxLen; omega
  intro w1 hown hg1
  have HB1 : Hid (Below w.heap.size w w1) := ⟨hg1.os, hg1.tape, hg1.output, hg1.size, fun k hk => hg1.block k hk (by simp)⟩
  have HR1 : Hid (BoolRow w1 w.heap.size (fillB m 0)) := by
    refine ⟨?_, fillB_len HM.out (Nat.zero_le _)⟩
    have := hown
    rw [made_one] at this
    rw [fillB_zero, List.map_replicate]
    exact this
  clear hown hg1
  go_wp2
  go_loopw [6] (fun x wr => ∃ n : Nat, n ≤ 64 ∧ x = .int .i64 n ∧ BoolRow wr w.heap.size (fillB m n) ∧ Below w.heap.size w wr) (fun x _ => 64 - (intOf x).toNat)
  case atStart => exact ⟨0, Nat.zero_le _, rfl, HR1.out, HB1.out⟩
  case round =>
    obtain ⟨n, hn', rfl, hrow, hbel⟩ := hrel
    have HR := Lib.hid hrow
    have HB := Lib.hid hbel
    clear hrow hbel HR1 HB1
    by_cases hlt : n < 64
    · have hnz64 : (n : Int) < 64 := by omega
      have HA := Lib.hid (HAT.out n hlt)
      have HS := Lib.hid (fillB_step HM.out hlt)
      rw [HG.out n hlt] at HS
      go_wp2_with fail
      refine (HA.out _ (HL.out _ HB.out)).mono ?_
      rintro e w3 ⟨rfl, b3⟩
      have HR3 := Lib.hid (HR.out.below b3)
      have B3 := Lib.hid (belStep HB.out b3)
      have hgt3 := HR3.out.cells.1 n hlt
      have hfr3 := HR3.out.cells.2.1
      have hgl3 := HR3.out.cells.2.2
      generalize (fillB m n).getD n false = oo at *
      generalize atF (kb6 n) l = z at *
      clear b3 HR HB
      go_wp2
      go_roundw
      case rel => exact ⟨n + 1, by omega, by go_num, by rw [HS.out]; exact HR3.out.put n (decide (z = q)), B3.out.setCell (by exact Nat.le_refl _) _⟩
      case measure => simp [intOf]; omega
    · obtain rfl : n = 64 := by omega
      go_wp2
      go_ret
      exact ⟨rfl, by have := HR.out; rw [fillB_all HM.out] at this; exact this, HB.out⟩

/-- What TableArea returns. -/
def areaT (l : List R4) (q : Int) : List ByteArray := bif tOk l && inB q (-1) ((l.length : Int) - 1) then tidyT (areaM l q) else []
theorem areaT_len (l : List R4) (q : Int) : (areaT l q).length ≤ 64 := by
  unfold areaT
  cases tOk l && inB q (-1) ((l.length : Int) - 1)
  · exact Nat.zero_le _
  · exact tidyT_len _

set_option maxRecDepth 100000 in
set_option maxHeartbeats 4000000 in
theorem sTableArea_any (w : World) (v : Value) (l : List R4) (h : Rls w w.heap.size v l) (hn : l.length ≤ 1048576) (q : Int) :
    Calls Tryz.prog 10 #[v, .int .i64 q] w fun e w' => ∃ u, e = .returned u ∧ StrRow w' w.heap.size u (areaT l q) ∧ Below w.heap.size w w' := by
  have HL : Hid (∀ W, Below w.heap.size w W → Rls W W.heap.size v l) := fun W hb => (h.below hb (Nat.le_refl _)).mono hb.size
  obtain ⟨a, cap, rfl, hc, hm, -⟩ := h
  unfold maxLen at hm
  cases ht : tOk l
  · have HT : Hid (areaT l q = []) := by show _ = _; simp [areaT, ht]
    rw [HT.out]
    go_enter Tryz.func10, Tryz.ntmps10
    go_wp2_with fail
    refine (sTableOk_any _ _ l (HL.out _ (Below.refl _ _)) hn).mono ?_
    rintro e w1 ⟨rfl, b1⟩
    rw [ht]
    have HM := Lib.hid (emptyS w1 b1.size)
    have B1 := Lib.hid b1
    clear b1
    go_wp2
    go_ret
    exact ⟨_, rfl, HM.out, B1.out.alloc B1.out.size _⟩
  have HOK := Lib.hid (tOk_at ht)
  have HQ : Hid (areaT l q = bif inB q (-1) ((l.length : Int) - 1) then tidyT (areaM l q) else []) := by show _ = _; simp [areaT, ht]
  rw [HQ.out]
  have HIN := Lib.hid (fun W => l6In_any q (-1) ((l.length : Int) - 1) W)
  generalize inB q (-1) ((l.length : Int) - 1) = qq at *
  go_enter Tryz.func10, Tryz.ntmps10
  go_wp2_with fail
  refine (sTableOk_any _ _ l (HL.out _ (Below.refl _ _)) hn).mono ?_
  rintro e w1 ⟨rfl, b1⟩
  rw [ht]
  have B1 := Lib.hid b1
  clear b1
  go_wp2_with fail
  refine (HIN.out _).mono ?_
  rintro e w2 ⟨rfl, rfl⟩
  cases qq
  · have HM := Lib.hid (emptyS w1 B1.out.size)
    go_wp2
    go_ret
    exact ⟨_, rfl, HM.out, B1.out.alloc B1.out.size _⟩
  · go_wp2_with fail
    refine (l12Area_any _ _ l (HL.out _ B1.out) hn HOK.out q).mono ?_
    rintro e w3 ⟨rfl, hrow, b3⟩
    have HR := Lib.hid hrow
    have B3 := Lib.hid (belStep B1.out b3)
    clear b3 hrow
    go_wp2_with fail
    refine (l3Tidy_any 6 (Nat.le_refl _) _ _ _ (areaM_len l q) HR.out.bools).mono ?_
    rintro e w4 ⟨u, rfl, hrow, b4⟩
    have B4 := Lib.hid (belStep B3.out b4)
    have HS := Lib.hid (hrow.mono B3.out.size)
    clear b4 hrow
    go_wp2
    go_ret
    exact ⟨_, rfl, HS.out, B4.out⟩

end Go.Proofs.YtehgpehhpijkjaaGreatDoor

namespace Go.Proofs.YtehgpehhpijkjaaGreatDoor
open Go.ChangeShapes Go.WideShapes Go.ChangeAt Go.RowKit Go.Joins
open Go.Shelf
set_option linter.unusedVariables false
attribute [local go_sem] Oper.semAt_some

/-- A row of pointers to nodes. -/
def PtrRow (w : World) (base : Nat) (v : Value) (ps : List (Option Addr)) : Prop := w.ownsRow base 59 1 v ps.length (ps.map Value.pointer)
def ptAt (ps : List (Option Addr)) (j : Nat) : Option Addr := ps.getD j none
/-- The sets of the rules that have come, and of what is left. -/
def Areas (w : World) (b e : Nat) (E : List Nd) (l : List R4) (q : Option Addr) (ps : List (Option Addr)) : Prop :=
  Dg w b e E ∧ Rep E e 6 q (restF l) ∧ ps.length = l.length ∧ ∀ j, j < l.length → Rep E e 6 (ptAt ps j) (areaF l j)
theorem Areas.kept {w w' : World} {b e : Nat} {E : List Nd} {l : List R4} {q : Option Addr} {ps : List (Option Addr)} (h : Areas w b e E l q ps) (hd : Dg w' b e E) : Areas w' b e E l q ps := ⟨hd, h.2⟩
theorem areaF_pre (l : List R4) (r : R4) {j : Nat} (hj : j < l.length) : areaF (l ++ [r]) j = areaF l j := by
  unfold areaF
  rw [List.take_append_of_le_length (by omega), ruAt_lt (by simp; omega), ruAt_lt hj, List.getElem_append_left hj]
theorem areaF_last (l : List R4) (r : R4) : areaF (l ++ [r]) l.length = tabF 6 (fun b => !l.any (hasR b) && hasR b r) := by
  unfold areaF
  rw [List.take_left, ruAt_lt (by simp)]
  simp
theorem Areas.snoc {w : World} {b e : Nat} {E E' : List Nd} {l : List R4} {q q' p : Option Addr} {ps : List (Option Addr)} (h : Areas w b e E l q ps) (hE : ∀ x, x ∈ E → x ∈ E') {w' : World} (hd : Dg w' b e E') (r : R4)
    (hp : Rep E' e 6 p (List.zipWith (keepF false true false) (restF l) (setR r))) (hq : Rep E' e 6 q' (List.zipWith (keepF true false false) (restF l) (setR r))) : Areas w' b e E' (l ++ [r]) q' (ps ++ [p]) := by
  obtain ⟨-, h2, h3, h4⟩ := h
  refine ⟨hd, by rw [← restF_snoc]; exact hq, by simp [h3], fun j hj => ?_⟩
  by_cases hjl : j < l.length
  · have : ptAt (ps ++ [p]) j = ptAt ps j := by
      unfold ptAt
      rw [List.getD_eq_getElem?_getD, List.getElem?_append_left (by omega), List.getD_eq_getElem?_getD]
    rw [this, areaF_pre l r hjl]
    exact (h4 j hjl).mono hE
  · obtain rfl : j = l.length := by simp at hj; omega
    have : ptAt (ps ++ [p]) l.length = p := by
      unfold ptAt
      rw [List.getD_eq_getElem?_getD, List.getElem?_append_right (by omega), h3, Nat.sub_self]
      rfl
    rw [this, areaF_last, ← areaF_step]
    exact hp
theorem Areas.nil {w : World} {b e : Nat} {E : List Nd} {q : Option Addr} (hd : Dg w b e E) (hq : Rep E e 6 q (sufL (fun _ => false) (fun _ => false) 6)) : Areas w b e E [] q [] :=
  ⟨hd, by rw [restF_nil]; exact hq, rfl, fun j hj => absurd hj (Nat.not_lt_zero _)⟩

theorem grownBel {a w w' : World} {row : Option Nat} {N : Nat} (h : a.grownBy w row) (hb : Below N w w') (hN : a.heap.size ≤ N) : a.grownBy w' row :=
  ⟨hb.os.trans h.os, hb.tape.trans h.tape, hb.output.trans h.output, Nat.le_trans h.size hb.size, fun i hi hne => (hb.block i (by omega)).trans (h.block i hi hne)⟩
/-- A region that draws its order: what holds at each state of it, whichever operations have been listed. -/
theorem wpAny_inv {F : Fence} {n : Nat} {P : Program} {md : Region.Mode} {ops : Array Oper} {Q : Exit → Act → World → Prop} (J : Nat → Array Bool → Act → World → Prop)
    (h0 : ∀ listed a w, J 0 listed a w → Region.ready md ops listed = [] ∧ Q .normal a w)
    (h1 : ∀ fuel listed a w, J (fuel + 1) listed a w → (Region.ready md ops listed = [] → Q .normal a w) ∧ ∀ i ∈ Region.ready md ops listed, wpOpIn F n P ops Q i (J fuel (listed.setIfInBounds i true)) a w) :
    ∀ fuel listed a w, J fuel listed a w → wpAnyIn F n P md ops Q fuel listed a w
  | 0, listed, a, w, h => h0 listed a w h
  | fuel + 1, listed, a, w, h => ⟨(h1 fuel listed a w h).1, fun i hi => wpOpIn_mono (fun a' w' h' => wpAny_inv J h0 h1 fuel _ a' w' h') ((h1 fuel listed a w h).2 i hi)⟩

/-- What a round finds in memory: the diagram's box, the row of sets in its box, the rest in its box. -/
structure AFr (W : World) (n0 Ba Br n1 b e : Nat) (v : Value) (ps : List (Option Addr)) (q : Option Addr) : Prop where
  d : W.heap[n0]? = some (.cells #[.map (some b), .pointer (some ⟨e, 0, none⟩)] 63)
  a : Boxed W Ba 58 v
  r : Boxed W Br 59 (.pointer q)
  o : PtrRow W n1 v ps
theorem AFr.grown {W W' : World} {n0 Ba Br n1 b e : Nat} {v : Value} {ps : List (Option Addr)} {q : Option Addr} (h : AFr W n0 Ba Br n1 b e v ps q) (hg : W.grownBy W' (some b)) (hb : b < n0) (h1 : n0 ≤ Ba) (h2 : n0 ≤ Br) (h3 : n0 ≤ n1) : AFr W' n0 Ba Br n1 b e v ps q := by
  have l0 := (Array.getElem?_eq_some_iff.1 h.d).1
  refine ⟨(hg.block n0 l0 (fun e' => by have := Option.some.inj e'; omega)).trans h.d, h.a.kept hg (fun e' => by have := Option.some.inj e'; omega), h.r.kept hg (fun e' => by have := Option.some.inj e'; omega), World.ownsRow.kept h.o hg ?_⟩
  cases hv : v.ownBlock with
  | none => exact .inl rfl
  | some k =>
    have := (World.ownsRow.lt h.o k hv).1
    exact .inr (fun e' => by have := Option.some.inj e'; omega)
theorem AFr.below {W W' : World} {n0 Ba Br n1 b e : Nat} {v : Value} {ps : List (Option Addr)} {q : Option Addr} (h : AFr W n0 Ba Br n1 b e v ps q) (hg : Below W.heap.size W W') : AFr W' n0 Ba Br n1 b e v ps q := by
  have l0 := (Array.getElem?_eq_some_iff.1 h.d).1
  exact ⟨(hg.block n0 l0).trans h.d, (hg.block _ h.a.lt).trans h.a, (hg.block _ h.r.lt).trans h.r, World.ownsRow.kept h.o (row := none) ⟨hg.os, hg.tape, hg.output, hg.size, fun k hk _ => hg.block k hk⟩ (by cases v.ownBlock <;> simp)⟩
theorem AFr.dcell {W : World} {n0 Ba Br n1 b e : Nat} {v : Value} {ps : List (Option Addr)} {q : Option Addr} (h : AFr W n0 Ba Br n1 b e v ps q) : W.cell? ⟨n0, 0, none⟩ = some (.map (some b)) ∧ W.cell? ⟨n0, 1, none⟩ = some (.pointer (some ⟨e, 0, none⟩)) := ⟨(cells2 h.d).1, (cells2 h.d).2.1⟩
/-- The diagram where a block that is no cells, and not its map, turns. -/
theorem Dg.turn {W W' : World} {b e : Nat} {E : List Nd} {row : Option Nat} (h : Dg W b e E) (hg : W.grownBy W' row) (hr : ∀ r, row = some r → r ≠ b ∧ ∃ o : Obj, W.heap[r]? = some o ∧ o.isCells = false) : Dg W' b e E := by
  have k : ∀ (j : Nat) cs t, W.heap[j]? = some (.cells cs t) → W'.heap[j]? = some (.cells cs t) := fun j cs t hj => (hg.block j (Array.getElem?_eq_some_iff.1 hj).1 (fun e' => by
    obtain ⟨-, o, ho, hc⟩ := hr j e'.symm
    rw [hj] at ho
    cases ho
    cases hc)).trans hj
  obtain ⟨es, clock, hm, he⟩ := h.map
  exact ⟨k _ _ _ h.last, ⟨es, clock, (hg.block b h.lt_b (fun e' => (hr b e'.symm).1 rfl)).trans hm, he⟩, fun z o j hj => ⟨k _ _ _ (h.node z o j hj).1, (h.node z o j hj).2⟩, h.uniq⟩
/-- The diagram where a row of pointers of another type turns. -/
theorem Dg.rowed {W W' : World} {b e : Nat} {E : List Nd} {n0 k : Nat} {v : Value} {xs : List Value} (h : Dg W b e E) (ho : W.ownsRow n0 59 1 v k xs) (hg : W.grownBy W' v.ownBlock) : Dg W' b e E := by
  have hne : ∀ (j : Nat) (o : Obj), W.heap[j]? = some o → (∀ cs, o ≠ .cells cs 59) → some j ≠ v.ownBlock := fun j o hj hno e' => by
    obtain ⟨-, hx | ⟨g, cap, cur, rfl, -, hgc, -⟩⟩ := ho
    · rw [hx.1] at e'; cases e'
    · obtain rfl : j = g := Option.some.inj e'
      rw [hgc] at hj
      exact hno _ (Option.some.inj hj).symm
  have k : ∀ (j : Nat) cs, W.heap[j]? = some (.cells cs 100) → W'.heap[j]? = some (.cells cs 100) := fun j cs hj => (hg.block j (Array.getElem?_eq_some_iff.1 hj).1 (hne j _ hj (fun cs' e' => by cases e'))).trans hj
  obtain ⟨es, clock, hm, he⟩ := h.map
  exact ⟨k _ _ h.last, ⟨es, clock, (hg.block b h.lt_b (hne b _ hm (fun cs' e' => by cases e'))).trans hm, he⟩, fun z o j hj => ⟨k _ _ (h.node z o j hj).1, (h.node z o j hj).2⟩, h.uniq⟩
/-- A store into a box of another type. -/
theorem Dg.boxed {W : World} {b e : Nat} {E : List Nd} {B : Nat} {t : TypeId} {u : Value} (h : Dg W b e E) (hb : Boxed W B t u) (ht : t ≠ 100) (v : Value) : Dg (W.setCell ⟨B, 0, none⟩ v) b e E := by
  have hn : ∀ (j : Nat) cs, W.heap[j]? = some (.cells cs 100) → B ≠ j := fun j cs hj e' => by
    subst e'
    rw [show W.heap[B]? = _ from hb] at hj
    injection hj with hj
    injection hj with _ hj
    exact ht hj
  exact h.setCell v ⟨(h.ne_b hb), fun e' => hn e _ h.last e', fun z o hz => hn _ _ (h.node z o _ hz).1 rfl⟩

/-- What a round may do: blocks below n0 stay but for the diagram's map, and what is no cells from n1 on. -/
structure Mv (n0 n1 b : Nat) (W Z : World) : Prop where
  os : Z.os = W.os
  tape : Z.tape = W.tape
  output : Z.output = W.output
  block : ∀ j, j < n0 → j < W.heap.size → j ≠ b → Z.heap[j]? = W.heap[j]?
  keep : KeepsFrom n1 W Z
theorem Mv.trans {n0 n1 b : Nat} {A B C : World} (h : Mv n0 n1 b A B) (k : Mv n0 n1 b B C) : Mv n0 n1 b A C :=
  ⟨k.os.trans h.os, k.tape.trans h.tape, k.output.trans h.output, fun j hj hl hb => (k.block j hj (Nat.lt_of_lt_of_le hl h.keep.size) hb).trans (h.block j hj hl hb), h.keep.trans k.keep⟩
theorem Mv.grown {n0 n1 b : Nat} {A B : World} (h : A.grownBy B (some b)) (hb : b < n1) : Mv n0 n1 b A B :=
  ⟨h.os, h.tape, h.output, fun j hj hl hne => h.block j hl (fun e => hne (Option.some.inj e)), KeepsFrom.of_grownBy h (fun j e => by have := Option.some.inj e; omega)⟩
theorem Mv.below {n0 n1 b : Nat} {A B : World} (h : Below A.heap.size A B) : Mv n0 n1 b A B :=
  ⟨h.os, h.tape, h.output, fun j hj hl hne => h.block j hl, (show KeepsOthers A B from ⟨h.size, fun k o hk _ => (h.block k (Array.getElem?_eq_some_iff.1 hk).1).trans hk⟩).from _⟩
theorem Mv.cell {n0 n1 b : Nat} (A : World) {B : Nat} (u : Value) (hB : n0 ≤ B) : Mv n0 n1 b A (A.setCell ⟨B, 0, none⟩ u) :=
  ⟨rfl, rfl, rfl, fun j hj hl hne => Below.heap_setCell _ _ _ _ (fun e => by simp only at e; omega), (KeepsOthers.setCell _ _ _).from _⟩
theorem Mv.row {n0 n1 b : Nat} {A B : World} {t : TypeId} {v : Value} {k : Nat} {xs : List Value} (ho : A.ownsRow n1 t 1 v k xs) (h : A.grownBy B v.ownBlock) (hn : n0 ≤ n1) : Mv n0 n1 b A B := by
  refine ⟨h.os, h.tape, h.output, fun j hj hl hne => h.block j hl (fun e => by have := (World.ownsRow.lt ho j e.symm).1; omega), (KeepsOthers.of_grownBy h ?_).from _⟩
  intro j o hj hjo
  obtain ⟨-, hx | ⟨gg, cap, cur, rfl, -, hgc, -⟩⟩ := ho
  · rw [hx.1] at hj; cases hj
  · obtain rfl : gg = j := Option.some.inj hj
    rw [hgc] at hjo
    cases hjo
    rfl
/-- Behind an append to the row, and its store into the row's box. -/
theorem AFr.appended {A B : World} {n0 Ba Br n1 b e : Nat} {v v' : Value} {ps : List (Option Addr)} {q p : Option Addr} (h : AFr A n0 Ba Br n1 b e v ps q) (hg : A.grownBy B v.ownBlock) (ho : B.ownsRow n1 59 1 v' (ps.length + 1) (ps.map Value.pointer ++ [.pointer p])) (h1 : Ba < n1) (h2 : Br < n1) (h3 : n0 < n1) (h4 : Ba ≠ n0) (h5 : Ba ≠ Br) :
    Boxed B Ba 58 v ∧ AFr (B.setCell ⟨Ba, 0, none⟩ v') n0 Ba Br n1 b e v' (ps ++ [p]) q := by
  have hlow : ∀ j, j < n1 → j < A.heap.size → B.heap[j]? = A.heap[j]? := fun j hj hl => hg.block j hl (fun e => by have := (World.ownsRow.lt h.o j e.symm).1; omega)
  have la := h.a.lt
  have lr := h.r.lt
  have ld := (Array.getElem?_eq_some_iff.1 h.d).1
  have ba : Boxed B Ba 58 v := (hlow _ h1 la).trans h.a
  refine ⟨ba, ⟨?_, ba.set v', ?_, ?_⟩⟩
  · rw [Below.heap_setCell _ _ _ _ (fun e => h4 e.symm)]
    exact (hlow _ h3 ld).trans h.d
  · show (B.setCell ⟨Ba, 0, none⟩ v').heap[Br]? = _
    rw [Below.heap_setCell _ _ _ _ (fun e => h5 e.symm)]
    exact (hlow _ h2 lr).trans h.r
  · unfold PtrRow
    rw [List.length_append, List.map_append]
    refine World.ownsRow.kept ho (grownBy_setCell' B Ba v') ?_
    cases hv : v'.ownBlock with
    | none => exact .inl rfl
    | some k =>
      have := (World.ownsRow.lt ho k hv).1
      exact .inr (fun e => by have := Option.some.inj e; omega)
theorem AFr.rest {A : World} {n0 Ba Br n1 b e : Nat} {v : Value} {ps : List (Option Addr)} {q : Option Addr} (h : AFr A n0 Ba Br n1 b e v ps q) (q' : Option Addr) (h1 : Br < n1) (h2 : Br ≠ n0) (h3 : Br ≠ Ba) : AFr (A.setCell ⟨Br, 0, none⟩ (.pointer q')) n0 Ba Br n1 b e v ps q' := by
  refine ⟨?_, ?_, h.r.set _, ?_⟩
  · rw [Below.heap_setCell _ _ _ _ (fun e => h2 e.symm)]
    exact h.d
  · show (A.setCell ⟨Br, 0, none⟩ (.pointer q')).heap[Ba]? = _
    rw [Below.heap_setCell _ _ _ _ (fun e => h3 e.symm)]
    exact h.a
  · refine World.ownsRow.kept h.o (grownBy_setCell' A Br _) ?_
    cases hv : v.ownBlock with
    | none => exact .inl rfl
    | some k =>
      have := (World.ownsRow.lt h.o k hv).1
      exact .inr (fun e => by have := Option.some.inj e; omega)

theorem infoPtr : (Tryz.prog.info? 59).map (fun i => (i.zero, i.size, i.bytes)) = some (some (.pointer none), 1, 8) := by kernel_rfl
/-- An append of one pointer, as an operation of a region. -/
theorem app_stepP {F : Fence} {n : Nat} {o : Oper} {a : Act} {w : World} {K : Act → World → Prop} {Q : Exit → Act → World → Prop} (s x : Operand) (hop : o.op = Op.call { callee := Callee.builtin Builtin.append, args := #[s, x], argTypes := #[58, 58] })
    (base k : Nat) (v : Value) (xs : List Value) (hs : a.eval s = v) (hown : w.ownsRow base 59 1 v k xs) (g : Nat) (p : Option Addr) (hx : a.eval x = .slice (some ⟨g, 0, none⟩) 1 1) (hc : w.cell? ⟨g, 0, none⟩ = some (.pointer p)) (b1 : k + 1 ≤ 2000) (b3 : base ≤ w.heap.size)
    (hK : ∀ v' w', w'.ownsRow base 59 1 v' (k + 1) (xs ++ [.pointer p]) → w.grownBy w' v.ownBlock → K (a.put o.dst v') w') : o.wpIn F n Tryz.prog a w K Q := by
  obtain ⟨i0, hi, hz0, hz1, hz2⟩ := info_parts infoPtr
  obtain ⟨v', w', hrun, r1, r2, r3⟩ := run_append_own (P := Tryz.prog) w base 58 o.type 59 i0 (.pointer none) 1 8 Tryz.underlying58 hi hz0 hz1 hz2 rfl (by decide) v k xs hown ⟨g, 0, none⟩ 1 1 [.pointer p] rfl
    (fun j u hj => by
      match j, hj with
      | 0, hj => simp at hj; subst hj; simpa [Addr.add] using hc) (fun u hu => by simp at hu; subst hu; rfl) (by unfold maxLen; omega) (by omega) b3
  unfold Oper.wpIn
  refine ⟨?_, ?_⟩
  · simp [Oper.about, hop, resolve, Target.leads, Sem.run_pure]
  · rw [Oper.semAt_plain F _ _ (by rw [hop]; intro c hc'; cases hc')]
    simp [execOp, hop, resolve, invoke, builtin, hs, hx, hrun, Result.andThen]
    exact hK _ _ r1 r2

/-- What comes of a rule's pattern: masks, and their set. -/
theorem pat_any (r : R4) : ∃ (iv : Value) (c v : Nat → Bool), (∀ W, Calls Tryz.prog 68 #[.string r.s] W fun e w' => e = .returned iv ∧ Below W.heap.size W w') ∧ (∀ W, Calls Tryz.prog 67 #[iv] W fun e w' => (∃ k : Bool, e = .returned (.tuple #[.agg #[.int .u8 (ofB c), .int .u8 (ofB v)], .bool k])) ∧ Below W.heap.size W w') ∧ sufL c v 6 = setR r := by
  cases h : okS r.s
  · exact ⟨_, fun _ => false, fun _ => false, fun W => readWild_no r.s h r.hs W, fun W => (masksOf_no W).mono fun e w' ⟨he, hb⟩ => ⟨⟨false, he⟩, hb⟩, setR_no r h⟩
  · exact ⟨_, cf r.s, vf r.s, fun W => readWild_yes r.s h W, fun W => (masksOf_yes _ _ W).mono fun e w' ⟨he, hb⟩ => ⟨⟨true, he⟩, hb⟩, setR_suf r h⟩

theorem threeOf (w : World) (A B C : Obj) {w1 : World} (h0 : w1.heap[w.heap.size]? = (((w.alloc A).alloc B).alloc C).heap[w.heap.size]?) (h1 : w1.heap[w.heap.size + 1]? = (((w.alloc A).alloc B).alloc C).heap[w.heap.size + 1]?) (h2 : w1.heap[w.heap.size + 1 + 1]? = (((w.alloc A).alloc B).alloc C).heap[w.heap.size + 1 + 1]?) :
    w1.heap[w.heap.size]? = some A ∧ w1.heap[w.heap.size + 1]? = some B ∧ w1.heap[w.heap.size + 1 + 1]? = some C := by
  have k0 := newBlockM w A
  have k1 := newBlockM (w.alloc A) B
  have k2 := newBlockM ((w.alloc A).alloc B) C
  simp only [World.size_alloc] at k1 k2
  refine ⟨h0.trans ?_, h1.trans ?_, h2.trans k2⟩
  · rw [Below.heap_alloc _ _ _ (by simp; omega), Below.heap_alloc _ _ _ (by simp)]
    exact k0
  · rw [Below.heap_alloc _ _ _ (by simp)]
    exact k1


set_option maxRecDepth 100000 in
set_option maxHeartbeats 4000000 in
theorem areas_any (w W0 : World) (g b e : Nat) (E : List Nd) (l : List R4) (hlen : l.length ≤ 1000) (hR : LR W0 g l) (hW0 : Below W0.heap.size W0 w) (hb : W0.heap.size ≤ b) (hd : Dg w b e E) :
    Calls Tryz.prog 32 #[.agg #[.map (some b), .pointer (some ⟨e, 0, none⟩)], lstV g] w fun ex w' => ∃ u q ps E', ex = .returned (.tuple #[u, .pointer q]) ∧ PtrRow w' w.heap.size u ps ∧ Areas w' b e E' l q ps ∧ w.grownBy w' (some b) := by
  have HR := Lib.hid hR
  have HD := Lib.hid hd
  clear hR hd
  refine (callsIn_wide (n := 5)).1 ?_
  refine callsIn_of_wp_marks Tryz.func32 rfl trivial ?_ rfl
  unfold lstV
  simp only [Tryz.ntmps32, List.size_toArray, List.length_cons, List.length_nil, Nat.reduceAdd, Nat.reduceSub, Array.replicate_succ, Array.replicate_zero, List.push_toArray, List.append_toArray, List.nil_append, List.cons_append]
  have HZ : Hid (∀ W, Dg W b e E → Calls Tryz.prog 66 #[.agg #[.map (some b), .pointer (some ⟨e, 0, none⟩)], .agg #[.int .u8 0, .int .u8 0]] W fun ex w' => ∃ p, ex = .returned (.pointer p) ∧ Good W w' b e E 6 p (sufL (fun _ => false) (fun _ => false) 6)) := fun W hW => ofMasks_any W b e E (fun _ => false) (fun _ => false) hW
  have hbw := HD.out.lt_b
  gi_wp2_with fail
  refine ⟨trivial, ?_⟩
  refine (callsIn_wide.2 (HZ.out _ (((HD.out.alloc _).alloc _).alloc _))).mono ?_
  rintro ex w1 ⟨p0, rfl, E0, s0, d0, R0, g0⟩
  have z0 := g0.size
  have j0 := g0.block w.heap.size (by simp; try omega) (fun e' => by have := Option.some.inj e'; omega)
  have j1 := g0.block (w.heap.size + 1) (by simp; try omega) (fun e' => by have := Option.some.inj e'; omega)
  have j2 := g0.block (w.heap.size + 1 + 1) (by simp) (fun e' => by have := Option.some.inj e'; omega)
  obtain ⟨m0, m1, m2⟩ := threeOf w _ _ _ j0 j1 j2
  have HM := Lib.hid (And.intro m0 (And.intro m1 m2))
  have G0 : Hid (w.grownBy w1 (some b)) := sTrans (sTrans (sTrans (World.grownBy_alloc _ _ _) (World.grownBy_alloc _ _ _)) (World.grownBy_alloc _ _ _)) g0
  have DD0 := Lib.hid d0
  have RR0 := Lib.hid R0
  have SS0 := Lib.hid s0
  obtain ⟨x0, x1, -⟩ := cells2 (show w1.heap[w.heap.size + 1]? = some (.cells #[.func (.func 63) #[] #[], .pointer (some ⟨g, 0, none⟩)] 55) from m1)
  simp at z0
  have x2 : (w1.alloc (.cells #[.pointer p0] 59)).cell? ⟨w.heap.size + 1, 0, none⟩ = some (.func (.func 63) #[] #[]) := ((below_alloc1 w1 _).cell (p := ⟨w.heap.size + 1, 0, none⟩) (show w.heap.size + 1 < w1.heap.size by omega)).trans x0
  have x3 : (w1.alloc (.cells #[.pointer p0] 59)).cell? ⟨w.heap.size + 1, 1, none⟩ = some (.pointer (some ⟨g, 0, none⟩)) := ((below_alloc1 w1 _).cell (p := ⟨w.heap.size + 1, 1, none⟩) (show w.heap.size + 1 < w1.heap.size by omega)).trans x1
  clear j0 j1 j2 m0 m1 m2 g0 d0 R0 s0 x0 x1
  gi_wp2_with (first | (refine ⟨trivial, ?_⟩; gi_at_call 42; refine (callsIn_wide.2 (all_any _ _)).mono ?_; rintro ex w2 ⟨rfl, rfl⟩))
  have hA1 := below_alloc1 w1 (.cells #[.pointer p0] 59)
  have HW2 : Hid (Below W0.heap.size W0 ((w1.alloc (.cells #[.pointer p0] 59)).alloc (lstO g))) := ((hW0.trans (sBel G0.out hb hW0.size)).alloc (by have := hW0.size; omega) _).alloc (by have := hW0.size; simp; omega) _
  have HB2 : Hid (Below w1.heap.size w1 ((w1.alloc (.cells #[.pointer p0] 59)).alloc (lstO g))) := below_alloc2 _ _ _
  have k3 : ((w1.alloc (.cells #[.pointer p0] 59)).alloc (lstO g)).heap[w1.heap.size + 1]? = some (lstO g) := by
    have := newBlockM (w1.alloc (.cells #[.pointer p0] 59)) (lstO g)
    simpa using this
  have k4 : Boxed ((w1.alloc (.cells #[.pointer p0] 59)).alloc (lstO g)) w1.heap.size 59 (.pointer p0) := (Boxed.new w1 _ _).alloc _
  have hsz : ((w1.alloc (.cells #[.pointer p0] 59)).alloc (lstO g)).heap.size = w1.heap.size + 2 := by simp
  have HFR : Hid (AFr ((w1.alloc (.cells #[.pointer p0] 59)).alloc (lstO g)) w.heap.size (w.heap.size + 1 + 1) w1.heap.size ((w1.alloc (.cells #[.pointer p0] 59)).alloc (lstO g)).heap.size b e (.slice none 0 0) [] p0) :=
    ⟨(HB2.out.block _ (by omega)).trans HM.out.1, (HB2.out.block _ (by omega)).trans HM.out.2.2, k4, ⟨rfl, .inl ⟨rfl, rfl⟩⟩⟩
  have HAR : Hid (Areas ((w1.alloc (.cells #[.pointer p0] 59)).alloc (lstO g)) b e E0 [] p0 []) := Areas.nil ((DD0.out.alloc _).alloc _) RR0.out
  have HG2 : Hid (w.grownBy ((w1.alloc (.cells #[.pointer p0] 59)).alloc (lstO g)) (some b)) := grownBel G0.out HB2.out (by omega)
  clear HM RR0 DD0 G0 x2 x3 hA1 HD HZ HB2
  generalize hW2 : (w1.alloc (.cells #[.pointer p0] 59)).alloc (lstO g) = W2 at *
  clear hW2
  have hsw : w.heap.size ≤ W2.heap.size := by omega
  have hs0 := hW0.size
  refine wpIn_rangeFunc_ownH (n := 5) rfl (by omega) (gf := 77) (lb := #[.pointer (some ⟨w1.heap.size + 1, 0, none⟩)]) rfl trivial (enters_of Tryz.func77 (by kernel_rfl) rfl)
    (all_stops Fence.wide 4 trivial rfl (by omega) (w1.heap.size + 1) W0 g l (by omega) HR.out W2 HW2.out k3) belowK_t (belowK_b (by omega)) (Below.refl _ _) (fun _ => rfl)
    (fun pre W => (∃ v ps q E', AFr W w.heap.size (w.heap.size + 1 + 1) w1.heap.size W2.heap.size b e v ps q ∧ Areas W b e E' (pre.map (fun x => x.2)) q ps ∧ ∀ x, x ∈ E0 → x ∈ E') ∧ w.grownBy W (some b) ∧ W2.heap.size ≤ W.heap.size)
    (fun c' pre W => False)
    (fun s A B row hs hg hr => by
      obtain ⟨⟨v, ps, q, E', ⟨f1, f2, f3, f4⟩, har, hE'⟩, h2, h3⟩ := hs
      have hcl : ∀ (k : Nat) cs t, A.heap[k]? = some (.cells cs t) → some k ≠ row := fun k cs t hk e' => by
        obtain ⟨-, o, ho, hc⟩ := hr k e'.symm
        rw [hk] at ho
        cases ho
        cases hc
      refine ⟨⟨v, ps, q, E', ⟨(hg.block _ (Array.getElem?_eq_some_iff.1 f1).1 (hcl _ _ _ f1)).trans f1, f2.kept hg (hcl _ _ _ f2), f3.kept hg (hcl _ _ _ f3), World.ownsRow.kept f4 hg ?_⟩, har.kept (har.1.turn hg (fun r e' => ⟨by have := (hr r e').1; omega, (hr r e').2⟩)), hE'⟩, ?_, Nat.le_trans h3 hg.size⟩
      · have f4' := f4
        obtain ⟨-, hx | ⟨gg, cap, cur, rfl, -, hgc, -⟩⟩ := f4'
        · left; rw [hx.1]; rfl
        · right; exact fun e' => hcl gg _ _ hgc e'
      · exact ⟨hg.os.trans h2.os, hg.tape.trans h2.tape, hg.output.trans h2.output, Nat.le_trans h2.size hg.size, fun i hi hne => (hg.block i (Nat.lt_of_lt_of_le hi h2.size) (fun e' => by have := (hr i e'.symm).1; omega)).trans (h2.block i hi hne)⟩)
    (fun c' => ownFrom_pure _ _)
    ⟨⟨_, [], p0, E0, HFR.out, HAR.out, fun x hx => hx⟩, HG2.out, Nat.le_refl _⟩
    (fun x a' W => ∃ Bx, W2.heap.size ≤ Bx ∧ W.heap[Bx]? = some (.cells #[.int .i64 x.2.p, .string x.2.s, .int .i64 x.2.o, .int .i64 x.2.t] 31) ∧ a' = { tmps := #[.agg #[.map (some b), .pointer (some ⟨e, 0, none⟩)], lstV g, .pointer (some ⟨w.heap.size, 0, none⟩), .pointer (some ⟨w.heap.size + 1, 0, none⟩), .slice none 0 0, .pointer none, .pointer (some ⟨w.heap.size + 1 + 1, 0, none⟩), .pointer (some ⟨w1.heap.size, 0, none⟩), undef, .pointer (some ⟨Bx, 0, none⟩), undef, undef, undef, .agg #[.map (some b), .pointer (some ⟨e, 0, none⟩)], .agg #[.int .u8 0, .int .u8 0], .pointer p0, lstV g, .func (.func 77) #[] #[.pointer (some ⟨w1.heap.size + 1, 0, none⟩)], .int .i64 x.1, R4.v x.2, undef, undef, undef, undef, undef, undef, undef, undef, undef, undef, undef, undef, undef, undef, undef, undef, undef, undef, undef, undef, undef, undef, undef, undef, undef], defers := [] })
    ?hAx ?assign ?body ?done ?stop
  case hAx =>
    intro x a' u A B row hs hg hr
    obtain ⟨Bx, h1, h2, h3⟩ := hs
    exact ⟨Bx, h1, blk_own Bx (fun _ : Unit => .cells #[.int .i64 x.2.p, .string x.2.s, .int .i64 x.2.o, .int .i64 x.2.t] 31) (fun _ => rfl) () A B row h2 hg (fun r e => (hr r e).2), h3⟩
  case assign =>
    rintro lp pre x W K ⟨⟨v, ps, q, E', hfr, har, hE'⟩, hgr, hsz2⟩ hK
    have hA := below_alloc1 W (.cells #[.int .i64 x.2.p, .string x.2.s, .int .i64 x.2.o, .int .i64 x.2.t] 31)
    have HK := hK _ (W.alloc (.cells #[.int .i64 x.2.p, .string x.2.s, .int .i64 x.2.o, .int .i64 x.2.t] 31)) ((KeepsOthers.alloc _ _).from _) (hA.mono (by omega)) ⟨⟨v, ps, q, E', hfr.below hA, har.kept (har.1.below hA), hE'⟩, grownBel hgr hA (by omega), by simp; omega⟩ ⟨W.heap.size, hsz2, newBlockM W _, rfl⟩
    clear hK
    unfold R4.v lstV at *
    gi_wp2
    exact HK
  case body =>
    rintro lp pre x a' W hl ⟨rr, hrr⟩ ⟨⟨v, ps, q, E', hfr, har, hE'⟩, hgr, hsz2⟩ ⟨Bx, hBx, bX, rfl⟩ hlt
    obtain ⟨j, r⟩ := x
    dsimp only at *
    have hbx := (Array.getElem?_eq_some_iff.1 bX).1
    obtain ⟨x0, x1, x2, x3⟩ := cells4 bX
    simp only [Nat.zero_add] at x1 x2 x3
    obtain ⟨iv, c, vv, hp1, hp2, hp3⟩ := pat_any r
    have HP1 := Lib.hid hp1
    have HP2 := Lib.hid hp2
    have HP3 := Lib.hid hp3
    have HFR0 := Lib.hid hfr
    have HAR0 := Lib.hid har
    have HGR := Lib.hid hgr
    have HEE := Lib.hid hE'
    have hpl : ps.length ≤ 1000 := by have := har.2.2.1; simp at this; omega
    clear hp1 hp2 hp3 hfr har hgr hE' HFR HAR HG2 HW2 HR hrr hlt
    unfold R4.v lstV
    have hbw' : b < w.heap.size := hbw
    gi_wp2_with fail
    refine ⟨trivial, ?_⟩
    refine (CallsIn.inRound lp (callsIn_wide.2 (HP1.out _))).mono ?_
    rintro ex w2 ⟨rfl, b2⟩
    have FR2 := Lib.hid (HFR0.out.below b2)
    have AR2 := Lib.hid (HAR0.out.kept (HAR0.out.1.below b2))
    have GR2 : Hid (W.grownBy w2 (some b)) := sOf (some b) b2
    clear b2 HFR0 HAR0 x0 x1 x2 x3
    gi_wp2_with fail
    refine ⟨trivial, ?_⟩
    refine (CallsIn.inRound lp (callsIn_wide.2 (HP2.out _))).mono ?_
    rintro ex w3 ⟨⟨kk, rfl⟩, b3⟩
    have hA3 := below_alloc1 w3 (.cells #[.int .u8 (ofB c), .int .u8 (ofB vv)] 103)
    have FR3 := Lib.hid ((FR2.out.below b3).below hA3)
    have AR3 := Lib.hid (AR2.out.kept ((AR2.out.1.below b3).below hA3))
    have GR3 : Hid (W.grownBy (w3.alloc (.cells #[.int .u8 (ofB c), .int .u8 (ofB vv)] 103)) (some b)) := sTrans GR2.out (sTrans (sOf (some b) b3) (sOf (some b) hA3))
    obtain ⟨d0, d1⟩ := FR3.out.dcell
    obtain ⟨y0, y1, -⟩ := cells2 (newBlockM w3 (.cells #[.int .u8 (ofB c), .int .u8 (ofB vv)] 103))
    clear b3 hA3 FR2 AR2 GR2
    gi_wp2_with fail
    refine ⟨trivial, ?_⟩
    refine (CallsIn.inRound lp (callsIn_wide.2 (ofMasks_any _ b e E' c vv AR3.out.1))).mono ?_
    rintro ex w4 ⟨p4, rfl, E4, s4, D4, R4, g4⟩
    rw [HP3.out] at R4
    have FR4 := Lib.hid (FR3.out.grown g4 hbw' (by omega) (by omega) (by omega))
    have AR4 : Hid (Areas w4 b e E4 (pre.map (fun x => x.2)) q ps) := ⟨D4, AR3.out.2.1.mono s4, AR3.out.2.2.1, fun j hj => (AR3.out.2.2.2 j hj).mono s4⟩
    have GR4 : Hid (W.grownBy w4 (some b)) := sTrans GR3.out g4
    have EE4 : Hid (∀ x, x ∈ E0 → x ∈ E4) := fun x hx => s4 x (HEE.out x hx)
    have RR4 := Lib.hid R4
    obtain ⟨d2, d3⟩ := FR4.out.dcell
    have a4 := FR4.out.a.cell
    have r4 := FR4.out.r.cell
    clear d0 d1 y0 y1 g4 D4 R4 s4 FR3 AR3 GR3 HP1 HP2 HP3 HEE
    -- the region of the append: whatever its order
    have HX : Hid (AFr w4.drew w.heap.size (w.heap.size + 1 + 1) w1.heap.size W2.heap.size b e v ps q) := FR4.out.below (Below.refl _ _).drew
    have HXD : Hid (Dg w4.drew b e E4) := AR4.out.1.drew
    have HCB : Hid (∀ W', Dg W' b e E4 → Calls Tryz.prog 43 #[.agg #[.map (some b), .pointer (some ⟨e, 0, none⟩)], .pointer q, .pointer p4, .agg #[.bool false, .bool true, .bool false]] W' fun ex w' => ∃ r', ex = .returned (.pointer r') ∧ Good W' w' b e E4 6 r' (List.zipWith (keepF false true false) (restF (pre.map (fun x => x.2))) (setR r))) := fun W' hW' => combine_any b e false true false 6 E4 q p4 _ _ W' hW' AR4.out.2.1 RR4.out
    obtain ⟨J, hJ⟩ : ∃ J : Nat → Array Bool → Act → World → Prop, J = fun fuel listed a' w' =>
      (∃ c0 c1 c2 c3 c4 : Bool, fuel + (c0.toNat + c1.toNat + c2.toNat + c3.toNat + c4.toNat) = 9 ∧ listed = #[c0, c1, c2, c3, c4, false, false, false, false] ∧ a' = { tmps := #[.agg #[.map (some b), .pointer (some ⟨e, 0, none⟩)], .agg #[.func (.func 63) #[] #[], .pointer (some ⟨g, 0, none⟩)], .pointer (some ⟨w.heap.size, 0, none⟩), .pointer (some ⟨w.heap.size + 1, 0, none⟩), .slice none 0 0, .pointer none, .pointer (some ⟨w.heap.size + 1 + 1, 0, none⟩), .pointer (some ⟨w1.heap.size, 0, none⟩), undef, .pointer (some ⟨Bx, 0, none⟩), .pointer (some ⟨w3.heap.size, 0, none⟩), .bool kk, .pointer p4, .agg #[.map (some b), .pointer (some ⟨e, 0, none⟩)], .agg #[.int .u8 0, .int .u8 0], .pointer p0, .agg #[.func (.func 63) #[] #[], .pointer (some ⟨g, 0, none⟩)], .func (.func 77) #[] #[.pointer (some ⟨w1.heap.size + 1, 0, none⟩)], .int .i64 j, .agg #[.int .i64 r.p, .string r.s, .int .i64 r.o, .int .i64 r.t], .tuple #[.agg #[.int .u8 (ofB c), .int .u8 (ofB vv)], .bool kk], .pointer (some ⟨Bx, 1, none⟩), .string r.s, iv, .tuple #[.agg #[.int .u8 (ofB c), .int .u8 (ofB vv)], .bool kk], .agg #[.int .u8 (ofB c), .int .u8 (ofB vv)], .bool kk, .agg #[.map (some b), .pointer (some ⟨e, 0, none⟩)], .agg #[.int .u8 (ofB c), .int .u8 (ofB vv)], .pointer p4, (bif c0 then v else undef), (bif c1 then .agg #[.map (some b), .pointer (some ⟨e, 0, none⟩)] else undef), (bif c2 then .pointer q else undef), (bif c3 then .pointer p4 else undef), (bif c4 then .agg #[.bool false, .bool true, .bool false] else undef), undef, undef, undef, undef, undef, undef, undef, undef, undef, undef], defers := [] } ∧ w' = w4.drew) ∨
      (∃ (c0 : Bool) (p5 : Option Addr) (w5 : World), fuel + c0.toNat = 4 ∧ listed = #[c0, true, true, true, true, true, false, false, false] ∧ a' = { tmps := #[.agg #[.map (some b), .pointer (some ⟨e, 0, none⟩)], .agg #[.func (.func 63) #[] #[], .pointer (some ⟨g, 0, none⟩)], .pointer (some ⟨w.heap.size, 0, none⟩), .pointer (some ⟨w.heap.size + 1, 0, none⟩), .slice none 0 0, .pointer none, .pointer (some ⟨w.heap.size + 1 + 1, 0, none⟩), .pointer (some ⟨w1.heap.size, 0, none⟩), undef, .pointer (some ⟨Bx, 0, none⟩), .pointer (some ⟨w3.heap.size, 0, none⟩), .bool kk, .pointer p4, .agg #[.map (some b), .pointer (some ⟨e, 0, none⟩)], .agg #[.int .u8 0, .int .u8 0], .pointer p0, .agg #[.func (.func 63) #[] #[], .pointer (some ⟨g, 0, none⟩)], .func (.func 77) #[] #[.pointer (some ⟨w1.heap.size + 1, 0, none⟩)], .int .i64 j, .agg #[.int .i64 r.p, .string r.s, .int .i64 r.o, .int .i64 r.t], .tuple #[.agg #[.int .u8 (ofB c), .int .u8 (ofB vv)], .bool kk], .pointer (some ⟨Bx, 1, none⟩), .string r.s, iv, .tuple #[.agg #[.int .u8 (ofB c), .int .u8 (ofB vv)], .bool kk], .agg #[.int .u8 (ofB c), .int .u8 (ofB vv)], .bool kk, .agg #[.map (some b), .pointer (some ⟨e, 0, none⟩)], .agg #[.int .u8 (ofB c), .int .u8 (ofB vv)], .pointer p4, (bif c0 then v else undef), .agg #[.map (some b), .pointer (some ⟨e, 0, none⟩)], .pointer q, .pointer p4, .agg #[.bool false, .bool true, .bool false], .pointer p5, undef, undef, undef, undef, undef, undef, undef, undef, undef], defers := [] } ∧ w' = w5 ∧ Good w4.drew w5 b e E4 6 p5 (List.zipWith (keepF false true false) (restF (pre.map (fun x => x.2))) (setR r))) ∨
      (∃ (c0 : Bool) (p5 : Option Addr) (w5 : World), fuel + c0.toNat = 3 ∧ listed = #[c0, true, true, true, true, true, true, false, false] ∧ a' = { tmps := #[.agg #[.map (some b), .pointer (some ⟨e, 0, none⟩)], .agg #[.func (.func 63) #[] #[], .pointer (some ⟨g, 0, none⟩)], .pointer (some ⟨w.heap.size, 0, none⟩), .pointer (some ⟨w.heap.size + 1, 0, none⟩), .slice none 0 0, .pointer none, .pointer (some ⟨w.heap.size + 1 + 1, 0, none⟩), .pointer (some ⟨w1.heap.size, 0, none⟩), undef, .pointer (some ⟨Bx, 0, none⟩), .pointer (some ⟨w3.heap.size, 0, none⟩), .bool kk, .pointer p4, .agg #[.map (some b), .pointer (some ⟨e, 0, none⟩)], .agg #[.int .u8 0, .int .u8 0], .pointer p0, .agg #[.func (.func 63) #[] #[], .pointer (some ⟨g, 0, none⟩)], .func (.func 77) #[] #[.pointer (some ⟨w1.heap.size + 1, 0, none⟩)], .int .i64 j, .agg #[.int .i64 r.p, .string r.s, .int .i64 r.o, .int .i64 r.t], .tuple #[.agg #[.int .u8 (ofB c), .int .u8 (ofB vv)], .bool kk], .pointer (some ⟨Bx, 1, none⟩), .string r.s, iv, .tuple #[.agg #[.int .u8 (ofB c), .int .u8 (ofB vv)], .bool kk], .agg #[.int .u8 (ofB c), .int .u8 (ofB vv)], .bool kk, .agg #[.map (some b), .pointer (some ⟨e, 0, none⟩)], .agg #[.int .u8 (ofB c), .int .u8 (ofB vv)], .pointer p4, (bif c0 then v else undef), .agg #[.map (some b), .pointer (some ⟨e, 0, none⟩)], .pointer q, .pointer p4, .agg #[.bool false, .bool true, .bool false], .pointer p5, .slice (some ⟨w5.heap.size, 0, none⟩) 1 1, undef, undef, undef, undef, undef, undef, undef, undef], defers := [] } ∧ w' = w5.alloc (.cells #[.pointer p5] 59) ∧ Good w4.drew w5 b e E4 6 p5 (List.zipWith (keepF false true false) (restF (pre.map (fun x => x.2))) (setR r))) ∨
      (∃ (p5 : Option Addr) (w5 w6 : World) (v' : Value), fuel = 1 ∧ listed = #[true, true, true, true, true, true, true, true, false] ∧ a' = { tmps := #[.agg #[.map (some b), .pointer (some ⟨e, 0, none⟩)], .agg #[.func (.func 63) #[] #[], .pointer (some ⟨g, 0, none⟩)], .pointer (some ⟨w.heap.size, 0, none⟩), .pointer (some ⟨w.heap.size + 1, 0, none⟩), .slice none 0 0, .pointer none, .pointer (some ⟨w.heap.size + 1 + 1, 0, none⟩), .pointer (some ⟨w1.heap.size, 0, none⟩), undef, .pointer (some ⟨Bx, 0, none⟩), .pointer (some ⟨w3.heap.size, 0, none⟩), .bool kk, .pointer p4, .agg #[.map (some b), .pointer (some ⟨e, 0, none⟩)], .agg #[.int .u8 0, .int .u8 0], .pointer p0, .agg #[.func (.func 63) #[] #[], .pointer (some ⟨g, 0, none⟩)], .func (.func 77) #[] #[.pointer (some ⟨w1.heap.size + 1, 0, none⟩)], .int .i64 j, .agg #[.int .i64 r.p, .string r.s, .int .i64 r.o, .int .i64 r.t], .tuple #[.agg #[.int .u8 (ofB c), .int .u8 (ofB vv)], .bool kk], .pointer (some ⟨Bx, 1, none⟩), .string r.s, iv, .tuple #[.agg #[.int .u8 (ofB c), .int .u8 (ofB vv)], .bool kk], .agg #[.int .u8 (ofB c), .int .u8 (ofB vv)], .bool kk, .agg #[.map (some b), .pointer (some ⟨e, 0, none⟩)], .agg #[.int .u8 (ofB c), .int .u8 (ofB vv)], .pointer p4, v, .agg #[.map (some b), .pointer (some ⟨e, 0, none⟩)], .pointer q, .pointer p4, .agg #[.bool false, .bool true, .bool false], .pointer p5, .slice (some ⟨w5.heap.size, 0, none⟩) 1 1, v', undef, undef, undef, undef, undef, undef, undef], defers := [] } ∧ w' = w6 ∧ Good w4.drew w5 b e E4 6 p5 (List.zipWith (keepF false true false) (restF (pre.map (fun x => x.2))) (setR r)) ∧ (w5.alloc (.cells #[.pointer p5] 59)).grownBy w6 v.ownBlock ∧ w6.ownsRow W2.heap.size 59 1 v' (ps.length + 1) (ps.map Value.pointer ++ [.pointer p5])) ∨
      (∃ (p5 : Option Addr) (w5 w6 : World) (v' : Value), fuel = 0 ∧ listed = #[true, true, true, true, true, true, true, true, true] ∧ a' = { tmps := #[.agg #[.map (some b), .pointer (some ⟨e, 0, none⟩)], .agg #[.func (.func 63) #[] #[], .pointer (some ⟨g, 0, none⟩)], .pointer (some ⟨w.heap.size, 0, none⟩), .pointer (some ⟨w.heap.size + 1, 0, none⟩), .slice none 0 0, .pointer none, .pointer (some ⟨w.heap.size + 1 + 1, 0, none⟩), .pointer (some ⟨w1.heap.size, 0, none⟩), undef, .pointer (some ⟨Bx, 0, none⟩), .pointer (some ⟨w3.heap.size, 0, none⟩), .bool kk, .pointer p4, .agg #[.map (some b), .pointer (some ⟨e, 0, none⟩)], .agg #[.int .u8 0, .int .u8 0], .pointer p0, .agg #[.func (.func 63) #[] #[], .pointer (some ⟨g, 0, none⟩)], .func (.func 77) #[] #[.pointer (some ⟨w1.heap.size + 1, 0, none⟩)], .int .i64 j, .agg #[.int .i64 r.p, .string r.s, .int .i64 r.o, .int .i64 r.t], .tuple #[.agg #[.int .u8 (ofB c), .int .u8 (ofB vv)], .bool kk], .pointer (some ⟨Bx, 1, none⟩), .string r.s, iv, .tuple #[.agg #[.int .u8 (ofB c), .int .u8 (ofB vv)], .bool kk], .agg #[.int .u8 (ofB c), .int .u8 (ofB vv)], .bool kk, .agg #[.map (some b), .pointer (some ⟨e, 0, none⟩)], .agg #[.int .u8 (ofB c), .int .u8 (ofB vv)], .pointer p4, v, .agg #[.map (some b), .pointer (some ⟨e, 0, none⟩)], .pointer q, .pointer p4, .agg #[.bool false, .bool true, .bool false], .pointer p5, .slice (some ⟨w5.heap.size, 0, none⟩) 1 1, v', undef, undef, undef, undef, undef, undef, undef], defers := [] } ∧ w' = w6.setCell ⟨w.heap.size + 1 + 1, 0, none⟩ v' ∧ Good w4.drew w5 b e E4 6 p5 (List.zipWith (keepF false true false) (restF (pre.map (fun x => x.2))) (setR r)) ∧ (w5.alloc (.cells #[.pointer p5] 59)).grownBy w6 v.ownBlock ∧ w6.ownsRow W2.heap.size 59 1 v' (ps.length + 1) (ps.map Value.pointer ++ [.pointer p5])) := ⟨_, rfl⟩
    gi_wp2_with fail
    refine wpIn_region_any (by kernel_rfl) ?_
    refine wpAny_inv J ?h0 ?h1 _ _ _ _ (by rw [hJ]; exact .inl ⟨false, false, false, false, false, rfl, rfl, rfl, rfl⟩)
    case h0 =>
      intro listed a' w' h
      rw [hJ] at h
      rcases h with ⟨c0, c1, c2, c3, c4, hf, -⟩ | ⟨c0, p5, w5, hf, -⟩ | ⟨c0, p5, w5, hf, -⟩ | ⟨p5, w5, w6, v', hf, -⟩ | ⟨p5, w5, w6, v', -, rfl, rfl, rfl, hG, hg6, ho6⟩
      · have := Bool.toNat_le c0; have := Bool.toNat_le c1; have := Bool.toNat_le c2; have := Bool.toNat_le c3; have := Bool.toNat_le c4; omega
      · have := Bool.toNat_le c0; omega
      · have := Bool.toNat_le c0; omega
      · omega
      clear hJ J
      refine ⟨by kernel_rfl, ?_⟩
      have hG' := hG
      obtain ⟨E5, s5, D5, R5, g5⟩ := hG'
      have FR5 := (HX.out.grown g5 hbw' (by omega) (by omega) (by omega)).below (below_alloc1 w5 (.cells #[.pointer p5] 59))
      obtain ⟨gv, cv, rfl⟩ := ownsRow_succ ho6
      obtain ⟨hb6, hfr7⟩ := FR5.appended (p := p5) hg6 ho6 (by omega) (by omega) (by omega) (by omega) (by omega)
      have FR7 := Lib.hid hfr7
      have D7 := Lib.hid (((D5.alloc (.cells #[.pointer p5] 59)).rowed FR5.o hg6).boxed hb6 (by decide) (.slice (some ⟨gv, 0, none⟩) (ps.length + 1) cv))
      have MV7 : Hid (Mv w.heap.size W2.heap.size b W (w6.setCell ⟨w.heap.size + 1 + 1, 0, none⟩ (.slice (some ⟨gv, 0, none⟩) (ps.length + 1) cv))) :=
        (((((Mv.grown GR4.out (by omega)).trans (Mv.below (Below.refl w4.heap.size w4).drew)).trans (Mv.grown g5 (by omega))).trans (Mv.below (below_alloc1 _ _))).trans (Mv.row FR5.o hg6 hsw)).trans (Mv.cell _ _ (by omega))
      have RR5 := Lib.hid R5
      have SS5 := Lib.hid s5
      have HCC := Lib.hid (combine_any b e true false false 6 E5 q p4 _ _ _ D7.out (AR4.out.2.1.mono s5) (RR4.out.mono s5))
      generalize w6.setCell ⟨w.heap.size + 1 + 1, 0, none⟩ (.slice (some ⟨gv, 0, none⟩) (ps.length + 1) cv) = Z at *
      obtain ⟨d0, d1⟩ := FR7.out.dcell
      have r7 := FR7.out.r.cell
      clear hG s5 D5 R5 g5 FR5 hb6 hfr7 hg6 ho6 a4 r4 d2 d3 HX HXD HCB
      gi_wp2_with fail
      refine ⟨trivial, ?_⟩
      refine (CallsIn.inRound lp (callsIn_wide.2 HCC.out)).mono ?_
      rintro ex w8 ⟨q', rfl, E8, s8, D8, R8, g8⟩
      have FR8 := Lib.hid (FR7.out.grown g8 hbw' (by omega) (by omega) (by omega))
      have MV8 : Hid (Mv w.heap.size W2.heap.size b W (w8.setCell ⟨w1.heap.size, 0, none⟩ (.pointer q'))) := (MV7.out.trans (Mv.grown g8 (by omega))).trans (Mv.cell _ _ (by omega))
      have D9 := Lib.hid (D8.boxed FR8.out.r (by decide) (.pointer q'))
      have HAR9 : Hid (Areas (w8.setCell ⟨w1.heap.size, 0, none⟩ (.pointer q')) b e E8 (pre.map (fun x => x.2) ++ [r]) q' (ps ++ [p5])) := AR4.out.snoc (fun x hx => s8 x (SS5.out x hx)) D9.out r (RR5.out.mono s8) R8
      have FR9 := Lib.hid (FR8.out.rest q' (by omega) (by omega) (by omega))
      have EE9 : Hid (∀ x, x ∈ E0 → x ∈ E8) := fun x hx => s8 x (SS5.out x (EE4.out x hx))
      have r8 := FR8.out.r.cell
      have f8 := FR8.out.r.frozen
      clear s8 D8 R8 g8 d0 d1 r7 HCC D7 MV7 FR7 FR8 D9 RR5 SS5
      gi_wp2
      refine ⟨MV8.out.keep, ⟨MV8.out.os, MV8.out.tape, MV8.out.output, MV8.out.keep.size, fun k hk => MV8.out.block k (by omega) (by omega) (by omega)⟩, ⟨_, _, q', E8, FR9.out, ?_, EE9.out⟩, ⟨MV8.out.os.trans HGR.out.os, MV8.out.tape.trans HGR.out.tape, MV8.out.output.trans HGR.out.output, Nat.le_trans HGR.out.size MV8.out.keep.size, fun i hi hne => (MV8.out.block i hi (Nat.lt_of_lt_of_le hi HGR.out.size) (fun e' => hne (by rw [e']))).trans (HGR.out.block i hi hne)⟩, Nat.le_trans hsz2 MV8.out.keep.size⟩
      rw [List.map_append]
      exact HAR9.out
    case h1 =>
      intro fuel listed a' w' h
      have hx0 := HX.out.dcell
      obtain ⟨d0, d1⟩ := hx0
      have a0 := HX.out.a.cell
      have r0 := HX.out.r.cell
      rw [hJ] at h
      rcases h with ⟨c0, c1, c2, c3, c4, hf, rfl, rfl, rfl⟩ | ⟨c0, p5, w5, hf, rfl, rfl, rfl, hG⟩ | ⟨c0, p5, w5, hf, rfl, rfl, rfl, hG⟩ | ⟨p5, w5, w6, v', hf, rfl, rfl, rfl, hG, hg6, ho6⟩ | ⟨p5, w5, w6, v', hf, -⟩
      · refine ⟨fun hr => ?_, fun i hi => ?_⟩
        · exfalso
          revert hr
          cases c0 <;> cases c1 <;> cases c2 <;> cases c3 <;> cases c4 <;> (intro hr; exact absurd hr (by decide +kernel))
        · obtain ⟨hun, o, ho, hall⟩ := mem_ready.1 hi
          clear hi
          match i, hun, ho, hall with
          | 0, hun, ho, hall =>
            obtain rfl : c0 = false := hun
            refine wpOpIn_step rfl fun K hK => ?_
            go_simp
            refine hK _ _ ?_
            clear hK K
            rw [hJ]
            exact .inl ⟨true, c1, c2, c3, c4, by simp at hf ⊢; omega, rfl, rfl, rfl⟩
          | 1, hun, ho, hall =>
            obtain rfl : c1 = false := hun
            refine wpOpIn_step rfl fun K hK => ?_
            go_simp
            refine hK _ _ ?_
            clear hK K
            rw [hJ]
            exact .inl ⟨c0, true, c2, c3, c4, by simp at hf ⊢; omega, rfl, rfl, rfl⟩
          | 2, hun, ho, hall =>
            obtain rfl : c2 = false := hun
            refine wpOpIn_step rfl fun K hK => ?_
            go_simp
            refine hK _ _ ?_
            clear hK K
            rw [hJ]
            exact .inl ⟨c0, c1, true, c3, c4, by simp at hf ⊢; omega, rfl, rfl, rfl⟩
          | 3, hun, ho, hall =>
            obtain rfl : c3 = false := hun
            refine wpOpIn_step rfl fun K hK => ?_
            go_simp
            refine hK _ _ ?_
            clear hK K
            rw [hJ]
            exact .inl ⟨c0, c1, c2, true, c4, by simp at hf ⊢; omega, rfl, rfl, rfl⟩
          | 4, hun, ho, hall =>
            obtain rfl : c4 = false := hun
            refine wpOpIn_step rfl fun K hK => ?_
            go_simp
            refine hK _ _ ?_
            clear hK K
            rw [hJ]
            exact .inl ⟨c0, c1, c2, c3, true, by simp at hf ⊢; omega, rfl, rfl, rfl⟩
          | 5, hun, ho, hall =>
            simp at ho
            subst ho
            obtain rfl : c1 = true := hall { on := 1, ground := .data } (by simp) rfl
            obtain rfl : c2 = true := hall { on := 2, ground := .data } (by simp) rfl
            obtain rfl : c3 = true := hall { on := 3, ground := .data } (by simp) rfl
            obtain rfl : c4 = true := hall { on := 4, ground := .data } (by simp) rfl
            clear hall hun
            refine wpOpIn_step rfl fun K hK => ?_
            go_simp
            refine ⟨trivial, ?_⟩
            refine (CallsIn.inRound lp (callsIn_wide.2 (HCB.out _ HXD.out))).mono ?_
            rintro ex w5 ⟨p5, rfl, hG⟩
            refine hK _ _ ?_
            clear hK K
            rw [hJ]
            exact .inr (.inl ⟨c0, p5, w5, by simp at hf ⊢; omega, rfl, rfl, rfl, hG⟩)
          | 6, hun, ho, hall =>
            simp at ho
            subst ho
            exact Bool.noConfusion (hall { on := 5, ground := .data } (by simp) rfl : false = true)
          | 7, hun, ho, hall =>
            simp at ho
            subst ho
            exact Bool.noConfusion (hall { on := 6, ground := .data } (by simp) rfl : false = true)
          | 8, hun, ho, hall =>
            simp at ho
            subst ho
            exact Bool.noConfusion (hall { on := 7, ground := .data } (by simp) rfl : false = true)
          | i + 9, hun, ho, hall => simp at ho
      · have hG' := hG
        obtain ⟨E5, s5, D5, R5, g5⟩ := hG'
        have FR5 := HX.out.grown g5 hbw' (by omega) (by omega) (by omega)
        have a5 := FR5.a.cell
        refine ⟨fun hr => ?_, fun i hi => ?_⟩
        · exfalso
          revert hr
          cases c0 <;> (intro hr; exact absurd hr (by decide +kernel))
        · obtain ⟨hun, o, ho, hall⟩ := mem_ready.1 hi
          clear hi
          match i, hun, ho, hall with
          | 0, hun, ho, hall =>
            obtain rfl : c0 = false := hun
            refine wpOpIn_step rfl fun K hK => ?_
            go_simp
            refine hK _ _ ?_
            clear hK K
            rw [hJ]
            exact .inr (.inl ⟨true, p5, w', by simp at hf ⊢; omega, rfl, rfl, rfl, hG⟩)
          | 1, hun, ho, hall => exact Bool.noConfusion (hun : true = false)
          | 2, hun, ho, hall => exact Bool.noConfusion (hun : true = false)
          | 3, hun, ho, hall => exact Bool.noConfusion (hun : true = false)
          | 4, hun, ho, hall => exact Bool.noConfusion (hun : true = false)
          | 5, hun, ho, hall => exact Bool.noConfusion (hun : true = false)
          | 6, hun, ho, hall =>
            refine wpOpIn_step rfl fun K hK => ?_
            go_simp
            refine hK _ _ ?_
            clear hK K
            rw [hJ]
            exact .inr (.inr (.inl ⟨c0, p5, w', by omega, rfl, rfl, rfl, hG⟩))
          | 7, hun, ho, hall =>
            simp at ho
            subst ho
            exact Bool.noConfusion (hall { on := 6, ground := .data } (by simp) rfl : false = true)
          | 8, hun, ho, hall =>
            simp at ho
            subst ho
            exact Bool.noConfusion (hall { on := 7, ground := .data } (by simp) rfl : false = true)
          | i + 9, hun, ho, hall => simp at ho
      · have hG' := hG
        obtain ⟨E5, s5, D5, R5, g5⟩ := hG'
        have FR5 := (HX.out.grown g5 hbw' (by omega) (by omega) (by omega)).below (below_alloc1 w5 (.cells #[.pointer p5] 59))
        have a5 := FR5.a.cell
        have z5 := g5.size
        have n5 : (w5.alloc (.cells #[.pointer p5] 59)).cell? ⟨w5.heap.size, 0, none⟩ = some (.pointer p5) := (Boxed.new w5 _ _).cell
        refine ⟨fun hr => ?_, fun i hi => ?_⟩
        · exfalso
          revert hr
          cases c0 <;> (intro hr; exact absurd hr (by decide +kernel))
        · obtain ⟨hun, o, ho, hall⟩ := mem_ready.1 hi
          clear hi
          match i, hun, ho, hall with
          | 0, hun, ho, hall =>
            obtain rfl : c0 = false := hun
            refine wpOpIn_step rfl fun K hK => ?_
            go_simp
            refine hK _ _ ?_
            clear hK K
            rw [hJ]
            exact .inr (.inr (.inl ⟨true, p5, w5, by simp at hf ⊢; omega, rfl, rfl, rfl, hG⟩))
          | 1, hun, ho, hall => exact Bool.noConfusion (hun : true = false)
          | 2, hun, ho, hall => exact Bool.noConfusion (hun : true = false)
          | 3, hun, ho, hall => exact Bool.noConfusion (hun : true = false)
          | 4, hun, ho, hall => exact Bool.noConfusion (hun : true = false)
          | 5, hun, ho, hall => exact Bool.noConfusion (hun : true = false)
          | 6, hun, ho, hall => exact Bool.noConfusion (hun : true = false)
          | 7, hun, ho, hall =>
            simp at ho
            subst ho
            obtain rfl : c0 = true := hall { on := 0, ground := .data } (by simp) rfl
            clear hall hun
            refine wpOpIn_step rfl fun K hK => ?_
            rw [if_pos (by rfl)]
            refine app_stepP _ _ rfl W2.heap.size ps.length v _ rfl FR5.o w5.heap.size p5 rfl n5 (by omega) (by simp; have : W2.heap.size ≤ w4.heap.size := Nat.le_trans hsz2 GR4.out.size; have : w4.drew.heap.size = w4.heap.size := rfl; omega) ?_
            intro v' w6 hown hg
            refine hK _ _ ?_
            clear hK K
            rw [hJ]
            exact .inr (.inr (.inr (.inl ⟨p5, w5, w6, v', by simp at hf; omega, rfl, rfl, rfl, hG, hg, hown⟩)))
          | 8, hun, ho, hall =>
            simp at ho
            subst ho
            exact Bool.noConfusion (hall { on := 7, ground := .data } (by simp) rfl : false = true)
          | i + 9, hun, ho, hall => simp at ho
      · have hG' := hG
        obtain ⟨E5, s5, D5, R5, g5⟩ := hG'
        have FR5 := (HX.out.grown g5 hbw' (by omega) (by omega) (by omega)).below (below_alloc1 w5 (.cells #[.pointer p5] 59))
        have hb6 := (FR5.appended (p := p5) hg6 ho6 (by omega) (by omega) (by omega) (by omega) (by omega)).1
        have a6 := hb6.cell
        have f6' := hb6.frozen
        obtain ⟨gv', cv', rfl⟩ := ownsRow_succ ho6
        refine ⟨fun hr => ?_, fun i hi => ?_⟩
        · exfalso
          exact absurd hr (by decide +kernel)
        · obtain ⟨hun, o, ho, hall⟩ := mem_ready.1 hi
          clear hi
          match i, hun, ho, hall with
          | 0, hun, ho, hall => exact Bool.noConfusion (hun : true = false)
          | 1, hun, ho, hall => exact Bool.noConfusion (hun : true = false)
          | 2, hun, ho, hall => exact Bool.noConfusion (hun : true = false)
          | 3, hun, ho, hall => exact Bool.noConfusion (hun : true = false)
          | 4, hun, ho, hall => exact Bool.noConfusion (hun : true = false)
          | 5, hun, ho, hall => exact Bool.noConfusion (hun : true = false)
          | 6, hun, ho, hall => exact Bool.noConfusion (hun : true = false)
          | 7, hun, ho, hall => exact Bool.noConfusion (hun : true = false)
          | 8, hun, ho, hall =>
            refine wpOpIn_step rfl fun K hK => ?_
            go_simp
            refine hK _ _ ?_
            clear hK K
            rw [hJ]
            exact .inr (.inr (.inr (.inr ⟨p5, w5, w', _, by omega, rfl, rfl, rfl, hG, hg6, ho6⟩)))
          | i + 9, hun, ho, hall => simp at ho
      · omega
  case done =>
    rintro D ys W hD rfl ⟨⟨v, ps, q, E', hfr, har, hE'⟩, hgr, hsz2⟩ hK
    rw [comeA_snd] at har
    have a0 := hfr.a.cell
    have r0 := hfr.r.cell
    have HFR9 := Lib.hid hfr
    have HAR9 := Lib.hid har
    have HGR9 := Lib.hid hgr
    clear hfr har hgr hE'
    have HKD : Hid (W.drew.heap[D]? = some (.deferred (some []))) := hK
    gi_wp2
    first | gi_region_with (fail) | fail
    all_goals gi_wp2
    all_goals
      refine ⟨by simp, .inl ⟨_, _, rfl, run_takeDeferred HKD.out, ?_⟩⟩
      refine ⟨.tuple #[v, .pointer q], by simp [results, Tryz.results32, go_sem], v, q, ps, E', rfl, ?_, ?_, ?_⟩
      · exact World.ownsRow.mono (ownsRow_putObj (HFR9.out.below (Below.refl _ _).drew).o (.deferred none) HKD.out rfl) hsw
      · exact HAR9.out.kept ((HAR9.out.1.drew).turn (grownBy_putObj' W.drew D (.deferred none)) (fun r e' => by
          have := Option.some.inj e'
          subst this
          exact ⟨by omega, _, HKD.out, rfl⟩))
      · exact ⟨HGR9.out.os, HGR9.out.tape, HGR9.out.output, by simpa using HGR9.out.size, fun i hi hne => (World.putObj_heap_other (w := W.drew) (o := .deferred none) (show i ≠ D by omega)).trans (HGR9.out.block i hi hne)⟩
  case stop =>
    rintro D c' pre W hD - h
    exact h.elim

end Go.Proofs.YtehgpehhpijkjaaGreatDoor

namespace Go.Proofs.YtehgpehhpijkjaaGreatDoor
open Go.ChangeShapes Go.WideShapes Go.ChangeAt Go.RowKit Go.Joins
open Go.Shelf
set_option linter.unusedVariables false

theorem PtrRow.at {w : World} {base : Nat} {v : Value} {ps : List (Option Addr)} (h : PtrRow w base v ps) {k : Nat} (hk : k < ps.length) : ∃ g cap, v = .slice (some ⟨g, 0, none⟩) ps.length cap ∧ ps.length ≤ cap ∧ cap ≤ maxLen ∧ base ≤ g ∧ g < w.heap.size ∧ w.cell? ⟨g, k, none⟩ = some (.pointer (ptAt ps k)) := by
  have h0 := h
  obtain ⟨hl, h1 | ⟨g, cap, cur, rfl, hb, hg, hc, hm, hs, ht⟩⟩ := h
  · have := h1.2; omega
  · refine ⟨g, cap, rfl, hc, hm, hb, (World.ownsRow.lt h0 g rfl).2, ?_⟩
    have := World.ownsRow.cellAt h0 k (by omega)
    rw [this, List.getElem?_map, ptAt, List.getD_eq_getElem?_getD, List.getElem?_eq_getElem hk]
    rfl

set_option maxRecDepth 100000 in
set_option maxHeartbeats 4000000 in
theorem iTableArea_any (w : World) (v : Value) (l : List R4) (h : Rls w w.heap.size v l) (hn : l.length ≤ 1048576) (q : Int) (hE : EtOk w) :
    Calls Tryz.prog 8 #[v, .int .i64 q] w fun e w' => ∃ u, e = .returned u ∧ StrRow w' w.heap.size u (areaT l q) ∧ Below w.heap.size w w' := by
  have HC := Lib.hid (readTable_any w v l h hn hE)
  obtain ⟨a, cap, rfl⟩ : ∃ a cap, v = .slice a l.length cap := by
    obtain ⟨a, cap, rfl, -⟩ := h
    exact ⟨a, cap, rfl⟩
  clear h hE
  by_cases hin : tOk l = true ∧ -1 ≤ q ∧ q < (l.length : Int)
  · obtain ⟨ht, hq1, hq2⟩ := hin
    have h48 := tOk_len ht
    have HT : Hid (areaT l q = tidyT (areaM l q)) := by
      show _ = _
      unfold areaT inB
      rw [ht, decide_eq_true hq1, decide_eq_true (show q ≤ (l.length : Int) - 1 by omega)]
      rfl
    rw [HT.out]
    have hq1' : decide (q < -1) = false := by simp; omega
    have hq2' : decide ((l.length : Int) ≤ q) = false := by simp; omega
    have HRA := Lib.hid (restF_area l)
    have HAA : Hid (∀ k : Nat, k < l.length → areaF l k = areaM l (k : Int)) := fun k hk => areaF_area l hk
    rw [ht] at HC
    go_enter Tryz.func8, Tryz.ntmps8
    go_wp2_with fail
    refine HC.out.mono ?_
    rintro e w1 ⟨g, rfl, hg, hlr, b1⟩
    have HLR := Lib.hid (hlr trivial)
    have hgl : g < w1.heap.size := (Array.getElem?_eq_some_iff.1 (hlr trivial).choose_spec.1).1
    have B1 := Lib.hid b1
    have s1 := b1.size
    have L0 := Lib.hid (newBlockM w1 (lstO g))
    unfold lstV
    clear hlr b1 HC
    by_cases hz : q = -1
    · subst hz
      go_wp2
      generalize hV : w1.alloc (.cells #[.func (.func 63) #[] #[], .pointer (some ⟨g, 0, none⟩)] 55) = V at *
      have hvs : w1.heap.size < V.heap.size := by rw [← hV]; simp
      have BV : Hid (Below w1.heap.size w1 V.drew) := by show Below _ _ _; rw [← hV]; exact (below_alloc1 w1 _).drew
      have LV : Hid (V.heap[w1.heap.size]? = some (lstO g)) := by show _ = _; rw [← hV]; exact newBlockM w1 _
      clear hV
      obtain ⟨v0, v1, -⟩ := cells2 (show V.drew.heap[w1.heap.size]? = some (.cells #[.func (.func 63) #[] #[], .pointer (some ⟨g, 0, none⟩)] 55) from LV.out)
      go_region_with (first | (go_at_call 31; ((with_reducible refine (newDiagram_any _).mono ?_); rintro ex w2 ⟨b, e, rfl, hb, d2, b2⟩; have D2 := Lib.hid d2; have s2 := b2.size; have hb2 : w1.heap.size ≤ b := Nat.le_trans (Nat.le_of_lt hvs) hb; have B12 : Hid (Below w1.heap.size w1 w2) := BV.out.trans (b2.mono (Nat.le_of_lt hvs)); have L2 : Hid (w2.heap[w1.heap.size]? = some (lstO g)) := ((b2.block _ hvs).trans LV.out); obtain ⟨t0, t1, -⟩ := cells2 (show w2.heap[w1.heap.size]? = some (.cells #[.func (.func 63) #[] #[], .pointer (some ⟨g, 0, none⟩)] 55) from L2.out); clear d2 b2 hb)) | (go_at_call 32; (have HAS := areas_any w2 w1 g b e [] l (by omega) HLR.out B12.out hb2 D2.out; unfold lstV at HAS; (with_reducible refine HAS.mono ?_); clear HAS; rintro ex w3 ⟨u, p, ps, E', rfl, hrow, har, hg3⟩; have HROW := Lib.hid hrow; have HAR := Lib.hid har; have HG3 := Lib.hid hg3; clear hrow har hg3)))
      all_goals
        have s3 := HG3.out.size
        have s1' := B1.out.size
        have R3 : Hid (Rep E' e 6 p (areaM l (-1))) := by rw [← HRA.out]; exact HAR.out.2.1
        have D3 := Lib.hid HAR.out.1
        have B3 : Hid (Below w.heap.size w w3) := (B1.out.trans (B12.out.mono s1')).trans (sBel HG3.out (by omega) (by have := B12.out.size; omega))
        go_wp2_with fail
        refine (texts_any _ _ _ _ _ _ D3.out R3.out).mono ?_
        rintro ex w4 ⟨v4, rfl, hrow, b4⟩
        have HS := Lib.hid (hrow.mono B3.out.size)
        have B4 := Lib.hid (belStep B3.out b4)
        clear hrow b4
        go_wp2
        go_ret
        exact ⟨_, rfl, HS.out, B4.out⟩
    · obtain ⟨k, rfl⟩ : ∃ k : Nat, q = k := ⟨q.toNat, by omega⟩
      have hk : k < l.length := by omega
      have hzb : ((k : Int) == -1) = false := by simp
      go_wp2
      generalize hV : w1.alloc (.cells #[.func (.func 63) #[] #[], .pointer (some ⟨g, 0, none⟩)] 55) = V at *
      have hvs : w1.heap.size < V.heap.size := by rw [← hV]; simp
      have BV : Hid (Below w1.heap.size w1 V.drew) := by show Below _ _ _; rw [← hV]; exact (below_alloc1 w1 _).drew
      have LV : Hid (V.heap[w1.heap.size]? = some (lstO g)) := by show _ = _; rw [← hV]; exact newBlockM w1 _
      clear hV
      obtain ⟨v0, v1, -⟩ := cells2 (show V.drew.heap[w1.heap.size]? = some (.cells #[.func (.func 63) #[] #[], .pointer (some ⟨g, 0, none⟩)] 55) from LV.out)
      go_region_with (first | (go_at_call 31; ((with_reducible refine (newDiagram_any _).mono ?_); rintro ex w2 ⟨b, e, rfl, hb, d2, b2⟩; have D2 := Lib.hid d2; have s2 := b2.size; have hb2 : w1.heap.size ≤ b := Nat.le_trans (Nat.le_of_lt hvs) hb; have B12 : Hid (Below w1.heap.size w1 w2) := BV.out.trans (b2.mono (Nat.le_of_lt hvs)); have L2 : Hid (w2.heap[w1.heap.size]? = some (lstO g)) := ((b2.block _ hvs).trans LV.out); obtain ⟨t0, t1, -⟩ := cells2 (show w2.heap[w1.heap.size]? = some (.cells #[.func (.func 63) #[] #[], .pointer (some ⟨g, 0, none⟩)] 55) from L2.out); clear d2 b2 hb)) | (go_at_call 32; (have HAS := areas_any w2 w1 g b e [] l (by omega) HLR.out B12.out hb2 D2.out; unfold lstV at HAS; (with_reducible refine HAS.mono ?_); clear HAS; rintro ex w3 ⟨u, p, ps, E', rfl, hrow, har, hg3⟩; have HROW := Lib.hid hrow; have HAR := Lib.hid har; have HG3 := Lib.hid hg3; clear hrow har hg3)))
      all_goals
        have s3 := HG3.out.size
        have s1' := B1.out.size
        have R3 : Hid (Rep E' e 6 (ptAt ps k) (areaM l (k : Int))) := by rw [← HAA.out k hk]; exact HAR.out.2.2.2 k hk
        have D3 := Lib.hid HAR.out.1
        have B3 : Hid (Below w.heap.size w w3) := (B1.out.trans (B12.out.mono s1')).trans (sBel HG3.out (by omega) (by have := B12.out.size; omega))
        have hlp := HAR.out.2.2.1
        obtain ⟨gg, cp, rfl, hcp, hmx, -, hgg, hcell⟩ := HROW.out.at (k := k) (by omega)
        have hkp : (k : Int) < (ps.length : Int) := by omega
        unfold maxLen at hmx
        clear HROW HAR hlp
        generalize ps.length = m at *
        generalize ptAt ps k = pk at *
        go_wp2_with fail
        refine (texts_any _ _ _ _ _ _ D3.out R3.out).mono ?_
        rintro ex w4 ⟨v4, rfl, hrow, b4⟩
        have HS := Lib.hid (hrow.mono B3.out.size)
        have B4 := Lib.hid (belStep B3.out b4)
        clear hrow b4
        go_wp2
        go_ret
        exact ⟨_, rfl, HS.out, B4.out⟩
  · have HT : Hid (areaT l q = []) := by
      show _ = _
      unfold areaT inB
      by_cases ht : tOk l = true
      · by_cases h1 : -1 ≤ q
        · have h2 : ¬ q ≤ (l.length : Int) - 1 := fun hh => hin ⟨ht, h1, by omega⟩
          rw [decide_eq_false h2]
          simp
        · rw [decide_eq_false h1]
          simp
      · simp [ht]
    rw [HT.out]
    go_enter Tryz.func8, Tryz.ntmps8
    go_wp2_with fail
    refine HC.out.mono ?_
    rintro e w1 ⟨g, rfl, hg, hlr, b1⟩
    have B1 := Lib.hid (b1.alloc b1.size (lstO g))
    unfold lstV
    clear hlr b1 HC hg
    cases ht : tOk l
    · go_wp2
      go_ret
      exact ⟨_, rfl, ⟨rfl, .inl ⟨rfl, rfl⟩⟩, B1.out⟩
    by_cases h1 : q < -1
    · go_wp2
      go_ret
      exact ⟨_, rfl, ⟨rfl, .inl ⟨rfl, rfl⟩⟩, B1.out⟩
    have h2 : (l.length : Int) ≤ q := by
      have : ¬ q < (l.length : Int) := fun hh => hin ⟨ht, by omega, hh⟩
      omega
    have h1' : decide (q < -1) = false := by simp; omega
    clear hin
    go_wp2
    go_ret
    exact ⟨_, rfl, ⟨rfl, .inl ⟨rfl, rfl⟩⟩, B1.out⟩

end Go.Proofs.YtehgpehhpijkjaaGreatDoor
