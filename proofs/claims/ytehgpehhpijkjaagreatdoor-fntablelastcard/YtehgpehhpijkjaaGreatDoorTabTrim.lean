/-
  The model's TableTrim, TableTo.
  The program's TableTrim.
  Trimmed tables, and the parts of a table: plain facts.
-/
import Derived.Test.YtehgpehhpijkjaaGreatDoorTabArea
import Derived.Test.YtehgpehhpijkjaaGreatDoorTabDoS
import Derived.Test.YtehgpehhpijkjaaGreatDoorTabPD
import Derived.Deep.RegionWith
import Derived.Test.YtehgpehhpijkjaaGreatDoorTabSame

namespace Go.Proofs.YtehgpehhpijkjaaGreatDoor
open Go.ChangeShapes Go.WideShapes Go.ChangeAt Go.RowKit Go.Joins
set_option linter.unusedVariables false

/-- Of the first k rules those that are the first of a head. -/
def trimK (l : List R4) (k : Nat) : List R4 := ((List.range k).filter (fun (j : Nat) => !allNo (areaM l (j : Int)))).map (ruAt l)
def trimF (l : List R4) : List R4 := trimK l l.length
def trimT (l : List R4) : List R4 := bif tOk l then trimF l else []
theorem trimK_step (l : List R4) (k : Nat) : trimK l (k + 1) = bif allNo (areaM l (k : Int)) then trimK l k else trimK l k ++ [ruAt l k] := by
  unfold trimK
  rw [List.range_succ, List.filter_append]
  cases h : allNo (areaM l (k : Int)) <;> simp [h]
theorem trimK_len (l : List R4) (k : Nat) : (trimK l k).length ≤ k := by
  unfold trimK
  have := List.length_filter_le (fun (j : Nat) => !allNo (areaM l (j : Int))) (List.range k)
  simp only [List.length_map]
  simp only [List.length_range] at this
  exact this
theorem trimT_len (l : List R4) : (trimT l).length ≤ 48 := by
  unfold trimT
  cases ht : tOk l
  · exact Nat.zero_le _
  · have := tOk_len ht
    have := trimK_len l l.length
    rw [cond_true]
    unfold trimF
    omega

/-! ### TableTo -/

/-- The port to which a head is sent. -/
def outF (b : List Bool) (l : List R4) : Int := match l.findIdx? (hasR b) with | none => 0 | some i => (ruAt l i).o
def toM (l : List R4) (q : Int) : List Bool := tabF 6 (fun b => decide (outF b l = q))
theorem toM_len (l : List R4) (q : Int) : (toM l q).length = 64 := tabF_len 6 _
theorem toM_get (l : List R4) (q : Int) {n : Nat} (hn : n < 64) : (toM l q).getD n false = decide (outF (kb6 n) l = q) := by
  rw [List.getD_eq_getElem?_getD, toM, tab6_get _ hn]
  rfl
theorem doI_kb {l : List R4} (hok : ∀ i, i < l.length → okR (ruAt l i) = true) {n : Nat} (hn : n < 64) : (doI ((n : Int) / 16) ((n : Int) / 4 % 4) ((n : Int) % 4) l).2 = outF (kb6 n) l := by
  unfold doI outF
  rw [mR_kb hok hn]
  cases l.findIdx? (hasR (kb6 n)) <;> rfl
/-- What TableTo returns. -/
def toT (l : List R4) (q : Int) : List ByteArray := bif tOk l && inB q 0 4 then tidyT (toM l q) else []
theorem toT_len (l : List R4) (q : Int) : (toT l q).length ≤ 64 := by
  unfold toT
  cases tOk l && inB q 0 4
  · exact Nat.zero_le _
  · exact tidyT_len _

set_option maxRecDepth 100000 in
set_option maxHeartbeats 4000000 in
theorem sTableTo_any (w : World) (v : Value) (l : List R4) (h : Rls w w.heap.size v l) (hn : l.length ≤ 1048576) (q : Int) :
    Calls Tryz.prog 15 #[v, .int .i64 q] w fun e w' => ∃ u, e = .returned u ∧ StrRow w' w.heap.size u (toT l q) ∧ Below w.heap.size w w' := by
  have HL : Hid (∀ W, Below w.heap.size w W → Rls W W.heap.size v l) := fun W hb => (h.below hb (Nat.le_refl _)).mono hb.size
  obtain ⟨a, cap, rfl, hc, hm, -⟩ := h
  unfold maxLen at hm
  cases ht : tOk l
  · have HT : Hid (toT l q = []) := by show _ = _; simp [toT, ht]
    rw [HT.out]
    go_enter Tryz.func15, Tryz.ntmps15
    go_wp2_with fail
    refine (sTableOk_any _ _ l (HL.out _ (Below.refl _ _)) hn).mono ?_
    rintro e w1 ⟨rfl, b1⟩
    rw [ht]
    have HM := Lib.hid (emptyS w1 b1.size)
    have B1 := Lib.hid b1
    clear b1
    go_wp2
    go_ret
    exact ⟨_, rfl, HM.out, B1.out.alloc B1.out.size _⟩
  have HOK := Lib.hid (tOk_at ht)
  have HQ : Hid (toT l q = bif inB q 0 4 then tidyT (toM l q) else []) := by show _ = _; simp [toT, ht]
  rw [HQ.out]
  have HIN := Lib.hid (fun W => l6In_any q 0 4 W)
  have HDO : Hid (∀ n : Nat, n < 64 → ∀ W, Rls W W.heap.size (.slice a l.length cap) l → Calls Tryz.prog 44 #[.slice a l.length cap, .agg #[.int .i64 ((n : Int) / 16), .int .i64 ((n : Int) / 4 % 4), .int .i64 ((n : Int) % 4)]] W fun e w' => (∃ x y z, e = .returned (.tuple #[.agg #[.int .i64 x, .int .i64 y, .int .i64 z], .int .i64 (outF (kb6 n) l)])) ∧ Below W.heap.size W w') := fun n hlt W hW => by
    have := l12Do_any W _ l hW hn HOK.out _ _ _ (okB_numA n hlt)
    rw [doI_kb HOK.out hlt] at this
    exact this.mono fun e w' ⟨he, hb⟩ => ⟨⟨_, _, _, he⟩, hb⟩
  have HM := Lib.hid (toM_len l q)
  have HG : Hid (∀ n, n < 64 → (toM l q).getD n false = decide (outF (kb6 n) l = q)) := fun n hn => toM_get l q hn
  obtain ⟨i0, hi, hz0, hz1, hz2⟩ := info_parts infoB
  have HI := Lib.hid hi
  have HZ0 := Lib.hid hz0
  have HZ1 := Lib.hid hz1
  have HZ2 := Lib.hid hz2
  clear hi hz0 hz1 hz2
  generalize toM l q = m at *
  generalize inB q 0 4 = qq at *
  go_enter Tryz.func15, Tryz.ntmps15
  go_wp2_with fail
  refine (sTableOk_any _ _ l (HL.out _ (Below.refl _ _)) hn).mono ?_
  rintro e w1 ⟨rfl, b1⟩
  rw [ht]
  have B1 := Lib.hid b1
  clear b1
  go_wp2_with fail
  refine (HIN.out _).mono ?_
  rintro e w2 ⟨rfl, rfl⟩
  cases qq
  · have HM := Lib.hid (emptyS w1 B1.out.size)
    go_wp2
    go_ret
    exact ⟨_, rfl, HM.out, B1.out.alloc B1.out.size _⟩
  go_wp2_with (at_make; refine wpList_make_full _ rfl _ _ 69 rfl w1.heap.size 4 i0 (.bool false) 1 Tryz.underlying69 HI.out HZ0.out HZ1.out .i64 .i64 _ _ 64 rfl rfl rfl rfl ?b2 ?b3 (Nat.le_refl _) ?_)
  case b2 => rw [HZ2.out]; omega
  case b3 => unfold maxLen; omega
  intro w2 hown hg1
  have HB1 : Hid (Below w1.heap.size w1 w2) := ⟨hg1.os, hg1.tape, hg1.output, hg1.size, fun k hk => hg1.block k hk (by simp)⟩
  have HR1 : Hid (BoolRow w2 w1.heap.size (fillB m 0)) := by
    refine ⟨?_, fillB_len HM.out (Nat.zero_le _)⟩
    have := hown
    rw [made_one] at this
    rw [fillB_zero, List.map_replicate]
    exact this
  clear hown hg1
  go_wp2
  go_loopw [6] (fun x wr => ∃ n : Nat, n ≤ 64 ∧ x = .int .i64 n ∧ BoolRow wr w1.heap.size (fillB m n) ∧ Below w1.heap.size w1 wr) (fun x _ => 64 - (intOf x).toNat)
  case atStart => exact ⟨0, Nat.zero_le _, rfl, HR1.out, HB1.out⟩
  case round =>
    obtain ⟨n, hn', rfl, hrow, hbel⟩ := hrel
    have HR := Lib.hid hrow
    have HB := Lib.hid hbel
    have s0 := hbel.size
    clear hrow hbel HR1 HB1
    by_cases hlt : n < 64
    · have hnz64 : (n : Int) < 64 := by omega
      have HA := Lib.hid (HDO.out n hlt)
      have HS := Lib.hid (fillB_step HM.out hlt)
      rw [HG.out n hlt] at HS
      go_wp2_with fail
      refine (l1Of_any _ (by omega) (by omega) _).mono ?_
      rintro e w3 ⟨rfl, b3⟩
      have B3 := Lib.hid (belStep HB.out b3)
      have HR3 := Lib.hid (HR.out.below b3)
      clear b3 HR HB
      go_wp2_with fail
      refine (HA.out _ (HL.out _ (B1.out.trans (B3.out.mono B1.out.size)))).mono ?_
      rintro e w4 ⟨⟨x, y, z, rfl⟩, b4⟩
      have HR4 := Lib.hid (HR3.out.below b4)
      have B4 := Lib.hid (belStep B3.out b4)
      have hgt4 := HR4.out.cells.1 n hlt
      have hfr4 := HR4.out.cells.2.1
      have hgl4 := HR4.out.cells.2.2
      generalize (fillB m n).getD n false = oo at *
      generalize outF (kb6 n) l = zz at *
      clear b4 HR3 B3
      go_wp2
      go_roundw
      case rel => exact ⟨n + 1, by omega, by go_num, by rw [HS.out]; exact (HR4.out.put n (decide (zz = q))).below (below_alloc1 _ _), (B4.out.setCell (by exact Nat.le_refl _) _).alloc (by have := B4.out.size; simp; omega) _⟩
      case measure => simp [intOf]; omega
    · obtain rfl : n = 64 := by omega
      have HR2 : Hid (BoolRow wr w1.heap.size m) := by have := HR.out; rw [fillB_all HM.out] at this; exact this
      go_wp2_with fail
      refine (l3Tidy_any 6 (Nat.le_refl _) _ _ _ HM.out HR2.out.bools).mono ?_
      rintro e w4 ⟨u, rfl, hrow, b4⟩
      have B4 := Lib.hid (B1.out.trans ((belStep HB.out b4).mono B1.out.size))
      have HS := Lib.hid (hrow.mono (Nat.le_trans B1.out.size s0))
      clear b4 hrow
      go_wp2
      go_ret
      exact ⟨_, rfl, HS.out, B4.out⟩

end Go.Proofs.YtehgpehhpijkjaaGreatDoor

namespace Go.Proofs.YtehgpehhpijkjaaGreatDoor
open Go.ChangeShapes Go.WideShapes Go.ChangeAt Go.RowKit Go.Joins
open Go.Shelf
set_option linter.unusedVariables false

/-- Of the first k rules those that are the first of a head, and all behind them. -/
def keepK (l : List R4) (k : Nat) : List R4 := trimK l k ++ l.drop k
theorem keepK_zero (l : List R4) : keepK l 0 = l := rfl
theorem keepK_all (l : List R4) : keepK l l.length = trimF l := by simp [keepK, trimF]
theorem keepK_cons (l : List R4) {k : Nat} (hk : k < l.length) : keepK l k = trimK l k ++ ruAt l k :: l.drop (k + 1) := by
  rw [keepK, List.drop_eq_getElem_cons hk, ruAt_lt hk]
theorem keepK_stay (l : List R4) {k : Nat} (hk : k < l.length) (h : allNo (areaM l (k : Int)) = false) : keepK l (k + 1) = keepK l k := by
  rw [keepK_cons l hk, keepK, trimK_step, h]
  simp
theorem trimK_sub (l : List R4) {k : Nat} (hk : k ≤ l.length) : (trimK l k).Sublist (l.take k) := by
  have e : l.take k = (List.range k).map (ruAt l) := by
    apply List.ext_getElem
    · simp; omega
    · intro i h1 h2
      have h3 : i < l.length := by simp at h1; omega
      simp [ruAt_lt h3]
  rw [e]
  exact List.filter_sublist.map _
theorem keepK_sub (l : List R4) {k : Nat} (hk : k ≤ l.length) : (keepK l k).Sublist l := by
  have := (trimK_sub l hk).append (List.Sublist.refl (l.drop k))
  rwa [List.take_append_drop] at this
theorem keepK_drop (l : List R4) {k : Nat} (hk : k < l.length) (hp : l.Pairwise (fun a b => cmR a b < 0)) (h : allNo (areaM l (k : Int)) = true) : dropF (ruAt l k) (keepK l k) = keepK l (k + 1) := by
  have hpk := hp.sublist (keepK_sub l (Nat.le_of_lt hk))
  have hpk1 := hp.sublist (keepK_sub l hk)
  have e1 : keepK l (k + 1) = trimK l k ++ l.drop (k + 1) := by rw [keepK, trimK_step, h]; rfl
  refine pw_ext (dropF_pw _ hpk) hpk1 (fun q => ?_)
  rw [mem_dropF, e1]
  rw [keepK_cons l hk] at hpk ⊢
  rw [List.pairwise_append, List.pairwise_cons] at hpk
  simp only [List.mem_append, List.mem_cons]
  constructor
  · rintro ⟨h | h | h, hne⟩
    · exact .inl h
    · exact absurd h hne
    · exact .inr h
  · rintro (h | h)
    · refine ⟨.inl h, fun e => ?_⟩
      have := hpk.2.2 q h (ruAt l k) (List.mem_cons_self ..)
      rw [e, cmR_self] at this
      omega
    · refine ⟨.inr (.inr h), fun e => ?_⟩
      have := hpk.2.1.1 q h
      rw [e, cmR_self] at this
      omega
theorem allNo_noL (h : Nat) : allNo (noL h) = true := by simp [allNo, noL]
/-- A rule that is never the first has no node. -/
theorem area_nil {E : List Nd} {e : Nat} {p : Option Addr} {l : List R4} {k : Nat} (hk : k < l.length) (h : Rep E e 6 p (areaF l k)) : p = none ↔ allNo (areaM l (k : Int)) = true := by
  rw [areaF_area l hk] at h
  constructor
  · rintro rfl
    rw [Rep.none_iff.1 h]
    exact allNo_noL 6
  · intro hn
    cases p with
    | none => rfl
    | some a => exact absurd (allNo_no (h := 6) (areaM_len l _) hn) h.some_ne
theorem PtrRow.nk {w w' : World} {base : Nat} {v : Value} {ps : List (Option Addr)} (h : PtrRow w base v ps) (hk : NK w w') : PtrRow w' base v ps := by
  obtain ⟨hl, h1 | ⟨g, cap, cur, rfl, h2, h3, h4⟩⟩ := h
  · exact ⟨hl, .inl h1⟩
  · exact ⟨hl, .inr ⟨g, cap, cur, rfl, h2, hk g _ h3 (fun x q e => by
      injection e with _ e
      exact absurd e (by decide)), h4⟩⟩
theorem PtrRow.below {w w' : World} {base : Nat} {v : Value} {ps : List (Option Addr)} (h : PtrRow w base v ps) (hb : Below w.heap.size w w') : PtrRow w' base v ps :=
  World.ownsRow.kept h (row := none) ⟨hb.os, hb.tape, hb.output, hb.size, fun k hk _ => hb.block k hk⟩ (by cases v.ownBlock <;> simp)
theorem PtrRow.cellAt {w : World} {base : Nat} {v : Value} {ps : List (Option Addr)} (h : PtrRow w base v ps) {g cap k : Nat} (hv : v = .slice (some ⟨g, 0, none⟩) ps.length cap) (hk : k < ps.length) : w.cell? ⟨g, k, none⟩ = some (.pointer (ptAt ps k)) := by
  subst hv
  have := World.ownsRow.cellAt h k (by omega)
  rw [this, List.getElem?_map, ptAt, List.getD_eq_getElem?_getD, List.getElem?_eq_getElem hk]
  rfl

end Go.Proofs.YtehgpehhpijkjaaGreatDoor

namespace Go.Proofs.YtehgpehhpijkjaaGreatDoor
set_option linter.unusedVariables false

/-- The first rule that is of a head. -/
def firstR (b : List Bool) (l : List R4) : Option R4 := l.find? (hasR b)
theorem find_filter {p q : R4 → Bool} : ∀ (l : List R4), (∀ r, l.find? p = some r → q r = true) → (l.filter q).find? p = l.find? p
  | [], _ => rfl
  | x :: l, h => by
    by_cases hx : p x = true
    · have hq : q x = true := h x (by simp [hx])
      simp [hx, hq]
    · have hx' : p x = false := by simpa using hx
      have ih := find_filter l (fun r hr => h r (by simpa [hx'] using hr))
      by_cases hq : q x = true
      · simp [hx', hq, ih]
      · simp [hx', hq, ih]
theorem first_at {b : List Bool} {l : List R4} {k : Nat} (hk : k < l.length) (h : atF b l = (k : Int)) : firstR b l = some (ruAt l k) := by
  have hh := (atF_some hk).2 h
  rw [Bool.and_eq_true, Bool.not_eq_true', any_take_no (by omega)] at hh
  unfold firstR
  rw [List.find?_eq_some_iff_getElem]
  refine ⟨hh.2, k, hk, (ruAt_lt hk).symm, fun j hj => ?_⟩
  have := hh.1 j hj
  rw [ruAt_lt (show j < l.length by omega)] at this
  simp [this]
theorem at_first {b : List Bool} {l : List R4} {r : R4} (h : firstR b l = some r) : ∃ k, k < l.length ∧ ruAt l k = r ∧ atF b l = (k : Int) := by
  unfold firstR at h
  rw [List.find?_eq_some_iff_getElem] at h
  obtain ⟨hp, k, hk, hkr, hlow⟩ := h
  refine ⟨k, hk, by rw [ruAt_lt hk]; exact hkr, (atF_some hk).1 ?_⟩
  rw [Bool.and_eq_true, Bool.not_eq_true', any_take_no (by omega), ruAt_lt hk, hkr]
  refine ⟨fun j hj => ?_, hp⟩
  have := hlow j hj
  rw [ruAt_lt (show j < l.length by omega)]
  simpa using this
theorem none_first {b : List Bool} {l : List R4} : firstR b l = none ↔ atF b l = -1 := by
  rw [← atF_none, firstR, List.find?_eq_none, List.any_eq_false]

def firstB (b : List Bool) (l : List R4) (r : R4) : Bool := match firstR b l with | some x => sameR x r | none => false
theorem firstB_iff {b : List Bool} {l : List R4} {r : R4} : firstB b l r = true ↔ firstR b l = some r := by
  unfold firstB
  cases h : firstR b l with
  | none => simp
  | some x => simp [sameR_iff]
theorem allNo_iff {m : List Bool} (h : m.length = 64) : allNo m = false ↔ ∃ n, n < 64 ∧ m.getD n false = true := by
  constructor
  · intro hn
    by_cases hh : ∃ n, n < 64 ∧ m.getD n false = true
    · exact hh
    · have : allNo m = true := allNo_end fun j hj => by
        cases hb : m.getD j false
        · rfl
        · exact absurd ⟨j, by omega, hb⟩ hh
      rw [this] at hn
      cases hn
  · rintro ⟨n, hn, hb⟩
    exact allNo_at (by omega) hb
/-- A rule is the first of a head. -/
def isFirst (l : List R4) (r : R4) : Prop := ∃ n, n < 64 ∧ firstR (kb6 n) l = some r
theorem isFirst_at {l : List R4} (hp : l.Pairwise (fun a b => cmR a b < 0)) {k : Nat} (hk : k < l.length) : isFirst l (ruAt l k) ↔ allNo (areaM l (k : Int)) = false := by
  rw [allNo_iff (areaM_len l _)]
  constructor
  · rintro ⟨n, hn, h⟩
    refine ⟨n, hn, ?_⟩
    obtain ⟨j, hj, hjr, hat⟩ := at_first h
    have : j = k := by
      rcases Nat.lt_trichotomy j k with e | e | e
      · have := List.pairwise_iff_getElem.1 hp j k hj hk e
        rw [← ruAt_lt hj, ← ruAt_lt hk, hjr, cmR_self] at this
        omega
      · exact e
      · have := List.pairwise_iff_getElem.1 hp k j hk hj e
        rw [← ruAt_lt hj, ← ruAt_lt hk, hjr, cmR_self] at this
        omega
    subst this
    rw [areaM_get l _ hn, hat]
    simp
  · rintro ⟨n, hn, h⟩
    rw [areaM_get l _ hn, decide_eq_true_eq] at h
    exact ⟨n, hn, first_at hk h⟩
theorem mem_trimF {l : List R4} (hp : l.Pairwise (fun a b => cmR a b < 0)) {r : R4} : r ∈ trimF l ↔ r ∈ l ∧ isFirst l r := by
  unfold trimF trimK
  simp only [List.mem_map, List.mem_filter, List.mem_range, Bool.not_eq_true']
  constructor
  · rintro ⟨k, ⟨hk, hn⟩, rfl⟩
    exact ⟨ruAt_mem hk, (isFirst_at hp hk).2 hn⟩
  · rintro ⟨hm, hf⟩
    obtain ⟨k, hk, rfl⟩ := mem_ruAt hm
    exact ⟨k, ⟨hk, (isFirst_at hp hk).1 hf⟩, rfl⟩
theorem trimF_ok {l : List R4} (h : tOk l = true) : tOk (trimF l) = true := by
  obtain ⟨h48, hok, hp⟩ := tOk_pw.1 h
  have hs : (trimF l).Sublist l := by
    have := keepK_sub l (Nat.le_refl l.length)
    rwa [keepK_all] at this
  exact tOk_pw.2 ⟨Nat.le_trans hs.length_le h48, fun q hq => hok q (hs.subset hq), hp.sublist hs⟩
/-- Trimmed, a table has the same first rules. -/
theorem trimF_first {l : List R4} (h : tOk l = true) {n : Nat} (hn : n < 64) : firstR (kb6 n) (trimF l) = firstR (kb6 n) l := by
  obtain ⟨h48, hok, hp⟩ := tOk_pw.1 h
  have e : trimF l = l.filter (fun r => (List.range 64).any (fun n => firstB (kb6 n) l r)) := by
    refine pw_ext ?_ (hp.sublist List.filter_sublist) (fun q => ?_)
    · exact (tOk_pw.1 (trimF_ok h)).2.2
    · rw [mem_trimF hp, List.mem_filter]
      simp only [List.any_eq_true, List.mem_range, firstB_iff]
      rfl
  rw [e]
  unfold firstR
  refine find_filter l (fun r hr => ?_)
  simp only [List.any_eq_true, List.mem_range, firstB_iff]
  exact ⟨n, hn, hr⟩
theorem doN_first {l : List R4} (h : tOk l = true) {n : Nat} (hn : n < 64) : doN l n = match firstR (kb6 n) l with | none => (((n : Int) / 16, (n : Int) / 4 % 4, (n : Int) % 4), 0) | some r => (((n : Int) / 16, (n : Int) / 4 % 4, tagTo r.t ((n : Int) % 4)), r.o) := by
  unfold doN doI
  rw [mR_kb (tOk_at h) hn]
  cases hf : firstR (kb6 n) l with
  | none =>
    have := none_first.1 hf
    rw [← atF_none] at this
    have e : l.findIdx? (hasR (kb6 n)) = none := by
      rw [List.findIdx?_eq_none_iff]
      intro x hx
      rw [List.any_eq_false] at this
      simpa using this x hx
    rw [e]
  | some r =>
    obtain ⟨k, hk, rfl, hat⟩ := at_first hf
    have e : l.findIdx? (hasR (kb6 n)) = some k := by
      unfold atF at hat
      cases hh : l.findIdx? (hasR (kb6 n)) with
      | none => rw [hh] at hat; simp at hat
      | some i =>
        rw [hh] at hat
        have : (i : Int) = k := hat
        rw [show i = k by omega]
    rw [e]
theorem trimF_do {l : List R4} (h : tOk l = true) {n : Nat} (hn : n < 64) : doN (trimF l) n = doN l n := by
  rw [doN_first h hn, doN_first (trimF_ok h) hn, trimF_first h hn]
theorem trimF_same {l : List R4} (h : tOk l = true) : sameT (trimF l) l = true := sameT_yes (trimF_ok h) h (fun n hn => by
  unfold agreeB
  rw [trimF_do h hn]
  simp)
theorem trimF_all {l : List R4} (h : tOk l = true) {i : Nat} (hi : i < (trimF l).length) : allNo (areaM (trimF l) (i : Int)) = false := by
  obtain ⟨h48, hok, hp⟩ := tOk_pw.1 h
  obtain ⟨-, -, hp2⟩ := tOk_pw.1 (trimF_ok h)
  rw [← isFirst_at hp2 hi]
  obtain ⟨-, n, hn, hf⟩ := (mem_trimF hp).1 (ruAt_mem hi)
  exact ⟨n, hn, by rw [trimF_first h hn]; exact hf⟩
theorem trimF_mem {l : List R4} (h : tOk l = true) {i : Nat} (hi : i < (trimF l).length) : ruAt (trimF l) i ∈ l := ((mem_trimF (tOk_pw.1 h).2.2).1 (ruAt_mem hi)).1
theorem trimF_two {l : List R4} (h : tOk l = true) : trimF (trimF l) = trimF l := by
  have hp := (tOk_pw.1 (trimF_ok h)).2.2
  refine pw_ext (tOk_pw.1 (trimF_ok (trimF_ok h))).2.2 hp (fun q => ?_)
  rw [mem_trimF hp]
  constructor
  · exact fun hh => hh.1
  · intro hq
    refine ⟨hq, ?_⟩
    obtain ⟨-, n, hn, hf⟩ := (mem_trimF (tOk_pw.1 h).2.2).1 hq
    exact ⟨n, hn, by rw [trimF_first h hn]; exact hf⟩

end Go.Proofs.YtehgpehhpijkjaaGreatDoor
