/-
  Tables in memory: the sum of their sizes, a copy of the call's own, its marks.
-/
import Derived.Test.YtjjhahhchimmlaaGreatDoorConfT
import Derived.Test.YtjjhahhchimmlaaGreatDoorRulMark
namespace Go.Proofs.YtjjhahhchimmlaaGreatDoor
open Go.ChangeShapes Go.WideShapes Go.ChangeAt Go.RowKit Go.Joins
set_option linter.unusedVariables false

def sumTo (f : Nat → Nat) : Nat → Nat
  | 0 => 0
  | k + 1 => sumTo f k + f k
theorem sumTo_mono (f : Nat → Nat) : ∀ {k n : Nat}, k ≤ n → sumTo f k ≤ sumTo f n
  | k, 0, h => by
    have e : k = 0 := by omega
    subst e
    exact Nat.le_refl _
  | k, n + 1, h => by
    by_cases e : k = n + 1
    · subst e; exact Nat.le_refl _
    · exact Nat.le_trans (sumTo_mono f (show k ≤ n by omega)) (Nat.le_add_right _ _)
theorem sumTo_congr {f g : Nat → Nat} : ∀ {n : Nat}, (∀ i, i < n → f i = g i) → sumTo f n = sumTo g n
  | 0, _ => rfl
  | n + 1, h => by rw [sumTo, sumTo, sumTo_congr (fun i hi => h i (by omega)), h n (Nat.lt_succ_self _)]
/-- The first of these rows lie in blocks of their own. -/
def Apart (us : List Value) (k : Nat) : Prop := ∀ i j, i < j → j < k → ∀ ui uj, us[i]? = some ui → us[j]? = some uj → ∀ q, ui.ownBlock = some q → uj.ownBlock ≠ some q
/-- Tables of the call's own. -/
structure CfO (w : World) (b : Nat) (v : Value) (L : List (List R4)) (us : List Value) : Prop where
  form : v = .slice (some ⟨b, 0, none⟩) L.length L.length
  len : us.length = L.length
  max : L.length ≤ maxLen
  row : w.ownsRow b 61 1 v L.length us
  all : ∀ j, j < L.length → ∃ u, us[j]? = some u ∧ RulRow w (b + 1) u (tbAt L j)
  apart : Apart us L.length
theorem CfO.below {w w' : World} {b : Nat} {v : Value} {L : List (List R4)} {us : List Value} (h : CfO w b v L us) (hb : Below w.heap.size w w') : CfO w' b v L us :=
  ⟨h.form, h.len, h.max, rowKept h.row hb, fun j hj => by obtain ⟨u, h1, h2⟩ := h.all j hj; exact ⟨u, h1, h2.below hb⟩, h.apart⟩
theorem CfO.grown {w w' : World} {b : Nat} {v : Value} {L : List (List R4)} {us : List Value} {row : Option Nat} (h : CfO w b v L us) (hg : w.grownBy w' row) (hr : ∀ q, row = some q → q < b) : CfO w' b v L us := by
  have hf := h.form
  refine ⟨h.form, h.len, h.max, World.ownsRow.kept h.row hg (.inr (fun e => ?_)), fun j hj => ?_, h.apart⟩
  · rw [hf] at e
    have := hr b e.symm
    omega
  · obtain ⟨u, h1, h2⟩ := h.all j hj
    refine ⟨u, h1, World.ownsRow.kept h2 hg ?_⟩
    cases hq : u.ownBlock with
    | none => exact .inl rfl
    | some q => exact .inr (fun e => by have := hr q e.symm; have := (World.ownsRow.lt h2 q hq).1; omega)
theorem CfO.top {w : World} {b : Nat} {v : Value} {L : List (List R4)} {us : List Value} (h : CfO w b v L us) : ∀ (j : Nat) (u : Value), us[j]? = some u → ∀ q, u.ownBlock = some q → q < w.heap.size := fun j u hu q hq => by
  have hj : j < L.length := by rw [← h.len]; exact (List.getElem?_eq_some_iff.1 hu).1
  obtain ⟨u', h1, h2⟩ := h.all j hj
  rw [hu] at h1
  obtain rfl := Option.some.inj h1
  exact (World.ownsRow.lt h2 q hq).2
theorem CfO.lt {w : World} {b : Nat} {v : Value} {L : List (List R4)} {us : List Value} (h : CfO w b v L us) : b < w.heap.size := by
  have := h.row
  rw [h.form] at this
  exact (World.ownsRow.lt this b rfl).2
theorem CfO.cfs {w : World} {b : Nat} {v : Value} {L : List (List R4)} {us : List Value} (h : CfO w b v L us) : Cfs w w.heap.size v L := by
  refine ⟨some ⟨b, 0, none⟩, L.length, h.form, Nat.le_refl _, h.max, ?_⟩
  by_cases hL : L = []
  · exact .inl hL
  · refine .inr ⟨b, 0, rfl, h.lt, fun i hi => ?_⟩
    obtain ⟨u, h1, h2⟩ := h.all i hi
    have hr := h.row
    rw [h.form] at hr
    have := World.ownsRow.cellAt hr i (by omega)
    rw [h1] at this
    exact ⟨u, by rw [Nat.zero_add]; exact this, h2.rls⟩

set_option maxHeartbeats 2000000 in
theorem szRuleS_sum (w : World) (v : Value) (m n : Nat) (f : Nat → Int × ByteArray × Int × Int) (h : Raws w w.heap.size v m f) (hs : ∀ i, i < m → (f i).2.1.size ≤ maxLen) (hn : n ≤ 1048576) :
    Calls Tryz.prog 25 #[v, .int .i64 n] w fun e w' => (e = .returned (.int .i64 (-1)) ∨ ∃ r : Nat, e = .returned (.int .i64 r) ∧ r + m ≤ n ∧ m ≤ n ∧ ∀ i, i < m → (f i).2.1.size ≤ n) ∧ Below w.heap.size w w' := by
  obtain ⟨a, cap, rfl, hc, hm, hh⟩ := h
  have HS := Lib.hid hs
  have HH := Lib.hid hh
  clear hs hh
  unfold maxLen at hm
  by_cases h0 : n < m
  · have hz : (n : Int) - (m : Int) < 0 := by omega
    go_enter Tryz.func25, Tryz.ntmps25
    go_wp2
    go_ret
    exact ⟨.inl rfl, Below.refl _ _⟩
  · have hz : ¬ (n : Int) - (m : Int) < 0 := by omega
    go_enter Tryz.func25, Tryz.ntmps25
    go_wp2
    go_loopw [1, 5] (fun x i wr => ∃ k q : Nat, k ≤ m ∧ q + m ≤ n ∧ i = .int .i64 k ∧ x = .int .i64 q ∧ (∀ j, j < k → (f j).2.1.size ≤ n) ∧ Below w.heap.size w wr) (fun _ i _ => m - (intOf i).toNat)
    case atStart => exact ⟨0, n - m, Nat.zero_le _, by omega, rfl, by simp only [Value.int.injEq, true_and]; omega, fun j hj => absurd hj (Nat.not_lt_zero _), Below.refl _ _⟩
    case round =>
      obtain ⟨k, q, hk, hq, rfl, rfl, hsm, hbel⟩ := hrel
      have HSM := Lib.hid hsm
      clear hsm
      by_cases hlt : k < m
      · have hkz : (k : Int) < (m : Int) := by omega
        rcases HH.out with h1 | ⟨b, off, rfl, hb, hcell⟩
        · omega
        obtain ⟨c0, c1, c2, c3⟩ := hcell k hlt
        have d0 := (belCell hbel _ _ hb).trans c0
        have d1 := (belCell hbel _ _ hb).trans c1
        have d2 := (belCell hbel _ _ hb).trans c2
        have d3 := (belCell hbel _ _ hb).trans c3
        clear c0 c1 c2 c3
        have hsz := HS.out k hlt
        clear hcell
        have HX : Hid (∀ j, j < k + 1 → (f k).2.1.size ≤ q → (f j).2.1.size ≤ n) := fun j hj hle => by
          by_cases e : j = k
          · subst e; omega
          · exact HSM.out j (by omega)
        have HZ := Lib.hid (szRule_any (f k).1 (f k).2.1 hsz (f k).2.2.1 (f k).2.2.2 q (by omega) (by omega))
        have HBL := Lib.hid hbel
        clear hbel hsz
        obtain ⟨⟨x0, s, x2, x3⟩, hfk⟩ : ∃ z, f k = z := ⟨_, rfl⟩
        rw [hfk] at d0 d1 d2 d3 HX HZ
        clear hfk
        dsimp only at d0 d1 d2 d3 HX HZ
        go_wp2_with fail
        refine (HZ.out _).mono ?_
        rintro e w1 ⟨rfl, b1⟩
        have B1 := Lib.hid (belStep HBL.out b1)
        clear b1 HBL
        by_cases hle : (q : Int) < s.size
        · rw [if_pos hle]
          go_wp2
          go_ret
          exact ⟨.inl rfl, B1.out⟩
        · rw [if_neg hle]
          have h3 : ¬ (q : Int) - (s.size : Int) < 0 := by omega
          go_wp2
          go_roundw
          case rel => exact ⟨k + 1, q - s.size, by omega, by omega, by go_num, by simp only [Value.int.injEq, true_and]; omega, fun j hj => HX.out j hj (by omega), B1.out⟩
          case measure => simp [intOf]; omega
      · obtain rfl : k = m := by omega
        go_wp2
        go_ret
        exact ⟨.inr ⟨q, rfl, hq, by omega, HSM.out⟩, hbel⟩

set_option maxRecDepth 100000 in
set_option maxHeartbeats 2000000 in
theorem szRuleSS_sum (w : World) (v : Value) (m n : Nat) (ms : Nat → Nat) (fs : Nat → Nat → Int × ByteArray × Int × Int) (h : RawF w w.heap.size v m ms fs) (hs : ∀ i, i < m → ∀ j, j < ms i → (fs i j).2.1.size ≤ maxLen) (hn : n ≤ 1048576) :
    Calls Tryz.prog 7 #[v, .int .i64 n] w fun e w' => (e = .returned (.int .i64 (-1)) ∨ ∃ r : Nat, e = .returned (.int .i64 r) ∧ r + sumTo ms m ≤ n ∧ m ≤ n ∧ ∀ i, i < m → ms i ≤ n ∧ ∀ j, j < ms i → (fs i j).2.1.size ≤ n) ∧ Below w.heap.size w w' := by
  obtain ⟨a, cap, rfl, hc, hm, hh⟩ := h
  have HS := Lib.hid hs
  have HH := Lib.hid hh
  clear hs hh
  unfold maxLen at hm
  by_cases h0 : n < m
  · have hz : (n : Int) - (m : Int) < 0 := by omega
    go_enter Tryz.func7, Tryz.ntmps7
    go_wp2
    go_ret
    exact ⟨.inl rfl, Below.refl _ _⟩
  · have hz : ¬ (n : Int) - (m : Int) < 0 := by omega
    go_enter Tryz.func7, Tryz.ntmps7
    go_wp2
    go_loopw [1, 5] (fun x i wr => ∃ k q : Nat, k ≤ m ∧ q + sumTo ms k ≤ n ∧ i = .int .i64 k ∧ x = .int .i64 q ∧ (∀ j, j < k → ms j ≤ n ∧ ∀ t, t < ms j → (fs j t).2.1.size ≤ n) ∧ Below w.heap.size w wr) (fun _ i _ => m - (intOf i).toNat)
    case atStart => exact ⟨0, n - m, Nat.zero_le _, by show n - m + 0 ≤ n; omega, rfl, by simp only [Value.int.injEq, true_and]; omega, fun j hj => absurd hj (Nat.not_lt_zero _), Below.refl _ _⟩
    case round =>
      obtain ⟨k, q, hk, hq, rfl, rfl, hsm, hbel⟩ := hrel
      have HSM := Lib.hid hsm
      clear hsm
      by_cases hlt : k < m
      · have hkz : (k : Int) < (m : Int) := by omega
        rcases HH.out with h1 | ⟨b, off, rfl, hb, hcell⟩
        · omega
        obtain ⟨u, c0, hraw⟩ := hcell k hlt
        have d0 := (belCell hbel _ _ hb).trans c0
        have hraw' := (hraw.below hbel (Nat.le_refl _)).mono hbel.size
        obtain ⟨ua, ucap, hu, -⟩ := id hraw'
        have HZ := Lib.hid (szRuleS_sum wr u (ms k) q (fs k) hraw' (HS.out k hlt) (by omega))
        subst hu
        have HBL := Lib.hid hbel
        clear hcell c0 hraw hraw' hbel
        go_wp2_with fail
        refine HZ.out.mono ?_
        rintro e w1 ⟨rfl | ⟨r, rfl, hr1, hr2, hr3⟩, b1⟩
        · have B1 := Lib.hid (belStep HBL.out b1)
          clear b1
          go_wp2
          go_ret
          exact ⟨.inl rfl, B1.out⟩
        · have B1 := Lib.hid (belStep HBL.out b1)
          have HX : Hid (∀ j, j < k + 1 → ms j ≤ n ∧ ∀ t, t < ms j → (fs j t).2.1.size ≤ n) := fun j hj => by
            by_cases e : j = k
            · subst e
              exact ⟨by omega, fun t ht => Nat.le_trans (hr3 t ht) (by omega)⟩
            · exact HSM.out j (by omega)
          have h3 : ¬ (r : Int) < 0 := by omega
          clear b1 hr3
          go_wp2
          go_roundw
          case rel => exact ⟨k + 1, r, by omega, by show r + (sumTo ms k + ms k) ≤ n; omega, by go_num, rfl, HX.out, B1.out⟩
          case measure => simp [intOf]; omega
      · obtain rfl : k = m := by omega
        go_wp2
        go_ret
        exact ⟨.inr ⟨q, rfl, hq, by omega, HSM.out⟩, hbel⟩

set_option maxRecDepth 100000 in
set_option maxHeartbeats 2000000 in
theorem toRuleSS_own (w : World) (v : Value) (L : List (List R4)) (h : Cfs w w.heap.size v L) (hn : L.length ≤ 1048576) (hL : ∀ i, i < L.length → (tbAt L i).length ≤ 1048576) :
    Calls Tryz.prog 10 #[v] w fun e w' => ∃ u us, e = .returned u ∧ CfO w' w.heap.size u L us ∧ Below w.heap.size w w' := by
  obtain ⟨a, cap, rfl, hc, hm, hh⟩ := h
  obtain ⟨i0, hi, hz0, hz1, hz2⟩ := info_parts infoT
  have HI := Lib.hid hi
  have HZ0 := Lib.hid hz0
  have HZ1 := Lib.hid hz1
  have HZ2 := Lib.hid hz2
  have HLL := Lib.hid hL
  clear hi hz0 hz1 hz2 hL
  have HH := Lib.hid hh
  clear hh
  unfold maxLen at hm
  have HFZ := Lib.hid (tab_zero L.length)
  generalize hN : L.length = n at *
  have HN := Lib.hid hN
  clear hN
  go_enter Tryz.func10, Tryz.ntmps10
  go_wp2_with (at_make; refine wpList_make_full _ rfl _ _ 37 rfl w.heap.size 61 i0 (.slice none 0 0) 1 Tryz.underlying37 HI.out HZ0.out HZ1.out .i64 .i64 _ _ n rfl rfl rfl rfl ?b2 ?b3 (Nat.le_refl _) ?_)
  case b2 => rw [HZ2.out]; omega
  case b3 => unfold maxLen; omega
  intro w1 hown hg1
  have HB1 : Hid (Below w.heap.size w w1) := ⟨hg1.os, hg1.tape, hg1.output, hg1.size, fun k hk => hg1.block k hk (by simp)⟩
  have HR1 : Hid (w1.ownsRow w.heap.size 61 1 (.slice (some ⟨w.heap.size, 0, none⟩) n n) n (List.replicate n (Value.slice none 0 0))) := by
    show w1.ownsRow _ _ _ _ _ _
    rw [HFZ.out]
    exact hown
  clear hown hg1 HFZ
  go_wp2
  go_loopw [4] (fun i wr => ∃ (k : Nat) (us : List Value), k ≤ n ∧ i = .int .i64 k ∧ us.length = n ∧ wr.ownsRow w.heap.size 61 1 (.slice (some ⟨w.heap.size, 0, none⟩) n n) n us ∧ (∀ j, j < k → ∃ u, us[j]? = some u ∧ RulRow wr (w.heap.size + 1) u (tbAt L j)) ∧ Apart us k ∧ Below w.heap.size w wr) (fun i _ => n - (intOf i).toNat)
  case atStart => exact ⟨0, _, Nat.zero_le _, rfl, by simp, HR1.out, fun j hj => absurd hj (Nat.not_lt_zero _), fun i j _ hj => absurd hj (Nat.not_lt_zero _), HB1.out⟩
  case round =>
    obtain ⟨k, us, hk, rfl, hus, hrow, hall, hap, hbel⟩ := hrel
    have HAP := Lib.hid hap
    clear hap
    have HR := Lib.hid hrow
    have HA := Lib.hid hall
    have HBL := Lib.hid hbel
    have HUS := Lib.hid hus
    have hgl := (World.ownsRow.lt hrow w.heap.size rfl).2
    clear hrow hall hus
    by_cases hlt : k < n
    · have hkz : (k : Int) < (n : Int) := by omega
      rcases HH.out with h0 | ⟨b, off, rfl, hb, hcell⟩
      · have := HN.out; rw [h0] at this; simp at this; omega
      obtain ⟨u, c0, hr⟩ := hcell k hlt
      have d0 := (belCell hbel _ _ hb).trans c0
      have HT := Lib.hid (toRuleS_any wr u (tbAt L k) ((hr.below hbel (Nat.le_refl _)).mono hbel.size) (HLL.out k hlt))
      obtain ⟨ua, ucap, hu, -⟩ := hr
      subst hu
      clear hcell c0 hbel
      go_wp2_with fail
      refine HT.out.mono ?_
      rintro e w2 ⟨x, rfl, hx, b2⟩
      obtain ⟨xa, xc, hxe, -⟩ := RulRow.rls hx
      subst hxe
      have HXQ : Hid (∀ q, (Value.slice xa (tbAt L k).length xc).ownBlock = some q → wr.heap.size ≤ q) := fun q hq => (World.ownsRow.lt hx q hq).1
      have HOLD : Hid (∀ j, j < k → ∀ u, us[j]? = some u → ∀ q, u.ownBlock = some q → q < wr.heap.size) := fun j hj u hu q hq => by
        obtain ⟨u', h1, h2⟩ := HA.out j hj
        rw [hu] at h1
        obtain rfl := Option.some.inj h1
        exact (World.ownsRow.lt h2 q hq).2
      have HX := Lib.hid (RulRow.mono hx (show w.heap.size + 1 ≤ wr.heap.size by omega))
      have HR2 : Hid (w2.ownsRow w.heap.size 61 1 (.slice (some ⟨w.heap.size, 0, none⟩) n n) n us) := rowKept HR.out b2
      have HA2 : Hid (∀ j, j < k → ∃ u, us[j]? = some u ∧ RulRow w2 (w.heap.size + 1) u (tbAt L j)) := fun j hj => by
        obtain ⟨u, h1, h2⟩ := HA.out j hj
        exact ⟨u, h1, h2.below b2⟩
      have B2 := Lib.hid (belStep HBL.out b2)
      have hcl := World.ownsRow.cellAt HR2.out k (by omega)
      have hfz := World.ownsRow.frozenAt HR2.out k
      obtain ⟨uk, huk⟩ : ∃ uk, us[k]? = some uk := ⟨_, List.getElem?_eq_getElem (by rw [HUS.out]; exact hlt)⟩
      rw [huk] at hcl
      clear huk
      have hst := (World.ownsRow.stored HR2.out k (.slice xa (tbAt L k).length xc)).1
      have HST := Lib.hid hst
      clear b2 hx HR HA HBL hst d0 HT
      go_wp2
      go_roundw
      case rel =>
        refine ⟨k + 1, us.set k (.slice xa (tbAt L k).length xc), by omega, by go_num, by rw [List.length_set]; exact HUS.out, HST.out, fun j hj => ?_, fun i j hij hj ui uj hui huj q hq hq' => ?_, B2.out.setCell (by exact Nat.le_refl _) _⟩
        rotate_left
        · rw [List.getElem?_set_ne (show k ≠ i by omega)] at hui
          have h1 := HOLD.out i (by omega) ui hui q hq
          by_cases e : j = k
          · subst e
            rw [List.getElem?_set_self (by rw [HUS.out]; exact hlt)] at huj
            obtain rfl := Option.some.inj huj
            have := HXQ.out q hq'
            omega
          · rw [List.getElem?_set_ne (fun h => e h.symm)] at huj
            exact HAP.out i j hij (by omega) ui uj hui huj q hq hq'
        by_cases e : j = k
        · subst e
          exact ⟨_, by rw [List.getElem?_set_self (by rw [HUS.out]; exact hlt)], rulFar HX.out (by omega)⟩
        · obtain ⟨u, h1, h2⟩ := HA2.out j (by omega)
          exact ⟨u, by rw [List.getElem?_set_ne (fun h => e h.symm)]; exact h1, rulFar h2 (by omega)⟩
      case measure => simp [intOf]; omega
    · obtain rfl : k = n := by omega
      go_wp2
      go_ret
      have hN := HN.out
      exact ⟨_, us, rfl, ⟨by rw [hN]; rfl, by rw [hN]; exact HUS.out, by rw [hN]; unfold maxLen; omega, by rw [hN]; exact HR.out, fun j hj => HA.out j (by omega), by rw [hN]; exact HAP.out⟩, hbel⟩

set_option maxRecDepth 100000 in
set_option maxHeartbeats 2000000 in
theorem markRuleSS_own (w : World) (b k : Nat) (v : Value) (L : List (List R4)) (us : List Value) (h : CfO w b v L us) (hk1 : 1 ≤ k) (hk : k + 4 * sumTo (fun i => (tbAt L i).length) L.length ≤ 8000000)
    (E : Nat) (hE : ∀ (j : Nat) (u : Value), us[j]? = some u → ∀ q, u.ownBlock = some q → q < E) (Q : World → Prop) (hQ : Q w) (hstep : ∀ (W W' : World) (row : Option Nat), (∀ q, row = some q → b < q ∧ q < E) → W.grownBy W' row → Q W → Q W') :
    Calls Tryz.prog 20 #[v, .int .i64 k] w fun e w' => e = .returned (.int .i64 ((k + 4 * sumTo (fun i => (tbAt L i).length) L.length : Nat) : Int)) ∧ Below b w w' ∧ Q w' := by
  have HE := Lib.hid hE
  have HST := Lib.hid hstep
  have HQ0 : Hid (Q w) := hQ
  clear hE hstep hQ
  have hb := h.lt
  obtain ⟨rfl, hus, hmx, hrow, hall, hap⟩ := h
  have HR := Lib.hid hrow
  have HA := Lib.hid hall
  have HAP := Lib.hid hap
  have HS : Hid (∀ j, j < L.length → k + 4 * sumTo (fun i => (tbAt L i).length) (j + 1) ≤ 8000000) := fun j hj => by
    have := sumTo_mono (fun i => (tbAt L i).length) (show j + 1 ≤ L.length by omega)
    omega
  have HT : Hid (∀ j, sumTo (fun i => (tbAt L i).length) (j + 1) = sumTo (fun i => (tbAt L i).length) j + (tbAt L j).length) := fun j => rfl
  have HT0 : sumTo (fun i => (tbAt L i).length) 0 = 0 := rfl
  unfold maxLen at hmx
  clear hrow hall hap hk
  generalize sumTo (fun i => (tbAt L i).length) = T at *
  generalize L.length = n at *
  go_enter Tryz.func20, Tryz.ntmps20
  go_wp2
  go_loopw [1, 5] (fun x i wr => ∃ j : Nat, j ≤ n ∧ i = .int .i64 j ∧ x = .int .i64 ((k + 4 * T j : Nat) : Int) ∧ wr.ownsRow b 61 1 (.slice (some ⟨b, 0, none⟩) n n) n us ∧ (∀ i, j ≤ i → i < n → ∃ u, us[i]? = some u ∧ RulRow wr (b + 1) u (tbAt L i)) ∧ b < wr.heap.size ∧ Below b w wr ∧ Q wr) (fun _ i _ => n - (intOf i).toNat)
  case atStart => exact ⟨0, Nat.zero_le _, rfl, by rw [HT0]; rfl, HR.out, fun i _ hi => HA.out i hi, hb, Below.refl _ _, HQ0.out⟩
  case round =>
    clear HR HA HQ0
    obtain ⟨j, hj, rfl, rfl, hrow, hall, hbw, hbel, hQw⟩ := hrel
    have HQ : Hid (Q wr) := hQw
    clear hQw
    by_cases hlt : j < n
    · have hz : (j : Int) < (n : Int) := by omega
      obtain ⟨u, hu, hr⟩ := hall j (Nat.le_refl _) hlt
      have hcl := World.ownsRow.cellAt hrow j (by omega)
      rw [hu] at hcl
      have hS := HS.out j hlt
      have hT := HT.out j
      have hone : 1 ≤ k + 4 * T j := by omega
      have HM := Lib.hid (markRuleS_own wr (b + 1) (k + 4 * T j) u (tbAt L j) hr hone (by omega) hbw)
      have HRW := Lib.hid hrow
      have HAL := Lib.hid hall
      have HB := Lib.hid hbel
      have HU := Lib.hid hu
      have hub : ∀ q, u.ownBlock = some q → b + 1 ≤ q := fun q hq => (World.ownsRow.lt hr q hq).1
      have HUB := Lib.hid hub
      have HKT : Hid (((k + 4 * T (j + 1) : Nat) : Int) = ((k + 4 * T j + 4 * (tbAt L j).length : Nat) : Int)) := by show _ = _; rw [hT]; omega
      obtain ⟨ua, uc, hus2⟩ : ∃ a c, u = .slice a (tbAt L j).length c := by
        obtain ⟨ua, uc, hx, -⟩ := hr.rls
        exact ⟨ua, uc, hx⟩
      clear hrow hall hbel hu hub hr hS hT hone
      generalize hK : k + 4 * T j = K at *
      subst hus2
      go_wp2_with fail
      refine HM.out.mono ?_
      rintro e w1 ⟨rfl, hr1, b1, g1⟩
      have HR1 : Hid (w1.ownsRow b 61 1 (.slice (some ⟨b, 0, none⟩) n n) n us) := World.ownsRow.kept HRW.out g1 (.inr (fun e => by
        have := HUB.out b e.symm
        omega))
      have HA1 : Hid (∀ i, j + 1 ≤ i → i < n → ∃ u, us[i]? = some u ∧ RulRow w1 (b + 1) u (tbAt L i)) := fun i hi hin => by
        obtain ⟨u', h1, h2⟩ := HAL.out i (by omega) hin
        refine ⟨u', h1, World.ownsRow.kept h2 g1 ?_⟩
        cases hq : u'.ownBlock with
        | none => exact .inl rfl
        | some q => exact .inr (fun e => HAP.out j i (by omega) hin _ _ HU.out h1 q e.symm hq)
      have HQ1 : Hid (Q w1) := HST.out wr w1 _ (fun q hq => ⟨HUB.out q hq, HE.out j _ HU.out q hq⟩) g1 HQ.out
      have HB1 := Lib.hid (HB.out.trans (b1.mono (Nat.le_succ b)))
      have hbw1 : b < w1.heap.size := Nat.lt_of_lt_of_le hbw b1.size
      clear hr1 b1 g1 HM HRW HAL HB HQ
      go_wp2
      go_roundw
      case rel => exact ⟨j + 1, by omega, by go_num, by rw [HKT.out]; simp, HR1.out, HA1.out, hbw1, HB1.out, HQ1.out⟩
      case measure => simp [intOf]; omega
    · obtain rfl : j = n := by omega
      go_wp2
      go_ret
      exact ⟨rfl, hbel, HQ.out⟩

end Go.Proofs.YtjjhahhchimmlaaGreatDoor
