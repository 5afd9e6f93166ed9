/-
  Rows of packets as rows of four numbers: two are the same, one is marked, marks are held.
-/
import Derived.Test.YtjjhahhchimmlaaGreatDoorNetMark
import Derived.Test.YtjjhahhchimmlaaGreatDoorWalkPk
import Derived.Test.YtjjhahhchimmlaaGreatDoorWalkH
namespace Go.Proofs.YtjjhahhchimmlaaGreatDoor
open Go.ChangeShapes Go.WideShapes Go.ChangeAt Go.RowKit Go.Joins
set_option linter.unusedVariables false

/-- A value is a slice of its own with these packets; its block is numbered from base on. -/
def SkRow (w : World) (base : Nat) (v : Value) (l : List K4) : Prop := w.ownsRow base 32 4 v l.length (l.flatMap K4.cs)
theorem SkRow.below {w w' : World} {base : Nat} {v : Value} {l : List K4} (h : SkRow w base v l) (hb : Below w.heap.size w w') : SkRow w' base v l :=
  World.ownsRow.kept h (row := none) ⟨hb.os, hb.tape, hb.output, hb.size, fun k hk _ => hb.block k hk⟩ (by cases v.ownBlock <;> simp)
theorem SkRow.mono {w : World} {base base' : Nat} {v : Value} {l : List K4} (h : SkRow w base v l) (hb : base' ≤ base) : SkRow w base' v l := World.ownsRow.mono h hb
theorem SkRow.cells {w : World} {base g cap n : Nat} {l : List K4} (h : SkRow w base (.slice (some ⟨g, 0, none⟩) n cap) l) (hn : l.length = n) : (∀ i, i < n → FourK w g (i * 4) (lkAt l i)) ∧ (∀ j, w.frozen? ⟨g, j, none⟩ = false) ∧ g < w.heap.size := by
  subst hn
  refine ⟨fun i hi => ?_, fun j => World.ownsRow.frozenAt h j, (World.ownsRow.lt h g rfl).2⟩
  have h0 := fk_at l i 0 hi (by decide)
  have h1 := fk_at l i 1 hi (by decide)
  have h2 := fk_at l i 2 hi (by decide)
  have h3 := fk_at l i 3 hi (by decide)
  exact ⟨(World.ownsRow.cellAt h (i * 4) (by omega)).trans h0, (World.ownsRow.cellAt h (i * 4 + 1) (by omega)).trans h1, (World.ownsRow.cellAt h (i * 4 + 2) (by omega)).trans h2, (World.ownsRow.cellAt h (i * 4 + 3) (by omega)).trans h3⟩
theorem SkRow.form {w : World} {base : Nat} {v : Value} {l : List K4} (h : SkRow w base v l) :
    (v = .slice none 0 0 ∧ l = []) ∨ ∃ g cap, v = .slice (some ⟨g, 0, none⟩) l.length cap ∧ base ≤ g ∧ g < w.heap.size ∧ l.length ≤ cap ∧ cap ≤ maxLen := by
  have h0 := h
  obtain ⟨hl, h1 | ⟨g, cap, cur, rfl, hb, hg, hc, hm, hs, ht⟩⟩ := h
  · exact .inl ⟨h1.1, List.eq_nil_of_length_eq_zero h1.2⟩
  · exact .inr ⟨g, cap, rfl, hb, (World.ownsRow.lt h0 g rfl).2, hc, hm⟩
theorem SkRow.lks {w : World} {base : Nat} {v : Value} {l : List K4} (h : SkRow w base v l) : Lks w w.heap.size v l := by
  rcases h.form with ⟨rfl, rfl⟩ | ⟨g, cap, rfl, hb, hg, hc, hm⟩
  · exact Lks.nil _ _
  · exact ⟨_, cap, rfl, hc, hm, .inr ⟨g, 0, rfl, hg, fun i hi => by rw [Nat.zero_add]; exact (h.cells rfl).1 i hi⟩⟩
/-- One packet is exchanged. -/
theorem SkRow.put {w : World} {base g cap i n : Nat} {r : K4} {l m : List K4} (h : SkRow w base (.slice (some ⟨g, 0, none⟩) n cap) l) (hn : l.length = n) (hi : i < n) (hm : m = l.set i r) :
    SkRow ((((w.setCell ⟨g, i * 4, none⟩ (.int .i64 r.p)).setCell ⟨g, i * 4 + 1, none⟩ (.int .i64 r.s)).setCell ⟨g, i * 4 + 2, none⟩ (.int .i64 r.o)).setCell ⟨g, i * 4 + 3, none⟩ (.int .i64 r.t)) base (.slice (some ⟨g, 0, none⟩) n cap) m := by
  subst hm hn
  have h1 := (World.ownsRow.stored h (i * 4) (.int .i64 r.p)).1
  have h2 := (World.ownsRow.stored h1 (i * 4 + 1) (.int .i64 r.s)).1
  have h3 := (World.ownsRow.stored h2 (i * 4 + 2) (.int .i64 r.o)).1
  have h4 := (World.ownsRow.stored h3 (i * 4 + 3) (.int .i64 r.t)).1
  unfold SkRow
  rw [fk_set l i r hi, List.length_set]
  exact h4

def Pk.k (s : Pk) : K4 := ⟨s.x, s.a, s.b, s.c⟩
theorem pk_flat (l : List Pk) : (l.map Pk.k).flatMap K4.cs = l.flatMap Pk.cs := by
  induction l with
  | nil => rfl
  | cons r l ih => simp only [List.map_cons, List.flatMap_cons, ih]; rfl
theorem PkRow.sk {w : World} {b : Nat} {v : Value} {l : List Pk} (h : PkRow w b v l) : SkRow w b v (l.map Pk.k) := by
  unfold SkRow
  rw [pk_flat, List.length_map]
  exact h
theorem PkRow.lks {w : World} {b : Nat} {v : Value} {l : List Pk} (h : PkRow w b v l) : Lks w w.heap.size v (l.map Pk.k) := h.sk.lks

set_option maxRecDepth 100000 in
set_option maxHeartbeats 2000000 in
theorem eqSpotS_same (w : World) (v v' : Value) (l : List K4) (h : Lks w w.heap.size v l) (h' : Lks w w.heap.size v' l) (hn : l.length ≤ 1048576) :
    Calls Tryz.prog 18 #[v, v'] w fun e w' => e = .returned (.bool true) ∧ Below w.heap.size w w' := by
  obtain ⟨a, cap, rfl, hc, hm, hh⟩ := h
  obtain ⟨a', cap', rfl, hc', hm', hh'⟩ := h'
  have HH := Lib.hid hh
  have HH' := Lib.hid hh'
  clear hh hh'
  unfold maxLen at hm hm'
  generalize hN : l.length = n at *
  go_enter Tryz.func18, Tryz.ntmps18
  go_wp2
  go_loopw [5] (fun i wr => ∃ k : Nat, k ≤ n ∧ i = .int .i64 k ∧ Below w.heap.size w wr) (fun i _ => n - (intOf i).toNat)
  case atStart => exact ⟨0, Nat.zero_le _, rfl, Below.refl _ _⟩
  case round =>
    obtain ⟨k, hk, rfl, hbel⟩ := hrel
    by_cases hlt : k < n
    · have hz : (k : Int) < (n : Int) := by omega
      rcases HH.out with h1 | ⟨b, off, rfl, hb, hcell⟩
      · rw [h1] at hN; simp at hN; omega
      rcases HH'.out with h1 | ⟨b', off', rfl, hb', hcell'⟩
      · rw [h1] at hN; simp at hN; omega
      obtain ⟨c0, c1, c2, c3⟩ := (hcell k hlt).below hbel hb
      obtain ⟨d0, d1, d2, d3⟩ := (hcell' k hlt).below hbel hb'
      clear hcell hcell'
      have HBL := Lib.hid hbel
      clear hbel
      generalize lkAt l k = x at *
      have hbr : b < wr.heap.size := Nat.lt_of_lt_of_le hb HBL.out.size
      have hbr' : b' < wr.heap.size := Nat.lt_of_lt_of_le hb' HBL.out.size
      have q0 := fun m : Ext wr => m.cell hbr c0
      have q1 := fun m : Ext wr => m.cell hbr c1
      have q2 := fun m : Ext wr => m.cell hbr c2
      have q3 := fun m : Ext wr => m.cell hbr c3
      have q4 := fun m : Ext wr => m.cell hbr' d0
      have q5 := fun m : Ext wr => m.cell hbr' d1
      have q6 := fun m : Ext wr => m.cell hbr' d2
      have q7 := fun m : Ext wr => m.cell hbr' d3
      clear c0 c1 c2 c3 d0 d1 d2 d3
      go_wp2
      refine wp_region_ext (w0 := wr) (by kernel_rfl) (by kernel_rfl) (Below.refl _ _) ?_
      repeat (go_big_quiet_step (first | (go_at_call 13; exact ext_of (eqSpot_same _ _ _ _ _))))
      refine wpQuiet_nil ?_
      rintro _ ⟨⟨w1, b1⟩, rfl⟩
      go_wp2
      go_roundw
      case rel => exact ⟨k + 1, by omega, by go_num, belStep HBL.out b1⟩
      case measure => simp [intOf]; omega
    · obtain rfl : k = n := by omega
      go_wp2
      go_ret
      exact ⟨rfl, hbel⟩

set_option maxRecDepth 100000 in
set_option maxHeartbeats 4000000 in
theorem markSpotS_own (w : World) (base k : Nat) (v : Value) (l : List K4) (h : SkRow w base v l) (hk1 : 1 ≤ k) (hk : k + 4 * l.length ≤ 8000000) (hs : base ≤ w.heap.size) :
    Calls Tryz.prog 21 #[v, .int .i64 k] w fun e w' => e = .returned (.int .i64 ((k + 4 * l.length : Nat) : Int)) ∧ SkRow w' base v (marksK k l.length) ∧ Below base w w' ∧ w.grownBy w' v.ownBlock := by
  rcases h.form with ⟨rfl, rfl⟩ | ⟨g, cap, rfl, hb, hg, hc, hm⟩
  · go_enter Tryz.func21, Tryz.ntmps21
    go_wp2
    go_loop [1, 5] (fun x i => x = .int .i64 k ∧ i = .int .i64 0) (fun _ i => (intOf i).toNat)
    case atStart => exact ⟨rfl, rfl⟩
    case round =>
      obtain ⟨rfl, rfl⟩ := hrel
      go_wp2
      go_ret
      exact ⟨rfl, ⟨rfl, .inl ⟨rfl, rfl⟩⟩, Below.refl _ _, ⟨rfl, rfl, rfl, Nat.le_refl _, fun _ _ _ => rfl⟩⟩
  · have HR := Lib.hid h
    clear h
    unfold maxLen at hm
    have HL := Lib.hid (fun j (hj : j ≤ l.length) => mixedK_len k l hj)
    have HM := Lib.hid (fun j (hj : j < l.length) => mixedK_step k l hj)
    have HA := Lib.hid (mixedK_all k l)
    have HZ := Lib.hid (mixedK_zero k l)
    generalize l.length = n at *
    go_enter Tryz.func21, Tryz.ntmps21
    go_wp2
    go_loopw [1, 5] (fun x i wr => ∃ j : Nat, j ≤ n ∧ i = .int .i64 j ∧ x = .int .i64 ((k + 4 * j : Nat) : Int) ∧ SkRow wr base (.slice (some ⟨g, 0, none⟩) n cap) (mixedK k l j) ∧ w.grownBy wr (some g)) (fun _ i _ => n - (intOf i).toNat)
    case atStart => exact ⟨0, Nat.zero_le _, rfl, rfl, HR.out, ⟨rfl, rfl, rfl, Nat.le_refl _, fun _ _ _ => rfl⟩⟩
    case round =>
      obtain ⟨j, hj, rfl, rfl, hrow, hgr⟩ := hrel
      have HGR := Lib.hid hgr
      clear hgr
      by_cases hlt : j < n
      · have hz : (j : Int) < (n : Int) := by omega
        obtain ⟨K, hK⟩ : ∃ K, k + 4 * j = K := ⟨_, rfl⟩
        have HMJ := Lib.hid (HM.out j hlt)
        rw [hK] at HMJ
        rw [hK]
        have hKb : K + 4 ≤ 8000000 := by omega
        have hK4 : Hid (((k + 4 * (j + 1) : Nat) : Int) = (K : Int) + 1 + 1 + 1 + 1) := by show _ = _; omega
        clear hK
        have HRW := Lib.hid hrow
        obtain ⟨hc1, hf1, hg1⟩ := hrow.cells (HL.out j hj)
        obtain ⟨c0, c1, c2, c3⟩ := hc1 j hlt
        clear hc1 hrow
        go_wp2
        go_roundw
        case rel => exact ⟨j + 1, by omega, by go_num, by rw [hK4.out], SkRow.put (r := mkK K) HRW.out (HL.out j hj) hlt HMJ.out, growFour HGR.out⟩
        case measure => simp [intOf]; omega
      · obtain rfl : j = n := by omega
        have hgs := HGR.out
        go_wp2
        go_ret
        exact ⟨rfl, by rw [← HA.out]; exact hrow, ⟨hgs.os, hgs.tape, hgs.output, hgs.size, fun i hi => hgs.block i (by omega) (fun e => by cases e; omega)⟩, hgs⟩

set_option maxRecDepth 100000 in
set_option maxHeartbeats 4000000 in
theorem heldSpotS_at (w : World) (base k n : Nat) (v : Value) (h : SkRow w base v (marksK k n)) (hk1 : 1 ≤ k) (hk : k + 4 * n ≤ 8000000) :
    Calls Tryz.prog 22 #[v, .int .i64 k] w fun e w' => e = .returned (.int .i64 ((k + 4 * n : Nat) : Int)) ∧ Below w.heap.size w w' := by
  rcases h.form with ⟨rfl, hnil⟩ | ⟨g, cap, rfl, hb, hg, hc, hm⟩
  · obtain rfl : n = 0 := by rw [← marksK_len k n, hnil]; rfl
    go_enter Tryz.func22, Tryz.ntmps22
    go_wp2
    go_loop [1, 5] (fun x i => x = .int .i64 k ∧ i = .int .i64 0) (fun _ i => (intOf i).toNat)
    case atStart => exact ⟨rfl, rfl⟩
    case round =>
      obtain ⟨rfl, rfl⟩ := hrel
      go_wp2
      go_ret
      exact ⟨rfl, Below.refl _ _⟩
  · rw [marksK_len] at *
    have HC : Hid (∀ j, j < n → FourK w g (j * 4) (mkK (k + 4 * j))) := fun j hj => by
      have := (h.cells (marksK_len k n)).1 j hj
      rwa [marksK_at k hj] at this
    clear h
    unfold maxLen at hm
    go_enter Tryz.func22, Tryz.ntmps22
    go_wp2
    go_loopw [1, 5] (fun x i wr => ∃ j : Nat, j ≤ n ∧ i = .int .i64 j ∧ x = .int .i64 ((k + 4 * j : Nat) : Int) ∧ Below w.heap.size w wr) (fun _ i _ => n - (intOf i).toNat)
    case atStart => exact ⟨0, Nat.zero_le _, rfl, rfl, Below.refl _ _⟩
    case round =>
      obtain ⟨j, hj, rfl, rfl, hbel⟩ := hrel
      by_cases hlt : j < n
      · have hz : (j : Int) < (n : Int) := by omega
        obtain ⟨K, hK⟩ : ∃ K, k + 4 * j = K := ⟨_, rfl⟩
        have hcj := (HC.out j hlt).below hbel hg
        rw [hK] at hcj
        rw [hK]
        obtain ⟨c0, c1, c2, c3⟩ := hcj
        dsimp only [mkK] at c0 c1 c2 c3
        have hKb : K + 4 ≤ 8000000 := by omega
        have hK4 : Hid (((k + 4 * (j + 1) : Nat) : Int) = (K : Int) + 1 + 1 + 1 + 1) := by show _ = _; omega
        have HBL := Lib.hid hbel
        clear hK hbel
        go_wp2
        go_roundw
        case rel => exact ⟨j + 1, by omega, by go_num, by rw [hK4.out], HBL.out⟩
        case measure => simp [intOf]; omega
      · obtain rfl : j = n := by omega
        go_wp2
        go_ret
        exact ⟨rfl, hbel⟩

end Go.Proofs.YtjjhahhchimmlaaGreatDoor
