/-
  The program's search in a list: the node behind which a rule stands, or would stand.
-/
import Derived.Test.YtahobeigbjhbbaaGreatDoorTabNodes
import Derived.Test.YtahobeigbjhbbaaGreatDoorTabRead
namespace Go.Proofs.YtahobeigbjhbbaaGreatDoor
open Go.ChangeShapes Go.WideShapes Go.ChangeAt Go.RowKit Go.Joins
set_option linter.unusedVariables false

theorem Root.below {w w' : World} {g : Nat} {l : List R4} {f : Nat → Nat} (h : Root w g l f) (hb : Below w.heap.size w w') : Root w' g l f :=
  ⟨(hb.block g (Array.getElem?_eq_some_iff.1 h.1).1).trans h.1, fun i hi => ⟨(h.2 i hi).1, (hb.block _ (Array.getElem?_eq_some_iff.1 (h.2 i hi).2).1).trans (h.2 i hi).2⟩⟩
/-- Where a rule stands: behind k rules of a list. -/
def Stand (l : List R4) (r : R4) (k : Nat) : Prop := k ≤ l.length ∧ (∀ j, j < k → cmR (ruAt l j) r < 0) ∧ (k < l.length → 0 ≤ cmR (ruAt l k) r)

theorem prev_inj {w : World} {g : Nat} {l : List R4} {f : Nat → Nat} (h : Root w g l f) {i j : Nat} (hi : i ≤ l.length) (hj : j ≤ l.length) (he : prevAt g f i = prevAt g f j) : i = j := by
  unfold prevAt at he
  by_cases h0 : i = 0
  · by_cases h1 : j = 0
    · omega
    · rw [if_pos h0, if_neg h1] at he
      have := (h.2 (j - 1) (by omega)).1
      omega
  · by_cases h1 : j = 0
    · rw [if_neg h0, if_pos h1] at he
      have := (h.2 (i - 1) (by omega)).1
      omega
    · rw [if_neg h0, if_neg h1] at he
      have := nodes_apart h.2 (show i - 1 < l.length by omega) (show j - 1 < l.length by omega) he
      omega
def blkOf : Value → Nat | .pointer (some a) => a.block | _ => 0
/-- How many rules are left behind a node. -/
def leftN (g : Nat) (f : Nat → Nat) (n : Nat) (p : Value) : Nat := n - (List.range (n + 1)).findIdx (fun k => prevAt g f k == blkOf p)
theorem leftN_eq {w : World} {g : Nat} {l : List R4} {f : Nat → Nat} (h : Root w g l f) {k : Nat} (hk : k ≤ l.length) : leftN g f l.length (.pointer (some ⟨prevAt g f k, 0, none⟩)) = l.length - k := by
  unfold leftN
  have : (List.range (l.length + 1)).findIdx (fun k' => prevAt g f k' == blkOf (.pointer (some ⟨prevAt g f k, 0, none⟩))) = k := by
    rw [List.findIdx_eq (by simp; omega)]
    refine ⟨by simp [blkOf], fun j hj => ?_⟩
    simp only [List.getElem_range, blkOf]
    rw [beq_eq_false_iff_ne]
    exact fun e => by have := prev_inj h (show j ≤ l.length by omega) hk e; omega
  rw [this]

set_option maxRecDepth 100000 in
set_option maxHeartbeats 4000000 in
theorem before_any (w : World) (g : Nat) (l : List R4) (f : Nat → Nat) (r : R4) (hn : l.length ≤ 1000) (hr : okR r = true) (hl : ∀ i, i < l.length → okR (ruAt l i) = true) (hR : Root w g l f) (hE : EtOk w) :
    Calls Tryz.prog 107 #[lstV g, .agg #[.int .i64 r.p, .string r.s, .int .i64 r.o, .int .i64 r.t]] w fun e w' => ∃ k, Stand l r k ∧ e = .returned (.tuple #[.pointer (some ⟨prevAt g f k, 0, none⟩), .bool (decide (k < l.length ∧ cmR (ruAt l k) r = 0))]) ∧ Below w.heap.size w w' := by
  have HB := Lib.hid (leadW_bel w g r)
  have HE0 := Lib.hid (hE.below (leadW_bel w g r))
  have HR0 := Lib.hid (hR.below (leadW_bel w g r))
  have HCM : Hid (∀ i, i < l.length → ∀ w, EtOk w → Calls Tryz.prog 102 #[.agg #[.int .i64 (ruAt l i).p, .string (ruAt l i).s, .int .i64 (ruAt l i).o, .int .i64 (ruAt l i).t], .agg #[.int .i64 r.p, .string r.s, .int .i64 r.o, .int .i64 r.t]] w fun e w' => e = .returned (.int .i64 (cmR (ruAt l i) r)) ∧ Below w.heap.size w w') := fun i hi w hE => iCmp_at (ruAt l i) r (hl i hi) hr w hE
  clear hE hR hr hl
  have hsz := leadW_size w g r
  obtain ⟨p0, p1, p2, p3, p4, p5⟩ := leadW_cells w g r
  unfold lstV
  go_enter Tryz.func107, Tryz.ntmps107
  go_wp2
  rw [show (w.alloc (.cells #[.func (.func 102) #[] #[], .pointer (some ⟨g, 0, none⟩)] 75)).alloc (.cells #[.int .i64 r.p, .string r.s, .int .i64 r.o, .int .i64 r.t] 25) = leadW w g r from rfl]
  generalize leadW w g r = W0 at *
  have HLF : Hid (∀ k, k ≤ l.length → leftN g f l.length (.pointer (some ⟨prevAt g f k, 0, none⟩)) = l.length - k) := fun k hk => leftN_eq HR0.out hk
  have hp0 : g = prevAt g f 0 := rfl
  go_loopw [6] (fun n wr => ∃ k, k ≤ l.length ∧ n = .pointer (some ⟨prevAt g f k, 0, none⟩) ∧ (∀ j, j < k → cmR (ruAt l j) r < 0) ∧ Below W0.heap.size W0 wr) (fun n _ => leftN g f l.length n)
  case atStart => exact ⟨0, Nat.zero_le _, rfl, fun j hj => absurd hj (Nat.not_lt_zero _), Below.refl _ _⟩
  case round =>
    clear hp0
    obtain ⟨k, hk, rfl, hlow, hbel⟩ := hrel
    have HLW := Lib.hid hlow
    have HBL := Lib.hid hbel
    have HRk := HR0.out.below hbel
    obtain ⟨x, hx⟩ := root_prev HRk hk
    obtain ⟨-, n4, -⟩ := nodeCells hx
    have hpl := (Array.getElem?_eq_some_iff.1 hx).1
    have HP := Lib.hid hx
    clear hlow hx
    by_cases hlt : k < l.length
    · have hb := (HRk.2 k hlt).2
      obtain ⟨⟨a0, a1, a2, a3⟩, -, -⟩ := nodeCells hb
      have hbl := (Array.getElem?_eq_some_iff.1 hb).1
      have hpt : ptrAt l.length f k = some ⟨f k, 0, none⟩ := if_pos hlt
      rw [hpt] at n4
      have hW := hbel.size
      have i0 := (belCell hbel w.heap.size 0 (by omega)).trans p0
      have i2 := (belCell hbel (w.heap.size + 1) 0 (by omega)).trans p2
      have i3 := (belCell hbel (w.heap.size + 1) (0 + 1) (by omega)).trans p3
      have i4 := (belCell hbel (w.heap.size + 1) (0 + 2) (by omega)).trans p4
      have i5 := (belCell hbel (w.heap.size + 1) (0 + 3) (by omega)).trans p5
      have e4 := fun m : Ext wr => m.cell hpl n4
      have f0 := fun m : Ext wr => m.cell hbl a0
      have f1 := fun m : Ext wr => m.cell hbl a1
      have f2 := fun m : Ext wr => m.cell hbl a2
      have f3 := fun m : Ext wr => m.cell hbl a3
      have g0 := fun m : Ext wr => m.cell (by omega) i0
      have g2 := fun m : Ext wr => m.cell (by omega) i2
      have g3 := fun m : Ext wr => m.cell (by omega) i3
      have g4 := fun m : Ext wr => m.cell (by omega) i4
      have g5 := fun m : Ext wr => m.cell (by omega) i5
      simp only [Nat.zero_add] at f1 f2 f3 g3 g4 g5
      have HX := Lib.hid (HCM.out k hlt)
      have HE1 := Lib.hid (HE0.out.below hbel)
      have HL1 := Lib.hid (HLF.out k hk)
      have HL2 := Lib.hid (HLF.out (k + 1) hlt)
      have HPN : Hid (prevAt g f (k + 1) = f k) := by show prevAt g f (k + 1) = f k; simp [prevAt]
      have HST : Hid (0 ≤ cmR (ruAt l k) r → Stand l r k) := fun h => ⟨hk, HLW.out, fun _ => h⟩
      have HNX : Hid (cmR (ruAt l k) r < 0 → ∀ j, j < k + 1 → cmR (ruAt l j) r < 0) := fun h j hj => by
        by_cases e : j = k
        · subst e; exact h
        · exact HLW.out j (by omega)
      have HDC : Hid (decide (k < l.length ∧ cmR (ruAt l k) r = 0) = decide (cmR (ruAt l k) r = 0)) := by show decide _ = decide _; simp [hlt]
      clear hb hbel HRk a0 a1 a2 a3 i0 i2 i3 i4 i5 hpt
      by_cases hc : 0 ≤ cmR (ruAt l k) r
      · go_wp2
        refine wp_region_ext (w0 := wr) (by kernel_rfl) (by kernel_rfl) (Below.refl _ _) ?_
        repeat (go_big_quiet_step (first | (go_at_call 102; exact ext_of (HX.out _ (HE1.out.below (Ext.h _))))))
        refine wpQuiet_nil ?_
        intro w1 hx
        have b1 := ext_out hx
        clear hx
        go_wp2
        exact bodyPost_ret (v := .tuple #[.pointer (some ⟨prevAt g f k, 0, none⟩), .bool (cmR (ruAt l k) r == 0)]) (by simp [results, Tryz.results107, go_sem]) rfl ⟨k, HST.out hc, by rw [HDC.out]; rfl, belStep HB.out (belStep HBL.out b1)⟩
      · go_wp2
        refine wp_region_ext (w0 := wr) (by kernel_rfl) (by kernel_rfl) (Below.refl _ _) ?_
        repeat (go_big_quiet_step (first | (go_at_call 102; exact ext_of (HX.out _ (HE1.out.below (Ext.h _))))))
        refine wpQuiet_nil ?_
        intro w1 hx
        have b1 := ext_out hx
        clear hx
        have h4 := (belCell b1 _ 4 hpl).trans n4
        go_wp2
        go_roundw
        case rel => exact ⟨k + 1, hlt, by rw [HPN.out], HNX.out (by omega), belStep HBL.out b1⟩
        case measure => rw [HL1.out, ← HPN.out, HL2.out]; omega
    · obtain rfl : k = l.length := by omega
      have hpt : ptrAt l.length f l.length = none := if_neg (Nat.lt_irrefl _)
      rw [hpt] at n4
      go_wp2
      exact bodyPost_ret (v := .tuple #[.pointer (some ⟨prevAt g f l.length, 0, none⟩), .bool false]) (by simp [results, Tryz.results107, go_sem]) rfl ⟨l.length, ⟨Nat.le_refl _, HLW.out, fun h => absurd h (Nat.lt_irrefl _)⟩, by simp, belStep HB.out HBL.out⟩

end Go.Proofs.YtahobeigbjhbbaaGreatDoor
