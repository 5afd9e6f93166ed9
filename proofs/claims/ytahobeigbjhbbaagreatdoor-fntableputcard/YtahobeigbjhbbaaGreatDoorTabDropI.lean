/-
  The program's drop out of a list.
-/
import Derived.Test.YtahobeigbjhbbaaGreatDoorTabPutI
namespace Go.Proofs.YtahobeigbjhbbaaGreatDoor
open Go.ChangeShapes Go.WideShapes Go.ChangeAt Go.RowKit Go.Joins
set_option linter.unusedVariables false

/-- The rule at place k is taken out. -/
def delR (l : List R4) (k : Nat) : List R4 := l.take k ++ l.drop (k + 1)
theorem delR_len (l : List R4) {k : Nat} (hk : k < l.length) : (delR l k).length = l.length - 1 := by simp [delR]; omega
theorem delR_at (l : List R4) {k : Nat} (hk : k < l.length) {i : Nat} : ruAt (delR l k) i = if i < k then ruAt l i else ruAt l (i + 1) := by
  have ht : (l.take k).length = k := by simp; omega
  unfold ruAt delR
  rw [List.getD_eq_getElem?_getD]
  by_cases h1 : i < k
  · rw [if_pos h1, List.getElem?_append_left (by omega), List.getElem?_take_of_lt h1, List.getD_eq_getElem?_getD]
  · rw [if_neg h1, List.getElem?_append_right (by omega), ht, List.getElem?_drop, List.getD_eq_getElem?_getD, show k + 1 + (i - k) = i + 1 from by omega]
/-- The node ahead of number k leads past it. -/
theorem root_del {w w' : World} {g : Nat} {l : List R4} {f : Nat → Nat} (h : Root w g l f) {k : Nat} (hk : k < l.length) {x : R4} (hx : w.heap[prevAt g f k]? = some (nodeO x (ptrAt l.length f k)))
    (h1 : w'.heap[prevAt g f k]? = some (nodeO x (ptrAt l.length f (k + 1)))) (h3 : ∀ b y z, b ≠ prevAt g f k → w.heap[b]? = some (nodeO y z) → w'.heap[b]? = some (nodeO y z)) : LR w' g (delR l k) := by
  have hgf : ∀ i, i < l.length → f i ≠ g := fun i hi e => by have := (h.2 i hi).1; omega
  have hlen := delR_len l hk
  refine root_lr (f := fun i => if i < k then f i else f (i + 1)) ⟨?_, fun i hi => ?_⟩
  · by_cases h0 : k = 0
    · subst h0
      have e : prevAt g f 0 = g := rfl
      rw [e] at hx h1
      rw [h.1] at hx
      obtain ⟨rfl, -⟩ := node_inj (Option.some.inj hx)
      rw [h1, hlen]
      unfold ptrAt
      by_cases c : 1 < l.length
      · have c' : 0 < l.length - 1 := by omega
        simp [c, c']
      · have c' : ¬ 0 < l.length - 1 := by omega
        rw [if_neg c, if_neg c']
    · have hne : g ≠ prevAt g f k := by
        unfold prevAt
        rw [if_neg h0]
        exact fun e => hgf (k - 1) (by omega) e.symm
      rw [h3 g _ _ hne h.1, hlen]
      simp [ptrAt, show 0 < l.length from by omega, show 0 < l.length - 1 from by omega, show 0 < k from by omega]
  · rw [hlen] at hi
    have hpt : ptrAt (delR l k).length (fun i => if i < k then f i else f (i + 1)) (i + 1) = if i + 1 < k then some ⟨f (i + 1), 0, none⟩ else ptrAt l.length f (i + 1 + 1) := by
      unfold ptrAt
      rw [hlen]
      by_cases c1 : i + 1 < k
      · have c5 : i + 1 < l.length - 1 := by omega
        simp [c1, c5]
      · by_cases c4 : i + 1 + 1 < l.length
        · have c5 : i + 1 < l.length - 1 := by omega
          simp [c1, c4, c5]
        · have c5 : ¬ i + 1 < l.length - 1 := by omega
          simp [c1, c4, c5]
    rw [delR_at l hk, hpt]
    by_cases c1 : i < k
    · have hil : i < l.length := by omega
      simp only [if_pos c1]
      refine ⟨(h.2 i hil).1, ?_⟩
      by_cases c2 : i + 1 = k
      · have hp : prevAt g f k = f i := by unfold prevAt; rw [if_neg (by omega), show k - 1 = i from by omega]
        rw [hp] at hx h1
        rw [(h.2 i hil).2] at hx
        obtain ⟨hxr, -⟩ := node_inj (Option.some.inj hx)
        rw [hxr, h1, if_neg (by omega), c2]
      · have hne : f i ≠ prevAt g f k := by
          unfold prevAt
          rw [if_neg (by omega)]
          exact fun e => by have := nodes_apart h.2 hil (show k - 1 < l.length by omega) e; omega
        rw [h3 _ _ _ hne (h.2 i hil).2, if_pos (by omega)]
        simp [ptrAt, show i + 1 < l.length from by omega]
    · simp only [if_neg c1]
      have hil : i + 1 < l.length := by omega
      refine ⟨(h.2 (i + 1) hil).1, ?_⟩
      have hne : f (i + 1) ≠ prevAt g f k := by
        unfold prevAt
        by_cases h0 : k = 0
        · rw [if_pos h0]; exact hgf _ hil
        · rw [if_neg h0]
          exact fun e => by have := nodes_apart h.2 hil (show k - 1 < l.length by omega) e; omega
      rw [h3 _ _ _ hne (h.2 (i + 1) hil).2, if_neg (by omega)]

set_option maxRecDepth 100000 in
set_option maxHeartbeats 4000000 in
theorem drop_any (w : World) (g : Nat) (l : List R4) (f : Nat → Nat) (r : R4) (hn : l.length ≤ 1000) (hr : okR r = true) (hl : ∀ i, i < l.length → okR (ruAt l i) = true) (hR : Root w g l f) (hE : EtOk w) :
    Calls Tryz.prog 68 #[lstV g, .agg #[.int .i64 r.p, .string r.s, .int .i64 r.o, .int .i64 r.t]] w fun e w' => ∃ k, Stand l r k ∧ e = .returned (.bool (decide (k < l.length ∧ cmR (ruAt l k) r = 0))) ∧ LR w' g (bif decide (k < l.length ∧ cmR (ruAt l k) r = 0) then delR l k else l) ∧ Below g w w' ∧ NK w w' := by
  have HB := Lib.hid (leadW_bel w g r)
  have HR0 := Lib.hid (hR.below (leadW_bel w g r))
  have HBF := Lib.hid (before_any (leadW w g r) g l f r hn hr hl (hR.below (leadW_bel w g r)) (hE.below (leadW_bel w g r)))
  have hgl : g < w.heap.size := (Array.getElem?_eq_some_iff.1 hR.1).1
  clear hE hR hr hl
  have hsz := leadW_size w g r
  obtain ⟨p0, p1, p2, p3, p4, p5⟩ := leadW_cells w g r
  unfold lstV at HBF ⊢
  go_enter Tryz.func68, Tryz.ntmps68
  go_wp2_with fail
  rw [show (w.alloc (.cells #[.func (.func 102) #[] #[], .pointer (some ⟨g, 0, none⟩)] 75)).alloc (.cells #[.int .i64 r.p, .string r.s, .int .i64 r.o, .int .i64 r.t] 25) = leadW w g r from rfl]
  generalize leadW w g r = W0 at *
  refine HBF.out.mono ?_
  rintro e w1 ⟨k, hst, rfl, b1⟩
  have HST := Lib.hid hst
  have hk := hst.1
  have HR1 := Lib.hid (HR0.out.below b1)
  have l1 := b1.size
  obtain ⟨x, hx⟩ := root_prev HR1.out hk
  obtain ⟨-, n4, nf⟩ := nodeCells hx
  have HX := Lib.hid hx
  have hge := prev_ge HR1.out hk
  have B1 := Lib.hid (belStep HB.out b1)
  clear hx hst b1 p0 p1 p2 p3 p4 p5
  cases ht : decide (k < l.length ∧ cmR (ruAt l k) r = 0)
  · go_wp2
    go_ret
    exact ⟨k, HST.out, by rw [ht]; rfl, by rw [ht]; exact root_lr HR1.out, B1.out.mono (Nat.le_of_lt hgl), NK.bel B1.out⟩
  · have hlt : k < l.length := (of_decide_eq_true ht).1
    have hpt : ptrAt l.length f k = some ⟨f k, 0, none⟩ := if_pos hlt
    have hb := (HR1.out.2 k hlt).2
    obtain ⟨-, m4, -⟩ := nodeCells hb
    have HFIN : Hid (LR (w1.setCell ⟨prevAt g f k, 4, none⟩ (.pointer (ptrAt l.length f (k + 1)))) g (delR l k)) := root_del HR1.out hlt HX.out (node_set HX.out _) (fun b y z hne hy => (heap_setCell_other w1 _ b _ hne).trans hy)
    have HBG : Hid (Below g w (w1.setCell ⟨prevAt g f k, 4, none⟩ (.pointer (ptrAt l.length f (k + 1))))) := (B1.out.mono (Nat.le_of_lt hgl)).setCell hge _
    have HNK : Hid (NK w (w1.setCell ⟨prevAt g f k, 4, none⟩ (.pointer (ptrAt l.length f (k + 1))))) := NK.put B1.out HX.out _
    rw [hpt] at n4
    clear HR1 HX hb hpt
    generalize prevAt g f k = b at *
    generalize ptrAt l.length f (k + 1) = q at *
    generalize f k = fk at *
    go_wp2
    go_ret
    exact ⟨k, HST.out, by rw [ht]; rfl, by rw [ht]; exact HFIN.out, HBG.out, HNK.out⟩

end Go.Proofs.YtahobeigbjhbbaaGreatDoor
