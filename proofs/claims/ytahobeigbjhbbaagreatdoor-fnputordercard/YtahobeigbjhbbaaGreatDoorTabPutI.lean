/-
  The program's put into a list.
-/
import Derived.Test.YtahobeigbjhbbaaGreatDoorTabBefore
namespace Go.Proofs.YtahobeigbjhbbaaGreatDoor
open Go.ChangeShapes Go.WideShapes Go.ChangeAt Go.RowKit Go.Joins
set_option linter.unusedVariables false

theorem prev_ge {w : World} {g : Nat} {l : List R4} {f : Nat → Nat} (h : Root w g l f) {k : Nat} (hk : k ≤ l.length) : g ≤ prevAt g f k := by
  unfold prevAt
  by_cases h0 : k = 0
  · rw [if_pos h0]; exact Nat.le_refl _
  · rw [if_neg h0]
    have := (h.2 (k - 1) (by omega)).1
    omega

/-- What is no node stays as it was. -/
def NK (w w' : World) : Prop := ∀ (b : Nat) (o : Obj), w.heap[b]? = some o → (∀ x q, o ≠ nodeO x q) → w'.heap[b]? = some o
theorem NK.bel {w w1 : World} (hb : Below w.heap.size w w1) : NK w w1 := fun k o hk _ => (hb.block k (Array.getElem?_eq_some_iff.1 hk).1).trans hk
theorem NK.put {w w1 : World} (hb : Below w.heap.size w w1) {b : Nat} {x : R4} {q : Option Addr} (hx : w1.heap[b]? = some (nodeO x q)) (v : Value) : NK w (w1.setCell ⟨b, 4, none⟩ v) := fun k o hk ho => by
  have h1 := (hb.block k (Array.getElem?_eq_some_iff.1 hk).1).trans hk
  refine (heap_setCell_other w1 _ k _ (fun e => ho x q ?_)).trans h1
  simp only at e
  rw [e] at h1
  exact Option.some.inj (h1.symm.trans hx)
theorem NK.alloc {w w1 : World} (h : NK w w1) (o' : Obj) : NK w (w1.alloc o') := fun k o hk ho => (Below.heap_alloc w1 o' k (Array.getElem?_eq_some_iff.1 (h k o hk ho)).1).trans (h k o hk ho)

set_option maxRecDepth 100000 in
set_option maxHeartbeats 4000000 in
theorem put_any (w : World) (g : Nat) (l : List R4) (f : Nat → Nat) (r : R4) (hn : l.length ≤ 1000) (hr : okR r = true) (hl : ∀ i, i < l.length → okR (ruAt l i) = true) (hR : Root w g l f) (hE : EtOk w) :
    Calls Tryz.prog 63 #[lstV g, .agg #[.int .i64 r.p, .string r.s, .int .i64 r.o, .int .i64 r.t]] w fun e w' => ∃ k, Stand l r k ∧ e = .returned (.bool (!decide (k < l.length ∧ cmR (ruAt l k) r = 0))) ∧ LR w' g (bif decide (k < l.length ∧ cmR (ruAt l k) r = 0) then l else insR l k r) ∧ Below g w w' ∧ NK w w' := by
  have HB := Lib.hid (leadW_bel w g r)
  have HR0 := Lib.hid (hR.below (leadW_bel w g r))
  have HBF := Lib.hid (before_any (leadW w g r) g l f r hn hr hl (hR.below (leadW_bel w g r)) (hE.below (leadW_bel w g r)))
  have hgl : g < w.heap.size := (Array.getElem?_eq_some_iff.1 hR.1).1
  clear hE hR hr hl
  have hsz := leadW_size w g r
  obtain ⟨p0, p1, p2, p3, p4, p5⟩ := leadW_cells w g r
  unfold lstV at HBF ⊢
  go_enter Tryz.func63, Tryz.ntmps63
  go_wp2_with fail
  rw [show (w.alloc (.cells #[.func (.func 102) #[] #[], .pointer (some ⟨g, 0, none⟩)] 75)).alloc (.cells #[.int .i64 r.p, .string r.s, .int .i64 r.o, .int .i64 r.t] 25) = leadW w g r from rfl]
  generalize leadW w g r = W0 at *
  refine HBF.out.mono ?_
  rintro e w1 ⟨k, hst, rfl, b1⟩
  have HST := Lib.hid hst
  have hk := hst.1
  have HR1 := Lib.hid (HR0.out.below b1)
  have l1 := b1.size
  obtain ⟨x, hx⟩ := root_prev HR1.out hk
  obtain ⟨-, n4, nf⟩ := nodeCells hx
  have HX := Lib.hid hx
  have hge := prev_ge HR1.out hk
  have hpl := (Array.getElem?_eq_some_iff.1 hx).1
  obtain ⟨r0, r1, r2, r3⟩ := (show Four W0 (w.heap.size + 1) 0 r from ⟨p2, p3, p4, p5⟩).below b1 (by omega)
  have B1 := Lib.hid (belStep HB.out b1)
  clear hx hst b1 p0 p1 p2 p3 p4 p5
  cases ht : decide (k < l.length ∧ cmR (ruAt l k) r = 0)
  · have HP := Lib.hid (pushed (r := r) (Below.refl w1.heap.size w1) hpl HX.out)
    have HFIN : Hid (LR ((w1.setCell ⟨prevAt g f k, 4, none⟩ (.pointer (some ⟨w1.heap.size, 0, none⟩))).alloc (nodeO r (ptrAt l.length f k))).drew g (insR l k r)) := root_ins HR1.out hk HX.out (Nat.le_refl _) HP.out.2.1 HP.out.2.2.1 HP.out.2.2.2
    have HBG : Hid (Below g w ((w1.setCell ⟨prevAt g f k, 4, none⟩ (.pointer (some ⟨w1.heap.size, 0, none⟩))).alloc (nodeO r (ptrAt l.length f k))).drew) := ((((B1.out.mono (Nat.le_of_lt hgl)).setCell hge _).alloc (by simp [World.setCell]; omega) _)).drew
    have HNK : Hid (NK w ((w1.setCell ⟨prevAt g f k, 4, none⟩ (.pointer (some ⟨w1.heap.size, 0, none⟩))).alloc (nodeO r (ptrAt l.length f k))).drew) := (NK.put B1.out HX.out _).alloc _
    have hg2 : prevAt g f k ≠ w1.heap.size := by omega
    clear HP HR1
    generalize prevAt g f k = b at *
    generalize ptrAt l.length f k = q at *
    go_wp2
    go_region_with (fail)
    all_goals (go_wp2; go_ret; exact ⟨k, HST.out, by rw [ht]; rfl, by rw [ht]; exact HFIN.out, HBG.out, HNK.out⟩)
  · go_wp2
    go_ret
    exact ⟨k, HST.out, by rw [ht]; rfl, by rw [ht]; exact root_lr HR1.out, B1.out.mono (Nat.le_of_lt hgl), NK.bel B1.out⟩

end Go.Proofs.YtahobeigbjhbbaaGreatDoor
