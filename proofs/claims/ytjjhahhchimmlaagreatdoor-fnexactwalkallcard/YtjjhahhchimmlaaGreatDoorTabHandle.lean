/-
  The program's handling of a head by a table's list: the first rule that is of it.
-/
import Derived.Test.YtjjhahhchimmlaaGreatDoorTabL
import Derived.Test.YtjjhahhchimmlaaGreatDoorRuleDoI
namespace Go.Proofs.YtjjhahhchimmlaaGreatDoor
open Go.ChangeShapes Go.WideShapes Go.ChangeAt Go.RowKit Go.Joins
open Go.Shelf
set_option linter.unusedVariables false
attribute [local go_sem] Oper.semAt_some

/-- A rule is ok, and of a head. -/
def mR (a b c : Int) (r : R4) : Bool := doB r.p r.s r.o r.t a b c
/-- What comes of it: the first rule's place, the head, the port. -/
def hdV (a b c : Int) (l : List R4) : Value := match l.findIdx? (mR a b c) with
  | none => .tuple #[.int .i64 (-1), .agg #[.int .i64 a, .int .i64 b, .int .i64 c], .int .i64 0]
  | some i => .tuple #[.int .i64 i, .agg #[.int .i64 a, .int .i64 b, .int .i64 (tagTo (ruAt l i).t c)], .int .i64 (ruAt l i).o]

theorem iDo_at (r : R4) (a b c : Int) (w : World) (hE : EtOk w) :
    Calls Tryz.prog 71 #[.agg #[.int .i64 r.p, .string r.s, .int .i64 r.o, .int .i64 r.t], .agg #[.int .i64 a, .int .i64 b, .int .i64 c]] w fun e w' => e = .returned (doV r.p r.s r.o r.t a b c) ∧ Below w.heap.size w w' := iRuleDo_any r.p r.s r.hs r.o r.t a b c w hE

theorem comeA_mem {l : List R4} {k : Nat} {y : Nat × R4} : y ∈ comeA l k ↔ ∃ j, j < k ∧ (j, ruAt l j) = y := by simp [comeA]
theorem hdV_none {a b c : Int} {l : List R4} (h : ∀ y ∈ comeA l l.length, mR a b c y.2 = false) : hdV a b c l = .tuple #[.int .i64 (-1), .agg #[.int .i64 a, .int .i64 b, .int .i64 c], .int .i64 0] := by
  have e : l.findIdx? (mR a b c) = none := by
    rw [List.findIdx?_eq_none_iff]
    intro r hr
    obtain ⟨j, hj, rfl⟩ := List.getElem_of_mem hr
    have := h (j, ruAt l j) (comeA_mem.2 ⟨j, hj, rfl⟩)
    rw [ruAt_lt hj] at this
    simpa using this
  unfold hdV
  rw [e]
theorem hdV_some {a b c : Int} {l : List R4} {k : Nat} {pre : List (Nat × R4)} {x : Nat × R4} (hk : k ≤ l.length) (e : comeA l k = pre ++ [x]) (h : ∀ y ∈ pre, mR a b c y.2 = false) (hx : mR a b c x.2 = true) :
    hdV a b c l = .tuple #[.int .i64 x.1, .agg #[.int .i64 a, .int .i64 b, .int .i64 (tagTo x.2.t c)], .int .i64 x.2.o] := by
  obtain ⟨k', rfl⟩ : ∃ k', k = k' + 1 := by
    cases k with
    | zero => simp [comeA] at e
    | succ k' => exact ⟨k', rfl⟩
  rw [comeA_succ] at e
  obtain ⟨rfl, e2⟩ := List.append_inj' e rfl
  obtain rfl : (k', ruAt l k') = x := by simpa using e2
  have e : l.findIdx? (mR a b c) = some k' := by
    rw [List.findIdx?_eq_some_iff_getElem]
    refine ⟨by omega, by rw [← ruAt_lt]; exact hx, fun j hj => ?_⟩
    have := h (j, ruAt l j) (comeA_mem.2 ⟨j, hj, rfl⟩)
    rw [ruAt_lt (show j < l.length by omega)] at this
    rw [this]
    decide
  unfold hdV
  rw [e]

theorem sixBlocks (w : World) (A B C D E F : Obj) : Below w.heap.size w ((((((w.alloc A).alloc B).alloc C).alloc D).alloc E).alloc F) ∧ ((((((w.alloc A).alloc B).alloc C).alloc D).alloc E).alloc F).heap[w.heap.size + 1]? = some B ∧ ((((((w.alloc A).alloc B).alloc C).alloc D).alloc E).alloc F).heap[w.heap.size + 1 + 1]? = some C ∧ ((((((w.alloc A).alloc B).alloc C).alloc D).alloc E).alloc F).heap[w.heap.size + 1 + 1 + 1]? = some D ∧ ((((((w.alloc A).alloc B).alloc C).alloc D).alloc E).alloc F).heap[w.heap.size + 1 + 1 + 1 + 1]? = some E ∧ ((((((w.alloc A).alloc B).alloc C).alloc D).alloc E).alloc F).heap[w.heap.size + 1 + 1 + 1 + 1 + 1]? = some F ∧ ((((((w.alloc A).alloc B).alloc C).alloc D).alloc E).alloc F).heap.size = w.heap.size + 6 := by
  have h1 := newBlockM (w.alloc A) B
  have h2 := newBlockM ((w.alloc A).alloc B) C
  have h3 := newBlockM (((w.alloc A).alloc B).alloc C) D
  have h4 := newBlockM ((((w.alloc A).alloc B).alloc C).alloc D) E
  have h5 := newBlockM (((((w.alloc A).alloc B).alloc C).alloc D).alloc E) F
  simp only [World.size_alloc] at h1 h2 h3 h4 h5
  refine ⟨(below_alloc2 w A B).trans ((((((Below.refl _ _).alloc (by simp; omega) C).alloc (by simp; omega) D).alloc (by simp; omega) E).alloc (by simp; omega) F)), ?_, ?_, ?_, ?_, h5, by simp⟩
  · rw [Below.heap_alloc _ _ _ (by simp), Below.heap_alloc _ _ _ (by simp), Below.heap_alloc _ _ _ (by simp), Below.heap_alloc _ _ _ (by simp)]
    exact h1
  · rw [Below.heap_alloc _ _ _ (by simp), Below.heap_alloc _ _ _ (by simp), Below.heap_alloc _ _ _ (by simp)]
    exact h2
  · rw [Below.heap_alloc _ _ _ (by simp), Below.heap_alloc _ _ _ (by simp)]
    exact h3
  · rw [Below.heap_alloc _ _ _ (by simp)]
    exact h4
theorem cells3 {w : World} {b : Nat} {x y z : Value} {t : TypeId} (h : w.heap[b]? = some (.cells #[x, y, z] t)) : w.cell? ⟨b, 0, none⟩ = some x ∧ w.cell? ⟨b, 1, none⟩ = some y ∧ w.cell? ⟨b, 2, none⟩ = some z ∧ ∀ j, w.frozen? ⟨b, j, none⟩ = false := by
  refine ⟨?_, ?_, ?_, fun j => ?_⟩ <;> simp [World.cell?, World.frozen?, h]

/-- Three variables are written. -/
theorem stored5 {w : World} {B2 B3 B4 : Nat} {x y0 y1 y2 z : Value} (v a b c u : Value) {t s q : TypeId} (h2 : w.heap[B2]? = some (.cells #[x] t)) (h3 : w.heap[B3]? = some (.cells #[y0, y1, y2] s)) (h4 : w.heap[B4]? = some (.cells #[z] q)) (n1 : B2 ≠ B3) (n2 : B2 ≠ B4) (n3 : B3 ≠ B4) :
    (((((w.setCell ⟨B2, 0, none⟩ v).setCell ⟨B3, 0, none⟩ a).setCell ⟨B3, 1, none⟩ b).setCell ⟨B3, 2, none⟩ c).setCell ⟨B4, 0, none⟩ u).heap[B2]? = some (.cells #[v] t) ∧ (((((w.setCell ⟨B2, 0, none⟩ v).setCell ⟨B3, 0, none⟩ a).setCell ⟨B3, 1, none⟩ b).setCell ⟨B3, 2, none⟩ c).setCell ⟨B4, 0, none⟩ u).heap[B3]? = some (.cells #[a, b, c] s) ∧ (((((w.setCell ⟨B2, 0, none⟩ v).setCell ⟨B3, 0, none⟩ a).setCell ⟨B3, 1, none⟩ b).setCell ⟨B3, 2, none⟩ c).setCell ⟨B4, 0, none⟩ u).heap[B4]? = some (.cells #[u] q) ∧ (∀ k, k ≠ B2 → k ≠ B3 → k ≠ B4 → (((((w.setCell ⟨B2, 0, none⟩ v).setCell ⟨B3, 0, none⟩ a).setCell ⟨B3, 1, none⟩ b).setCell ⟨B3, 2, none⟩ c).setCell ⟨B4, 0, none⟩ u).heap[k]? = w.heap[k]?) ∧ (((((w.setCell ⟨B2, 0, none⟩ v).setCell ⟨B3, 0, none⟩ a).setCell ⟨B3, 1, none⟩ b).setCell ⟨B3, 2, none⟩ c).setCell ⟨B4, 0, none⟩ u).heap.size = w.heap.size := by
  have a1 := heap_setCell_same w B2 0 _ _ v h2
  have a2 : (w.setCell ⟨B2, 0, none⟩ v).heap[B3]? = some (.cells #[y0, y1, y2] s) := (heap_setCell_other _ _ B3 _ (fun e => n1 e.symm)).trans h3
  have a3 := heap_setCell_same _ B3 0 _ _ a a2
  have a4 := heap_setCell_same _ B3 1 _ _ b a3
  have a5 := heap_setCell_same _ B3 2 _ _ c a4
  have a6 : ((((w.setCell ⟨B2, 0, none⟩ v).setCell ⟨B3, 0, none⟩ a).setCell ⟨B3, 1, none⟩ b).setCell ⟨B3, 2, none⟩ c).heap[B4]? = some (.cells #[z] q) := by
    rw [heap_setCell_other _ _ B4 _ (fun e => n3 e.symm), heap_setCell_other _ _ B4 _ (fun e => n3 e.symm), heap_setCell_other _ _ B4 _ (fun e => n3 e.symm), heap_setCell_other _ _ B4 _ (fun e => n2 e.symm)]
    exact h4
  have a7 := heap_setCell_same _ B4 0 _ _ u a6
  refine ⟨?_, ?_, by simpa using a7, fun k k2 k3 k4 => ?_, by simp [World.setCell]⟩
  · rw [heap_setCell_other _ _ B2 _ n2, heap_setCell_other _ _ B2 _ n1, heap_setCell_other _ _ B2 _ n1, heap_setCell_other _ _ B2 _ n1]
    simpa using a1
  · rw [heap_setCell_other _ _ B3 _ n3]
    simpa using a5
  · rw [heap_setCell_other _ _ k _ k4, heap_setCell_other _ _ k _ k3, heap_setCell_other _ _ k _ k3, heap_setCell_other _ _ k _ k3, heap_setCell_other _ _ k _ k2]

set_option maxRecDepth 100000 in
set_option maxHeartbeats 2000000 in
theorem handle_any (w : World) (g : Nat) (l : List R4) (hlen : l.length ≤ 1048576) (hR : LR w g l) (a b c : Int) (hE : EtOk w) :
    Calls Tryz.prog 56 #[lstV g, .agg #[.int .i64 a, .int .i64 b, .int .i64 c]] w fun e w' => e = .returned (hdV a b c l) ∧ Below w.heap.size w w' := by
  have HE := Lib.hid hE
  have HR := Lib.hid hR
  clear hE hR
  refine (callsIn_wide (n := 5)).1 ?_
  refine callsIn_of_wp_marks Tryz.func56 rfl trivial ?_ rfl
  unfold lstV
  simp only [Tryz.ntmps56, List.size_toArray, List.length_cons, List.length_nil, Nat.reduceAdd, Nat.reduceSub, Array.replicate_succ, Array.replicate_zero, List.push_toArray, List.append_toArray, List.nil_append, List.cons_append]
  gi_wp2_with (first | (refine ⟨trivial, ?_⟩; gi_at_call 70; refine (callsIn_wide.2 (all_any _ _)).mono ?_; rintro ex w1 ⟨rfl, rfl⟩))
  obtain ⟨m0, m1, m2, m3, m4, m5, m6⟩ := sixBlocks w (lstO g) (.cells #[.int .i64 a, .int .i64 b, .int .i64 c] 30) (.cells #[.int .i64 0] 3) (.cells #[.int .i64 0, .int .i64 0, .int .i64 0] 30) (.cells #[.int .i64 0] 3) (lstO g)
  rw [show (w.alloc (.cells #[.func (.func 77) #[] #[], .pointer (some ⟨g, 0, none⟩)] 72)) = w.alloc (lstO g) from rfl]
  generalize hW2 : (((((w.alloc (lstO g)).alloc (.cells #[.int .i64 a, .int .i64 b, .int .i64 c] 30)).alloc (.cells #[.int .i64 0] 3)).alloc (.cells #[.int .i64 0, .int .i64 0, .int .i64 0] 30)).alloc (.cells #[.int .i64 0] 3)).alloc (lstO g) = W2 at *
  clear hW2
  refine wpIn_rangeFunc_ownH (n := 5) rfl (by omega) (gf := 81) (lb := #[.pointer (some ⟨w.heap.size + 1 + 1 + 1 + 1 + 1, 0, none⟩)]) rfl trivial (enters_of Tryz.func81 (by kernel_rfl) rfl)
    (all_stops Fence.wide 4 trivial rfl (by omega) (w.heap.size + 1 + 1 + 1 + 1 + 1) w g l hlen HR.out W2 m0 m5) belowK_t (belowK_b (by omega)) (Below.refl _ _) (fun _ => rfl)
    (fun pre W => W.heap[w.heap.size + 1]? = some (.cells #[.int .i64 a, .int .i64 b, .int .i64 c] 30) ∧ W.heap[w.heap.size + 1 + 1]? = some (.cells #[.int .i64 0] 3) ∧ W.heap[w.heap.size + 1 + 1 + 1]? = some (.cells #[.int .i64 0, .int .i64 0, .int .i64 0] 30) ∧ W.heap[w.heap.size + 1 + 1 + 1 + 1]? = some (.cells #[.int .i64 0] 3) ∧ W.heap[w.heap.size + 1 + 1 + 1 + 1 + 1]? = some (lstO g) ∧ (∀ y ∈ pre, mR a b c y.2 = false) ∧ Below w.heap.size w W)
    (fun c' pre W => c' = .ret ∧ (∃ pre' x, pre = pre' ++ [x] ∧ (∀ y ∈ pre', mR a b c y.2 = false) ∧ mR a b c x.2 = true ∧ W.heap[w.heap.size + 1 + 1]? = some (.cells #[.int .i64 (x.1 : Int)] 3) ∧ W.heap[w.heap.size + 1 + 1 + 1]? = some (.cells #[.int .i64 a, .int .i64 b, .int .i64 (tagTo x.2.t c)] 30) ∧ W.heap[w.heap.size + 1 + 1 + 1 + 1]? = some (.cells #[.int .i64 x.2.o] 3)) ∧ Below w.heap.size w W)
    (OwnFrom.and (Own.from (blk_own _ _ (fun _ => rfl)) _) (OwnFrom.and (Own.from (blk_own _ _ (fun _ => rfl)) _) (OwnFrom.and (Own.from (blk_own _ _ (fun _ => rfl)) _) (OwnFrom.and (Own.from (blk_own _ _ (fun _ => rfl)) _) (OwnFrom.and (Own.from (blk_own _ _ (fun _ => rfl)) _) (OwnFrom.and (ownFrom_pure _ _) (ownFrom_below (Nat.le_refl _) (by omega))))))))
    (fun c' => OwnFrom.and (ownFrom_pure _ _) (OwnFrom.and (fun s A B row hs hg hr => by
      obtain ⟨pre', x, h1, h2, h3, h4, h5, h6⟩ := hs
      exact ⟨pre', x, h1, h2, h3, blk_own _ (fun _ : Unit => _) (fun _ => rfl) () A B row h4 hg (fun r e => (hr r e).2), blk_own _ (fun _ : Unit => _) (fun _ => rfl) () A B row h5 hg (fun r e => (hr r e).2), blk_own _ (fun _ : Unit => _) (fun _ => rfl) () A B row h6 hg (fun r e => (hr r e).2)⟩) (ownFrom_below (Nat.le_refl _) (by omega))))
    ⟨m1, m2, m3, m4, m5, (fun y hy => absurd hy (List.not_mem_nil)), m0⟩
    (fun x a' W => ∃ Bx, W2.heap.size ≤ Bx ∧ W.heap[Bx]? = some (.cells #[.int .i64 x.2.p, .string x.2.s, .int .i64 x.2.o, .int .i64 x.2.t] 99) ∧ a' = { tmps := #[lstV g, .agg #[.int .i64 a, .int .i64 b, .int .i64 c], .pointer (some ⟨w.heap.size, 0, none⟩), .pointer (some ⟨w.heap.size + 1, 0, none⟩), .pointer (some ⟨w.heap.size + 1 + 1, 0, none⟩), .pointer (some ⟨w.heap.size + 1 + 1 + 1, 0, none⟩), .pointer (some ⟨w.heap.size + 1 + 1 + 1 + 1, 0, none⟩), .int .i64 x.1, .pointer (some ⟨Bx, 0, none⟩), undef, undef, undef, lstV g, .func (.func 81) #[] #[.pointer (some ⟨w.heap.size + 1 + 1 + 1 + 1 + 1, 0, none⟩)], .int .i64 x.1, R4.v x.2, undef, undef, undef, undef, undef, undef, undef, undef, undef, undef, undef, undef], defers := [] })
    ?hAx ?assign ?body ?done ?stop
  case hAx =>
    intro x a' u A B row hs hg hr
    obtain ⟨Bx, h1, h2, h3⟩ := hs
    exact ⟨Bx, h1, blk_own Bx (fun _ : Unit => .cells #[.int .i64 x.2.p, .string x.2.s, .int .i64 x.2.o, .int .i64 x.2.t] 99) (fun _ => rfl) () A B row h2 hg (fun r e => (hr r e).2), h3⟩
  case assign =>
    rintro lp pre x W K ⟨i1, i2, i3, i4, i5, hpre, hB⟩ hK
    have hsz := (Array.getElem?_eq_some_iff.1 i5).1
    have hA := below_alloc1 W (.cells #[.int .i64 x.2.p, .string x.2.s, .int .i64 x.2.o, .int .i64 x.2.t] 99)
    have HK := hK _ (W.alloc (.cells #[.int .i64 x.2.p, .string x.2.s, .int .i64 x.2.o, .int .i64 x.2.t] 99)) ((KeepsOthers.alloc _ _).from _) (hA.mono hB.size) ⟨(hA.block _ (by omega)).trans i1, (hA.block _ (by omega)).trans i2, (hA.block _ (by omega)).trans i3, (hA.block _ (by omega)).trans i4, (hA.block _ hsz).trans i5, hpre, hB.trans (hA.mono hB.size)⟩ ⟨W.heap.size, by omega, newBlockM W _, rfl⟩
    clear hK
    unfold R4.v lstV at *
    gi_wp2
    exact HK
  case body =>
    rintro lp pre x a' W hl ⟨rr, hrr⟩ ⟨i1, i2, i3, i4, i5, hpre, hB⟩ ⟨Bx, hBx, bX, rfl⟩ hlt
    have hsz := (Array.getElem?_eq_some_iff.1 i5).1
    have hbx := (Array.getElem?_eq_some_iff.1 bX).1
    obtain ⟨x0, x1, x2, x3⟩ := cells4 bX
    simp only [Nat.zero_add] at x1 x2 x3
    obtain ⟨y0, y1, y2, -⟩ := cells3 i1
    have HI : Hid (∀ W', Below W.heap.size W W' → W'.heap[w.heap.size + 1]? = some (.cells #[.int .i64 a, .int .i64 b, .int .i64 c] 30) ∧ W'.heap[w.heap.size + 1 + 1]? = some (.cells #[.int .i64 0] 3) ∧ W'.heap[w.heap.size + 1 + 1 + 1]? = some (.cells #[.int .i64 0, .int .i64 0, .int .i64 0] 30) ∧ W'.heap[w.heap.size + 1 + 1 + 1 + 1]? = some (.cells #[.int .i64 0] 3) ∧ W'.heap[w.heap.size + 1 + 1 + 1 + 1 + 1]? = some (lstO g) ∧ Below w.heap.size w W') := fun W' hb =>
      ⟨(hb.block _ (by omega)).trans i1, (hb.block _ (by omega)).trans i2, (hb.block _ (by omega)).trans i3, (hb.block _ (by omega)).trans i4, (hb.block _ hsz).trans i5, hB.trans (hb.mono hB.size)⟩
    have HDO := Lib.hid (iDo_at x.2 a b c)
    have HB := Lib.hid hB
    have HP := Lib.hid hpre
    clear i1 i2 i3 i4 i5 hpre hB bX hrr
    obtain ⟨j, r⟩ := x
    dsimp only at *
    cases hd : mR a b c r
    · have HV : Hid (doV r.p r.s r.o r.t a b c = .tuple #[.agg #[.int .i64 0, .int .i64 0, .int .i64 0], .int .i64 0, .bool false]) := by show doV _ _ _ _ _ _ _ = _; rw [doV, show doB r.p r.s r.o r.t a b c = false from hd, cond_false]
      rw [HV.out] at HDO
      unfold R4.v lstV
      gi_wp2_with (first | (refine ⟨trivial, ?_⟩; gi_at_call 71; refine (CallsIn.inRound lp (callsIn_wide.2 (HDO.out _ (HE.out.below HB.out)))).mono ?_; rintro ex w2 ⟨rfl, b2⟩; have B2 := Lib.hid b2; have l2 := b2.size; clear b2))
      have B3 := B2.out.alloc B2.out.size (.cells #[.int .i64 0, .int .i64 0, .int .i64 0] 30)
      obtain ⟨j1, j2, j3, j4, j5, jb⟩ := HI.out _ B3
      refine ⟨keepsOf B3.size (fun k hk1 hk2 => B3.block k hk2), B3.mono (by omega), j1, j2, j3, j4, j5, fun y hy => ?_, jb⟩
      rcases List.mem_append.1 hy with h | h
      · exact HP.out y h
      · obtain rfl := List.mem_singleton.1 h
        exact hd
    · have HV : Hid (doV r.p r.s r.o r.t a b c = .tuple #[.agg #[.int .i64 a, .int .i64 b, .int .i64 (tagTo r.t c)], .int .i64 r.o, .bool true]) := by show doV _ _ _ _ _ _ _ = _; rw [doV, show doB r.p r.s r.o r.t a b c = true from hd, cond_true]
      rw [HV.out] at HDO
      unfold R4.v lstV
      gi_wp2_with (first | (refine ⟨trivial, ?_⟩; gi_at_call 71; refine (CallsIn.inRound lp (callsIn_wide.2 (HDO.out _ (HE.out.below HB.out)))).mono ?_; rintro ex w2 ⟨rfl, b2⟩; have B2 := Lib.hid b2; have l2 := b2.size; clear b2))
      have B3 := B2.out.alloc B2.out.size (.cells #[.int .i64 a, .int .i64 b, .int .i64 (tagTo r.t c)] 30)
      obtain ⟨-, j2, j3, j4, -, jb⟩ := HI.out _ B3
      have k9 := newBlockM w2 (.cells #[.int .i64 a, .int .i64 b, .int .i64 (tagTo r.t c)] 30)
      generalize w2.alloc (.cells #[.int .i64 a, .int .i64 b, .int .i64 (tagTo r.t c)] 30) = W3 at *
      obtain ⟨q0, q1, q2, -⟩ := cells3 k9
      obtain ⟨z0, zf⟩ := cells1 j2
      obtain ⟨u0, u1, u2, uf⟩ := cells3 j3
      obtain ⟨v0, vf⟩ := cells1 j4
      have H2 := Lib.hid j2
      have H3 := Lib.hid j3
      have H4 := Lib.hid j4
      have HB3 := Lib.hid B3
      have HJB := Lib.hid jb
      have g1 : w.heap.size + 1 + 1 < w2.heap.size := by omega
      have g2 : w.heap.size + 1 + 1 + 1 < w2.heap.size := by omega
      have g3 : w.heap.size + 1 + 1 + 1 + 1 < w2.heap.size := by omega
      have l3 := B3.size
      have HFIN : Hid (KeepsFrom W2.heap.size W (((((W3.setCell ⟨w.heap.size + 1 + 1, 0, none⟩ (.int .i64 (j : Int))).setCell ⟨w.heap.size + 1 + 1 + 1, 0, none⟩ (.int .i64 a)).setCell ⟨w.heap.size + 1 + 1 + 1, 1, none⟩ (.int .i64 b)).setCell ⟨w.heap.size + 1 + 1 + 1, 2, none⟩ (.int .i64 (tagTo r.t c))).setCell ⟨w.heap.size + 1 + 1 + 1 + 1, 0, none⟩ (.int .i64 r.o)).drew ∧ (∃ (pre' : List (Nat × R4)) (x : Nat × R4), pre ++ [(j, r)] = pre' ++ [x] ∧ (∀ y ∈ pre', mR a b c y.2 = false) ∧ mR a b c x.2 = true ∧ (((((W3.setCell ⟨w.heap.size + 1 + 1, 0, none⟩ (.int .i64 (j : Int))).setCell ⟨w.heap.size + 1 + 1 + 1, 0, none⟩ (.int .i64 a)).setCell ⟨w.heap.size + 1 + 1 + 1, 1, none⟩ (.int .i64 b)).setCell ⟨w.heap.size + 1 + 1 + 1, 2, none⟩ (.int .i64 (tagTo r.t c))).setCell ⟨w.heap.size + 1 + 1 + 1 + 1, 0, none⟩ (.int .i64 r.o)).drew.heap[w.heap.size + 1 + 1]? = some (.cells #[.int .i64 (x.1 : Int)] 3) ∧ (((((W3.setCell ⟨w.heap.size + 1 + 1, 0, none⟩ (.int .i64 (j : Int))).setCell ⟨w.heap.size + 1 + 1 + 1, 0, none⟩ (.int .i64 a)).setCell ⟨w.heap.size + 1 + 1 + 1, 1, none⟩ (.int .i64 b)).setCell ⟨w.heap.size + 1 + 1 + 1, 2, none⟩ (.int .i64 (tagTo r.t c))).setCell ⟨w.heap.size + 1 + 1 + 1 + 1, 0, none⟩ (.int .i64 r.o)).drew.heap[w.heap.size + 1 + 1 + 1]? = some (.cells #[.int .i64 a, .int .i64 b, .int .i64 (tagTo x.2.t c)] 30) ∧ (((((W3.setCell ⟨w.heap.size + 1 + 1, 0, none⟩ (.int .i64 (j : Int))).setCell ⟨w.heap.size + 1 + 1 + 1, 0, none⟩ (.int .i64 a)).setCell ⟨w.heap.size + 1 + 1 + 1, 1, none⟩ (.int .i64 b)).setCell ⟨w.heap.size + 1 + 1 + 1, 2, none⟩ (.int .i64 (tagTo r.t c))).setCell ⟨w.heap.size + 1 + 1 + 1 + 1, 0, none⟩ (.int .i64 r.o)).drew.heap[w.heap.size + 1 + 1 + 1 + 1]? = some (.cells #[.int .i64 x.2.o] 3)) ∧ Below w.heap.size w (((((W3.setCell ⟨w.heap.size + 1 + 1, 0, none⟩ (.int .i64 (j : Int))).setCell ⟨w.heap.size + 1 + 1 + 1, 0, none⟩ (.int .i64 a)).setCell ⟨w.heap.size + 1 + 1 + 1, 1, none⟩ (.int .i64 b)).setCell ⟨w.heap.size + 1 + 1 + 1, 2, none⟩ (.int .i64 (tagTo r.t c))).setCell ⟨w.heap.size + 1 + 1 + 1 + 1, 0, none⟩ (.int .i64 r.o)).drew) := by
        obtain ⟨f2, f3, f4, f5, f6⟩ := stored5 (.int .i64 (j : Int)) (.int .i64 a) (.int .i64 b) (.int .i64 (tagTo r.t c)) (.int .i64 r.o) j2 j3 j4 (by omega) (by omega) (by omega)
        have hbw := ((((jb.setCell (p := ⟨w.heap.size + 1 + 1, 0, none⟩) (by dsimp only; omega) (.int .i64 (j : Int))).setCell (p := ⟨w.heap.size + 1 + 1 + 1, 0, none⟩) (by dsimp only; omega) (.int .i64 a)).setCell (p := ⟨w.heap.size + 1 + 1 + 1, 1, none⟩) (by dsimp only; omega) (.int .i64 b)).setCell (p := ⟨w.heap.size + 1 + 1 + 1, 2, none⟩) (by dsimp only; omega) (.int .i64 (tagTo r.t c))).setCell (p := ⟨w.heap.size + 1 + 1 + 1 + 1, 0, none⟩) (by dsimp only; omega) (.int .i64 r.o)
        generalize (((((W3.setCell ⟨w.heap.size + 1 + 1, 0, none⟩ (.int .i64 (j : Int))).setCell ⟨w.heap.size + 1 + 1 + 1, 0, none⟩ (.int .i64 a)).setCell ⟨w.heap.size + 1 + 1 + 1, 1, none⟩ (.int .i64 b)).setCell ⟨w.heap.size + 1 + 1 + 1, 2, none⟩ (.int .i64 (tagTo r.t c))).setCell ⟨w.heap.size + 1 + 1 + 1 + 1, 0, none⟩ (.int .i64 r.o)) = Y at *
        exact ⟨keepsOf (show W.heap.size ≤ Y.heap.size by omega) (fun k hk1 hk2 => (f5 k (by omega) (by omega) (by omega)).trans (B3.block k hk2)), ⟨pre, (j, r), rfl, HP.out, hd, f2, f3, f4⟩, hbw.drew⟩
      have hmx : Tryz.prog.follows .mixedOrders = true := by kernel_rfl
      clear j2 j3 j4 k9 B3 jb x0 x1 x2 x3 y0 y1 y2 B2 HB3 HJB H2 H3 H4 HI
      gi_region_with_o (fail)
      all_goals gi_wp2
      all_goals exact ⟨HFIN.out.1, rfl, HFIN.out.2⟩
  case done =>
    rintro D ys W hD rfl ⟨i1, i2, i3, i4, i5, hpre, hB⟩ hK
    obtain ⟨y0, y1, y2, -⟩ := cells3 i1
    obtain ⟨z0, zf⟩ := cells1 i2
    obtain ⟨u0, u1, u2, uf⟩ := cells3 i3
    obtain ⟨v0, vf⟩ := cells1 i4
    have HV := Lib.hid (hdV_none hpre)
    have HX : Hid (((((((W.setCell ⟨w.heap.size + 1 + 1, 0, none⟩ (.int .i64 (-1))).setCell ⟨w.heap.size + 1 + 1 + 1, 0, none⟩ (.int .i64 a)).setCell ⟨w.heap.size + 1 + 1 + 1, 1, none⟩ (.int .i64 b)).setCell ⟨w.heap.size + 1 + 1 + 1, 2, none⟩ (.int .i64 c)).setCell ⟨w.heap.size + 1 + 1 + 1 + 1, 0, none⟩ (.int .i64 0))).drew.heap[w.heap.size + 1 + 1]? = some (.cells #[.int .i64 (-1)] 3) ∧ ((((((W.setCell ⟨w.heap.size + 1 + 1, 0, none⟩ (.int .i64 (-1))).setCell ⟨w.heap.size + 1 + 1 + 1, 0, none⟩ (.int .i64 a)).setCell ⟨w.heap.size + 1 + 1 + 1, 1, none⟩ (.int .i64 b)).setCell ⟨w.heap.size + 1 + 1 + 1, 2, none⟩ (.int .i64 c)).setCell ⟨w.heap.size + 1 + 1 + 1 + 1, 0, none⟩ (.int .i64 0))).drew.heap[w.heap.size + 1 + 1 + 1]? = some (.cells #[.int .i64 a, .int .i64 b, .int .i64 c] 30) ∧ ((((((W.setCell ⟨w.heap.size + 1 + 1, 0, none⟩ (.int .i64 (-1))).setCell ⟨w.heap.size + 1 + 1 + 1, 0, none⟩ (.int .i64 a)).setCell ⟨w.heap.size + 1 + 1 + 1, 1, none⟩ (.int .i64 b)).setCell ⟨w.heap.size + 1 + 1 + 1, 2, none⟩ (.int .i64 c)).setCell ⟨w.heap.size + 1 + 1 + 1 + 1, 0, none⟩ (.int .i64 0))).drew.heap[w.heap.size + 1 + 1 + 1 + 1]? = some (.cells #[.int .i64 0] 3) ∧ ((((((W.setCell ⟨w.heap.size + 1 + 1, 0, none⟩ (.int .i64 (-1))).setCell ⟨w.heap.size + 1 + 1 + 1, 0, none⟩ (.int .i64 a)).setCell ⟨w.heap.size + 1 + 1 + 1, 1, none⟩ (.int .i64 b)).setCell ⟨w.heap.size + 1 + 1 + 1, 2, none⟩ (.int .i64 c)).setCell ⟨w.heap.size + 1 + 1 + 1 + 1, 0, none⟩ (.int .i64 0))).drew.heap[D]? = some (.deferred (some [])) ∧ Below w.heap.size w ((((((W.setCell ⟨w.heap.size + 1 + 1, 0, none⟩ (.int .i64 (-1))).setCell ⟨w.heap.size + 1 + 1 + 1, 0, none⟩ (.int .i64 a)).setCell ⟨w.heap.size + 1 + 1 + 1, 1, none⟩ (.int .i64 b)).setCell ⟨w.heap.size + 1 + 1 + 1, 2, none⟩ (.int .i64 c)).setCell ⟨w.heap.size + 1 + 1 + 1 + 1, 0, none⟩ (.int .i64 0))).drew) := by
      obtain ⟨f2, f3, f4, f5, f6⟩ := stored5 (.int .i64 (-1)) (.int .i64 a) (.int .i64 b) (.int .i64 c) (.int .i64 0) i2 i3 i4 (by omega) (by omega) (by omega)
      have hbw := ((((hB.setCell (p := ⟨w.heap.size + 1 + 1, 0, none⟩) (by dsimp only; omega) (.int .i64 (-1))).setCell (p := ⟨w.heap.size + 1 + 1 + 1, 0, none⟩) (by dsimp only; omega) (.int .i64 a)).setCell (p := ⟨w.heap.size + 1 + 1 + 1, 1, none⟩) (by dsimp only; omega) (.int .i64 b)).setCell (p := ⟨w.heap.size + 1 + 1 + 1, 2, none⟩) (by dsimp only; omega) (.int .i64 c)).setCell (p := ⟨w.heap.size + 1 + 1 + 1 + 1, 0, none⟩) (by dsimp only; omega) (.int .i64 0)
      generalize (((((W.setCell ⟨w.heap.size + 1 + 1, 0, none⟩ (.int .i64 (-1))).setCell ⟨w.heap.size + 1 + 1 + 1, 0, none⟩ (.int .i64 a)).setCell ⟨w.heap.size + 1 + 1 + 1, 1, none⟩ (.int .i64 b)).setCell ⟨w.heap.size + 1 + 1 + 1, 2, none⟩ (.int .i64 c)).setCell ⟨w.heap.size + 1 + 1 + 1 + 1, 0, none⟩ (.int .i64 0)) = Y at *
      exact ⟨f2, f3, f4, (f5 D (by omega) (by omega) (by omega)).trans hK, hbw.drew⟩
    clear i1 i2 i3 i4 i5 hpre hB hK
    have hmx : Tryz.prog.follows .mixedOrders = true := by kernel_rfl
    gi_wp2
    gi_region_with_o (fail)
    all_goals gi_wp2
    all_goals
      obtain ⟨f2, f3, f4, hKW, BW⟩ := HX.out
      generalize ((((((W.setCell ⟨w.heap.size + 1 + 1, 0, none⟩ (.int .i64 (-1))).setCell ⟨w.heap.size + 1 + 1 + 1, 0, none⟩ (.int .i64 a)).setCell ⟨w.heap.size + 1 + 1 + 1, 1, none⟩ (.int .i64 b)).setCell ⟨w.heap.size + 1 + 1 + 1, 2, none⟩ (.int .i64 c)).setCell ⟨w.heap.size + 1 + 1 + 1 + 1, 0, none⟩ (.int .i64 0))).drew = Y at *
      refine ⟨by simp, .inl ⟨_, _, rfl, run_takeDeferred hKW, ?_⟩⟩
      obtain ⟨p0, -⟩ := cells1 ((World.putObj_heap_other (w := Y) (o := .deferred none) (show w.heap.size + 1 + 1 ≠ D by omega)).trans f2)
      obtain ⟨p1, p2, p3, -⟩ := cells3 ((World.putObj_heap_other (w := Y) (o := .deferred none) (show w.heap.size + 1 + 1 + 1 ≠ D by omega)).trans f3)
      obtain ⟨p4, -⟩ := cells1 ((World.putObj_heap_other (w := Y) (o := .deferred none) (show w.heap.size + 1 + 1 + 1 + 1 ≠ D by omega)).trans f4)
      refine ⟨.tuple #[.int .i64 (-1), .agg #[.int .i64 a, .int .i64 b, .int .i64 c], .int .i64 0], ?_, by rw [HV.out], BW.trans (belowK_b (w := w) (Nat.le_refl _) Y D _ _ (by omega) hKW rfl rfl)⟩
      simp [results, Tryz.results56, go_sem, p0, p1, p2, p3, p4]
  case stop =>
    rintro D c' pre W hD ⟨k, hk, rfl⟩ ⟨rfl, ⟨pre', x, he, hf, hx, f2, f3, f4⟩, hB⟩ hK
    have HV := Lib.hid (hdV_some hk he hf hx)
    clear he hf hx
    gi_wp2
    refine ⟨by simp, .inl ⟨_, _, rfl, run_takeDeferred hK, ?_⟩⟩
    obtain ⟨p0, -⟩ := cells1 ((World.putObj_heap_other (w := W) (o := .deferred none) (show w.heap.size + 1 + 1 ≠ D by omega)).trans f2)
    obtain ⟨p1, p2, p3, -⟩ := cells3 ((World.putObj_heap_other (w := W) (o := .deferred none) (show w.heap.size + 1 + 1 + 1 ≠ D by omega)).trans f3)
    obtain ⟨p4, -⟩ := cells1 ((World.putObj_heap_other (w := W) (o := .deferred none) (show w.heap.size + 1 + 1 + 1 + 1 ≠ D by omega)).trans f4)
    refine ⟨.tuple #[.int .i64 x.1, .agg #[.int .i64 a, .int .i64 b, .int .i64 (tagTo x.2.t c)], .int .i64 x.2.o], ?_, by rw [HV.out], hB.trans (belowK_b (w := w) (Nat.le_refl _) W D _ _ (by omega) hK rfl rfl)⟩
    simp [results, Tryz.results56, go_sem, p0, p1, p2, p3, p4]

end Go.Proofs.YtjjhahhchimmlaaGreatDoor
