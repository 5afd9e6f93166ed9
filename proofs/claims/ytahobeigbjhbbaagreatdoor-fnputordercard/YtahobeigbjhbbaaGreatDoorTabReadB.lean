/-
  The program's reading of a table: what readTable returns, and the list that it makes.
-/
import Derived.Test.YtahobeigbjhbbaaGreatDoorTabRead
namespace Go.Proofs.YtahobeigbjhbbaaGreatDoor
open Go.ChangeShapes Go.WideShapes Go.ChangeAt Go.RowKit Go.Joins
open Go.Shelf
set_option linter.unusedVariables false
attribute [local go_sem] Oper.semAt_some

set_option maxRecDepth 100000 in
set_option maxHeartbeats 2000000 in
theorem readTable_some (w : World) (v : Value) (l : List R4) (h : Rls w w.heap.size v l) (hlen : l.length ≤ 48) (hE : EtOk w) :
    Calls Tryz.prog 61 #[v] w fun e w' => ∃ g, e = .returned (.tuple #[lstV g, .bool (chain l)]) ∧ w.heap.size ≤ g ∧ (chain l = true → LR w' g l) ∧ Below w.heap.size w w' := by
  have HL := Lib.hid h
  have HE := Lib.hid hE
  clear hE
  obtain ⟨a, cap, rfl, hc, hm, hh⟩ := h
  clear hh
  unfold maxLen at hm
  have hz : ¬ (48 : Int) < (l.length : Int) := by omega
  refine (callsIn_wide (n := 5)).1 ?_
  refine callsIn_of_wp_marks Tryz.func61 rfl trivial ?_ rfl
  simp only [Tryz.ntmps61, List.size_toArray, List.length_cons, List.length_nil, Nat.reduceAdd, Nat.reduceSub, Array.replicate_succ, Array.replicate_zero, List.push_toArray, List.append_toArray, List.nil_append, List.cons_append]
  gi_wp2_with (first | (refine ⟨trivial, ?_⟩; gi_at_call 101; refine (callsIn_wide.2 (newList_any _)).mono ?_; rintro ex w1 ⟨rfl, hr1, b1⟩; obtain ⟨k0, k1, b2, s2⟩ := twoBlocks b1; have HR := Lib.hid hr1; have HB := Lib.hid b2; have HK0 := Lib.hid k0; have HK1 := Lib.hid k1; clear b1 b2 k0 k1 hr1; unfold lstV) | (refine ⟨trivial, ?_⟩; gi_at_call 103; refine (callsIn_wide.2 (backward_any _ _ _ _)).mono ?_; rintro ex w2 ⟨rfl, rfl⟩))
  obtain ⟨m1, m2, m3, m4⟩ := moreBlocks w1 (lstO (w.heap.size + 1 + 1 + 1)) (.cells #[.slice a l.length cap] 23)
  rw [show (w1.alloc (.cells #[.func (.func 102) #[] #[], .pointer (some ⟨w.heap.size + 1 + 1 + 1, 0, none⟩)] 75)) = w1.alloc (lstO (w.heap.size + 1 + 1 + 1)) from rfl]
  have HR' : Hid (LR w1 (w.heap.size + 1 + 1 + 1) []) := by
    have := HR.out
    simp only [World.size_alloc] at this
    exact this
  clear HR
  generalize hW2 : (w1.alloc (lstO (w.heap.size + 1 + 1 + 1))).alloc (.cells #[.slice a l.length cap] 23) = W2 at *
  have HB2 : Hid (Below w.heap.size w W2) := HB.out.trans (m1.mono HB.out.size)
  have HR2 := Lib.hid (HR'.out.below m1)
  have k0 := (m1.block _ (by omega)).trans HK0.out
  have k1 := (m1.block _ (by omega)).trans HK1.out
  have HL2 := Lib.hid (HL.out.below HB2.out (Nat.le_refl _))
  have hgw : w.heap.size + 1 + 1 + 1 < w1.heap.size := (Array.getElem?_eq_some_iff.1 HR'.out.choose_spec.1).1
  clear hW2 HK0 HK1 HB HR' m1 HL
  refine wpIn_rangeFunc_ownH (n := 5) rfl (by omega) (gf := 134) (lb := #[.pointer (some ⟨w1.heap.size + 1, 0, none⟩)]) rfl trivial (enters_of Tryz.func134 (by kernel_rfl) rfl)
    (back_stops Fence.wide 4 trivial rfl (by omega) (w1.heap.size + 1) w.heap.size _ l (by omega) W2 m3 (by omega) HL2.out) KpB.trans (fun W l o o' => kpB_b (w := W2) (by omega) (by omega) W l o o') (Below.refl _ _) (fun _ => rfl)
    (fun pre W => W.heap[w.heap.size]? = some (.cells #[.nilFunc, .pointer none] 75) ∧ W.heap[w.heap.size + 1]? = some (.cells #[.bool false] 4) ∧ W.heap[w1.heap.size]? = some (lstO (w.heap.size + 1 + 1 + 1)) ∧ W.heap[w1.heap.size + 1]? = some (.cells #[.slice a l.length cap] 23) ∧ LR W (w.heap.size + 1 + 1 + 1) (tbl pre) ∧ chain (tbl pre) = true ∧ Below w.heap.size w W)
    (fun c pre W => c = .ret ∧ chain (tbl pre) = false ∧ W.heap[w.heap.size]? = some (lstO (w.heap.size + 1 + 1 + 1)) ∧ W.heap[w.heap.size + 1]? = some (.cells #[.bool false] 4) ∧ Below w.heap.size w W)
    (OwnFrom.and (Own.from (blk_own _ _ (fun _ => rfl)) _) (OwnFrom.and (Own.from (blk_own _ _ (fun _ => rfl)) _) (OwnFrom.and (Own.from (blk_own _ _ (fun _ => rfl)) _) (OwnFrom.and (Own.from (blk_own _ _ (fun _ => rfl)) _) (OwnFrom.and (Own.from (lr_own _ _) _) (OwnFrom.and (ownFrom_pure _ _) (ownFrom_below (Nat.le_refl _) (by omega))))))))
    (fun c => OwnFrom.and (ownFrom_pure _ _) (OwnFrom.and (ownFrom_pure _ _) (OwnFrom.and (Own.from (blk_own _ _ (fun _ => rfl)) _) (OwnFrom.and (Own.from (blk_own _ _ (fun _ => rfl)) _) (ownFrom_below (Nat.le_refl _) (by omega))))))
    ⟨k0, k1, m2, m3, HR2.out, rfl, HB2.out⟩
    (fun x a' W => ∃ Bx, W2.heap.size ≤ Bx ∧ W.heap[Bx]? = some (.cells #[.int .i64 x.2.p, .string x.2.s, .int .i64 x.2.o, .int .i64 x.2.t] 25) ∧ a' = { tmps := #[.slice a l.length cap, undef, .pointer (some ⟨w.heap.size, 0, none⟩), .pointer (some ⟨w.heap.size + 1, 0, none⟩), .pointer (some ⟨w1.heap.size, 0, none⟩), undef, .pointer (some ⟨Bx, 0, none⟩), lstV (w.heap.size + 1 + 1 + 1), .slice a l.length cap, .int .i64 l.length, .bool (decide ((48 : Int) < l.length)), undef, .slice a l.length cap, .func (.func 134) #[] #[.pointer (some ⟨w1.heap.size + 1, 0, none⟩)], .int .i64 x.1, R4.v x.2, undef, undef, undef, undef, undef, undef, undef, undef, undef, undef, undef], defers := [] })
    ?hAx ?assign ?body ?done ?stop
  case hAx =>
    intro x a' u A B row hs hg hr
    obtain ⟨Bx, h1, h2, h3⟩ := hs
    exact ⟨Bx, h1, blk_own Bx (fun _ : Unit => .cells #[.int .i64 x.2.p, .string x.2.s, .int .i64 x.2.o, .int .i64 x.2.t] 25) (fun _ => rfl) () A B row h2 hg (fun r e => (hr r e).2), h3⟩
  case assign =>
    rintro lp pre x W K ⟨i0, i1, it, is, hlr, hch, hB⟩ hK
    have hsz := (Array.getElem?_eq_some_iff.1 is).1
    have hA := below_alloc1 W (.cells #[.int .i64 x.2.p, .string x.2.s, .int .i64 x.2.o, .int .i64 x.2.t] 25)
    have HK := hK _ (W.alloc (.cells #[.int .i64 x.2.p, .string x.2.s, .int .i64 x.2.o, .int .i64 x.2.t] 25)) ((KeepsOthers.alloc _ _).from _) ⟨hA.mono hB.size, hA.block _ hsz⟩ ⟨(hA.block _ (by omega)).trans i0, (hA.block _ (by omega)).trans i1, (hA.block _ (by omega)).trans it, (hA.block _ hsz).trans is, hlr.below hA, hch, hB.trans (hA.mono hB.size)⟩ ⟨W.heap.size, by omega, newBlockM W _, rfl⟩
    clear hK
    unfold R4.v lstV at *
    gi_wp2
    exact HK
  case body =>
    rintro lp pre x a' W hl ⟨rr, hrr⟩ ⟨i0, i1, it, is, hlr, hch, hB⟩ ⟨Bx, hBx, bX, rfl⟩ hlt
    have hsz := (Array.getElem?_eq_some_iff.1 is).1
    have hbx := (Array.getElem?_eq_some_iff.1 bX).1
    obtain ⟨x0, x1, x2, x3⟩ := cells4 bX
    have HI : Hid (∀ W', Below W.heap.size W W' → W'.heap[w.heap.size]? = some (.cells #[.nilFunc, .pointer none] 75) ∧ W'.heap[w.heap.size + 1]? = some (.cells #[.bool false] 4) ∧ W'.heap[w1.heap.size]? = some (lstO (w.heap.size + 1 + 1 + 1)) ∧ W'.heap[w1.heap.size + 1]? = some (.cells #[.slice a l.length cap] 23) ∧ LR W' (w.heap.size + 1 + 1 + 1) (tbl pre) ∧ Four W' Bx 0 x.2 ∧ Below w.heap.size w W') := fun W' hb =>
      ⟨(hb.block _ (by omega)).trans i0, (hb.block _ (by omega)).trans i1, (hb.block _ (by omega)).trans it, (hb.block _ hsz).trans is, hlr.below hb, (cells4 bX).below hb hbx, hB.trans (hb.mono hB.size)⟩
    have HOK := Lib.hid (iOk_at x.2)
    have HLD : Hid (okR x.2 = true → ∀ W', LR W' (w.heap.size + 1 + 1 + 1) (tbl pre) → EtOk W' → Calls Tryz.prog 104 #[lstV (w.heap.size + 1 + 1 + 1), .agg #[.int .i64 x.2.p, .string x.2.s, .int .i64 x.2.o, .int .i64 x.2.t]] W' fun e w' => e = .returned (.bool (leadsB x.2 (tbl pre))) ∧ W'.grownBy w' (some (w.heap.size + 1 + 1 + 1)) ∧ (leadsB x.2 (tbl pre) = true → LR w' (w.heap.size + 1 + 1 + 1) (x.2 :: tbl pre))) := fun h W' h1 h2 => lead_any W' _ _ _ h hch h1 h2
    have HTS := Lib.hid (tbl_snoc pre x)
    have HCH := Lib.hid hch
    have HB := Lib.hid hB
    clear i0 i1 it is hlr hch hB bX hrr
    obtain ⟨j, r⟩ := x
    dsimp only at *
    cases hok : okR r
    · rw [hok] at HOK
      have HCF : Hid (chain (r :: tbl pre) = false) := by show chain _ = false; simp [chain, hok]
      unfold R4.v lstV
      gi_wp2_with (first | (refine ⟨trivial, ?_⟩; gi_at_call 62; refine (CallsIn.inRound lp (callsIn_wide.2 (HOK.out _ (HE.out.below HB.out)))).mono ?_; rintro ex w2 ⟨rfl, b2⟩; obtain ⟨i0, i1, it, is, hlr, -, hB⟩ := HI.out _ b2; obtain ⟨c0, c1, cf⟩ := cells2 i0; obtain ⟨d0, df⟩ := cells1 i1; obtain ⟨t0, t1, tf⟩ := cells2 (show w2.heap[w1.heap.size]? = some (.cells #[.func (.func 102) #[] #[], .pointer (some ⟨w.heap.size + 1 + 1 + 1, 0, none⟩)] 75) from it); have H0 := Lib.hid i0; have H1 := Lib.hid i1; have HB2 := Lib.hid hB; have B2 := Lib.hid b2; clear i0 i1 it is hlr hB b2))
      refine ⟨trivial, ?_⟩
      gi_wp2
      have l2 := B2.out.size
      obtain ⟨q0, q1, q2, q3⟩ := stored3 (.func (.func 102) #[] #[]) (.pointer (some ⟨w.heap.size + 1 + 1 + 1, 0, none⟩)) (.bool false) H0.out H1.out (by omega)
      refine ⟨keepsOf (by rw [q3]; exact l2) (fun k hk1 hk2 => (q2 k (by omega) (by omega)).trans (B2.out.block k hk2)), rfl, by rw [HTS.out]; exact HCF.out, q0, q1, ?_⟩
      exact ((HB2.out.setCell (by exact Nat.le_refl _) _).setCell (by exact Nat.le_refl _) _).setCell (by exact Nat.le_succ _) _
    · rw [hok] at HOK
      have HLD2 := Lib.hid (HLD.out hok)
      have HCF : Hid (leadsB r (tbl pre) = false → chain (r :: tbl pre) = false) := fun h => by show chain _ = false; simp [chain, h]
      have HCT : Hid (leadsB r (tbl pre) = true → chain (r :: tbl pre) = true) := fun h => by show chain _ = true; simp [chain, h, hok, HCH.out]
      clear HLD HCH
      unfold lstV at HLD2
      unfold R4.v lstV
      gi_wp2_with (first | (refine ⟨trivial, ?_⟩; gi_at_call 62; refine (CallsIn.inRound lp (callsIn_wide.2 (HOK.out _ (HE.out.below HB.out)))).mono ?_; rintro ex w2 ⟨rfl, b2⟩; obtain ⟨-, -, it, -, -, ⟨y0, y1, y2, y3⟩, -⟩ := HI.out _ b2; obtain ⟨t0, t1, tf⟩ := cells2 (show w2.heap[w1.heap.size]? = some (.cells #[.func (.func 102) #[] #[], .pointer (some ⟨w.heap.size + 1 + 1 + 1, 0, none⟩)] 75) from it); have B2 := Lib.hid b2; clear it b2))
      obtain ⟨j0, j1, jt, js, jl, -, jb⟩ := HI.out _ B2.out
      have l2 := B2.out.size
      have l3 := (Array.getElem?_eq_some_iff.1 js).1
      refine ⟨trivial, ?_⟩
      refine (CallsIn.inRound lp (callsIn_wide.2 (HLD2.out _ jl (HE.out.below jb)))).mono ?_
      rintro ex w3 ⟨rfl, hg3, h3⟩
      have HG := Lib.hid hg3
      have l4 := hg3.size
      have i0 := (hg3.block _ (by omega) (fun e => by have := Option.some.inj e; omega)).trans j0
      have i1 := (hg3.block _ (by omega) (fun e => by have := Option.some.inj e; omega)).trans j1
      have it := (hg3.block _ (by omega) (fun e => by have := Option.some.inj e; omega)).trans jt
      have is := (hg3.block _ (by omega) (fun e => by have := Option.some.inj e; omega)).trans js
      obtain ⟨c0, c1, cf⟩ := cells2 i0
      obtain ⟨d0, df⟩ := cells1 i1
      obtain ⟨e0, e1, ef⟩ := cells2 (show w3.heap[w1.heap.size]? = some (.cells #[.func (.func 102) #[] #[], .pointer (some ⟨w.heap.size + 1 + 1 + 1, 0, none⟩)] 75) from it)
      have H0 := Lib.hid i0
      have H1 := Lib.hid i1
      have HT := Lib.hid it
      have HS := Lib.hid is
      have H3 := Lib.hid h3
      have HB3 : Hid (Below w.heap.size w w3) := jb.grown hg3 jb.size (fun k e => by cases e; omega)
      have HW3 : Hid (Below w.heap.size W w3) := (B2.out.mono (by omega)).grown hg3 (by omega) (fun k e => by cases e; omega)
      clear hg3 h3 i0 i1 it is j0 j1 jt js jl jb t0 t1 tf y0 y1 y2 y3
      cases hld : leadsB r (tbl pre)
      · gi_wp2
        obtain ⟨q0, q1, q2, q3⟩ := stored3 (.func (.func 102) #[] #[]) (.pointer (some ⟨w.heap.size + 1 + 1 + 1, 0, none⟩)) (.bool false) H0.out H1.out (by omega)
        refine ⟨keepsOf (by rw [q3]; omega) (fun k hk1 hk2 => (q2 k (by omega) (by omega)).trans ((HG.out.block k (by omega) (fun e => by have := Option.some.inj e; omega)).trans (B2.out.block k hk2))), rfl, by rw [HTS.out]; exact HCF.out hld, q0, q1, ?_⟩
        exact ((HB3.out.setCell (by exact Nat.le_refl _) _).setCell (by exact Nat.le_refl _) _).setCell (by exact Nat.le_succ _) _
      · gi_wp2
        exact ⟨keepsOf (by omega) (fun k hk1 hk2 => (HG.out.block k (by omega) (fun e => by have := Option.some.inj e; omega)).trans (B2.out.block k hk2)), ⟨HW3.out, (HG.out.block _ (by omega) (fun e => by have := Option.some.inj e; omega)).trans (B2.out.block _ hsz)⟩, H0.out, H1.out, HT.out, HS.out, by rw [HTS.out]; exact H3.out hld, by rw [HTS.out]; exact HCT.out hld, HB3.out⟩
  case done =>
    rintro D ys W hD rfl ⟨i0, i1, it, is, hlr, hch, hB⟩ hK
    obtain ⟨c0, c1, cf⟩ := cells2 i0
    obtain ⟨d0, df⟩ := cells1 i1
    obtain ⟨e0, e1, ef⟩ := cells2 (show W.heap[w1.heap.size]? = some (.cells #[.func (.func 102) #[] #[], .pointer (some ⟨w.heap.size + 1 + 1 + 1, 0, none⟩)] 75) from it)
    have H0 := Lib.hid i0
    have H1 := Lib.hid i1
    have HK := Lib.hid hK
    have HLR := Lib.hid hlr
    have HCH := Lib.hid hch
    have HB := Lib.hid hB
    clear i0 i1 it is hK hlr hch hB
    unfold lstV at *
    gi_wp2
    obtain ⟨q0, q1, q2, q3⟩ := stored3 (.func (.func 102) #[] #[]) (.pointer (some ⟨w.heap.size + 1 + 1 + 1, 0, none⟩)) (.bool true) H0.out H1.out (by omega)
    have BW := ((HB.out.setCell (p := ⟨w.heap.size, 0, none⟩) (by exact Nat.le_refl _) (.func (.func 102) #[] #[])).setCell (p := ⟨w.heap.size, 1, none⟩) (by exact Nat.le_refl _) (.pointer (some ⟨w.heap.size + 1 + 1 + 1, 0, none⟩))).setCell (p := ⟨w.heap.size + 1, 0, none⟩) (by exact Nat.le_succ _) (.bool true)
    have hKW := (q2 D (by omega) (by omega)).trans HK.out
    have HLW : LR (((W.setCell ⟨w.heap.size, 0, none⟩ (.func (.func 102) #[] #[])).setCell ⟨w.heap.size, 1, none⟩ (.pointer (some ⟨w.heap.size + 1 + 1 + 1, 0, none⟩))).setCell ⟨w.heap.size + 1, 0, none⟩ (.bool true)) (w.heap.size + 1 + 1 + 1) l := by
      have := HLR.out
      rw [tbl_all] at this
      exact this.keep fun b r q hb hy => (q2 b (by omega) (by omega)).trans hy
    rw [tbl_all] at HCH
    generalize (((W.setCell ⟨w.heap.size, 0, none⟩ (.func (.func 102) #[] #[])).setCell ⟨w.heap.size, 1, none⟩ (.pointer (some ⟨w.heap.size + 1 + 1 + 1, 0, none⟩))).setCell ⟨w.heap.size + 1, 0, none⟩ (.bool true)) = W3 at *
    refine ⟨by simp, .inl ⟨_, _, rfl, run_takeDeferred hKW, ?_⟩⟩
    obtain ⟨f0, f1, -⟩ := cells2 ((World.putObj_heap_other (w := W3) (o := .deferred none) (show w.heap.size ≠ D by omega)).trans q0)
    obtain ⟨f2, -⟩ := cells1 ((World.putObj_heap_other (w := W3) (o := .deferred none) (show w.heap.size + 1 ≠ D by omega)).trans q1)
    refine ⟨.tuple #[lstV (w.heap.size + 1 + 1 + 1), .bool true], ?_, _, by rw [HCH.out], by omega, fun _ => ?_, ?_⟩
    · simp [results, Tryz.results61, go_sem, f0, f1, f2, lstV]
    · refine HLW.keep fun b r q hb hy => ?_
      refine (World.putObj_heap_other (fun e => ?_)).trans hy
      subst e
      rw [hKW] at hy
      cases hy
    · exact BW.trans (belowK_b (w := w) (Nat.le_refl _) W3 D _ _ (by omega) hKW rfl rfl)
  case stop =>
    rintro D c pre W hD ⟨k, hk, rfl⟩ ⟨rfl, hch, i0, i1, hB⟩ hK
    have hcl := chain_part l hk hch
    gi_wp2
    refine ⟨by simp, .inl ⟨_, _, rfl, run_takeDeferred hK, ?_⟩⟩
    obtain ⟨f0, f1, -⟩ := cells2 ((World.putObj_heap_other (w := W) (o := .deferred none) (show w.heap.size ≠ D by omega)).trans i0)
    obtain ⟨f2, -⟩ := cells1 ((World.putObj_heap_other (w := W) (o := .deferred none) (show w.heap.size + 1 ≠ D by omega)).trans i1)
    refine ⟨.tuple #[lstV (w.heap.size + 1 + 1 + 1), .bool false], ?_, _, by rw [hcl], by omega, fun h => absurd h (by rw [hcl]; decide), ?_⟩
    · simp [results, Tryz.results61, go_sem, f0, f1, f2, lstV]
    · exact hB.trans (belowK_b (w := w) (Nat.le_refl _) W D _ _ (by omega) hK rfl rfl)

theorem readTable_any (w : World) (v : Value) (l : List R4) (h : Rls w w.heap.size v l) (hlen : l.length ≤ 1048576) (hE : EtOk w) :
    Calls Tryz.prog 61 #[v] w fun e w' => ∃ g, e = .returned (.tuple #[lstV g, .bool (tOk l)]) ∧ w.heap.size ≤ g ∧ (tOk l = true → LR w' g l) ∧ Below w.heap.size w w' := by
  by_cases hb : l.length ≤ 48
  · rw [show tOk l = chain l from by simp [tOk, hb]]
    exact readTable_some w v l h hb hE
  · rw [show tOk l = false from by simp [tOk, hb]]
    obtain ⟨a, cap, rfl, -, -, -⟩ := h
    exact (readTable_big w a l.length cap (by omega) hlen).mono fun e w' ⟨g, h1, h2, h3⟩ => ⟨g, h1, h2, (fun h => by cases h), h3⟩

end Go.Proofs.YtahobeigbjhbbaaGreatDoor
