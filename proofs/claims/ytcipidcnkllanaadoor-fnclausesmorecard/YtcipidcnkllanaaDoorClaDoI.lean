/-
  Clauses: what the first that fits makes of a head.
-/
import Derived.Test.YtcipidcnkllanaaDoorClaOkI
import Derived.Test.YtcipidcnkllanaaDoorRuleDoI
import Derived.Deep.RegionHeld3
namespace Go.Proofs.YtcipidcnkllanaaDoor
open Go.ChangeShapes Go.WideShapes Go.ChangeAt Go.RowKit Go.Joins
set_option linter.unusedVariables false

/-- Whether a clause's condition holds for a head. -/
def fitC (q : C3) (x y z : Int) : Bool := match q.cnd with
  | some c => c.ev x y z
  | none => false
/-- The tag, and the port, that the first clause that fits gives. -/
def doC : List C3 → Int → Int → Int → Int × Int
  | [], _, _, z => (z, 0)
  | q :: l, x, y, z => if fitC q x y z = true then (tagTo q.t z, q.o) else doC l x y z
theorem doC_drop {l : List C3} {k : Nat} (h : k < l.length) (x y z : Int) : doC (l.drop k) x y z = if fitC (clAt l k) x y z = true then (tagTo (clAt l k).t z, (clAt l k).o) else doC (l.drop (k + 1)) x y z := by
  rw [List.drop_eq_getElem_cons h, clAt_lt h]
  rfl
theorem clB_at {l : List C3} (h : clB l = true) {k : Nat} (hk : k < l.length) : okC (clAt l k) = true := by
  unfold clB at h
  rw [Bool.and_eq_true, List.all_eq_true] at h
  rw [clAt_lt hk]
  exact h.1 _ (List.getElem_mem hk)
theorem clB_six {l : List C3} (h : clB l = true) : l.length ≤ 6 := by
  unfold clB at h
  rw [Bool.and_eq_true, decide_eq_true_eq] at h
  exact h.2
theorem okC_parts {q : C3} (h : okC q = true) : (∃ c, q.cnd = some c) ∧ (0 ≤ q.o ∧ q.o ≤ 4) ∧ (-1 ≤ q.t ∧ q.t ≤ 3) := by
  unfold okC at h
  rw [Bool.and_eq_true, Bool.and_eq_true] at h
  exact ⟨Option.isSome_iff_exists.1 h.1, inB_true h.2.1, inB_true h.2.2⟩
theorem three_cells {w : World} {b : Nat} {x y z : Value} {t : TypeId} (h : w.heap[b]? = some (.cells #[x, y, z] t)) : w.cell? ⟨b, 0, none⟩ = some x ∧ w.cell? ⟨b, 1, none⟩ = some y ∧ w.cell? ⟨b, 2, none⟩ = some z ∧ ∀ j, w.frozen? ⟨b, j, none⟩ = false := by
  refine ⟨?_, ?_, ?_, fun j => ?_⟩ <;> simp [World.cell?, World.frozen?, h]

set_option maxRecDepth 100000 in
set_option maxHeartbeats 8000000 in
theorem l13Do_any (w : World) (v : Value) (l : List C3) (h : Cls w w.heap.size v l) (hok : clB l = true) (x y z : Int) :
    Calls Tryd.prog 13 #[v, .agg #[.int .i64 x, .int .i64 y, .int .i64 z]] w fun e w' => e = .returned (.tuple #[.agg #[.int .i64 x, .int .i64 y, .int .i64 (doC l x y z).1], .int .i64 (doC l x y z).2]) ∧ Below w.heap.size w w' := by
  obtain ⟨a, cap, rfl, hc, hm, hh⟩ := h
  have HH := Lib.hid hh
  have H6 : Hid (l.length ≤ 6) := clB_six hok
  have HDR : Hid (∀ k, k < l.length → doC (l.drop k) x y z = if fitC (clAt l k) x y z = true then (tagTo (clAt l k).t z, (clAt l k).o) else doC (l.drop (k + 1)) x y z) := fun k hk => doC_drop hk x y z
  have HD0 : Hid (doC (l.drop 0) x y z = doC l x y z) := by show _ = _; rw [List.drop_zero]
  have HDN : Hid (doC (l.drop l.length) x y z = (z, 0)) := by show _ = _; rw [List.drop_length]; rfl
  have HFI : Hid (∀ k, k < l.length → ∀ W, Calls Tryd.prog 25 #[.string (clAt l k).s, .agg #[.int .i64 x, .int .i64 y, .int .i64 z]] W fun e w' => e = .returned (.bool (fitC (clAt l k) x y z)) ∧ Below W.heap.size W w') := fun k hk W => by
    obtain ⟨⟨c, hcc⟩, -, -⟩ := okC_parts (clB_at hok hk)
    obtain ⟨h1, hk', h16⟩ := whole_some hcc
    have e : (clAt l k).s = bs c.txt := by rw [← h1, bs_list]
    have := shas_any x y z c hk' (by rw [← h1]; exact (clAt l k).short) W
    rw [e]
    unfold fitC
    rw [hcc]
    exact this
  clear hh hok
  unfold maxLen at hm
  generalize hDF : (fun k => doC (l.drop k) x y z) = DF at *
  have HDR' : Hid (∀ k, k < l.length → DF k = if fitC (clAt l k) x y z = true then (tagTo (clAt l k).t z, (clAt l k).o) else DF (k + 1)) := by rw [← hDF]; exact HDR
  have HD0' : Hid (DF 0 = doC l x y z) := by rw [← hDF]; exact HD0
  have HDN' : Hid (DF l.length = (z, 0)) := by rw [← hDF]; exact HDN
  clear HDR HD0 HDN hDF
  generalize doC l x y z = ans at *
  generalize hN : l.length = n at *
  have HN := Lib.hid hN
  clear hN
  have hA := below_alloc1 w (.cells #[.int .i64 x, .int .i64 y, .int .i64 z] 25)
  have hA2 := below_alloc1 (w.alloc (.cells #[.int .i64 x, .int .i64 y, .int .i64 z] 25)) (.cells #[.int .i64 0, .int .i64 0, .int .i64 0] 25)
  have hn1 := heap_alloc_new w (.cells #[.int .i64 x, .int .i64 y, .int .i64 z] 25)
  have hn2 := heap_alloc_new (w.alloc (.cells #[.int .i64 x, .int .i64 y, .int .i64 z] 25)) (.cells #[.int .i64 0, .int .i64 0, .int .i64 0] 25)
  have hn1' := (hA2.block w.heap.size (by simp)).trans hn1
  have HW0 : Hid (Below w.heap.size w ((w.alloc (.cells #[.int .i64 x, .int .i64 y, .int .i64 z] 25)).alloc (.cells #[.int .i64 0, .int .i64 0, .int .i64 0] 25))) := belStep hA hA2
  have hsz : ((w.alloc (.cells #[.int .i64 x, .int .i64 y, .int .i64 z] 25)).alloc (.cells #[.int .i64 0, .int .i64 0, .int .i64 0] 25)).heap.size = w.heap.size + 2 := by simp
  rw [World.size_alloc] at hn2
  have HHD := Lib.hid hn1'
  have HRS := Lib.hid hn2
  have HSZ := Lib.hid hsz
  clear hA hA2 hn1 hn2 hn1' hsz
  go_enter Tryd.func13, Tryd.ntmps13
  go_wp2_with fail
  generalize (w.alloc (.cells #[.int .i64 x, .int .i64 y, .int .i64 z] 25)).alloc (.cells #[.int .i64 0, .int .i64 0, .int .i64 0] 25) = W0 at *
  go_loopw [6] (fun i wr => ∃ k : Nat, k ≤ n ∧ i = .int .i64 (k : Int) ∧ DF k = ans ∧ Below W0.heap.size W0 wr) (fun i _ => n - (intOf i).toNat)
  case atStart => exact ⟨0, Nat.zero_le _, rfl, HD0'.out, Below.refl _ _⟩
  case round =>
    obtain ⟨k, hk, rfl, hans, hbel⟩ := hrel
    have HAN := Lib.hid hans
    have HBL := Lib.hid hbel
    have HBB := Lib.hid hbel.block
    have hws : w.heap.size + 2 ≤ wr.heap.size := by have := HSZ.out; have := hbel.size; omega
    have HH3 : Hid (wr.heap[w.heap.size]? = some (.cells #[.int .i64 x, .int .i64 y, .int .i64 z] 25)) := (hbel.block w.heap.size (by have := HSZ.out; omega)).trans HHD.out
    have HR3 : Hid (wr.heap[w.heap.size + 1]? = some (.cells #[.int .i64 0, .int .i64 0, .int .i64 0] 25)) := (hbel.block (w.heap.size + 1) (by have := HSZ.out; omega)).trans HRS.out
    clear hans hbel
    by_cases hlt : k < n
    · have hz : (k : Int) < (n : Int) := by omega
      have hw1 : IntKind.i64.wrap ((k : Int) + 1) = (k : Int) + 1 := by rw [IntKind.wrap_i64]; have := H6.out; omega
      rcases HH.out with h1 | ⟨b, off, rfl, hb, hcell⟩
      · have := HN.out; rw [h1] at this; simp at this; omega
      have HT : Hid (∀ W, Below w.heap.size w W → Thr W b (off + k * 3) (clAt l k)) := fun W hW => (hcell k hlt).below hW hb
      have HDK := Lib.hid (HDR'.out k hlt)
      have HF := Lib.hid (HFI.out k hlt)
      clear hcell
      generalize clAt l k = q at *
      have hBW := belStep HW0.out HBL.out
      have HBW := Lib.hid hBW
      obtain ⟨d0, d1, d2⟩ := HT.out _ hBW
      obtain ⟨h0, h1, h2, hfz⟩ := three_cells HH3.out
      have hbr : b < wr.heap.size := by omega
      have hhr : w.heap.size < wr.heap.size := by omega
      have q0 := fun m : Ext wr => m.cell hbr d0
      have q1 := fun m : Ext wr => m.cell hhr h0
      have q2 := fun m : Ext wr => m.cell hhr h1
      have q3 := fun m : Ext wr => m.cell hhr h2
      clear d0 d1 d2 h0 h1 h2 hfz hBW
      go_wp2_with fail
      refine wp_region_ext (w0 := wr) (by kernel_rfl) (by kernel_rfl) (Below.refl _ _) ?_
      repeat (go_big_quiet_step (first | (go_at_call 25; exact ext_of (HF.out _))))
      refine wpQuiet_nil ?_
      intro w1 hx1
      have hb1 := ext_out hx1
      have HB1 := Lib.hid (belStep HBL.out hb1)
      have HBW1 := Lib.hid (belStep HBW.out hb1)
      have HH1 : Hid (w1.heap[w.heap.size]? = some (.cells #[.int .i64 x, .int .i64 y, .int .i64 z] 25)) := (hb1.block w.heap.size hhr).trans HH3.out
      have HR1 : Hid (w1.heap[w.heap.size + 1]? = some (.cells #[.int .i64 0, .int .i64 0, .int .i64 0] 25)) := (hb1.block (w.heap.size + 1) (by omega)).trans HR3.out
      have hs1 := hb1.size
      clear hx1 hb1 q0 q1 q2 q3 HF
      generalize fitC q x y z = fit at *
      cases fit
      · have HDK' : Hid (DF (k + 1) = ans) := by show _ = _; rw [← HAN.out, HDK.out]; rfl
        go_wp2
        go_roundw
        case rel => exact ⟨k + 1, by omega, by go_num, HDK'.out, HB1.out⟩
        case measure => simp [intOf]; omega
      · have HDK' : Hid (ans = (tagTo q.t z, q.o)) := by show _ = _; rw [← HAN.out, HDK.out]; rfl
        have HLD := Lib.hid (fun W => l11Do_any 0 ⟨#[]⟩ q.o q.t x y z W)
        go_wp2_with fail
        refine wp_region_held_drew (S := fun W => Below w.heap.size w W ∧ W.cell? ⟨w.heap.size, 0, none⟩ = some (.int .i64 x) ∧ W.cell? ⟨w.heap.size, 1, none⟩ = some (.int .i64 y) ∧ W.cell? ⟨w.heap.size, 2, none⟩ = some (.int .i64 z)) (by kernel_rfl) ⟨HBW1.out.drew, (three_cells (w := w1.drew) HH1.out).1, (three_cells (w := w1.drew) HH1.out).2.1, (three_cells (w := w1.drew) HH1.out).2.2.1⟩ (fun hHeld => ?_)
        have HRV : Hid (w1.drew.heap[w.heap.size + 1]? = some (.cells #[.int .i64 0, .int .i64 0, .int .i64 0] 25)) := HR1.out
        have hsV : w1.drew.heap.size = w1.heap.size := rfl
        generalize w1.drew = V at *
        refine wpAnyH_take (i := 0) (v := .slice (some ⟨b, off, none⟩) n cap) rfl (by kernel_rfl) (by kernel_rfl) (by kernel_rfl) (fun _ _ _ h => h) (Or.inl ⟨by rfl, ?_⟩) hHeld ?_
        · intro W hW
          go_simp
        simp [Act.put]
        refine wpAnyH_take (i := 1) (v := .int .i64 (k : Int)) rfl (by kernel_rfl) (by kernel_rfl) (by kernel_rfl) (fun _ _ _ h => h) (Or.inl ⟨by rfl, ?_⟩) hHeld ?_
        · intro W hW
          go_simp
        simp [Act.put]
        refine wpAnyH_take (i := 2) (v := .pointer (some ⟨b, off + k * 3, none⟩)) rfl (by kernel_rfl) (by kernel_rfl) (by kernel_rfl) (fun _ _ _ h => h) (Or.inl ⟨by rfl, ?_⟩) hHeld ?_
        · intro W hW
          go_simp
        simp [Act.put]
        refine wpAnyH_take (i := 3) (v := .pointer (some ⟨b, off + k * 3 + 1, none⟩)) rfl (by kernel_rfl) (by kernel_rfl) (by kernel_rfl) (fun _ _ _ h => h) (Or.inl ⟨by rfl, ?_⟩) hHeld ?_
        · intro W hW
          go_simp
        simp [Act.put]
        refine wpAnyH_take (i := 4) (v := .int .i64 q.o) rfl (by kernel_rfl) (by kernel_rfl) (by kernel_rfl) (fun _ _ _ h => h) (Or.inl ⟨by rfl, ?_⟩) hHeld ?_
        · intro W hW
          obtain ⟨d0, d1, d2⟩ := HT.out W hW.1
          go_simp
        simp [Act.put]
        refine wpAnyH_take (i := 5) (v := .slice (some ⟨b, off, none⟩) n cap) rfl (by kernel_rfl) (by kernel_rfl) (by kernel_rfl) (fun _ _ _ h => h) (Or.inl ⟨by rfl, ?_⟩) hHeld ?_
        · intro W hW
          go_simp
        simp [Act.put]
        refine wpAnyH_take (i := 6) (v := .int .i64 (k : Int)) rfl (by kernel_rfl) (by kernel_rfl) (by kernel_rfl) (fun _ _ _ h => h) (Or.inl ⟨by rfl, ?_⟩) hHeld ?_
        · intro W hW
          go_simp
        simp [Act.put]
        refine wpAnyH_take (i := 7) (v := .pointer (some ⟨b, off + k * 3, none⟩)) rfl (by kernel_rfl) (by kernel_rfl) (by kernel_rfl) (fun _ _ _ h => h) (Or.inl ⟨by rfl, ?_⟩) hHeld ?_
        · intro W hW
          go_simp
        simp [Act.put]
        refine wpAnyH_take (i := 8) (v := .pointer (some ⟨b, off + k * 3 + 2, none⟩)) rfl (by kernel_rfl) (by kernel_rfl) (by kernel_rfl) (fun _ _ _ h => h) (Or.inl ⟨by rfl, ?_⟩) hHeld ?_
        · intro W hW
          go_simp
        simp [Act.put]
        refine wpAnyH_take (i := 9) (v := .int .i64 q.t) rfl (by kernel_rfl) (by kernel_rfl) (by kernel_rfl) (fun _ _ _ h => h) (Or.inl ⟨by rfl, ?_⟩) hHeld ?_
        · intro W hW
          obtain ⟨d0, d1, d2⟩ := HT.out W hW.1
          go_simp
        simp [Act.put]
        refine wpAnyH_take (i := 10) (v := .agg #[.int .i64 0, .string ⟨#[]⟩, .int .i64 q.o, .int .i64 q.t]) rfl (by kernel_rfl) (by kernel_rfl) (by kernel_rfl) (fun _ _ _ h => h) (Or.inl ⟨by rfl, ?_⟩) hHeld ?_
        · intro W hW
          go_simp
        simp [Act.put]
        refine wpAnyH_take (i := 11) (v := .agg #[.int .i64 x, .int .i64 y, .int .i64 z]) rfl (by kernel_rfl) (by kernel_rfl) (by kernel_rfl) (fun _ _ _ h => h) (Or.inl ⟨by rfl, ?_⟩) hHeld ?_
        · intro W hW
          obtain ⟨-, h0, h1, h2⟩ := hW
          go_simp
        simp [Act.put]
        refine wpAnyH_ready (rs := [12]) (by kernel_rfl) (by simp) ?_
        refine AllReadyH.cons rfl (fun K hK => ?_) AllReadyH.nil
        go_simp
        refine (HLD.out _).mono ?_
        rintro e w2 ⟨rfl, b2⟩
        go_simp
        have hcV := belCell b2
        have hsz2 := b2.size
        have hB2 : Below w.heap.size w w2 := belStep hHeld.1 b2
        have HR2 : Hid (w2.heap[w.heap.size + 1]? = some (.cells #[.int .i64 0, .int .i64 0, .int .i64 0] 25)) := (b2.block (w.heap.size + 1) (by omega)).trans HRV.out
        refine hK.out _ _ ⟨hB2, (hcV w.heap.size 0 (by omega)).trans hHeld.2.1, (hcV w.heap.size 1 (by omega)).trans hHeld.2.2.1, (hcV w.heap.size 2 (by omega)).trans hHeld.2.2.2⟩ (fun hHeld => ?_)
        clear hK K hcV b2 HLD
        refine wpAnyH_take (i := 13) (v := .agg #[.int .i64 x, .int .i64 y, .int .i64 (tagTo q.t z)]) rfl (by kernel_rfl) (by kernel_rfl) (by kernel_rfl) (fun _ _ _ h => h) (Or.inl ⟨by rfl, ?_⟩) hHeld ?_
        · intro W hW
          go_simp
        simp [Act.put]
        refine wpAnyH_take (i := 14) (v := .int .i64 q.o) rfl (by kernel_rfl) (by kernel_rfl) (by kernel_rfl) (fun _ _ _ h => h) (Or.inl ⟨by rfl, ?_⟩) hHeld ?_
        · intro W hW
          go_simp
        simp [Act.put]
        refine wpAnyH_ready (rs := [15]) (by kernel_rfl) (by simp) ?_
        refine AllReadyH.cons rfl (fun K hK => ?_) AllReadyH.nil
        obtain ⟨r0, r1, r2, rf⟩ := three_cells HR2.out
        go_simp
        refine hK.out _ _ ?_ (fun hHeld => ?_)
        · exact ⟨((hHeld.1.setCell (by dsimp only; omega) _).setCell (by dsimp only; omega) _).setCell (by dsimp only; omega) _, by simp [go_sem, hHeld.2.1], by simp [go_sem, hHeld.2.2.1], by simp [go_sem, hHeld.2.2.2]⟩
        clear hK K
        refine wpAnyH_take (i := 16) (v := .int .i64 q.o) rfl (by kernel_rfl) (by kernel_rfl) (by kernel_rfl) (fun _ _ _ h => h) (Or.inl ⟨by rfl, ?_⟩) hHeld ?_
        · intro W hW
          go_simp
        simp [Act.put]
        refine wpAnyH_done (by kernel_rfl) ?_ _
        go_wp2
        exact bodyPost_ret (v := .tuple #[.agg #[.int .i64 x, .int .i64 y, .int .i64 (tagTo q.t z)], .int .i64 q.o]) (by simp [results, Tryd.results13, go_sem, r0, r1, r2]) rfl ⟨by rw [HDK'.out], hHeld.1⟩
    · obtain rfl : k = n := by omega
      have h1 : ¬ (k : Int) < (k : Int) := by omega
      have HAA : Hid (ans = (z, 0)) := by show _ = _; rw [← HAN.out, HDN'.out]
      have hBW := belStep HW0.out HBL.out
      obtain ⟨h0, h1', h2, hfz⟩ := three_cells HH3.out
      obtain ⟨r0, r1, r2, rf⟩ := three_cells HR3.out
      have HBW := Lib.hid hBW
      clear hBW
      go_wp2
      exact bodyPost_ret (v := .tuple #[.agg #[.int .i64 x, .int .i64 y, .int .i64 z], .int .i64 0]) (by simp [results, Tryd.results13, go_sem, r0, r1, r2]) rfl ⟨by rw [HAA.out], ((HBW.out.setCell (by dsimp only; omega) _).setCell (by dsimp only; omega) _).setCell (by dsimp only; omega) _⟩

end Go.Proofs.YtcipidcnkllanaaDoor
