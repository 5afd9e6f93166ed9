/-
  Clauses: ClausesDo, the program's answer and the model's.
-/
import Derived.Test.YtcipidcnkllanaaDoorClaDoI
namespace Go.Proofs.YtcipidcnkllanaaDoor
open Go.ChangeShapes Go.WideShapes Go.ChangeAt Go.RowKit Go.Joins
set_option linter.unusedVariables false

theorem tag_eq {t z : Int} (h : -1 ≤ t) : (if t = -1 then z else t) = tagTo t z := by
  unfold tagTo
  split <;> split <;> omega

set_option maxRecDepth 100000 in
set_option maxHeartbeats 8000000 in
theorem handleCl_any (w : World) (base : Nat) (u : Value) (l : List C3) (hr : RdyOk w base u l) (hok : clB l = true) (m : Int) (m0 : 0 ≤ m) (m3 : m ≤ 63) :
    Calls Tryd.prog 16 #[u, .int .u8 m] w fun e w' => e = .returned (.tuple #[.agg #[.int .i64 (m / 16), .int .i64 (m / 4 % 4), .int .i64 (doC l (m / 16) (m / 4 % 4) (m % 4)).1], .int .i64 (doC l (m / 16) (m / 4 % 4) (m % 4)).2]) ∧ Below w.heap.size w w' := by
  obtain ⟨L, hLl, hrow, hall⟩ := hr
  have HALL := Lib.hid hall
  have HROW := Lib.hid hrow
  obtain ⟨ua, uc, rfl⟩ := hrow.shape
  rw [hLl] at HROW ⊢
  have HL := Lib.hid hLl
  have H6 : Hid (l.length ≤ 6) := clB_six hok
  have HDR : Hid (∀ k, k < l.length → doC (l.drop k) (m / 16) (m / 4 % 4) (m % 4) = if fitC (clAt l k) (m / 16) (m / 4 % 4) (m % 4) = true then (tagTo (clAt l k).t (m % 4), (clAt l k).o) else doC (l.drop (k + 1)) (m / 16) (m / 4 % 4) (m % 4)) := fun k hk => doC_drop hk _ _ _
  have HD0 : Hid (doC (l.drop 0) (m / 16) (m / 4 % 4) (m % 4) = doC l (m / 16) (m / 4 % 4) (m % 4)) := by show _ = _; rw [List.drop_zero]
  have HDN : Hid (doC (l.drop l.length) (m / 16) (m / 4 % 4) (m % 4) = (m % 4, 0)) := by show _ = _; rw [List.drop_length]; rfl
  have HOKC : Hid (∀ k, k < l.length → okC (clAt l k) = true) := fun k hk => clB_at hok hk
  have HHD := Lib.hid (fun W => head_any m m0 m3 W)
  clear hall hrow hLl hok
  generalize hDF : (fun k => doC (l.drop k) (m / 16) (m / 4 % 4) (m % 4)) = DF at *
  have HDR' : Hid (∀ k, k < l.length → DF k = if fitC (clAt l k) (m / 16) (m / 4 % 4) (m % 4) = true then (tagTo (clAt l k).t (m % 4), (clAt l k).o) else DF (k + 1)) := by rw [← hDF]; exact HDR
  have HD0' : Hid (DF 0 = doC l (m / 16) (m / 4 % 4) (m % 4)) := by rw [← hDF]; exact HD0
  have HDN' : Hid (DF l.length = (m % 4, 0)) := by rw [← hDF]; exact HDN
  clear HDR HD0 HDN hDF
  generalize doC l (m / 16) (m / 4 % 4) (m % 4) = ans at *
  generalize hN : l.length = n at *
  clear hN
  have HFI : Hid (∀ k, k < n → ∃ (x : RC) (g : Nat), ua = some ⟨g, 0, none⟩ ∧ x.o = (clAt l k).o ∧ x.t = (clAt l k).t ∧ g < w.heap.size ∧
      (∀ W, Below w.heap.size w W → W.cell? ⟨g, k * 5, none⟩ = some (.string x.a) ∧ W.cell? ⟨g, k * 5 + 1, none⟩ = some (.slice x.ad x.n1 x.c1) ∧ W.cell? ⟨g, k * 5 + 2, none⟩ = some (.func (.func x.k1) #[] x.caps) ∧ W.cell? ⟨g, k * 5 + 3, none⟩ = some (.int .i64 x.o) ∧ W.cell? ⟨g, k * 5 + 4, none⟩ = some (.int .i64 x.t)) ∧
      (∀ (args : Array Value) (W : World), (callFunc x.k1 args).run Tryd.prog W = .ok (.enter x.k1 args) W) ∧
      (∀ W, Below w.heap.size w W → Calls Tryd.prog x.k1 (#[.int .u8 m] ++ x.caps) W fun e W' => e = .returned (.bool (fitC (clAt l k) (m / 16) (m / 4 % 4) (m % 4))) ∧ Below W.heap.size W W')) := by
    intro k hk
    obtain ⟨x, c, hx, hc, ho, ht, W', b', ⟨k', caps', hkk, he, hcl⟩, hag, -⟩ := HALL.out k hk
    obtain ⟨g, cap', hg, hgl, c0, c1, c2, c3, c4⟩ := HROW.out.at hx
    obtain ⟨h1, h3⟩ : x.k1 = k' ∧ x.caps = caps' := by
      unfold RC.f at hkk
      injection hkk with h1 h2 h3
      injection h1 with h1
      exact ⟨h1, h3⟩
    subst h1 h3
    have hua : ua = some ⟨g, 0, none⟩ := by injection hg
    refine ⟨x, g, hua, ho, ht, hgl, fun W hW => ⟨(belCell hW _ _ hgl).trans c0, (belCell hW _ _ hgl).trans c1, (belCell hW _ _ hgl).trans c2, (belCell hW _ _ hgl).trans c3, (belCell hW _ _ hgl).trans c4⟩, he, fun W hW => ?_⟩
    have := hcl W (hag.trans (Ag.of hW (Nat.le_refl _))) m m0 m3
    unfold fitC
    rw [hc]
    exact this
  clear HALL HROW
  have hA2 := below_alloc1 w (.cells #[.int .i64 0, .int .i64 0, .int .i64 0] 25)
  have hn2 := heap_alloc_new w (.cells #[.int .i64 0, .int .i64 0, .int .i64 0] 25)
  have hsz : (w.alloc (.cells #[.int .i64 0, .int .i64 0, .int .i64 0] 25)).heap.size = w.heap.size + 1 := by simp
  have HW0 := Lib.hid hA2
  have HRS := Lib.hid hn2
  have HSZ := Lib.hid hsz
  clear hA2 hn2 hsz
  go_enter Tryd.func16, Tryd.ntmps16
  go_wp2_with fail
  generalize w.alloc (.cells #[.int .i64 0, .int .i64 0, .int .i64 0] 25) = W0 at *
  go_loopw [10] (fun i wr => ∃ k : Nat, k ≤ n ∧ i = .int .i64 (k : Int) ∧ DF k = ans ∧ Below W0.heap.size W0 wr) (fun i _ => n - (intOf i).toNat)
  case atStart => exact ⟨0, Nat.zero_le _, rfl, HD0'.out, Below.refl _ _⟩
  case round =>
    obtain ⟨k, hk, rfl, hans, hbel⟩ := hrel
    have HAN := Lib.hid hans
    have HBL := Lib.hid hbel
    have hws : w.heap.size + 1 ≤ wr.heap.size := by have := HSZ.out; have := hbel.size; omega
    have HR3 : Hid (wr.heap[w.heap.size]? = some (.cells #[.int .i64 0, .int .i64 0, .int .i64 0] 25)) := (hbel.block w.heap.size (by have := HSZ.out; omega)).trans HRS.out
    have HBW := Lib.hid (belStep HW0.out hbel)
    clear hans hbel
    by_cases hlt : k < n
    · have hz : (k : Int) < (n : Int) := by omega
      have hw1 : IntKind.i64.wrap ((k : Int) + 1) = (k : Int) + 1 := by rw [IntKind.wrap_i64]; have := H6.out; omega
      obtain ⟨x, g, rfl, hxo, hxt, hgl, hcs, he, hcl⟩ := HFI.out k hlt
      obtain ⟨c0, c1, c2, c3, c4⟩ := hcs _ HBW.out
      have HDK := Lib.hid (HDR'.out k hlt)
      have HCL := Lib.hid hcl
      have HOX := Lib.hid (okC_parts (HOKC.out k hlt))
      have hg2 : g < wr.heap.size := by omega
      clear hcs hcl
      generalize hfq : fitC (clAt l k) (m / 16) (m / 4 % 4) (m % 4) = fit at *
      rw [← hxo, ← hxt] at HDK
      have HOT : Hid (-1 ≤ x.t) := by show _ ≤ _; rw [hxt]; exact HOX.out.2.2.1
      clear hxo hxt hfq HOX
      obtain ⟨xa, xad, xn1, xc1, xk1, xcaps, xo, xt⟩ := x
      dsimp only at *
      go_wp2_with fail
      refine (HCL.out _ (belStep HBW.out (below_alloc1 _ _))).mono ?_
      rintro e w1 ⟨rfl, b1⟩
      have hA := below_alloc1 wr (.cells #[.string xa, .slice xad xn1 xc1, .func (.func xk1) #[] xcaps, .int .i64 xo, .int .i64 xt] 70)
      have hn5 := heap_alloc_new wr (.cells #[.string xa, .slice xad xn1 xc1, .func (.func xk1) #[] xcaps, .int .i64 xo, .int .i64 xt] 70)
      have hb1 := belStep hA b1
      have hn5' := (b1.block wr.heap.size (by simp)).trans hn5
      have HB1 := Lib.hid (belStep HBL.out hb1)
      have HBW1 := Lib.hid (belStep HBW.out hb1)
      have HR1 : Hid (w1.heap[w.heap.size]? = some (.cells #[.int .i64 0, .int .i64 0, .int .i64 0] 25)) := (hb1.block w.heap.size (by omega)).trans HR3.out
      have hs1 := hb1.size
      have hs2 : wr.heap.size < w1.heap.size := (Array.getElem?_eq_some_iff.1 hn5').1
      have HN5 := Lib.hid hn5'
      clear hA hn5 hb1 hn5' b1 c0 c1 c2 c3 c4 he HCL
      cases fit
      · have HDK' : Hid (DF (k + 1) = ans) := by show _ = _; rw [← HAN.out, HDK.out]; rfl
        go_wp2
        go_roundw
        case rel => exact ⟨k + 1, by omega, by go_num, HDK'.out, HB1.out⟩
        case measure => simp [intOf]; omega
      · have HDK' : Hid (ans = (tagTo xt (m % 4), xo)) := by show _ = _; rw [← HAN.out, HDK.out]; rfl
        have HRT : Hid (∀ W, Calls Tryd.prog 30 #[.agg #[.int .i64 (m / 16), .int .i64 (m / 4 % 4), .int .i64 (m % 4)], .int .i64 xt] W fun e w' => e = .returned (.agg #[.int .i64 (m / 16), .int .i64 (m / 4 % 4), .int .i64 (tagTo xt (m % 4))]) ∧ Below W.heap.size W w') := fun W => by
          have := retag_any (m / 16) (m / 4 % 4) (m % 4) xt W
          rwa [tag_eq HOT.out] at this
        have HC5 : Hid (w1.cell? ⟨wr.heap.size, 3, none⟩ = some (.int .i64 xo) ∧ w1.cell? ⟨wr.heap.size, 4, none⟩ = some (.int .i64 xt)) := by
          have h := HN5.out
          constructor <;> simp [World.cell?, h]
        generalize hma : m / 16 = ma at *
        generalize hmb : m / 4 % 4 = mb at *
        generalize hmc : m % 4 = mc at *
        have HMA := Lib.hid hma
        have HMB := Lib.hid hmb
        clear hma hmb hmc
        go_wp2_with fail
        refine wp_region_held_drew (S := fun W => Below w.heap.size w W ∧ W.cell? ⟨wr.heap.size, 3, none⟩ = some (.int .i64 xo) ∧ W.cell? ⟨wr.heap.size, 4, none⟩ = some (.int .i64 xt)) (by kernel_rfl) ⟨HBW1.out.drew, HC5.out.1, HC5.out.2⟩ (fun hHeld => ?_)
        have HRV : Hid (w1.drew.heap[w.heap.size]? = some (.cells #[.int .i64 0, .int .i64 0, .int .i64 0] 25)) := HR1.out
        have hsV : w1.drew.heap.size = w1.heap.size := rfl
        generalize w1.drew = V at *
        refine wpAnyH_take (i := 0) (v := .int .u8 m) rfl (by kernel_rfl) (by kernel_rfl) (by kernel_rfl) (fun _ _ _ h => h) (Or.inl ⟨by rfl, ?_⟩) hHeld ?_
        · intro W hW
          go_simp
        simp [Act.put]
        refine wpAnyH_take (i := 2) (v := .pointer (some ⟨wr.heap.size, 4, none⟩)) rfl (by kernel_rfl) (by kernel_rfl) (by kernel_rfl) (fun _ _ _ h => h) (Or.inl ⟨by rfl, ?_⟩) hHeld ?_
        · intro W hW
          go_simp
        simp [Act.put]
        refine wpAnyH_take (i := 3) (v := .int .i64 xt) rfl (by kernel_rfl) (by kernel_rfl) (by kernel_rfl) (fun _ _ _ h => h) (Or.inl ⟨by rfl, ?_⟩) hHeld ?_
        · intro W hW
          obtain ⟨-, h3, h4⟩ := hW
          go_simp
        simp [Act.put]
        refine wpAnyH_take (i := 5) (v := .pointer (some ⟨wr.heap.size, 3, none⟩)) rfl (by kernel_rfl) (by kernel_rfl) (by kernel_rfl) (fun _ _ _ h => h) (Or.inl ⟨by rfl, ?_⟩) hHeld ?_
        · intro W hW
          go_simp
        simp [Act.put]
        refine wpAnyH_take (i := 6) (v := .int .i64 xo) rfl (by kernel_rfl) (by kernel_rfl) (by kernel_rfl) (fun _ _ _ h => h) (Or.inl ⟨by rfl, ?_⟩) hHeld ?_
        · intro W hW
          obtain ⟨-, h3, h4⟩ := hW
          go_simp
        simp [Act.put]
        refine wpAnyH_ready (rs := [1]) (by kernel_rfl) (by simp) ?_
        refine AllReadyH.cons rfl (fun K hK => ?_) AllReadyH.nil
        go_simp
        refine (HHD.out _).mono ?_
        rintro e w2 ⟨rfl, b2⟩
        go_simp
        have hcV := belCell b2
        have hsz_w2 := b2.size
        have hB2 : Below w.heap.size w w2 := belStep hHeld.1 b2
        have HR_w2 : Hid (w2.heap[w.heap.size]? = some (.cells #[.int .i64 0, .int .i64 0, .int .i64 0] 25)) := (b2.block w.heap.size (by omega)).trans HRV.out
        refine hK.out _ _ ⟨hB2, (hcV wr.heap.size 3 (by omega)).trans hHeld.2.1, (hcV wr.heap.size 4 (by omega)).trans hHeld.2.2⟩ (fun hHeld => ?_)
        clear hK K hcV b2 HHD
        refine wpAnyH_ready (rs := [4]) (by kernel_rfl) (by simp) ?_
        refine AllReadyH.cons rfl (fun K hK => ?_) AllReadyH.nil
        go_simp
        refine (HRT.out _).mono ?_
        rintro e w3 ⟨rfl, b2⟩
        go_simp
        have hcV := belCell b2
        have hsz_w3 := b2.size
        have hB2 : Below w.heap.size w w3 := belStep hHeld.1 b2
        have HR_w3 : Hid (w3.heap[w.heap.size]? = some (.cells #[.int .i64 0, .int .i64 0, .int .i64 0] 25)) := (b2.block w.heap.size (by omega)).trans HR_w2.out
        refine hK.out _ _ ⟨hB2, (hcV wr.heap.size 3 (by omega)).trans hHeld.2.1, (hcV wr.heap.size 4 (by omega)).trans hHeld.2.2⟩ (fun hHeld => ?_)
        clear hK K hcV b2 HRT
        refine wpAnyH_ready (rs := [7]) (by kernel_rfl) (by simp) ?_
        refine AllReadyH.cons rfl (fun K hK => ?_) AllReadyH.nil
        obtain ⟨r0, r1, r2, rf⟩ := three_cells HR_w3.out
        go_simp
        have hne : ¬ wr.heap.size = w.heap.size := by omega
        refine hK.out _ _ ?_ (fun hHeld => ?_)
        · exact ⟨((hHeld.1.setCell (by dsimp only; omega) _).setCell (by dsimp only; omega) _).setCell (by dsimp only; omega) _, by simp [go_sem, hHeld.2.1], by simp [go_sem, hHeld.2.2]⟩
        clear hK K
        refine wpAnyH_take (i := 8) (v := .int .i64 xo) rfl (by kernel_rfl) (by kernel_rfl) (by kernel_rfl) (fun _ _ _ h => h) (Or.inl ⟨by rfl, ?_⟩) hHeld ?_
        · intro W hW
          go_simp
        simp [Act.put]
        refine wpAnyH_done (by kernel_rfl) ?_ _
        go_wp2
        exact bodyPost_ret (v := .tuple #[.agg #[.int .i64 ma, .int .i64 mb, .int .i64 (tagTo xt mc)], .int .i64 xo]) (by simp [results, Tryd.results16, go_sem, r0, r1, r2]) rfl ⟨by rw [HDK'.out, HMA.out, HMB.out], hHeld.1⟩
    · obtain rfl : k = n := by omega
      have h1 : ¬ (k : Int) < (k : Int) := by omega
      have HAA : Hid (ans = (m % 4, 0)) := by show _ = _; rw [← HAN.out, HDN'.out]
      go_wp2_with fail
      refine (HHD.out _).mono ?_
      rintro e w1 ⟨rfl, b1⟩
      have HB1 := Lib.hid (belStep HBW.out b1)
      have hR1 := (b1.block w.heap.size (by omega)).trans HR3.out
      have hs1 := b1.size
      obtain ⟨r0, r1, r2, rf⟩ := three_cells hR1
      clear b1 hR1
      go_wp2
      exact bodyPost_ret (v := .tuple #[.agg #[.int .i64 (m / 16), .int .i64 (m / 4 % 4), .int .i64 (m % 4)], .int .i64 0]) (by simp [results, Tryd.results16, go_sem, r0, r1, r2]) rfl ⟨by rw [HAA.out], ((HB1.out.setCell (by dsimp only; omega) _).setCell (by dsimp only; omega) _).setCell (by dsimp only; omega) _⟩

end Go.Proofs.YtcipidcnkllanaaDoor
