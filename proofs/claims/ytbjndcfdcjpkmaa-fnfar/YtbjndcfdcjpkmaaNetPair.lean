/-
  Nets, the program: links and two switches are read.
-/
import Derived.Test.YtbjndcfdcjpkmaaNetOkI
namespace Go.Proofs.Ytbjndcfdcjpkmaa
open Go.ChangeShapes Go.WideShapes Go.ChangeAt Go.RowKit Go.Joins
set_option linter.unusedVariables false

theorem Pb.loadCells {w : World} {g : Nat} {P : Pv} (h : Pb w g P) : (loadCellsFrom ⟨g, 0, none⟩ 0 40 #[]).run Try.prog w = .ok (pvA P) w := by
  have := run_loadCells_list (P := Try.prog) w ⟨g, 0, none⟩ (pvA P).toList (fun j v hv => by
    rw [add_none, Nat.zero_add, cell_of_row _ _ _ _ _ _ h]
    simpa using hv)
  simpa [Go.loadCells, pvA_size] using this
theorem Pb.storeCells {w : World} {g : Nat} {P : Pv} (h : Pb w g P) (R : Pv) : (Go.storeCells ⟨g, 0, none⟩ (pvA R).toList).run Try.prog w = .ok () (w.setRow g (pvA R)) :=
  run_storeCells_from (P := Try.prog) g _ (pvA R).toList 0 _ w h (by rw [Array.length_toList, pvA_size, pvA_size]) (fun v hv => (Array.all_eq_true_iff_forall_mem.1 (pvA_one R)) v (by simpa using hv))

/-- One block holds the numbers, another one some numbers. -/
abbrev PairS (g z : Nat) (P : Pv) (w : World) : Prop := Pb w g P ∧ (∃ R, Pb w z R)
theorem pairLoad {ops : Array Oper} {op : Oper} {a : Act} {g z : Nat} {P : Pv} (hw : Region.wanted op (yielded ops a.tmps) = true) (x : Operand) (ho : op.op = .load 61 x) (hx : a.eval x = .pointer (some ⟨g, 0, none⟩)) :
    YieldsIf Try.prog ops (PairS g z P) op (.agg (pvA P)) a :=
  .inl ⟨hw, fun w hS => by
    unfold execOp
    simp only [ho, hx, Instr.loadAt, Instr.sureAddr, Sem.run_bind, Sem.run_pure, Result.andThen_ok, hS.1.load]⟩
theorem Pb.otherRow {w : World} {g z : Nat} {P : Pv} (h : Pb w g P) (hne : g ≠ z) (R : Pv) : Pb (w.setRow z (pvA R)) g P := by
  unfold Pb
  simp only [World.setRow]
  rw [Array.getElem?_modify, if_neg (fun e => hne e.symm)]
  exact h

theorem belSetRow {n g : Nat} {a w : World} {c : Array Value} (h : Below n a w) (hg : n ≤ g) : Below n a (w.setRow g c) := by
  refine ⟨h.os, h.tape, h.output, by simp [World.setRow]; exact h.size, fun k hk => ?_⟩
  rw [← h.block k hk]
  simp only [World.setRow]
  rw [Array.getElem?_modify, if_neg (by omega)]

set_option maxRecDepth 100000 in
set_option maxHeartbeats 4000000 in
theorem readNetPair_any (w : World) (v : Value) (l : List K4) (sw to : Int) (h : Lks w w.heap.size v l) :
    Calls Try.prog 41 #[v, .int .i64 sw, .int .i64 to] w fun e w' => ∃ P, e = .returned (.tuple #[.agg (pvA P), .bool (netB l && (swB sw && swB to))]) ∧ (netB l = true → P = pk l) ∧ Below w.heap.size w w' := by
  have HR : Hid (∀ W, Below w.heap.size w W → Calls Try.prog 49 #[v] W fun e w' => ∃ P, e = .returned (.tuple #[.agg (pvA P), .bool (netB l)]) ∧ (netB l = true → P = pk l) ∧ Below W.heap.size W w') := fun W hb => readNet_any W v l ((h.below hb (Nat.le_refl _)).mono hb.size)
  have HS := Lib.hid (fun W => switchOk_any sw W)
  have HT := Lib.hid (fun W => switchOk_any to W)
  clear h
  generalize netB l = ok at *
  generalize swB sw = o1 at *
  generalize swB to = o2 at *
  go_enter Try.func41, Try.ntmps41
  go_wp2_with (refine wl_alloc rfl rfl ?_)
  intro w1 p1 b1 s1
  have HB1 := Lib.hid b1
  go_wp2_with fail
  refine (HR.out _ HB1.out).mono ?_
  rintro e w2 ⟨P, rfl, hP, b2⟩
  have HPK := Lib.hid hP
  have HP1 := Lib.hid (p1.below b2 p1.lt)
  have HB2 := Lib.hid (belStep HB1.out b2)
  have hs2 : w.heap.size < w2.heap.size := Nat.lt_of_lt_of_le s1 b2.size
  clear b2 hP p1 HB1 b1 s1 HR
  go_wp2_with (refine wl_alloc rfl rfl ?_)
  intro w3 p3 b3 s3
  go_wp2_with (refine wl_store rfl _ _ rfl _ rfl _ _ rfl p3 ?_)
  intro w4 p4 g4
  have HP4 := Lib.hid p4
  have HZ4 := Lib.hid ((HP1.out.below b3 hs2).grown g4 (by omega))
  have HB4 := Lib.hid (belStep HB2.out (b3.trans (grownBel g4 (Nat.le_refl _) b3.size)))
  clear p3 b3 s3 p4 g4 HP1 HB2
  have HG : Hid (w.heap.size ≠ w2.heap.size) := by show _ ≠ _; omega
  have K0 : Hid (PairS w2.heap.size w.heap.size P w4.drew) := ⟨HP4.out, _, HZ4.out⟩
  have K1 : Hid (PairS w2.heap.size w.heap.size P (w4.drew.setRow w.heap.size (pvA P))) := ⟨HP4.out.otherRow HG.out.symm P, _, HZ4.out.row P⟩
  have hsz := pvA_size P
  cases ok
  · go_wp2_with fail
    refine wp_region_held_drew (S := PairS w2.heap.size w.heap.size P) (by kernel_rfl) K0.out (fun hHeld => ?_)
    refine wpAnyH_take (i := 0) (v := .agg (pvA P)) rfl (by kernel_rfl) (by kernel_rfl) (by kernel_rfl) (fun _ _ _ h => h) (pairLoad rfl _ rfl rfl) hHeld ?_
    simp [Act.put]
    refine wpAnyH_take (i := 1) (v := ?_) rfl (by kernel_rfl) (by kernel_rfl) (by kernel_rfl) (fun _ _ _ h => h) (Or.inl ⟨by rfl, ?_⟩) hHeld ?_
    rotate_left
    · intro w hw
      go_simp
      with_reducible rfl
    simp [Act.put]
    refine wpAnyH_take (i := 2) (v := ?_) rfl (by kernel_rfl) (by kernel_rfl) (by kernel_rfl) (fun _ _ _ h => h) (Or.inl ⟨by rfl, ?_⟩) hHeld ?_
    rotate_left
    · intro w hw
      go_simp
      with_reducible rfl
    simp [Act.put]
    refine wpAnyH_take (i := 3) (v := _) rfl (by kernel_rfl) (by kernel_rfl) (by kernel_rfl) (fun _ _ _ h => h) (Or.inr ⟨by rfl, rfl⟩) hHeld ?_
    simp [Act.put]
    refine wpAnyH_take (i := 4) (v := _) rfl (by kernel_rfl) (by kernel_rfl) (by kernel_rfl) (fun _ _ _ h => h) (Or.inr ⟨by rfl, rfl⟩) hHeld ?_
    simp [Act.put]
    refine wpAnyH_take (i := 5) (v := ?_) rfl (by kernel_rfl) (by kernel_rfl) (by kernel_rfl) (fun _ _ _ h => h) (Or.inl ⟨by rfl, ?_⟩) hHeld ?_
    rotate_left
    · intro w hw
      go_simp
      with_reducible rfl
    simp [Act.put]
    refine wpAnyH_take (i := 6) (v := ?_) rfl (by kernel_rfl) (by kernel_rfl) (by kernel_rfl) (fun _ _ _ h => h) (Or.inl ⟨by rfl, ?_⟩) hHeld ?_
    rotate_left
    · intro w hw
      go_simp
      with_reducible rfl
    simp [Act.put]
    refine wpAnyH_take (i := 7) (v := _) rfl (by kernel_rfl) (by kernel_rfl) (by kernel_rfl) (fun _ _ _ h => h) (Or.inr ⟨by rfl, rfl⟩) hHeld ?_
    simp [Act.put]
    refine wpAnyH_take (i := 8) (v := _) rfl (by kernel_rfl) (by kernel_rfl) (by kernel_rfl) (fun _ _ _ h => h) (Or.inr ⟨by rfl, rfl⟩) hHeld ?_
    simp [Act.put]
    refine wpAnyH_take (i := 9) (v := ?_) rfl (by kernel_rfl) (by kernel_rfl) (by kernel_rfl) (fun _ _ _ h => h) (Or.inl ⟨by rfl, ?_⟩) hHeld ?_
    rotate_left
    · intro w hw
      go_simp
      with_reducible rfl
    simp [Act.put]
    refine wpAnyH_ready (rs := [10]) (by kernel_rfl) (by simp) ?_
    refine AllReadyH.cons rfl (fun K hK => ?_) AllReadyH.nil
    rw [if_pos (by rfl)]
    refine wp_store_row _ _ _ rfl _ _ rfl rfl _ _ (show w4.drew.heap[w.heap.size]? = _ from HZ4.out) (by rw [infoP, pvA_size]) (by rw [pvA_size, pvA_size]) (pvA_one P) ?_
    refine hK.out _ _ K1.out (fun hHeld => ?_)
    clear hK K
    simp [Act.put]
    refine wpAnyH_take (i := 11) (v := ?_) rfl (by kernel_rfl) (by kernel_rfl) (by kernel_rfl) (fun _ _ _ h => h) (Or.inl ⟨by rfl, ?_⟩) hHeld ?_
    rotate_left
    · intro w hw
      go_simp
      with_reducible rfl
    simp [Act.put]
    refine wpAnyH_done (by kernel_rfl) ?_ _
    clear K0 K1
    have P9 : Hid (Pb (w4.drew.setRow w.heap.size (pvA P)) w.heap.size P) := Pb.row (w := w4.drew) HZ4.out P
    have B9 := Lib.hid (belSetRow (c := pvA P) HB4.out.drew (Nat.le_refl _))
    generalize w4.drew.setRow w.heap.size (pvA P) = W9 at *
    go_wp2
    exact bodyPost_ret (v := .tuple #[.agg (pvA P), .bool false]) (results_pb Try.results41 _ _ _ _ _ rfl rfl P9.out) rfl ⟨P, rfl, HPK.out, B9.out⟩
  · cases o1
    · go_wp2_with fail
      refine wp_region_held_drew (S := PairS w2.heap.size w.heap.size P) (by kernel_rfl) K0.out (fun hHeld => ?_)
      refine wpAnyH_take (i := 0) (v := .agg (pvA P)) rfl (by kernel_rfl) (by kernel_rfl) (by kernel_rfl) (fun _ _ _ h => h) (pairLoad rfl _ rfl rfl) hHeld ?_
      simp [Act.put]
      refine wpAnyH_take (i := 1) (v := ?_) rfl (by kernel_rfl) (by kernel_rfl) (by kernel_rfl) (fun _ _ _ h => h) (Or.inl ⟨by rfl, ?_⟩) hHeld ?_
      rotate_left
      · intro w hw
        go_simp
        with_reducible rfl
      simp [Act.put]
      refine wpAnyH_take (i := 2) (v := ?_) rfl (by kernel_rfl) (by kernel_rfl) (by kernel_rfl) (fun _ _ _ h => h) (Or.inl ⟨by rfl, ?_⟩) hHeld ?_
      rotate_left
      · intro w hw
        go_simp
        with_reducible rfl
      simp [Act.put]
      refine wpAnyH_take (i := 3) (v := ?_) rfl (by kernel_rfl) (by kernel_rfl) (by kernel_rfl) (fun _ _ _ h => h) (Or.inl ⟨by rfl, ?_⟩) hHeld ?_
      rotate_left
      · intro w hw
        go_simp
        with_reducible rfl
      simp [Act.put]
      refine wpAnyH_ready (rs := [4]) (by kernel_rfl) (by simp) ?_
      refine AllReadyH.cons rfl (fun K hK => ?_) AllReadyH.nil
      go_simp
      refine (HS.out _).mono ?_
      rintro e w' ⟨rfl, rfl⟩
      go_simp
      refine hK.out _ _ hHeld (fun hHeld => ?_)
      clear hK K
      refine wpAnyH_take (i := 5) (v := ?_) rfl (by kernel_rfl) (by kernel_rfl) (by kernel_rfl) (fun _ _ _ h => h) (Or.inl ⟨by rfl, ?_⟩) hHeld ?_
      rotate_left
      · intro w hw
        go_simp
        with_reducible rfl
      simp [Act.put]
      refine wpAnyH_take (i := 6) (v := ?_) rfl (by kernel_rfl) (by kernel_rfl) (by kernel_rfl) (fun _ _ _ h => h) (Or.inl ⟨by rfl, ?_⟩) hHeld ?_
      rotate_left
      · intro w hw
        go_simp
        with_reducible rfl
      simp [Act.put]
      refine wpAnyH_take (i := 7) (v := _) rfl (by kernel_rfl) (by kernel_rfl) (by kernel_rfl) (fun _ _ _ h => h) (Or.inr ⟨by rfl, rfl⟩) hHeld ?_
      simp [Act.put]
      refine wpAnyH_take (i := 8) (v := _) rfl (by kernel_rfl) (by kernel_rfl) (by kernel_rfl) (fun _ _ _ h => h) (Or.inr ⟨by rfl, rfl⟩) hHeld ?_
      simp [Act.put]
      refine wpAnyH_take (i := 9) (v := ?_) rfl (by kernel_rfl) (by kernel_rfl) (by kernel_rfl) (fun _ _ _ h => h) (Or.inl ⟨by rfl, ?_⟩) hHeld ?_
      rotate_left
      · intro w hw
        go_simp
        with_reducible rfl
      simp [Act.put]
      refine wpAnyH_ready (rs := [10]) (by kernel_rfl) (by simp) ?_
      refine AllReadyH.cons rfl (fun K hK => ?_) AllReadyH.nil
      rw [if_pos (by rfl)]
      refine wp_store_row _ _ _ rfl _ _ rfl rfl _ _ (show w4.drew.heap[w.heap.size]? = _ from HZ4.out) (by rw [infoP, pvA_size]) (by rw [pvA_size, pvA_size]) (pvA_one P) ?_
      refine hK.out _ _ K1.out (fun hHeld => ?_)
      clear hK K
      simp [Act.put]
      refine wpAnyH_take (i := 11) (v := ?_) rfl (by kernel_rfl) (by kernel_rfl) (by kernel_rfl) (fun _ _ _ h => h) (Or.inl ⟨by rfl, ?_⟩) hHeld ?_
      rotate_left
      · intro w hw
        go_simp
        with_reducible rfl
      simp [Act.put]
      refine wpAnyH_done (by kernel_rfl) ?_ _
      clear K0 K1
      have P9 : Hid (Pb (w4.drew.setRow w.heap.size (pvA P)) w.heap.size P) := Pb.row (w := w4.drew) HZ4.out P
      have B9 := Lib.hid (belSetRow (c := pvA P) HB4.out.drew (Nat.le_refl _))
      generalize w4.drew.setRow w.heap.size (pvA P) = W9 at *
      go_wp2
      exact bodyPost_ret (v := .tuple #[.agg (pvA P), .bool false]) (results_pb Try.results41 _ _ _ _ _ rfl rfl P9.out) rfl ⟨P, rfl, HPK.out trivial, B9.out⟩
    · go_wp2_with fail
      refine wp_region_held_drew (S := PairS w2.heap.size w.heap.size P) (by kernel_rfl) K0.out (fun hHeld => ?_)
      refine wpAnyH_take (i := 0) (v := .agg (pvA P)) rfl (by kernel_rfl) (by kernel_rfl) (by kernel_rfl) (fun _ _ _ h => h) (pairLoad rfl _ rfl rfl) hHeld ?_
      simp [Act.put]
      refine wpAnyH_take (i := 1) (v := ?_) rfl (by kernel_rfl) (by kernel_rfl) (by kernel_rfl) (fun _ _ _ h => h) (Or.inl ⟨by rfl, ?_⟩) hHeld ?_
      rotate_left
      · intro w hw
        go_simp
        with_reducible rfl
      simp [Act.put]
      refine wpAnyH_take (i := 2) (v := ?_) rfl (by kernel_rfl) (by kernel_rfl) (by kernel_rfl) (fun _ _ _ h => h) (Or.inl ⟨by rfl, ?_⟩) hHeld ?_
      rotate_left
      · intro w hw
        go_simp
        with_reducible rfl
      simp [Act.put]
      refine wpAnyH_take (i := 3) (v := ?_) rfl (by kernel_rfl) (by kernel_rfl) (by kernel_rfl) (fun _ _ _ h => h) (Or.inl ⟨by rfl, ?_⟩) hHeld ?_
      rotate_left
      · intro w hw
        go_simp
        with_reducible rfl
      simp [Act.put]
      refine wpAnyH_ready (rs := [4]) (by kernel_rfl) (by simp) ?_
      refine AllReadyH.cons rfl (fun K hK => ?_) AllReadyH.nil
      go_simp
      refine (HS.out _).mono ?_
      rintro e w' ⟨rfl, rfl⟩
      go_simp
      refine hK.out _ _ hHeld (fun hHeld => ?_)
      clear hK K
      refine wpAnyH_take (i := 5) (v := ?_) rfl (by kernel_rfl) (by kernel_rfl) (by kernel_rfl) (fun _ _ _ h => h) (Or.inl ⟨by rfl, ?_⟩) hHeld ?_
      rotate_left
      · intro w hw
        go_simp
        with_reducible rfl
      simp [Act.put]
      refine wpAnyH_take (i := 6) (v := ?_) rfl (by kernel_rfl) (by kernel_rfl) (by kernel_rfl) (fun _ _ _ h => h) (Or.inl ⟨by rfl, ?_⟩) hHeld ?_
      rotate_left
      · intro w hw
        go_simp
        with_reducible rfl
      simp [Act.put]
      refine wpAnyH_take (i := 7) (v := ?_) rfl (by kernel_rfl) (by kernel_rfl) (by kernel_rfl) (fun _ _ _ h => h) (Or.inl ⟨by rfl, ?_⟩) hHeld ?_
      rotate_left
      · intro w hw
        go_simp
        with_reducible rfl
      simp [Act.put]
      refine wpAnyH_ready (rs := [8]) (by kernel_rfl) (by simp) ?_
      refine AllReadyH.cons rfl (fun K hK => ?_) AllReadyH.nil
      go_simp
      refine (HT.out _).mono ?_
      rintro e w' ⟨rfl, rfl⟩
      go_simp
      refine hK.out _ _ hHeld (fun hHeld => ?_)
      clear hK K
      refine wpAnyH_take (i := 9) (v := ?_) rfl (by kernel_rfl) (by kernel_rfl) (by kernel_rfl) (fun _ _ _ h => h) (Or.inl ⟨by rfl, ?_⟩) hHeld ?_
      rotate_left
      · intro w hw
        go_simp
        with_reducible rfl
      simp [Act.put]
      refine wpAnyH_ready (rs := [10]) (by kernel_rfl) (by simp) ?_
      refine AllReadyH.cons rfl (fun K hK => ?_) AllReadyH.nil
      rw [if_pos (by rfl)]
      refine wp_store_row _ _ _ rfl _ _ rfl rfl _ _ (show w4.drew.heap[w.heap.size]? = _ from HZ4.out) (by rw [infoP, pvA_size]) (by rw [pvA_size, pvA_size]) (pvA_one P) ?_
      refine hK.out _ _ K1.out (fun hHeld => ?_)
      clear hK K
      simp [Act.put]
      refine wpAnyH_take (i := 11) (v := ?_) rfl (by kernel_rfl) (by kernel_rfl) (by kernel_rfl) (fun _ _ _ h => h) (Or.inl ⟨by rfl, ?_⟩) hHeld ?_
      rotate_left
      · intro w hw
        go_simp
        with_reducible rfl
      simp [Act.put]
      refine wpAnyH_done (by kernel_rfl) ?_ _
      clear K0 K1
      have P9 : Hid (Pb (w4.drew.setRow w.heap.size (pvA P)) w.heap.size P) := Pb.row (w := w4.drew) HZ4.out P
      have B9 := Lib.hid (belSetRow (c := pvA P) HB4.out.drew (Nat.le_refl _))
      generalize w4.drew.setRow w.heap.size (pvA P) = W9 at *
      go_wp2
      exact bodyPost_ret (v := .tuple #[.agg (pvA P), .bool o2]) (results_pb Try.results41 _ _ _ _ _ rfl rfl P9.out) rfl ⟨P, rfl, HPK.out trivial, B9.out⟩

end Go.Proofs.Ytbjndcfdcjpkmaa
