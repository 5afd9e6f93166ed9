/-
  Nets, the program: a port is free, or not; links are read into forty numbers.
  Nets, the program: links are read into forty numbers.
-/
import Derived.Test.YtjjhahhchimmlaaGreatDoorNetBase
import Derived.Deep.WholeRow

namespace Go.Proofs.YtjjhahhchimmlaaGreatDoor
open Go.ChangeShapes Go.WideShapes Go.ChangeAt Go.RowKit Go.Joins
set_option linter.unusedVariables false

set_option maxHeartbeats 400000 in
theorem switchOk_any (n : Int) (w : World) :
    Calls Tryz.prog 54 #[.int .i64 n] w fun e w' => e = .returned (.bool (swB n)) ∧ w = w' := by
  unfold swB inB
  by_cases h0 : 1 ≤ n
  · by_cases h3 : n ≤ 4
    · go_enter Tryz.func54, Tryz.ntmps54
      go_wp2
      go_ret
      exact ⟨by simp [h0, h3], rfl⟩
    · have h3' : decide (n ≤ 4) = false := by simpa using h3
      go_enter Tryz.func54, Tryz.ntmps54
      go_wp2
      go_ret
      exact ⟨by simp, rfl⟩
  · have h0' : decide (1 ≤ n) = false := by simpa using h0
    go_enter Tryz.func54, Tryz.ntmps54
    go_wp2
    go_ret
    exact ⟨by simp, rfl⟩

set_option maxHeartbeats 400000 in
theorem linkPortOk_any (n : Int) (w : World) :
    Calls Tryz.prog 75 #[.int .i64 n] w fun e w' => e = .returned (.bool (ptB n)) ∧ w = w' := by
  unfold ptB inB
  by_cases h0 : 1 ≤ n
  · by_cases h3 : n ≤ 3
    · go_enter Tryz.func75, Tryz.ntmps75
      go_wp2
      go_ret
      exact ⟨by simp [h0, h3], rfl⟩
    · have h3' : decide (n ≤ 3) = false := by simpa using h3
      go_enter Tryz.func75, Tryz.ntmps75
      go_wp2
      go_ret
      exact ⟨by simp, rfl⟩
  · have h0' : decide (1 ≤ n) = false := by simpa using h0
    go_enter Tryz.func75, Tryz.ntmps75
    go_wp2
    go_ret
    exact ⟨by simp, rfl⟩

theorem sw_nat {n : Int} (h : swB n = true) : ∃ s : Nat, n = (s : Int) ∧ 1 ≤ s ∧ s ≤ 4 := by
  obtain ⟨h0, h1⟩ := inB_true h
  exact ⟨n.toNat, by omega, by omega, by omega⟩
theorem pt_nat {n : Int} (h : ptB n = true) : ∃ s : Nat, n = (s : Int) ∧ 1 ≤ s ∧ s ≤ 3 := by
  obtain ⟨h0, h1⟩ := inB_true h
  exact ⟨n.toNat, by omega, by omega, by omega⟩

theorem duoAt {w : World} {t : TypeId} {a b : Value} : (w.alloc (.cells #[a, b] t)).cell? ⟨w.heap.size, 0, none⟩ = some a ∧ (w.alloc (.cells #[a, b] t)).cell? ⟨w.heap.size, 1, none⟩ = some b ∧ w.heap.size < (w.alloc (.cells #[a, b] t)).heap.size := by
  refine ⟨by simp [go_sem], by simp [go_sem], by simp⟩

set_option maxHeartbeats 2000000 in
theorem free_any (P : Pv) (g : Nat) (sw port : Int) (w : World) (h : Pb w g P) :
    Calls Tryz.prog 67 #[.pointer (some ⟨g, 0, none⟩), .agg #[.int .i64 sw, .int .i64 port]] w fun e w' => e = .returned (.bool (frB P sw port)) ∧ Below w.heap.size w w' := by
  have HS := Lib.hid (fun W => switchOk_any sw W)
  have HT := Lib.hid (fun W => linkPortOk_any port W)
  have hb := below_alloc1 w (.cells #[.int .i64 sw, .int .i64 port] 65)
  obtain ⟨d0, d1, d2⟩ := duoAt (w := w) (t := 65) (a := .int .i64 sw) (b := .int .i64 port)
  have hp := h.below hb h.lt
  have hg := hp.lt
  have q0 := fun m : Ext (w.alloc (.cells #[.int .i64 sw, .int .i64 port] 65)) => m.cell d2 d0
  have q1 := fun m : Ext (w.alloc (.cells #[.int .i64 sw, .int .i64 port] 65)) => m.cell d2 d1
  have HQ : Hid (∀ i, i < 40 → ∀ m : Ext (w.alloc (.cells #[.int .i64 sw, .int .i64 port] 65)), m.W.cell? ⟨g, i, none⟩ = some (.int .i64 (P i))) := fun i hi m => m.cell hg (hp.cell hi)
  have HB := Lib.hid hb
  clear hp hg hb h d0 d1 d2
  cases h1 : swB sw
  · rw [h1] at HS
    rw [show frB P sw port = false from by simp [frB, h1]]
    clear HQ h1
    go_enter Tryz.func67, Tryz.ntmps67
    go_wp2
    generalize (w.alloc (.cells #[.int .i64 sw, .int .i64 port] 65)) = W at *
    refine wp_region_ext (w0 := W) (by kernel_rfl) (by kernel_rfl) (Below.refl _ _) ?_
    repeat (go_big_quiet_step (first | (go_at_call 54; exact ext_same (HS.out _)) | (go_at_call 75; exact ext_same (HT.out _))))
    refine wpQuiet_nil ?_
    intro w1 hx
    have b1 := ext_out hx
    go_wp2
    go_ret
    exact ⟨rfl, belStep HB.out b1⟩
  · cases h2 : ptB port
    · rw [h1] at HS
      rw [h2] at HT
      rw [show frB P sw port = false from by simp [frB, h2]]
      clear HQ h1 h2
      go_enter Tryz.func67, Tryz.ntmps67
      go_wp2
      generalize (w.alloc (.cells #[.int .i64 sw, .int .i64 port] 65)) = W at *
      refine wp_region_ext (w0 := W) (by kernel_rfl) (by kernel_rfl) (Below.refl _ _) ?_
      repeat (go_big_quiet_step (first | (go_at_call 54; exact ext_same (HS.out _)) | (go_at_call 75; exact ext_same (HT.out _))))
      refine wpQuiet_nil ?_
      intro w1 hx
      have b1 := ext_out hx
      go_wp2
      go_ret
      exact ⟨rfl, belStep HB.out b1⟩
    · have HF : Hid (frB P sw port = (P (sw.toNat * 8 + port.toNat * 2) == 0 && P (sw.toNat * 8 + port.toNat * 2 + 1) == 0)) := by
        show _ = _
        simp [frB, h1, h2]
      obtain ⟨s, rfl, s1, s4⟩ := sw_nat h1
      obtain ⟨t, rfl, t1, t4⟩ := pt_nat h2
      rw [h1] at HS
      rw [h2] at HT
      have r0 := HQ.out (s * 8 + t * 2) (by omega)
      have r1 := HQ.out (s * 8 + t * 2 + 1) (by omega)
      rw [HF.out]
      simp only [Int.toNat_natCast]
      generalize P (s * 8 + t * 2) = x at *
      generalize P (s * 8 + t * 2 + 1) = y at *
      have z5 : (s : Int) < 5 := by omega
      have z3 : (t : Int) < 4 := by omega
      clear HQ h1 h2 HF
      have hxy : (x == 0 && y == 0) = true ∧ x = 0 ∧ y = 0 ∨ (x == 0 && y == 0) = false ∧ (x ≠ 0 ∨ (x = 0 ∧ y ≠ 0)) := by
        by_cases hx : x = 0 <;> by_cases hy : y = 0 <;> simp [hx, hy]
      rcases hxy with ⟨he, rfl, rfl⟩ | ⟨he, hx | ⟨rfl, hy⟩⟩
      all_goals
       rw [he]
       clear he
       go_enter Tryz.func67, Tryz.ntmps67
       go_wp2
       generalize (w.alloc (.cells #[.int .i64 (s : Int), .int .i64 (t : Int)] 65)) = W at *
       refine wp_region_ext (w0 := W) (by kernel_rfl) (by kernel_rfl) (Below.refl _ _) ?_
       repeat (go_big_quiet_step (first | (go_at_call 54; exact ext_same (HS.out _)) | (go_at_call 75; exact ext_same (HT.out _))))
       refine wpQuiet_nil ?_
       intro w1 hx
       have b1 := ext_out hx
       go_wp2
       go_ret
       exact ⟨rfl, belStep HB.out b1⟩

end Go.Proofs.YtjjhahhchimmlaaGreatDoor

namespace Go.Proofs.YtjjhahhchimmlaaGreatDoor
open Go.ChangeShapes Go.WideShapes Go.ChangeAt Go.RowKit Go.Joins
set_option linter.unusedVariables false

theorem infoP : (Tryz.prog.info? 68).map (·.size) = some 40 := by kernel_rfl
theorem infoPz : (Tryz.prog.info? 68).map (·.zero) = some (some (.agg (pvA pz))) := by kernel_rfl
theorem Pb.load {w : World} {g : Nat} {P : Pv} (h : Pb w g P) : (loadVar 68 ⟨g, 0, none⟩).run Tryz.prog w = .ok (.agg (pvA P)) w :=
  run_loadVar_row w g _ _ _ _ _ h Tryz.underlying68 rfl (by rw [infoP, pvA_size])
theorem Pb.row {w : World} {g : Nat} {P : Pv} (h : Pb w g P) (R : Pv) : Pb (w.setRow g (pvA R)) g R := setRow_heap w g _ _ _ _ h

/-- A variable of forty numbers is made. -/
theorem wl_alloc {ops : Array Oper} {rest : List Oper} {o : Oper} {a : Act} {w : World} {Q : Exit → Act → World → Prop} (hgd : o.guard = none) (ho : o.op = .alloc 68)
    (h : ∀ w', Pb w' w.heap.size pz → Below w.heap.size w w' → w.heap.size < w'.heap.size → wpList Tryz.prog ops Q rest (a.put o.dst (.pointer (some ⟨w.heap.size, 0, none⟩))) w') : wpList Tryz.prog ops Q (o :: rest) a w := by
  refine wpList_plain hgd fun K hK => ?_
  have hz := infoPz
  cases hq : Tryz.prog.info? 68 with
  | none => rw [hq] at hz; simp at hz
  | some i =>
    rw [hq] at hz
    have hz' : i.zero = some (.agg (pvA pz)) := by simpa using hz
    have hP : Pb (w.alloc (.cells (pvA pz) 68)) w.heap.size pz := by
      exact heap_alloc_last w _
    have := hK _ _ (h _ hP (below_alloc1 _ _) (by simp))
    unfold Oper.wp execOp
    simp [ho, Instr.alloc, zeroValue, typeInfo, Sem.run_bind, hq, hz', go_sem, newVar, newRow, Value.cells, Result.andThen]
    exact this
/-- It is read whole. -/
theorem wl_load {ops : Array Oper} {rest : List Oper} {o : Oper} {a : Act} {w : World} {Q : Exit → Act → World → Prop} (hgd : o.guard = none) (x : Operand) (ho : o.op = .load 68 x) (g : Nat) (hx : a.eval x = .pointer (some ⟨g, 0, none⟩)) (P : Pv) (hp : Pb w g P)
    (h : wpList Tryz.prog ops Q rest (a.put o.dst (.agg (pvA P))) w) : wpList Tryz.prog ops Q (o :: rest) a w :=
  wpList_load_row hgd _ x ho g hx _ _ _ _ hp Tryz.underlying68 rfl (by rw [infoP, pvA_size]) h
/-- It is written whole. -/
theorem wl_store {ops : Array Oper} {rest : List Oper} {o : Oper} {a : Act} {w : World} {Q : Exit → Act → World → Prop} (hgd : o.guard = none) (x y : Operand) (ho : o.op = .store 68 x y) (g : Nat) (hx : a.eval x = .pointer (some ⟨g, 0, none⟩)) (R P : Pv) (hy : a.eval y = .agg (pvA R)) (hp : Pb w g P)
    (h : ∀ w', Pb w' g R → w.grownBy w' (some g) → wpList Tryz.prog ops Q rest (a.put o.dst undef) w') : wpList Tryz.prog ops Q (o :: rest) a w := by
  refine wpList_store_row hgd _ x y ho g (pvA R) hx hy _ _ hp (by rw [infoP, pvA_size]) (by rw [pvA_size, pvA_size]) (pvA_one R) (h _ (hp.row R) ⟨rfl, rfl, rfl, by simp [World.setRow], fun k hk hne => ?_⟩)
  simp only [World.setRow]
  rw [Array.getElem?_modify, if_neg (fun e => hne (by rw [e]))]

theorem grownBel {a w : World} {g n : Nat} (h : a.grownBy w (some g)) (hg : n ≤ g) (hn : n ≤ a.heap.size) : Below n a w :=
  ⟨h.os, h.tape, h.output, h.size, fun k hk => h.block k (by omega) (fun e => by cases e; omega)⟩
theorem Pb.grown {a w : World} {g k : Nat} {P : Pv} (hp : Pb a k P) (h : a.grownBy w (some g)) (hne : k ≠ g) : Pb w k P := (h.block k hp.lt (fun e => hne (by cases e; rfl))).trans hp

theorem quadAt {w : World} {t : TypeId} {a b c d : Value} : (w.alloc (.cells #[a, b, c, d] t)).cell? ⟨w.heap.size, 0, none⟩ = some a ∧ (w.alloc (.cells #[a, b, c, d] t)).cell? ⟨w.heap.size, 1, none⟩ = some b ∧ (w.alloc (.cells #[a, b, c, d] t)).cell? ⟨w.heap.size, 2, none⟩ = some c ∧ (w.alloc (.cells #[a, b, c, d] t)).cell? ⟨w.heap.size, 3, none⟩ = some d ∧ (w.alloc (.cells #[a, b, c, d] t)).heap.size = w.heap.size + 1 := by
  refine ⟨by simp [go_sem], by simp [go_sem], by simp [go_sem], by simp [go_sem], by simp⟩

/-- Two ends in blocks of their own, whichever was made first. -/
structure Ends (W Z : World) (ga gb : Nat) (A B C D : Int) : Prop where
  a : Z.heap[ga]? = some (.cells #[.int .i64 A, .int .i64 B] 65)
  b : Z.heap[gb]? = some (.cells #[.int .i64 C, .int .i64 D] 65)
  la : W.heap.size ≤ ga
  lb : W.heap.size ≤ gb
  bel : Below W.heap.size W Z
theorem twoEnds {W : World} {n : Nat} (A B C D : Int) (h : W.heap.size = n + 1) :
    Ends W ((W.alloc (.cells #[.int .i64 A, .int .i64 B] 65)).alloc (.cells #[.int .i64 C, .int .i64 D] 65)).drew (n + 1) (n + 1 + 1) A B C D ∧
    Ends W ((W.alloc (.cells #[.int .i64 C, .int .i64 D] 65)).alloc (.cells #[.int .i64 A, .int .i64 B] 65)).drew (n + 1 + 1) (n + 1) A B C D := by
  rw [← h]
  have k : ∀ (o o' : Obj), ((W.alloc o).alloc o').drew.heap[W.heap.size]? = some o ∧ ((W.alloc o).alloc o').drew.heap[W.heap.size + 1]? = some o' := fun o o' => by
    refine ⟨(Below.heap_alloc _ _ _ (by simp)).trans (heap_alloc_last W o), ?_⟩
    have := heap_alloc_last (W.alloc o) o'
    rwa [World.size_alloc] at this
  exact ⟨⟨(k _ _).1, (k _ _).2, Nat.le_refl _, Nat.le_succ _, (below_alloc2 _ _ _).drew⟩, ⟨(k _ _).2, (k _ _).1, Nat.le_succ _, Nat.le_refl _, (below_alloc2 _ _ _).drew⟩⟩

theorem Ends.below {W Z Z' : World} {ga gb : Nat} {A B C D : Int} (h : Ends W Z ga gb A B C D) (hb : Below Z.heap.size Z Z') : Ends W Z' ga gb A B C D :=
  ⟨(hb.block _ (Array.getElem?_eq_some_iff.1 h.a).1).trans h.a, (hb.block _ (Array.getElem?_eq_some_iff.1 h.b).1).trans h.b, h.la, h.lb, belStep h.bel hb⟩
theorem duoIn {w : World} {g : Nat} {x y : Value} {t : TypeId} (h : w.heap[g]? = some (.cells #[x, y] t)) : w.cell? ⟨g, 0, none⟩ = some x ∧ w.cell? ⟨g, 1, none⟩ = some y :=
  ⟨by rw [cell_of_row w g 0 _ _ _ h]; rfl, by rw [cell_of_row w g 1 _ _ _ h]; rfl⟩

theorem ixSw (g s : Nat) (W : World) (h : (s : Int) < 5) : (Instr.indexAt 68 (.pointer (some ⟨g, 0, none⟩)) (.int .i64 (s : Int))).run Tryz.prog W = .ok (.pointer (some ⟨g, s * 8, none⟩)) W := by
  have h0 : (0 : Int) ≤ (s : Int) := by omega
  simp [go_sem, h, h0]
theorem ixPt (g o t : Nat) (W : World) (h : (t : Int) < 4) : (Instr.indexAt 66 (.pointer (some ⟨g, o, none⟩)) (.int .i64 (t : Int))).run Tryz.prog W = .ok (.pointer (some ⟨g, o + t * 2, none⟩)) W := by
  have h0 : (0 : Int) ≤ (t : Int) := by omega
  simp [go_sem, h, h0]

theorem Pb.far {w : World} {k g : Nat} {P : Pv} (h : Pb w k P) (hne : k ≠ g) (o : Nat) (u : Value) : Pb (w.setCell ⟨g, o, none⟩ u) k P := (Below.heap_setCell _ _ _ _ (by dsimp only; omega)).trans h
theorem drewCell (W : World) (a : Addr) : W.drew.cell? a = W.cell? a := rfl
theorem farCell {g k : Nat} (h : k ≠ g) (W : World) (o o' : Nat) (u : Value) : (W.setCell ⟨g, o, none⟩ u).cell? ⟨k, o', none⟩ = W.cell? ⟨k, o', none⟩ :=
  World.cell?_setCell_other _ _ _ _ (fun e => h (by injection e with e1; exact e1.symm))

theorem results_pb {fn : Func} {p q : Tmp} (h : fn.results = #[.cell p 68, .tmp q]) (tmps : Array Value) (w : World) (g : Nat) (P : Pv) (b : Bool) (hp : tmps[p]?.getD undef = .pointer (some ⟨g, 0, none⟩)) (hq : tmps[q]?.getD undef = .bool b) (hP : Pb w g P) :
    (results fn tmps).run Tryz.prog w = .ok (.tuple #[.agg (pvA P), .bool b]) w := by
  simp [results, h, hp, hq, asAddr, hP.load]

set_option maxRecDepth 100000 in
set_option maxHeartbeats 8000000 in
theorem readNet_any (w : World) (v : Value) (l : List K4) (h : Lks w w.heap.size v l) :
    Calls Tryz.prog 52 #[v] w fun e w' => ∃ P, e = .returned (.tuple #[.agg (pvA P), .bool (netB l)]) ∧ (netB l = true → P = pk l) ∧ Below w.heap.size w w' := by
  obtain ⟨a, cap, rfl, hc, hm, hh⟩ := h
  have HH := Lib.hid hh
  clear hh
  unfold maxLen at hm
  generalize hN : l.length = n at *
  by_cases h6 : 6 < n
  · have hz : (6 : Int) < (n : Int) := by omega
    have HF : Hid (netB l = false) := by show _ = _; simp [netB, hN]; omega
    rw [HF.out]
    go_enter Tryz.func52, Tryz.ntmps52
    go_wp2_with (refine wl_alloc rfl rfl ?_)
    intro w1 p1 b1 s1
    go_wp2_with (refine wl_alloc rfl rfl ?_)
    intro w2 p2 b2 s2
    go_wp2_with (first | refine wl_load rfl _ rfl _ rfl _ p2 ?_ | refine wl_store rfl _ _ rfl _ rfl _ _ rfl (p1.below b2 s1) ?_)
    intro w3 p3 g3
    go_wp2
    refine bodyPost_ret (v := .tuple #[.agg (pvA pz), .bool false]) (results_pb Tryz.results52 _ _ _ _ _ rfl rfl p3) rfl ⟨pz, rfl, (fun h => by cases h), ?_⟩
    exact (belStep b1 b2).trans (grownBel g3 (Nat.le_refl _) (Nat.le_trans b1.size b2.size))
  · have hz : ¬ (6 : Int) < (n : Int) := by omega
    have HE : Hid (netB l = okF pz l) := by
      show _ = _
      simp [netB, hN]
      omega
    go_enter Tryz.func52, Tryz.ntmps52
    go_wp2_with (refine wl_alloc rfl rfl ?_)
    intro w1 p1 b1 s1
    go_wp2_with (refine wl_alloc rfl rfl ?_)
    intro w2 p2 b2 s2
    have P1 := Lib.hid (p1.below b2 s1)
    have P2 := Lib.hid p2
    have B2 := Lib.hid (belStep b1 b2)
    clear p1 p2 b1 b2
    go_wp2_with fail
    go_loopw [15] (fun i wr => ∃ (k : Nat) (P : Pv), k ≤ n ∧ i = .int .i64 k ∧ Pb wr w1.heap.size P ∧ Pb wr w.heap.size pz ∧ okF P (l.drop k) = okF pz l ∧ (l.drop k).foldl rdSet P = pk l ∧ Below w.heap.size w wr) (fun i _ => n - (intOf i).toNat)
    case atStart => exact ⟨0, pz, Nat.zero_le _, rfl, P2.out, P1.out, rfl, rfl, B2.out⟩
    case round =>
      obtain ⟨k, P, hk, rfl, hp, hp0, hok, hpk, hbel⟩ := hrel
      by_cases hlt : k < n
      · have hkz : (k : Int) < (n : Int) := by omega
        rcases HH.out with h1 | ⟨b, off, rfl, hb, hcell⟩
        · rw [h1] at hN; simp at hN; omega
        obtain ⟨c0, c1, c2, c3⟩ := (hcell k hlt).below hbel hb
        clear hcell
        rw [okF_drop (by omega)] at hok
        rw [pk_drop (by omega)] at hpk
        have HOK := Lib.hid hok
        have HPK := Lib.hid hpk
        have HP := Lib.hid hp
        have HP0 := Lib.hid hp0
        have HBL := Lib.hid hbel
        have hbr : b < wr.heap.size := Nat.lt_of_lt_of_le hb hbel.size
        clear hok hpk hp hp0 hbel
        generalize lkAt l k = x at *
        obtain ⟨A, B, C, D⟩ := x
        dsimp only at c0 c1 c2 c3
        obtain ⟨d0, d1, d2, d3, hsz⟩ := quadAt (w := wr) (t := 58) (a := .int .i64 A) (b := .int .i64 B) (c := .int .i64 C) (d := .int .i64 D)
        have HB1 := Lib.hid (below_alloc1 wr (.cells #[.int .i64 A, .int .i64 B, .int .i64 C, .int .i64 D] 58))
        go_wp2_with fail
        clear c0 c1 c2 c3
        generalize (wr.alloc (.cells #[.int .i64 A, .int .i64 B, .int .i64 C, .int .i64 D] 58)) = W at *
        have HSZ := Lib.hid hsz
        have F1 := Lib.hid (twoEnds (W := W) (n := wr.heap.size) A B C D hsz).1
        have F2 := Lib.hid (twoEnds (W := W) (n := wr.heap.size) A B C D hsz).2
        have HK : Hid (∀ w', Below W.heap.size W w' → w'.cell? ⟨wr.heap.size, 0, none⟩ = some (.int .i64 A) ∧ w'.cell? ⟨wr.heap.size, 1, none⟩ = some (.int .i64 B) ∧ w'.cell? ⟨wr.heap.size, 2, none⟩ = some (.int .i64 C) ∧ w'.cell? ⟨wr.heap.size, 3, none⟩ = some (.int .i64 D)) := fun w' hb =>
          have hl : wr.heap.size < W.heap.size := by omega
          ⟨(belCell hb _ _ hl).trans d0, (belCell hb _ _ hl).trans d1, (belCell hb _ _ hl).trans d2, (belCell hb _ _ hl).trans d3⟩
        go_region_held3 (fun w' => w'.cell? ⟨wr.heap.size, 0, none⟩ = some (.int .i64 A) ∧ w'.cell? ⟨wr.heap.size, 1, none⟩ = some (.int .i64 B) ∧ w'.cell? ⟨wr.heap.size, 2, none⟩ = some (.int .i64 C) ∧ w'.cell? ⟨wr.heap.size, 3, none⟩ = some (.int .i64 D))
          (first | assumption | exact HK.out _ (Below.refl _ _).drew | exact HK.out _ ((Below.refl _ _).drew.alloc (Nat.le_refl _) _) | exact HK.out _ (((Below.refl _ _).drew.alloc (Nat.le_refl _) _).alloc (by simp) _))
          (fail)
        generalize ((W.alloc (.cells #[.int .i64 A, .int .i64 B] 65)).alloc (.cells #[.int .i64 C, .int .i64 D] 65)).drew = Z at *
        generalize wr.heap.size + 1 + 1 = gb at *
        generalize wr.heap.size + 1 = ga at *
        have F := F1
        clear F1 F2
        rotate_left
        generalize ((W.alloc (.cells #[.int .i64 C, .int .i64 D] 65)).alloc (.cells #[.int .i64 A, .int .i64 B] 65)).drew = Z at *
        generalize wr.heap.size + 1 + 1 = ga at *
        generalize wr.heap.size + 1 = gb at *
        have F := F2
        clear F1 F2
        all_goals
          have hBZ := belStep HB1.out F.out.bel
          have PZ := Lib.hid (HP.out.below hBZ HP.out.lt)
          have PZ0 := Lib.hid (HP0.out.below hBZ HP0.out.lt)
          have BZ := Lib.hid (belStep HBL.out hBZ)
          have hga : w1.heap.size < ga := Nat.lt_of_lt_of_le HP.out.lt (Nat.le_trans HB1.out.size F.out.la)
          have hgb : w1.heap.size < gb := Nat.lt_of_lt_of_le HP.out.lt (Nat.le_trans HB1.out.size F.out.lb)
          have hg1 : w.heap.size ≤ w1.heap.size := Nat.le_of_lt s1
          clear HK hBZ HB1 HP HP0 HBL HSZ d0 d1 d2 d3 hsz P1 P2 B2
          obtain ⟨a0, a1⟩ := duoIn F.out.a
          obtain ⟨b0, b1⟩ := duoIn F.out.b
          by_cases hAC : A = C
          · have HNB : Hid (netB l = false) := by
              show _ = _
              rw [HE.out, ← HOK.out]
              simp [rdOk, hAC]
            clear HE HOK HPK
            subst hAC
            go_wp2_with (first | refine wl_load rfl _ rfl _ rfl _ PZ.out ?_ | refine wl_store rfl _ _ rfl _ rfl _ _ rfl PZ0.out ?_)
            intro w9 p9 g9
            go_wp2
            refine bodyPost_ret (v := .tuple #[.agg (pvA P), .bool false]) (results_pb Tryz.results52 _ _ _ _ _ rfl rfl p9) rfl ⟨P, by rw [HNB.out], (fun h => by rw [HNB.out] at h; cases h), ?_⟩
            exact BZ.out.trans (grownBel g9 (Nat.le_refl _) BZ.out.size)
          · have hAC' : (A == C) = false := by simpa using hAC
            cases hfa : frB P A B
            · have HNB : Hid (netB l = false) := by
                show _ = _
                rw [HE.out, ← HOK.out]
                simp [rdOk, hfa]
              clear HE HOK HPK
              go_wp2_with fail
              refine (free_any P _ A B _ PZ.out).mono ?_
              rw [hfa]
              rintro e w4 ⟨rfl, b4⟩
              have PZ0' := Lib.hid (PZ0.out.below b4 PZ0.out.lt)
              have PZ' := Lib.hid (PZ.out.below b4 PZ.out.lt)
              have BZ' := Lib.hid (belStep BZ.out b4)
              clear PZ0 PZ BZ b4 a0 a1 b0 b1
              go_wp2_with (first | refine wl_load rfl _ rfl _ rfl _ PZ'.out ?_ | refine wl_store rfl _ _ rfl _ rfl _ _ rfl PZ0'.out ?_)
              intro w9 p9 g9
              go_wp2
              refine bodyPost_ret (v := .tuple #[.agg (pvA P), .bool false]) (results_pb Tryz.results52 _ _ _ _ _ rfl rfl p9) rfl ⟨P, by rw [HNB.out], (fun h => by rw [HNB.out] at h; cases h), ?_⟩
              exact BZ'.out.trans (grownBel g9 (Nat.le_refl _) BZ'.out.size)
            · go_wp2_with fail
              refine (free_any P _ A B _ PZ.out).mono ?_
              rw [hfa]
              rintro e w4 ⟨rfl, b4⟩
              have PZ0' := Lib.hid (PZ0.out.below b4 PZ0.out.lt)
              have PZ' := Lib.hid (PZ.out.below b4 PZ.out.lt)
              have BZ' := Lib.hid (belStep BZ.out b4)
              have F' := Lib.hid (F.out.below b4)
              clear PZ0 PZ BZ b4 F a0 a1 b0 b1
              obtain ⟨a0, a1⟩ := duoIn F'.out.a
              obtain ⟨b0, b1⟩ := duoIn F'.out.b
              cases hfb : frB P C D
              · have HNB : Hid (netB l = false) := by
                  show _ = _
                  rw [HE.out, ← HOK.out]
                  simp [rdOk, hfb]
                clear HE HOK HPK
                go_wp2_with fail
                refine (free_any P _ C D _ PZ'.out).mono ?_
                rw [hfb]
                rintro e w5 ⟨rfl, b5⟩
                have PZ5' := Lib.hid (PZ0'.out.below b5 PZ0'.out.lt)
                have PZ5 := Lib.hid (PZ'.out.below b5 PZ'.out.lt)
                have BZ5 := Lib.hid (belStep BZ'.out b5)
                clear PZ0' PZ' BZ' b5 F' a0 a1 b0 b1
                go_wp2_with (first | refine wl_load rfl _ rfl _ rfl _ PZ5.out ?_ | refine wl_store rfl _ _ rfl _ rfl _ _ rfl PZ5'.out ?_)
                intro w9 p9 g9
                go_wp2
                refine bodyPost_ret (v := .tuple #[.agg (pvA P), .bool false]) (results_pb Tryz.results52 _ _ _ _ _ rfl rfl p9) rfl ⟨P, by rw [HNB.out], (fun h => by rw [HNB.out] at h; cases h), ?_⟩
                exact BZ5.out.trans (grownBel g9 (Nat.le_refl _) BZ5.out.size)
              · go_wp2_with fail
                refine (free_any P _ C D _ PZ'.out).mono ?_
                rw [hfb]
                rintro e w5 ⟨rfl, b5⟩
                have PZ5' := Lib.hid (PZ0'.out.below b5 PZ0'.out.lt)
                have PZ5 := Lib.hid (PZ'.out.below b5 PZ'.out.lt)
                have BZ5 := Lib.hid (belStep BZ'.out b5)
                have F5 := Lib.hid (F'.out.below b5)
                clear PZ0' PZ' BZ' b5 F' a0 a1 b0 b1
                obtain ⟨a0, a1⟩ := duoIn F5.out.a
                obtain ⟨b0, b1⟩ := duoIn F5.out.b
                have HRO : Hid (rdOk P ⟨A, B, C, D⟩ = true) := by
                  show _ = _
                  simp [rdOk, hAC, hfa, hfb]
                simp only [frB, Bool.and_eq_true] at hfa hfb
                obtain ⟨sa, rfl, sa1, sa4⟩ := sw_nat hfa.1
                obtain ⟨ta, rfl, ta1, ta4⟩ := pt_nat hfa.2.1
                obtain ⟨sb, rfl, sb1, sb4⟩ := sw_nat hfb.1
                obtain ⟨tb, rfl, tb1, tb4⟩ := pt_nat hfb.2.1
                clear hfa hfb
                have i1 : (sa : Int) < 5 := by omega
                have i2 : (ta : Int) < 4 := by omega
                have i3 : (sb : Int) < 5 := by omega
                have i4 : (tb : Int) < 4 := by omega
                have hne : sa ≠ sb := by omega
                have j1 : (0 : Int) ≤ (sa : Int) := by omega
                have j2 : (0 : Int) ≤ (ta : Int) := by omega
                have j3 : (0 : Int) ≤ (sb : Int) := by omega
                have j4 : (0 : Int) ≤ (tb : Int) := by omega
                have c0 := PZ5.out.cell (show sa * 8 + ta * 2 < 40 by omega)
                have c1 := PZ5.out.cell (show sa * 8 + ta * 2 + 1 < 40 by omega)
                have c2 := PZ5.out.cell (show sb * 8 + tb * 2 < 40 by omega)
                have c3 := PZ5.out.cell (show sb * 8 + tb * 2 + 1 < 40 by omega)
                have fz := PZ5.out.frozen
                have n1 : ¬ sa * 8 + ta * 2 = sb * 8 + tb * 2 := by omega
                have n2 : ¬ sa * 8 + ta * 2 + 1 = sb * 8 + tb * 2 := by omega
                have n3 : ¬ sa * 8 + ta * 2 = sb * 8 + tb * 2 + 1 := by omega
                have HPP : Hid (∀ W, Pb W w1.heap.size P → Pb ((((W.setCell ⟨w1.heap.size, sa * 8 + ta * 2, none⟩ (.int .i64 sb)).setCell ⟨w1.heap.size, sa * 8 + ta * 2 + 1, none⟩ (.int .i64 tb)).setCell ⟨w1.heap.size, sb * 8 + tb * 2, none⟩ (.int .i64 sa)).setCell ⟨w1.heap.size, sb * 8 + tb * 2 + 1, none⟩ (.int .i64 ta)) w1.heap.size (rdSet P ⟨sa, ta, sb, tb⟩)) := fun W hp => (hp.put _ _ (by omega)).put _ _ (by omega)
                generalize ea : sa * 8 + ta * 2 = pA at c0 c1 n1 n2 n3 HPP
                generalize eb : sb * 8 + tb * 2 = pB at c2 c3 n1 n2 n3 HPP
                generalize P pA = y0 at c0
                generalize P (pA + 1) = y1 at c1
                generalize P pB = y2 at c2
                generalize P (pB + 1) = y3 at c3
                have FA := Lib.hid (fun W o o' u => farCell (g := w1.heap.size) (k := ga) (by omega) W o o' u)
                have FB := Lib.hid (fun W o o' u => farCell (g := w1.heap.size) (k := gb) (by omega) W o o' u)
                go_wp2_with fail
                clear sa1 sa4 ta1 ta4 sb1 sb4 tb1 tb4 hne
                go_region_held3 (fun w' => w'.cell? ⟨ga, 0, none⟩ = some (.int .i64 sa) ∧ w'.cell? ⟨ga, 1, none⟩ = some (.int .i64 ta) ∧ w'.cell? ⟨gb, 0, none⟩ = some (.int .i64 sb) ∧ w'.cell? ⟨gb, 1, none⟩ = some (.int .i64 tb))
                  (simp only [drewCell, FA.out, FB.out, a0, a1, b0, b1, and_self])
                  (fail)
                have HP6 := Lib.hid (HPP.out _ PZ5.out)
                have HO6 : Hid (okF (rdSet P ⟨sa, ta, sb, tb⟩) (l.drop (k + 1)) = okF pz l) := by
                  have := HOK.out
                  rw [HRO.out, Bool.true_and] at this
                  exact this
                have HB6 := Lib.hid ((((BZ5.out.setCell (p := ⟨w1.heap.size, pA, none⟩) hg1 (.int .i64 (sb : Int))).setCell (p := ⟨w1.heap.size, pA + 1, none⟩) hg1 (.int .i64 (tb : Int))).setCell (p := ⟨w1.heap.size, pB, none⟩) hg1 (.int .i64 (sa : Int))).setCell (p := ⟨w1.heap.size, pB + 1, none⟩) hg1 (.int .i64 (ta : Int)))
                have hne0 : w.heap.size ≠ w1.heap.size := by omega
                have HZ6 := Lib.hid ((((PZ5'.out.far hne0 pA (.int .i64 (sb : Int))).far hne0 (pA + 1) (.int .i64 (tb : Int))).far hne0 pB (.int .i64 (sa : Int))).far hne0 (pB + 1) (.int .i64 (ta : Int)))
                generalize ((((w5.setCell ⟨w1.heap.size, pA, none⟩ (.int .i64 (sb : Int))).setCell ⟨w1.heap.size, pA + 1, none⟩ (.int .i64 (tb : Int))).setCell ⟨w1.heap.size, pB, none⟩ (.int .i64 (sa : Int))).setCell ⟨w1.heap.size, pB + 1, none⟩ (.int .i64 (ta : Int))) = Z6 at *
                clear c0 c1 c2 c3 fz n1 n2 n3 a0 a1 b0 b1 ea eb
                go_wp2
                go_roundw
                case rel => exact ⟨k + 1, rdSet P ⟨sa, ta, sb, tb⟩, by omega, by go_num, HP6.out, HZ6.out, HO6.out, HPK.out, HB6.out.drew⟩
                case measure => simp [intOf]; omega
      · obtain rfl : k = n := by omega
        have hd : l.drop k = [] := List.drop_eq_nil_of_le (by omega)
        rw [hd] at hok hpk
        have HNB : Hid (netB l = true) := by
          show _ = _
          rw [HE.out, ← hok]
          rfl
        have HPK : Hid (P = pk l) := hpk
        have HP := Lib.hid hp
        have HP0 := Lib.hid hp0
        have HB := Lib.hid hbel
        clear hok hpk hp hp0 hbel hd
        go_wp2_with (first | refine wl_load rfl _ rfl _ rfl _ HP.out ?_ | refine wl_store rfl _ _ rfl _ rfl _ _ rfl HP0.out ?_)
        intro w9 p9 g9
        go_wp2
        refine bodyPost_ret (v := .tuple #[.agg (pvA P), .bool true]) (results_pb Tryz.results52 _ _ _ _ _ rfl rfl p9) rfl ⟨P, by rw [HNB.out], (fun _ => HPK.out), ?_⟩
        exact HB.out.trans (grownBel g9 (Nat.le_refl _) HB.out.size)

end Go.Proofs.YtjjhahhchimmlaaGreatDoor
