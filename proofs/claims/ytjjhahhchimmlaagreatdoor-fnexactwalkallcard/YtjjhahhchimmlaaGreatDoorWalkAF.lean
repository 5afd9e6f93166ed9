/-
  What moves packets: forty numbers of a net, eight cells of four tables, in one variable; readFabric.
  What moves packets, read: readFabric.
-/
import Derived.Test.YtjjhahhchimmlaaGreatDoorConfRd
import Derived.Test.YtjjhahhchimmlaaGreatDoorNetRd

namespace Go.Proofs.YtjjhahhchimmlaaGreatDoor
open Go.ChangeShapes Go.WideShapes Go.ChangeAt Go.RowKit Go.Joins
set_option linter.unusedVariables false

/-- The cells of a fabric. -/
def fbA (P : Pv) (gs : Nat → Nat) (k : Nat) : Array Value := pvA P ++ cF gs k
theorem fbA_size (P : Pv) (gs : Nat → Nat) (k : Nat) : (fbA P gs k).size = 48 := by simp [fbA, pvA_size, cF_size]
theorem fbA_one (P : Pv) (gs : Nat → Nat) (k : Nat) : (fbA P gs k).all (·.oneCell') = true := by
  unfold fbA
  rw [Array.all_append, pvA_one, cF_one]
  rfl
def Fb2 (w : World) (g : Nat) (P : Pv) (gs : Nat → Nat) (k : Nat) : Prop := w.heap[g]? = some (.cells (fbA P gs k) 76)
theorem Fb2.lt {w : World} {g : Nat} {P : Pv} {gs : Nat → Nat} {k : Nat} (h : Fb2 w g P gs k) : g < w.heap.size := (Array.getElem?_eq_some_iff.1 h).1
theorem Fb2.below {w w' : World} {n g : Nat} {P : Pv} {gs : Nat → Nat} {k : Nat} (h : Fb2 w g P gs k) (hb : Below n w w') (hn : g < n) : Fb2 w' g P gs k := (hb.block g hn).trans h
theorem Fb2.net {w : World} {g : Nat} {P : Pv} {gs : Nat → Nat} {k : Nat} (h : Fb2 w g P gs k) {i : Nat} (hi : i < 40) : w.cell? ⟨g, i, none⟩ = some (.int .i64 (P i)) := by
  rw [cell_of_row w g i _ _ _ h]
  unfold fbA
  rw [Array.getElem?_append_left (by rw [pvA_size]; exact hi), pvA_at P hi]
theorem Fb2.tab {w : World} {g : Nat} {P : Pv} {gs : Nat → Nat} (h : Fb2 w g P gs 4) {j : Nat} (hj : j < 4) : w.cell? ⟨g, 40 + j * 2, none⟩ = some fnC ∧ w.cell? ⟨g, 40 + j * 2 + 1, none⟩ = some (.pointer (some ⟨gs j, 0, none⟩)) := by
  rw [cell_of_row w g _ _ _ _ h, cell_of_row w g _ _ _ _ h]
  unfold fbA
  rw [Array.getElem?_append_right (by rw [pvA_size]; omega), Array.getElem?_append_right (by rw [pvA_size]; omega), pvA_size]
  have : j = 0 ∨ j = 1 ∨ j = 2 ∨ j = 3 := by omega
  rcases this with rfl | rfl | rfl | rfl <;> exact ⟨rfl, rfl⟩
theorem infoFb : (Tryz.prog.info? 76).map (·.size) = some 48 := by kernel_rfl
theorem infoFbZ : (Tryz.prog.info? 76).map (·.zero) = some (some (.agg (fbA pz (fun _ => 0) 0))) := by kernel_rfl
theorem fb_alloc {ops : Array Oper} {rest : List Oper} {o : Oper} {a : Act} {w : World} {Q : Exit → Act → World → Prop} (hgd : o.guard = none) (ho : o.op = .alloc 76)
    (h : ∀ w', Fb2 w' w.heap.size pz (fun _ => 0) 0 → Below w.heap.size w w' → w'.heap.size = w.heap.size + 1 → wpList Tryz.prog ops Q rest (a.put o.dst (.pointer (some ⟨w.heap.size, 0, none⟩))) w') : wpList Tryz.prog ops Q (o :: rest) a w := by
  refine wpList_plain hgd fun K hK => ?_
  have hz := infoFbZ
  cases hq : Tryz.prog.info? 76 with
  | none => rw [hq] at hz; simp at hz
  | some i =>
    rw [hq] at hz
    have hz' : i.zero = some (.agg (fbA pz (fun _ => 0) 0)) := by simpa using hz
    have := hK _ _ (h _ (heap_alloc_new w (.cells (fbA pz (fun _ => 0) 0) 76)) (below_alloc1 _ _) (by simp))
    unfold Oper.wp execOp
    simp [ho, Instr.alloc, zeroValue, typeInfo, Sem.run_bind, hq, hz', go_sem, newVar, newRow, Value.cells, Result.andThen]
    exact this
theorem fb_store {ops : Array Oper} {rest : List Oper} {o : Oper} {a : Act} {w : World} {Q : Exit → Act → World → Prop} (hgd : o.guard = none) (x y : Operand) (ho : o.op = .store 76 x y) (g : Nat) (hx : a.eval x = .pointer (some ⟨g, 0, none⟩)) (P : Pv) (gs : Nat → Nat) (k : Nat)
    (hy : a.eval y = .agg (fbA P gs k)) (P' : Pv) (gs' : Nat → Nat) (k' : Nat) (hp : Fb2 w g P' gs' k')
    (h : ∀ w', Fb2 w' g P gs k → w.grownBy w' (some g) → wpList Tryz.prog ops Q rest (a.put o.dst undef) w') : wpList Tryz.prog ops Q (o :: rest) a w := by
  refine wpList_store_row hgd _ x y ho g (fbA P gs k) hx hy _ _ hp (by rw [infoFb, fbA_size]) (by rw [fbA_size, fbA_size]) (fbA_one P gs k) (h _ (setRow_heap w g _ _ _ _ hp) ⟨rfl, rfl, rfl, by simp [World.setRow], fun k hk hne => ?_⟩)
  simp only [World.setRow]
  rw [Array.getElem?_modify, if_neg (fun e => hne (by rw [e]))]
theorem run_fb (P : Pv) (gs : Nat → Nat) (k : Nat) (w : World) : (Instr.build 76 #[(0, .agg (pvA P)), (1, .agg (cF gs k))]).run Tryz.prog w = .ok (.agg (fbA P gs k)) w := by
  kernel_rfl
theorem results_fb {fn : Func} {p q : Tmp} (h : fn.results = #[.cell p 76, .tmp q]) (tmps : Array Value) (w : World) (g : Nat) (P : Pv) (gs : Nat → Nat) (k : Nat) (b : Bool) (hp : tmps[p]?.getD undef = .pointer (some ⟨g, 0, none⟩)) (hq : tmps[q]?.getD undef = .bool b) (hb : Fb2 w g P gs k) :
    (results fn tmps).run Tryz.prog w = .ok (.tuple #[.agg (fbA P gs k), .bool b]) w := by
  have hl : (loadVar 76 ⟨g, 0, none⟩).run Tryz.prog w = .ok (.agg (fbA P gs k)) w := run_loadVar_row w g _ _ _ _ _ hb Tryz.underlying76 rfl (by rw [infoFb, fbA_size])
  simp [results, h, hp, hq, asAddr, hl]

end Go.Proofs.YtjjhahhchimmlaaGreatDoor

namespace Go.Proofs.YtjjhahhchimmlaaGreatDoor
open Go.ChangeShapes Go.WideShapes Go.ChangeAt Go.RowKit Go.Joins
set_option linter.unusedVariables false

theorem fb_build {ops : Array Oper} {rest : List Oper} {o : Oper} {a : Act} {w : World} {Q : Exit → Act → World → Prop} (hgd : o.guard = none) (x y : Operand) (ho : o.op = .build 76 #[(0, x), (1, y)]) (P : Pv) (gs : Nat → Nat) (k : Nat) (hx : a.eval x = .agg (pvA P)) (hy : a.eval y = .agg (cF gs k))
    (h : wpList Tryz.prog ops Q rest (a.put o.dst (.agg (fbA P gs k))) w) : wpList Tryz.prog ops Q (o :: rest) a w := by
  refine wpList_plain hgd fun K hK => ?_
  have := hK _ _ h
  have hr := run_fb P gs k w
  unfold Oper.wp execOp
  simp [ho, hx, hy, hr, Result.andThen]
  exact this

/-- What readFabric leaves. -/
def FabRd (l : List K4) (L : List (List R4)) (w : World) (e : Ending) (w' : World) : Prop :=
  ∃ (P : Pv) (gs : Nat → Nat) (k : Nat), e = .returned (.tuple #[.agg (fbA P gs k), .bool (netB l && cfB L)]) ∧ (netB l = true → P = pk l) ∧ (cfB L = true → k = 4 ∧ ∀ j, j < 4 → w.heap.size ≤ gs j ∧ LR w' (gs j) (tbAt L j)) ∧ Below w.heap.size w w'

set_option maxRecDepth 100000 in
set_option maxHeartbeats 4000000 in
theorem readFabric_any (w : World) (v u : Value) (l : List K4) (L : List (List R4)) (hl : Lks w w.heap.size v l) (h : Cfs w w.heap.size u L) (hn : L.length ≤ 1048576) (hL : ∀ i, i < L.length → (tbAt L i).length ≤ 1048576) (hE : EtOk w) :
    Calls Tryz.prog 33 #[v, u] w (FabRd l L w) := by
  have HR : Hid (∀ W, Below w.heap.size w W → Calls Tryz.prog 52 #[v] W fun e w' => ∃ P, e = .returned (.tuple #[.agg (pvA P), .bool (netB l)]) ∧ (netB l = true → P = pk l) ∧ Below W.heap.size W w') := fun W hb => readNet_any W v l ((hl.below hb (Nat.le_refl _)).mono hb.size)
  have HC : Hid (∀ W, Below w.heap.size w W → Calls Tryz.prog 53 #[u] W (ConfRd L W)) := fun W hb => readConf_any W u L ((h.below hb (Nat.le_refl _)).mono hb.size) hn hL (hE.below hb)
  clear hl h hE
  unfold FabRd
  unfold ConfRd at HC
  generalize netB l = o1 at *
  generalize cfB L = o2 at *
  go_enter Tryz.func33, Tryz.ntmps33
  go_wp2_with (refine fb_alloc rfl rfl ?_)
  intro w1 p1 b1 s1
  have P1 := Lib.hid p1
  have B1 := Lib.hid b1
  clear p1 b1
  go_wp2_with fail
  refine (HR.out _ B1.out).mono ?_
  rintro e w2 ⟨P, rfl, hP, b2⟩
  have HPK := Lib.hid hP
  have P2 := Lib.hid (P1.out.below b2 (by omega))
  have B2 := Lib.hid (belStep B1.out b2)
  have s2 : w.heap.size < w2.heap.size := by have := b2.size; omega
  clear b2 hP P1 B1 HR s1
  go_wp2_with (refine wl_alloc rfl rfl ?_)
  intro w3 p3 b3 s3
  go_wp2_with (refine wl_store rfl _ _ rfl _ rfl _ _ rfl p3 ?_)
  intro w4 p4 g4
  have b4 := b3.trans (grownBel g4 (Nat.le_refl _) b3.size)
  have s4 : w2.heap.size < w4.heap.size := Nat.lt_of_lt_of_le s3 g4.size
  have N4 := Lib.hid p4
  have P4 := Lib.hid (P2.out.below b4 s2)
  have B4 := Lib.hid (belStep B2.out b4)
  clear p3 b3 s3 p4 g4 b4 P2 B2
  go_wp2_with fail
  refine (HC.out _ B4.out).mono ?_
  rintro e w5 ⟨gs, k, rfl, hc, b5⟩
  have HCC : Hid (o2 = true → k = 4 ∧ ∀ j, j < 4 → w.heap.size < gs j ∧ w2.heap.size < gs j ∧ LR w5 (gs j) (tbAt L j)) := fun h => by
    obtain ⟨h1, h2⟩ := hc h
    exact ⟨h1, fun j hj => by obtain ⟨k1, k2⟩ := h2 j hj; exact ⟨by omega, by omega, k2⟩⟩
  have N5 := Lib.hid (N4.out.below b5 s4)
  have P5 := Lib.hid (P4.out.below b5 (by omega))
  have B5 := Lib.hid (belStep B4.out b5)
  have s5 : w2.heap.size < w5.heap.size := by have := b5.size; omega
  clear b5 hc N4 P4 B4 HC s4
  go_wp2_with (refine ct_alloc rfl rfl ?_)
  intro w6 p6 b6 s6
  go_wp2_with (refine ct_store rfl _ _ rfl _ rfl gs k rfl _ _ p6 ?_)
  intro w7 p7 g7
  have b7 := b6.trans (ct_grown g7 (Nat.le_refl _) b6.size)
  have C7 := Lib.hid p7
  have N7 := Lib.hid (N5.out.below b7 s5)
  have P7 := Lib.hid (P5.out.below b7 (by omega))
  have B7 := Lib.hid (belStep B5.out b7)
  have HC7 : Hid (o2 = true → k = 4 ∧ ∀ j, j < 4 → w.heap.size < gs j ∧ LR w7 (gs j) (tbAt L j)) := fun h => ⟨(HCC.out h).1, fun j hj => ⟨((HCC.out h).2 j hj).1, ((HCC.out h).2 j hj).2.2.below b7⟩⟩
  have s7 : w5.heap.size < w7.heap.size := by have := g7.size; omega
  clear p6 b6 s6 p7 g7 b7 N5 P5 B5 HCC
  cases o1
  all_goals
    go_wp2_with (first | refine wl_load rfl _ rfl _ rfl _ N7.out ?_ | refine ct_load rfl _ rfl _ rfl _ _ C7.out ?_ | refine fb_build rfl _ _ rfl _ _ _ rfl rfl ?_ | refine fb_store rfl _ _ rfl _ rfl _ _ _ rfl _ _ _ P7.out ?_)
    intro w8 p8 g8
    go_wp2
    first
      | exact bodyPost_ret (v := .tuple #[.agg (fbA P gs k), .bool o2]) (results_fb Tryz.results33 _ _ _ _ _ _ _ rfl rfl p8) rfl ⟨P, gs, k, rfl, (by first | exact HPK.out | exact HPK.out trivial), (fun h => ⟨(HC7.out h).1, fun j hj => ⟨by have := ((HC7.out h).2 j hj).1; omega, ((HC7.out h).2 j hj).2.far' ((HC7.out h).2 j hj).1 g8⟩⟩), B7.out.trans (ct_grown g8 (Nat.le_refl _) (by omega))⟩
      | exact bodyPost_ret (v := .tuple #[.agg (fbA P gs k), .bool false]) (results_fb Tryz.results33 _ _ _ _ _ _ _ rfl rfl p8) rfl ⟨P, gs, k, rfl, (by first | exact HPK.out | exact HPK.out trivial), (fun h => ⟨(HC7.out h).1, fun j hj => ⟨by have := ((HC7.out h).2 j hj).1; omega, ((HC7.out h).2 j hj).2.far' ((HC7.out h).2 j hj).1 g8⟩⟩), B7.out.trans (ct_grown g8 (Nat.le_refl _) (by omega))⟩

end Go.Proofs.YtjjhahhchimmlaaGreatDoor
