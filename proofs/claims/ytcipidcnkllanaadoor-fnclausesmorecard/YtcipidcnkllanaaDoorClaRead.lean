/-
  Clauses whose conditions are read: the program's list.
-/
import Derived.Test.YtcipidcnkllanaaDoorClaOk
import Derived.Maps.AppendAt
namespace Go.Proofs.YtcipidcnkllanaaDoor
open Go.ChangeShapes Go.WideShapes Go.ChangeAt Go.RowKit Go.Joins
set_option linter.unusedVariables false

/-- A clause in memory, its condition read: three cells of the condition, two numbers. -/
structure RC where
  a : ByteArray
  ad : Option Addr
  n1 : Nat
  c1 : Nat
  k1 : Nat
  caps : Array Value
  o : Int
  t : Int
def RC.f (x : RC) : Value := .func (.func x.k1) #[] x.caps
def RC.cs (x : RC) : List Value := [.string x.a, .slice x.ad x.n1 x.c1, x.f, .int .i64 x.o, .int .i64 x.t]
theorem rc_len (l : List RC) : (l.flatMap RC.cs).length = l.length * 5 := by
  induction l with
  | nil => rfl
  | cons r l ih => simp [List.flatMap_cons, RC.cs, ih]; omega
theorem rc_at : ∀ (l : List RC) (i j : Nat) (x : RC), l[i]? = some x → j < 5 → (l.flatMap RC.cs)[i * 5 + j]? = (RC.cs x)[j]?
  | [], i, j, x, h, _ => by simp at h
  | r :: l, 0, j, x, h, hj => by
    obtain rfl : r = x := by simpa using h
    rw [List.flatMap_cons, Nat.zero_mul, Nat.zero_add, List.getElem?_append_left (by simp [RC.cs]; omega)]
  | r :: l, i + 1, j, x, h, hj => by
    rw [List.flatMap_cons, List.getElem?_append_right (by simp [RC.cs]; omega), show (i + 1) * 5 + j - (RC.cs r).length = i * 5 + j from by simp [RC.cs]; omega, rc_at l i j x (by simpa using h) hj]
/-- A row of them, of the call's own. -/
def RdyRow (w : World) (base : Nat) (v : Value) (l : List RC) : Prop := w.ownsRow base 70 5 v l.length (l.flatMap RC.cs)
theorem RdyRow.below {w w' : World} {base : Nat} {v : Value} {l : List RC} (h : RdyRow w base v l) (hb : Below w.heap.size w w') : RdyRow w' base v l :=
  World.ownsRow.kept h (row := none) ⟨hb.os, hb.tape, hb.output, hb.size, fun k hk _ => hb.block k hk⟩ (by cases v.ownBlock <;> simp)
theorem RdyRow.mono {w : World} {base base' : Nat} {v : Value} {l : List RC} (h : RdyRow w base v l) (hb : base' ≤ base) : RdyRow w base' v l := World.ownsRow.mono h hb
theorem RdyRow.lt {w : World} {base : Nat} {v : Value} {l : List RC} (h : RdyRow w base v l) : ∀ k, v.ownBlock = some k → base ≤ k ∧ k < w.heap.size := fun k hk => World.ownsRow.lt h k hk
theorem RdyRow.belRow {w w' : World} {base : Nat} {v : Value} {l : List RC} (h : RdyRow w base v l) (hg : w.grownBy w' v.ownBlock) (hb : base ≤ w.heap.size) : Below base w w' :=
  ⟨hg.os, hg.tape, hg.output, hg.size, fun j hj => hg.block j (by omega) (fun e => by have := (World.ownsRow.lt h j e.symm).1; omega)⟩
theorem RdyRow.at {w : World} {base : Nat} {v : Value} {l : List RC} (h : RdyRow w base v l) {i : Nat} {x : RC} (hx : l[i]? = some x) : ∃ g cap, v = .slice (some ⟨g, 0, none⟩) l.length cap ∧ g < w.heap.size ∧
    w.cell? ⟨g, i * 5, none⟩ = some (.string x.a) ∧ w.cell? ⟨g, i * 5 + 1, none⟩ = some (.slice x.ad x.n1 x.c1) ∧ w.cell? ⟨g, i * 5 + 2, none⟩ = some x.f ∧ w.cell? ⟨g, i * 5 + 3, none⟩ = some (.int .i64 x.o) ∧ w.cell? ⟨g, i * 5 + 4, none⟩ = some (.int .i64 x.t) := by
  have hi : i < l.length := (List.getElem?_eq_some_iff.1 hx).1
  have h0 := h
  obtain ⟨hl, h1 | ⟨g, cap, cur, rfl, hb, hg, hc, hm, hs, ht⟩⟩ := h
  · omega
  · have e := fun j (hj : j < 5) => (World.ownsRow.cellAt h0 (i * 5 + j) (by omega)).trans (rc_at l i j x hx hj)
    exact ⟨g, cap, rfl, (World.ownsRow.lt h0 g rfl).2, e 0 (by decide), e 1 (by decide), e 2 (by decide), e 3 (by decide), e 4 (by decide)⟩
theorem RdyRow.shape {w : World} {base : Nat} {v : Value} {l : List RC} (h : RdyRow w base v l) : ∃ a c, v = .slice a l.length c := by
  obtain ⟨hl, h1 | ⟨g, cap, cur, rfl, hb, hg, hc, hm, hs, ht⟩⟩ := h
  · rw [h1.2]; exact ⟨_, _, h1.1⟩
  · exact ⟨_, _, rfl⟩
theorem infoRC : (Tryd.prog.info? 70).map (fun i => (i.zero, i.size, i.bytes)) = some (some (.agg #[.string ⟨#[]⟩, .slice none 0 0, .nilFunc, .int .i64 0, .int .i64 0]), 5, 64) := by kernel_rfl

/-- One is appended to a row of the call's own. -/
theorem app_rdy {w : World} {ops : Array Oper} {rest : List Oper} {o : Oper} {a : Act} {Q : Exit → Act → World → Prop} (hgd : o.guard = none) (s x : Operand)
    (ho : o.op = .call { callee := .builtin .append, args := #[s, x], argTypes := #[41, 41] }) (base : Nat) (v : Value) (L : List RC) (hs : a.eval s = v) (hrow : RdyRow w base v L) (g : Nat) (y : RC)
    (hx : a.eval x = .slice (some ⟨g, 0, none⟩) 1 1) (hf : ∀ j, j < 5 → w.cell? ⟨g, j, none⟩ = (RC.cs y)[j]?) (hn : L.length ≤ 1000) (hb : base ≤ w.heap.size)
    (h : ∀ v' w', RdyRow w' base v' (L ++ [y]) → w.grownBy w' v.ownBlock → (v'.ownBlock = v.ownBlock ∨ v'.ownBlock = some w.heap.size) → wpList Tryd.prog ops Q rest (a.put o.dst v') w') : wpList Tryd.prog ops Q (o :: rest) a w := by
  refine wpList_plain hgd fun _ hK => ?_
  obtain ⟨i0, hi, hz0, hz1, hz2⟩ := info_parts infoRC
  obtain ⟨v', w', hr, h2, h3, h4, h5⟩ := run_append_own_at (P := Tryd.prog) w base 41 o.type 70 i0 (.agg #[.string ⟨#[]⟩, .slice none 0 0, .nilFunc, .int .i64 0, .int .i64 0]) 5 64 Tryd.underlying41 hi hz0 hz1 hz2 rfl (by decide) v L.length _ hrow ⟨g, 0, none⟩ 1 1 (RC.cs y) rfl
    (by intro j u hj
        have hjl : j < 5 := (List.getElem?_eq_some_iff.1 hj).1
        rw [show (⟨g, 0, none⟩ : Addr).add j = ⟨g, j, none⟩ from by unfold Addr.add; split <;> simp_all]
        exact (hf j hjl).trans hj)
    (by intro u hu
        simp [RC.cs, RC.f] at hu
        rcases hu with rfl | rfl | rfl | rfl | rfl <;> rfl) (by unfold maxLen; omega) (by omega) hb
  unfold Oper.wp execOp
  simp only [ho, resolve, invoke, builtin, Sem.run_bind, Sem.run_pure, Result.andThen_ok, List.map_toArray, List.map_cons, List.map_nil, hs, hx, hr]
  refine hK _ _ (h _ _ ?_ h3 h5)
  unfold RdyRow
  rw [List.length_append, List.flatMap_append]
  simpa using h2

/-- A function in memory holds what a condition says, whatever is done to the row of a value. -/
def FnAt (w : World) (f v : Value) (c : Cnd) : Prop :=
  ∃ (W : World) (b : Nat), FnOk W b f (evn c) ∧ Ag b W w ∧ ∀ k, v.ownBlock = some k → k < b ∨ W.heap.size ≤ k
theorem FnAt.below {w w' : World} {f v : Value} {c : Cnd} (h : FnAt w f v c) (hb : Below w.heap.size w w') : FnAt w' f v c := by
  obtain ⟨W, b, h1, h2, h3⟩ := h
  exact ⟨W, b, h1, h2.trans (Ag.of hb (Nat.le_refl _)), h3⟩
theorem FnAt.grown {w w' : World} {f v v' : Value} {c : Cnd} (h : FnAt w f v c) (hg : w.grownBy w' v.ownBlock) (ho : v'.ownBlock = v.ownBlock ∨ v'.ownBlock = some w.heap.size) : FnAt w' f v' c := by
  obtain ⟨W, b, h1, h2, h3⟩ := h
  have hs := h2.1
  refine ⟨W, b, h1, ⟨Nat.le_trans h2.1 hg.size, fun j hj hjl => ?_⟩, fun k hk => ?_⟩
  · refine (hg.block j (by omega) (fun e => ?_)).trans (h2.2 j hj hjl)
    rcases h3 j e.symm with h | h <;> omega
  · rcases ho with e | e
    · exact h3 k (e.symm.trans hk)
    · rw [e] at hk
      have := Option.some.inj hk
      omega

theorem threeKept {w w1 : World} {ty : TypeId} {a b c : Value} (hb : Below (w.alloc (.cells #[a, b, c] ty)).heap.size (w.alloc (.cells #[a, b, c] ty)) w1) :
    w1.cell? ⟨w.heap.size, 0, none⟩ = some a ∧ w1.cell? ⟨w.heap.size, 1, none⟩ = some b ∧ w1.cell? ⟨w.heap.size, 2, none⟩ = some c := by
  have hc := belCell hb
  refine ⟨?_, ?_, ?_⟩ <;> (rw [hc _ _ (by simp)]; simp [go_sem])
theorem rcNew (w : World) (y : RC) : ∀ j, j < 5 → (w.alloc (.cells #[.string y.a, .slice y.ad y.n1 y.c1, .func (.func y.k1) #[] y.caps, .int .i64 y.o, .int .i64 y.t] 70)).cell? ⟨w.heap.size, j, none⟩ = (RC.cs y)[j]? := by
  intro j hj
  have h := heap_alloc_new w (.cells #[.string y.a, .slice y.ad y.n1 y.c1, .func (.func y.k1) #[] y.caps, .int .i64 y.o, .int .i64 y.t] 70)
  generalize w.alloc _ = W at *
  generalize w.heap.size = b at *
  have : j = 0 ∨ j = 1 ∨ j = 2 ∨ j = 3 ∨ j = 4 := by omega
  rcases this with rfl | rfl | rfl | rfl | rfl <;> simp [World.cell?, h, RC.cs, RC.f]
/-- What readPred does with a condition's text. -/
theorem readPred_cnd (x : C3) (c : Cnd) (hc : x.cnd = some c) (ep : Addr) (W : World) (hE : W.cell? ⟨0, 0, none⟩ = some (errV ep)) :
    Calls Tryd.prog 20 #[.string x.s] W fun e w' => ∃ (ad : Option Addr) (n1 c1 k1 : Nat) (caps : Array Value), e = .returned (.tuple #[.agg #[.string x.s, .slice ad n1 c1, .func (.func k1) #[] caps], .nilIface]) ∧ FnOk w' W.heap.size (.func (.func k1) #[] caps) (evn c) ∧ Below W.heap.size W w' := by
  obtain ⟨h1, hk, h16⟩ := whole_some hc
  have e : x.s = bs c.txt := by rw [← h1, bs_list]
  rw [e]
  refine (readPred_yes c hk (by rw [← h1]; exact h16) ep W hE).mono ?_
  rintro e w' ⟨ad, n1, c1, k1, caps, he, hr, hb⟩
  exact ⟨ad, n1, c1, k1, caps, he, hr.fn, hb⟩
theorem readPred_nocnd (x : C3) (hc : x.cnd = none) (ep : Addr) (W : World) (hE : W.cell? ⟨0, 0, none⟩ = some (errV ep)) :
    Calls Tryd.prog 20 #[.string x.s] W fun e w' => e = .returned (.tuple #[.agg #[.string ⟨#[]⟩, .slice none 0 0, .nilFunc], .iface 103 (.pointer (some ep))]) ∧ Below W.heap.size W w' := by
  have := readPred_no x.s.data.toList hc x.short ep W hE
  rwa [bs_list] at this

/-- The program's list says what the clauses say. -/
def RdyOk (w : World) (base : Nat) (u : Value) (l : List C3) : Prop :=
  ∃ L : List RC, L.length = l.length ∧ RdyRow w base u L ∧ ∀ i, i < l.length → ∃ x c, L[i]? = some x ∧ (clAt l i).cnd = some c ∧ x.o = (clAt l i).o ∧ x.t = (clAt l i).t ∧ FnAt w x.f u c

set_option maxRecDepth 100000 in
set_option maxHeartbeats 8000000 in
theorem readClauses_any (w : World) (v : Value) (l : List C3) (h : Cls w w.heap.size v l) (hn : l.length ≤ 1048576) (ep : Addr) (hE : w.cell? ⟨0, 0, none⟩ = some (errV ep)) :
    Calls Tryd.prog 14 #[v] w fun e w' => ∃ u, e = .returned (.tuple #[u, .bool (clB l)]) ∧ Below w.heap.size w w' ∧ (clB l = true → RdyOk w' w.heap.size u l) := by
  obtain ⟨a, cap, rfl, hc, hm, hh⟩ := h
  have HH := Lib.hid hh
  have HALL : Hid (∀ k, k < l.length → okC (clAt l k) = false → clB l = false) := fun k hk hb => by
    unfold clB
    have : l.all okC = false := by
      rw [List.all_eq_false]
      exact ⟨clAt l k, by rw [clAt_lt hk]; exact List.getElem_mem hk, by simp [hb]⟩
    rw [this]
    rfl
  have HEND : Hid ((∀ k, k < l.length → okC (clAt l k) = true) → clB l = decide (l.length ≤ 6)) := fun hk => by
    unfold clB
    have : l.all okC = true := by
      rw [List.all_eq_true]
      intro x hx
      obtain ⟨i, hi, rfl⟩ := List.getElem_of_mem hx
      have := hk i hi
      rwa [clAt_lt hi] at this
    rw [this]
    rfl
  have HBIG : Hid (6 < l.length → clB l = false) := fun h6 => by
    unfold clB
    have : decide (l.length ≤ 6) = false := by simp; omega
    rw [this, Bool.and_false]
  have HE : Hid (∀ W, Below w.heap.size w W → W.cell? ⟨0, 0, none⟩ = some (errV ep) ∧ 0 < W.heap.size) := fun W hb => ⟨cellLater hE hb, Nat.lt_of_lt_of_le (World.block_lt_of_cell? _ _ hE) hb.size⟩
  clear hh hE
  unfold maxLen at hm
  generalize hN : l.length = n at *
  have HN := Lib.hid hN
  clear hN
  by_cases h6 : 6 < n
  · have h6' : (6 : Int) < (n : Int) := by omega
    have hF := HBIG.out h6
    go_enter Tryd.func14, Tryd.ntmps14
    go_wp2
    go_ret2
    exact ⟨.slice none 0 0, by rw [hF]; rfl, Below.refl _ _, fun h => by rw [hF] at h; cases h⟩
  have h6' : ¬ (6 : Int) < (n : Int) := by omega
  clear HBIG
  go_enter Tryd.func14, Tryd.ntmps14
  go_wp2
  go_loopw [4, 14] (fun u i wr => ∃ (k : Nat) (L : List RC), k ≤ n ∧ i = .int .i64 (k : Int) ∧ L.length = k ∧ RdyRow wr w.heap.size u L ∧ (∀ j, j < k → okC (clAt l j) = true ∧ ∃ x c, L[j]? = some x ∧ (clAt l j).cnd = some c ∧ x.o = (clAt l j).o ∧ x.t = (clAt l j).t ∧ FnAt wr x.f u c) ∧ Below w.heap.size w wr) (fun _ i _ => n - (intOf i).toNat)
  case atStart => exact ⟨0, [], Nat.zero_le _, rfl, rfl, World.ownsRow_nil _ _ _ _, fun j hj => absurd hj (Nat.not_lt_zero _), Below.refl _ _⟩
  case round =>
    obtain ⟨k, L, hk, rfl, hL, hrow, hall, hbel⟩ := hrel
    have HA := Lib.hid hall
    have HBL := Lib.hid hbel
    have HROW := Lib.hid hrow
    have HL := Lib.hid hL
    clear hall hbel hrow hL
    by_cases hlt : k < n
    · have hz : (k : Int) < (n : Int) := by omega
      have hw1 : IntKind.i64.wrap ((k : Int) + 1) = (k : Int) + 1 := by rw [IntKind.wrap_i64]; omega
      rcases HH.out with h1 | ⟨b, off, rfl, hb, hcell⟩
      · have := HN.out; rw [h1] at this; simp at this; omega
      have HT : Hid (∀ W, Below w.heap.size w W → Thr W b (off + k * 3) (clAt l k)) := fun W hW => (hcell k hlt).below hW hb
      have HNO := Lib.hid (HALL.out k hlt)
      have HOK : Hid (okC (clAt l k) = ((clAt l k).cnd.isSome && (inB (clAt l k).o 0 4 && inB (clAt l k).t (-1) 3))) := rfl
      clear hcell
      generalize hx : clAt l k = x at *
      have HX := Lib.hid hx
      clear hx
      obtain ⟨d0, d1, d2⟩ := HT.out _ HBL.out
      have HIO := Lib.hid (fun W => outOk_any x.o W)
      have HIT := Lib.hid (fun W => ruleTagOk_any x.t W)
      have HA1 := Lib.hid (below_alloc1 wr (.cells #[.string x.s, .int .i64 x.o, .int .i64 x.t] 34))
      have hs1 : wr.heap.size < (wr.alloc (.cells #[.string x.s, .int .i64 x.o, .int .i64 x.t] 34)).heap.size := by simp
      cases hcc : x.cnd with
      | none =>
        have HRP := Lib.hid (fun W h => readPred_nocnd x hcc ep W h)
        have hF := HNO.out (by rw [HOK.out, hcc]; rfl)
        clear hcc
        go_wp2_with fail
        refine (HRP.out _ (HE.out _ (belStep HBL.out HA1.out)).1).mono ?_
        rintro e w1 ⟨rfl, b1⟩
        have HB1 := Lib.hid (belStep (belStep HBL.out HA1.out) b1)
        obtain ⟨hE1, hg1⟩ := HE.out _ HB1.out
        unfold errV at hE1
        clear b1 HRP d0 d1 d2
        go_wp2_with fail
        refine (is_same _ _).mono ?_
        rintro e w2 ⟨rfl, rfl⟩
        have hFB := hF
        go_wp2
        go_ret2
        exact ⟨.slice none 0 0, by rw [hF]; rfl, by repeat (first | exact HB1.out | refine Below.drew ?_ | refine Below.alloc ?_ (by have := HB1.out.size; omega) _), fun h => by rw [hF] at h; cases h⟩
      | some c =>
        have HRP := Lib.hid (fun W h => readPred_cnd x c hcc ep W h)
        have HCC := Lib.hid hcc
        clear hcc
        go_wp2_with fail
        refine (HRP.out _ (HE.out _ (belStep HBL.out HA1.out)).1).mono ?_
        rintro e w1 ⟨ad, q1, q2, k1, caps, rfl, hfn, b1⟩
        obtain ⟨e0, e1, e2⟩ := threeKept b1
        have HB1 := Lib.hid (belStep (belStep HBL.out HA1.out) b1)
        obtain ⟨hE1, hg1⟩ := HE.out _ HB1.out
        unfold errV at hE1
        have hsb := b1.size
        simp at hsb
        have hs2 : wr.heap.size < w1.heap.size := by omega
        have HROW1 := Lib.hid ((HROW.out.below HA1.out).below b1)
        have HFN := Lib.hid hfn
        have HBW : Hid (Below wr.heap.size wr w1) := belStep HA1.out b1
        have HSA : Hid ((wr.alloc (.cells #[.string x.s, .int .i64 x.o, .int .i64 x.t] 34)).heap.size = wr.heap.size + 1) := World.size_alloc _ _
        clear b1 HRP d0 d1 d2 hfn hsb
        go_wp2_with fail
        refine (is_nil _ _).mono ?_
        rintro e w2 ⟨rfl, rfl⟩
        have HW2 := Lib.hid (below_alloc1 w1 (.cells #[.string x.s, .slice ad q1 q2, .func (.func k1) #[] caps] 54))
        have HEN : Hid (∀ W, Below (w1.alloc (.cells #[.string x.s, .slice ad q1 q2, .func (.func k1) #[] caps] 54)).heap.size (w1.alloc (.cells #[.string x.s, .slice ad q1 q2, .func (.func k1) #[] caps] 54)) W → Below w.heap.size w W) := fun W hW => belStep (belStep HB1.out HW2.out) hW
        have HROW2 := Lib.hid (HROW1.out.below HW2.out)
        have HAG2 : Hid (∀ b, Ag b w1 (w1.alloc (.cells #[.string x.s, .slice ad q1 q2, .func (.func k1) #[] caps] 54))) := fun b => Ag.of HW2.out (Nat.le_refl _)
        have HOL2 : Hid (∀ (f : Value) (c : Cnd), FnAt wr f u4 c → FnAt (w1.alloc (.cells #[.string x.s, .slice ad q1 q2, .func (.func k1) #[] caps] 54)) f u4 c) := fun f c h => (h.below HBW.out).below HW2.out
        have HB2 := Lib.hid (belStep HB1.out HW2.out)
        clear HROW1
        obtain ⟨g0, g1, g2⟩ := threeKept (Below.refl _ (w1.alloc (.cells #[.string x.s, .slice ad q1 q2, .func (.func k1) #[] caps] 54)))
        have e0' := (belCell HW2.out wr.heap.size 0 hs2).trans e0
        have e1' := (belCell HW2.out wr.heap.size 1 hs2).trans e1
        have e2' := (belCell HW2.out wr.heap.size 2 hs2).trans e2
        have hs3 : w1.heap.size < (w1.alloc (.cells #[.string x.s, .slice ad q1 q2, .func (.func k1) #[] caps] 54)).heap.size := by simp
        have hs4 : wr.heap.size < (w1.alloc (.cells #[.string x.s, .slice ad q1 q2, .func (.func k1) #[] caps] 54)).heap.size := by simp; omega
        clear e0 e1 e2
        generalize w1.alloc (.cells #[.string x.s, .slice ad q1 q2, .func (.func k1) #[] caps] 54) = W2 at *
        clear HW2
        generalize w1.heap.size = lb at *
        generalize hi1 : inB x.o 0 4 = i1 at *
        generalize hi2 : inB x.t (-1) 3 = i2 at *
        cases i1
        · have hF := HNO.out (by rw [HOK.out, HCC.out]; rfl)
          go_wp2_with fail
          refine (HIO.out _).mono ?_
          rintro e w' ⟨rfl, rfl⟩
          go_wp2
          go_ret2
          exact ⟨.slice none 0 0, by rw [hF]; rfl, HEN.out _ (Below.refl _ _), fun h => by rw [hF] at h; cases h⟩
        cases i2
        · have hF := HNO.out (by rw [HOK.out, HCC.out]; rfl)
          go_wp2_with fail
          refine (HIO.out _).mono ?_
          rintro e w' ⟨rfl, rfl⟩
          go_wp2_with fail
          refine (HIT.out _).mono ?_
          rintro e w' ⟨rfl, rfl⟩
          go_wp2
          go_ret2
          exact ⟨.slice none 0 0, by rw [hF]; rfl, HEN.out _ (Below.refl _ _), fun h => by rw [hF] at h; cases h⟩
        have hT : okC x = true := by rw [HOK.out, HCC.out]; rfl
        have HTT := Lib.hid hT
        clear hT hi1 hi2
        go_wp2_with fail
        refine (HIO.out _).mono ?_
        rintro e w' ⟨rfl, rfl⟩
        go_wp2_with fail
        refine (HIT.out _).mono ?_
        rintro e w' ⟨rfl, rfl⟩
        have HW23 := Lib.hid (below_alloc1 W2 (.cells #[.string x.s, .slice ad q1 q2, .func (.func k1) #[] caps, .int .i64 x.o, .int .i64 x.t] 70))
        have HROW3 := Lib.hid (HROW2.out.below HW23.out)
        have HFN3 : Hid (FnAt (W2.alloc (.cells #[.string x.s, .slice ad q1 q2, .func (.func k1) #[] caps, .int .i64 x.o, .int .i64 x.t] 70)) (.func (.func k1) #[] caps) u4 c) :=
          ⟨w1, _, HFN.out, (HAG2.out _).trans (Ag.of HW23.out (Nat.le_refl _)), fun j hj => .inl (by have := (HROW.out.lt j hj).2; have := HSA.out; omega)⟩
        have HOL3 : Hid (∀ (f : Value) (c : Cnd), FnAt wr f u4 c → FnAt (W2.alloc (.cells #[.string x.s, .slice ad q1 q2, .func (.func k1) #[] caps, .int .i64 x.o, .int .i64 x.t] 70)) f u4 c) := fun f c h => (HOL2.out f c h).below HW23.out
        have HB3 := Lib.hid (belStep HB2.out HW23.out)
        go_wp2_with (at_builtin; refine app_rdy rfl _ _ rfl w.heap.size _ L rfl HROW3.out _ ⟨x.s, ad, q1, q2, k1, caps, x.o, x.t⟩ rfl (rcNew _ ⟨x.s, ad, q1, q2, k1, caps, x.o, x.t⟩) (by have := HL.out; omega) HB3.out.size ?_; rintro v' w4 hrow4 hg4 ho4; have HR4 := Lib.hid hrow4; have HG4 := Lib.hid hg4; have HO4 := Lib.hid ho4; have HB4 := Lib.hid (HB3.out.trans (HROW3.out.belRow hg4 HB3.out.size)); clear hrow4 hg4 ho4)
        go_roundw
        case rel =>
          refine ⟨k + 1, L ++ [⟨x.s, ad, q1, q2, k1, caps, x.o, x.t⟩], by omega, by go_num, by simp [HL.out], HR4.out, fun j hj => ?_, HB4.out⟩
          by_cases e : j = k
          · rw [e, HX.out]
            exact ⟨HTT.out, (⟨x.s, ad, q1, q2, k1, caps, x.o, x.t⟩ : RC), c, by have := HL.out; rw [← this]; simp, HCC.out, rfl, rfl, HFN3.out.grown HG4.out HO4.out⟩
          · obtain ⟨o1, y, c', o2, o3, o4, o5, o6⟩ := HA.out j (by omega)
            exact ⟨o1, y, c', by rw [List.getElem?_append_left (by have := HL.out; omega)]; exact o2, o3, o4, o5, (HOL3.out _ _ o6).grown HG4.out HO4.out⟩
        case measure => simp [intOf]; omega
    · obtain rfl : k = n := by omega
      have h1 : ¬ (k : Int) < (k : Int) := by omega
      have hF : clB l = true := by
        rw [HEND.out fun j hj => (HA.out j hj).1]
        simp; omega
      have HFF := Lib.hid hF
      clear hF
      go_wp2
      go_ret2
      exact ⟨_, by rw [HFF.out]; rfl, HBL.out, fun _ => ⟨L, by rw [HL.out, HN.out], HROW.out, fun i hi => by rw [HN.out] at hi; exact (HA.out i hi).2⟩⟩

end Go.Proofs.YtcipidcnkllanaaDoor
