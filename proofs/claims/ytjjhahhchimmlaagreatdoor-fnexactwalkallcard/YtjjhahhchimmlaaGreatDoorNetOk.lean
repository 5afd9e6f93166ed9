/-
  Nets, the model: which links are a net.
  Nets: whether links are one, the program's and the model's answer.
  Nets: what lies at the other end of a port, the model's and the program's answer.
-/
import Derived.Test.YtjjhahhchimmlaaGreatDoorNetBase
import Derived.Test.YtjjhahhchimmlaaGreatDoorNetRd
import Derived.Laws.MakeOwn

namespace Go.Proofs.YtjjhahhchimmlaaGreatDoor
open Go.ChangeShapes Go.WideShapes Go.ChangeAt Go.RowKit Go.Joins
set_option linter.unusedVariables false

set_option maxHeartbeats 400000 in
theorem l21Sw_any (n : Int) (w : World) :
    Calls Tryz.prog 45 #[.int .i64 n] w fun e w' => e = .returned (.bool (swB n)) ∧ w = w' := by
  go_enter Tryz.func45, Tryz.ntmps45
  go_wp2_with (go_at_call 46; refine (l6In_any _ _ _ _).mono ?_; rintro e w' ⟨rfl, rfl⟩)
  go_ret
  exact ⟨rfl, rfl⟩

theorem infoI : (Tryz.prog.info? 92).map (fun i => (i.zero, i.size, i.bytes)) = some (some (.slice none 0 0), 1, 24) := by kernel_rfl
/-- Two slices of numbers are appended. -/
theorem app_two {w : World} {ops : Array Oper} {rest : List Oper} {o : Oper} {a : Act} {Q : Exit → Act → World → Prop} (hgd : o.guard = none) (s x : Operand)
    (ho : o.op = .call { callee := .builtin .append, args := #[s, x], argTypes := #[89, 89] }) (base n : Nat) (v : Value) (vs : List Value) (hs : a.eval s = v) (hrow : w.ownsRow base 92 1 v n vs) (g : Nat) (u1 u2 : Value)
    (hx : a.eval x = .slice (some ⟨g, 0, none⟩) 2 2) (c1 : w.cell? ⟨g, 0, none⟩ = some u1) (c2 : w.cell? ⟨g, 1, none⟩ = some u2) (o1 : u1.oneCell' = true) (o2 : u2.oneCell' = true) (hn : n ≤ 4000000) (hb : base ≤ w.heap.size)
    (h : ∀ v' w', w'.ownsRow base 92 1 v' (n + 2) (vs ++ [u1, u2]) → w.grownBy w' v.ownBlock → wpList Tryz.prog ops Q rest (a.put o.dst v') w') : wpList Tryz.prog ops Q (o :: rest) a w := by
  obtain ⟨i0, hi, hz0, hz1, hz2⟩ := info_parts infoI
  refine wpList_append_own _ hgd s x 89 ho base 92 i0 (.slice none 0 0) 1 24 Tryz.underlying89 hi hz0 hz1 hz2 rfl (by decide) v n _ hs hrow ⟨g, 0, none⟩ 2 2 [u1, u2] hx rfl ?c1 ?c2 ?c3 ?c4 hb ?c6
  case c1 =>
    intro j u hj
    rw [addK_none]
    match j, hj with
    | 0, hj => simp at hj; subst hj; exact c1
    | 1, hj => simp at hj; subst hj; exact c2
    | j + 2, hj => simp at hj
  case c2 =>
    intro u hu
    simp at hu
    rcases hu with rfl | rfl <;> assumption
  case c3 => unfold maxLen; omega
  case c4 => omega
  case c6 =>
    intro v' w' hown hg _
    exact h v' w' hown hg

/-- A slice of two numbers in a block of its own. -/
def sl2 (b : Nat) : Value := .slice (some ⟨b, 0, none⟩) 2 2
/-- The ends of links, as the model keeps them: a row of slices of two numbers. -/
structure Used (w : World) (base : Nat) (v : Value) (bs : List Nat) (es : List (Int × Int)) : Prop where
  row : w.ownsRow base 92 1 v bs.length (bs.map sl2)
  len : bs.length = es.length
  at' : ∀ i, i < bs.length → w.heap[bs.getD i 0]? = some (.cells #[.int .i64 (es.getD i (0, 0)).1, .int .i64 (es.getD i (0, 0)).2] 3)
theorem Used.below {w w' : World} {base : Nat} {v : Value} {bs : List Nat} {es : List (Int × Int)} (h : Used w base v bs es) (hb : Below w.heap.size w w') : Used w' base v bs es :=
  ⟨World.ownsRow.kept h.row (row := none) ⟨hb.os, hb.tape, hb.output, hb.size, fun k hk _ => hb.block k hk⟩ (by cases v.ownBlock <;> simp), h.len, fun i hi => (hb.block _ (Array.getElem?_eq_some_iff.1 (h.at' i hi)).1).trans (h.at' i hi)⟩
theorem used_ne {w : World} {base n b : Nat} {v : Value} {xs : List Value} {cs : Array Value} (h : w.ownsRow base 92 1 v n xs) (hb : w.heap[b]? = some (Obj.cells cs 3)) : v.ownBlock ≠ some b := by
  obtain ⟨hl, h1 | ⟨g, cap, cur, rfl, h2, h3, h4⟩⟩ := h
  · rw [h1.1]
    exact fun e => by cases e
  · intro e
    have e' : g = b := by injection e
    subst e'
    rw [hb] at h3
    injection h3 with h3
    injection h3 with _ h5
    cases h5
theorem Used.push {w w' : World} {base b1 b2 : Nat} {v v' : Value} {bs : List Nat} {es : List (Int × Int)} {x y z u : Int} (h : Used w base v bs es)
    (h1 : w.heap[b1]? = some (.cells #[.int .i64 x, .int .i64 y] 3)) (h2 : w.heap[b2]? = some (.cells #[.int .i64 z, .int .i64 u] 3))
    (hr : w'.ownsRow base 92 1 v' (bs.length + 2) (bs.map sl2 ++ [sl2 b1, sl2 b2])) (hg : w.grownBy w' v.ownBlock) : Used w' base v' (bs ++ [b1, b2]) (es ++ [(x, y), (z, u)]) := by
  have k : ∀ b cs, w.heap[b]? = some (Obj.cells cs 3) → w'.heap[b]? = some (Obj.cells cs 3) := fun b cs hb => (hg.block b (Array.getElem?_eq_some_iff.1 hb).1 (used_ne h.row hb).symm).trans hb
  refine ⟨by simpa using hr, by simp [h.len], fun i hi => ?_⟩
  have hl := h.len
  by_cases e0 : i < bs.length
  · simp only [List.getD_eq_getElem?_getD]
    rw [List.getElem?_append_left e0, List.getElem?_append_left (by omega)]
    have := h.at' i e0
    simp only [List.getD_eq_getElem?_getD] at this
    exact k _ _ this
  · simp only [List.getD_eq_getElem?_getD]
    rw [List.getElem?_append_right (by omega), List.getElem?_append_right (by omega), ← hl]
    simp at hi
    have : i - bs.length = 0 ∨ i - bs.length = 1 := by omega
    rcases this with e | e <;> rw [e]
    · exact k _ _ h1
    · exact k _ _ h2
theorem Used.nil {w : World} {base n : Nat} (h : w.ownsRow base 92 1 (.slice (some ⟨n, 0, none⟩) 0 0) 0 []) : Used w base (.slice (some ⟨n, 0, none⟩) 0 0) [] [] := ⟨h, rfl, fun i hi => absurd hi (Nat.not_lt_zero _)⟩

theorem endsL_snoc {l : List K4} {k : Nat} (h : k < l.length) : endsL (l.take (k + 1)) = endsL (l.take k) ++ [((lkAt l k).p, (lkAt l k).s), ((lkAt l k).o, (lkAt l k).t)] := by
  have e : l.take (k + 1) = l.take k ++ [lkAt l k] := by
    rw [List.take_add_one, List.getElem?_eq_getElem h, lkAt_lt h]
    rfl
  rw [e]
  simp [endsL]
theorem used_form {w : World} {base n : Nat} {v : Value} {xs : List Value} (h : w.ownsRow base 92 1 v n xs) : ∃ a cap, v = .slice a n cap ∧ n ≤ cap ∧ cap ≤ maxLen ∧ (n = 0 ∨ ∃ g, a = some ⟨g, 0, none⟩) := by
  obtain ⟨hl, h1 | ⟨g, cap, cur, rfl, h2, h3, h4, h5, h6⟩⟩ := h
  · rw [h1.1, h1.2]
    exact ⟨none, 0, rfl, Nat.le_refl _, by unfold maxLen; omega, .inl rfl⟩
  · exact ⟨_, cap, rfl, h4, h5, .inr ⟨g, rfl⟩⟩
theorem Used.cell {w : World} {base g cap : Nat} {bs : List Nat} {es : List (Int × Int)} (h : Used w base (.slice (some ⟨g, 0, none⟩) bs.length cap) bs es) {i : Nat} (hi : i < bs.length) :
    ∃ b x y, es[i]? = some (x, y) ∧ w.cell? ⟨g, i, none⟩ = some (.slice (some ⟨b, 0, none⟩) 2 2) ∧ w.cell? ⟨b, 0, none⟩ = some (.int .i64 x) ∧ w.cell? ⟨b, 1, none⟩ = some (.int .i64 y) ∧ g < w.heap.size ∧ b < w.heap.size := by
  have hl := h.len
  have hb := h.at' i hi
  refine ⟨bs.getD i 0, (es.getD i (0, 0)).1, (es.getD i (0, 0)).2, ?_, ?_, ?_, ?_, (World.ownsRow.lt h.row g rfl).2, (Array.getElem?_eq_some_iff.1 hb).1⟩
  · rw [List.getD_eq_getElem?_getD, List.getElem?_eq_getElem (by omega)]
    rfl
  · rw [World.ownsRow.cellAt h.row i (by omega)]
    simp [hi, sl2]
  · rw [cell_of_row _ _ _ _ _ _ hb]; rfl
  · rw [cell_of_row _ _ _ _ _ _ hb]; rfl

theorem threeRow {W : World} (A B C D : Int) :
    (((W.alloc (.cells #[.int .i64 A, .int .i64 B] 3)).alloc (.cells #[.int .i64 C, .int .i64 D] 3)).alloc (.cells #[sl2 W.heap.size, sl2 (W.heap.size + 1)] 92)).heap[W.heap.size]? = some (.cells #[.int .i64 A, .int .i64 B] 3) ∧
    (((W.alloc (.cells #[.int .i64 A, .int .i64 B] 3)).alloc (.cells #[.int .i64 C, .int .i64 D] 3)).alloc (.cells #[sl2 W.heap.size, sl2 (W.heap.size + 1)] 92)).heap[W.heap.size + 1]? = some (.cells #[.int .i64 C, .int .i64 D] 3) ∧
    (((W.alloc (.cells #[.int .i64 A, .int .i64 B] 3)).alloc (.cells #[.int .i64 C, .int .i64 D] 3)).alloc (.cells #[sl2 W.heap.size, sl2 (W.heap.size + 1)] 92)).cell? ⟨W.heap.size + 1 + 1, 0, none⟩ = some (sl2 W.heap.size) ∧
    (((W.alloc (.cells #[.int .i64 A, .int .i64 B] 3)).alloc (.cells #[.int .i64 C, .int .i64 D] 3)).alloc (.cells #[sl2 W.heap.size, sl2 (W.heap.size + 1)] 92)).cell? ⟨W.heap.size + 1 + 1, 1, none⟩ = some (sl2 (W.heap.size + 1)) := by
  have s2 : ((W.alloc (.cells #[.int .i64 A, .int .i64 B] 3)).alloc (.cells #[.int .i64 C, .int .i64 D] 3)).heap.size = W.heap.size + 1 + 1 := by simp
  have k3 := heap_alloc_last ((W.alloc (.cells #[.int .i64 A, .int .i64 B] 3)).alloc (.cells #[.int .i64 C, .int .i64 D] 3)) (.cells #[sl2 W.heap.size, sl2 (W.heap.size + 1)] 92)
  have k2 := heap_alloc_last (W.alloc (.cells #[.int .i64 A, .int .i64 B] 3)) (.cells #[.int .i64 C, .int .i64 D] 3)
  rw [s2] at k3
  rw [World.size_alloc] at k2
  refine ⟨?_, ?_, ?_, ?_⟩
  · exact (Below.heap_alloc _ _ _ (by simp; omega)).trans ((Below.heap_alloc _ _ _ (by simp)).trans (heap_alloc_last W _))
  · exact (Below.heap_alloc _ _ _ (by simp)).trans k2
  · rw [cell_of_row _ _ _ _ _ _ k3]; rfl
  · rw [cell_of_row _ _ _ _ _ _ k3]; rfl

set_option maxRecDepth 100000 in
set_option maxHeartbeats 4000000 in
theorem sNetOk_any (w : World) (v : Value) (l : List K4) (h : Lks w w.heap.size v l) (hn : l.length ≤ 1048576) :
    Calls Tryz.prog 26 #[v] w fun e w' => e = .returned (.bool (netB l)) ∧ Below w.heap.size w w' := by
  obtain ⟨a, cap, rfl, hc, hm, hh⟩ := h
  have HH := Lib.hid hh
  clear hh
  unfold maxLen at hm
  generalize hN : l.length = n at *
  have HU0 : Hid (Used (w.alloc (.cells #[] 92)) w.heap.size (.slice (some ⟨w.heap.size, 0, none⟩) 0 0) [] (endsL (l.take 0))) := Used.nil (World.ownsRow_made w #[] 0 (Nat.le_refl _) (Nat.zero_le _) rfl)
  have HB0 := Lib.hid (below_alloc1 w (.cells #[] 92))
  go_enter Tryz.func26, Tryz.ntmps26
  go_wp2_with fail
  go_loopw [3, 4] (fun u i wr => ∃ (k : Nat) (bs : List Nat), k ≤ n ∧ i = .int .i64 k ∧ Used wr w.heap.size u bs (endsL (l.take k)) ∧ (∀ j, j < k → lkOk (lkAt l j) = true) ∧ Below w.heap.size w wr) (fun _ i _ => n - (intOf i).toNat)
  case atStart => exact ⟨0, [], Nat.zero_le _, rfl, HU0.out, fun j hj => absurd hj (Nat.not_lt_zero _), HB0.out⟩
  case round =>
    obtain ⟨k, bs, hk, rfl, hu, hall, hbel⟩ := hrel
    have HU := Lib.hid hu
    have HALL := Lib.hid hall
    clear hu hall
    by_cases hlt : k < n
    · have hkz : (k : Int) < (n : Int) := by omega
      rcases HH.out with h1 | ⟨b, off, rfl, hb, hcell⟩
      · rw [h1] at hN; simp at hN; omega
      obtain ⟨c0, c1, c2, c3⟩ := (hcell k hlt).below hbel hb
      clear hcell
      have HBAD : Hid (lkOk (lkAt l k) = false → netB l = false) := fun hx => netB_bad (by omega) hx
      have HEND := Lib.hid (endsL_snoc (l := l) (k := k) (by omega))
      have HBL := Lib.hid hbel
      have HLEN : Hid (bs.length = 2 * k) := by show _ = _; rw [HU.out.len, endsL_len, List.length_take]; omega
      clear hbel
      generalize hX : lkAt l k = x at *
      have HX := Lib.hid hX
      clear hX
      obtain ⟨A, B, C, D⟩ := x
      dsimp only at c0 c1 c2 c3
      have HP := Lib.hid (fun W => l21Sw_any A W)
      have HO := Lib.hid (fun W => l21Sw_any C W)
      have HS := Lib.hid (fun W => l6In_any B 1 3 W)
      have HT := Lib.hid (fun W => l6In_any D 1 3 W)
      obtain ⟨d0, d1, d2, d3, hsz⟩ := quadAt (w := wr) (t := 58) (a := .int .i64 A) (b := .int .i64 B) (c := .int .i64 C) (d := .int .i64 D)
      have HB1 := Lib.hid (below_alloc1 wr (.cells #[.int .i64 A, .int .i64 B, .int .i64 C, .int .i64 D] 58))
      go_wp2_with fail
      clear c0 c1 c2 c3
      generalize (wr.alloc (.cells #[.int .i64 A, .int .i64 B, .int .i64 C, .int .i64 D] 58)) = W at *
      have HUW := Lib.hid (HU.out.below HB1.out)
      have HBW := Lib.hid (belStep HBL.out HB1.out)
      have hlw : wr.heap.size < W.heap.size := by omega
      clear HU HBL HB1 hsz
      cases h1 : swB A
      · rw [h1] at HP
        have HNB := Lib.hid (HBAD.out (by simp [lkOk, h1]))
        clear HBAD
        refine (HP.out _).mono ?_
        rintro e w' ⟨rfl, rfl⟩
        go_wp2
        go_ret
        exact ⟨by rw [HNB.out]; rfl, HBW.out⟩
      · rw [h1] at HP
        refine (HP.out _).mono ?_
        rintro e w' ⟨rfl, rfl⟩
        cases h2 : swB C
        · rw [h2] at HO
          have HNB := Lib.hid (HBAD.out (by simp [lkOk, h2]))
          clear HBAD
          go_wp2_with fail
          refine (HO.out _).mono ?_
          rintro e w' ⟨rfl, rfl⟩
          go_wp2
          go_ret
          exact ⟨by rw [HNB.out]; rfl, HBW.out⟩
        · rw [h2] at HO
          go_wp2_with fail
          refine (HO.out _).mono ?_
          rintro e w' ⟨rfl, rfl⟩
          by_cases hAC : A = C
          · have HNB := Lib.hid (HBAD.out (by simp [lkOk, hAC]))
            clear HBAD HEND HX HALL HO
            subst hAC
            go_wp2
            go_ret
            exact ⟨by rw [HNB.out]; rfl, HBW.out⟩
          · have hAC' : (A == C) = false := by simpa using hAC
            cases h3 : ptB B
            · have h3' : inB B 1 3 = false := h3
              rw [h3'] at HS
              have HNB := Lib.hid (HBAD.out (by simp [lkOk, h3]))
              clear HBAD h3'
              go_wp2_with fail
              refine (HS.out _).mono ?_
              rintro e w' ⟨rfl, rfl⟩
              go_wp2
              go_ret
              exact ⟨by rw [HNB.out]; rfl, HBW.out⟩
            · have h3' : inB B 1 3 = true := h3
              rw [h3'] at HS
              clear h3'
              go_wp2_with fail
              refine (HS.out _).mono ?_
              rintro e w' ⟨rfl, rfl⟩
              cases h4 : ptB D
              · have h4' : inB D 1 3 = false := h4
                rw [h4'] at HT
                have HNB := Lib.hid (HBAD.out (by simp [lkOk, h4]))
                clear HBAD h4'
                go_wp2_with fail
                refine (HT.out _).mono ?_
                rintro e w' ⟨rfl, rfl⟩
                go_wp2
                go_ret
                exact ⟨by rw [HNB.out]; rfl, HBW.out⟩
              · have h4' : inB D 1 3 = true := h4
                rw [h4'] at HT
                clear h4' HBAD
                go_wp2_with fail
                refine (HT.out _).mono ?_
                rintro e w' ⟨rfl, rfl⟩
                have HLK : Hid (∀ j, j < k + 1 → lkOk (lkAt l j) = true) := fun j hj => by
                  by_cases e : j = k
                  · subst e
                    rw [HX.out]
                    simp [lkOk, h1, h2, h3, h4, hAC]
                  · exact HALL.out j (by omega)
                clear HALL HX h1 h2 h3 h4 hAC hAC' HP HO HS HT
                have T3 := Lib.hid (threeRow (W := W) A B C D)
                have B3 := Lib.hid (below_alloc3 W (.cells #[.int .i64 A, .int .i64 B] 3) (.cells #[.int .i64 C, .int .i64 D] 3) (.cells #[sl2 W.heap.size, sl2 (W.heap.size + 1)] 92))
                have HU3 := Lib.hid (HUW.out.below B3.out)
                have HW3 : Hid (w.heap.size ≤ (((W.alloc (.cells #[.int .i64 A, .int .i64 B] 3)).alloc (.cells #[.int .i64 C, .int .i64 D] 3)).alloc (.cells #[sl2 W.heap.size, sl2 (W.heap.size + 1)] 92)).heap.size) := Nat.le_trans HBW.out.size B3.out.size
                go_wp2_with (at_builtin; refine app_two rfl _ _ rfl w.heap.size bs.length u3 (bs.map sl2) rfl HU3.out.row (W.heap.size + 1 + 1) (sl2 W.heap.size) (sl2 (W.heap.size + 1)) rfl T3.out.2.2.1 T3.out.2.2.2 rfl rfl (by have := HLEN.out; omega) HW3.out ?_)
                intro v9 w9 hr9 hg9
                have HU9 := Lib.hid (HU3.out.push T3.out.1 T3.out.2.1 hr9 hg9)
                have HB9 := Lib.hid ((belStep HBW.out B3.out).grown hg9 HW3.out (fun j hj => (World.ownsRow.lt HU3.out.row j hj).1))
                rw [← HEND.out] at HU9
                clear hr9 hg9 HU3 HW3 T3 B3 HUW HBW d0 d1 d2 d3
                go_wp2
                go_roundw
                case rel => exact ⟨k + 1, _, by omega, by go_num, HU9.out, HLK.out, HB9.out⟩
                case measure => simp [intOf]; omega
    · obtain rfl : k = n := by omega
      rw [show l.take k = l from List.take_of_length_le (by omega)] at HU
      have HL2 := HU.out.len
      rw [endsL_len, hN] at HL2
      obtain ⟨a2, cap2, rfl, hc2, hm2, hf2⟩ := used_form HU.out.row
      unfold maxLen at hm2
      have HALLN : Hid (∀ i, i < l.length → lkOk (lkAt l i) = true) := fun i hi => HALL.out i (by omega)
      have HBL := Lib.hid hbel
      have HEL : Hid (bs.length = (endsL l).length) := HU.out.len
      have HC : Hid (∀ i, i < bs.length → ∃ g b x y, a2 = some ⟨g, 0, none⟩ ∧ (endsL l)[i]? = some (x, y) ∧ wr.cell? ⟨g, i, none⟩ = some (.slice (some ⟨b, 0, none⟩) 2 2) ∧ wr.cell? ⟨b, 0, none⟩ = some (.int .i64 x) ∧ wr.cell? ⟨b, 1, none⟩ = some (.int .i64 y) ∧ g < wr.heap.size ∧ b < wr.heap.size) := fun i hi => by
        rcases hf2 with h0 | ⟨g, rfl⟩
        · omega
        · obtain ⟨b, x, y, h⟩ := HU.out.cell hi
          exact ⟨g, b, x, y, rfl, h⟩
      have HM2 : Hid (bs.length ≤ 4000000) := by show _ ≤ _; omega
      clear hbel HALL HU hf2 HL2
      generalize bs.length = m at *
      obtain ⟨W1, hW1⟩ : ∃ W, W = wr := ⟨_, rfl⟩
      subst hW1
      go_wp2_with fail
      go_loopw [6] (fun i wr => ∃ k2 : Nat, k2 ≤ m ∧ i = .int .i64 k2 ∧ (∀ i' j', j' < i' → i' < k2 → (endsL l)[i']? ≠ (endsL l)[j']?) ∧ Below W1.heap.size W1 wr) (fun i _ => m - (intOf i).toNat)
      case atStart => exact ⟨0, Nat.zero_le _, rfl, fun i' j' _ h => absurd h (Nat.not_lt_zero _), Below.refl _ _⟩
      case round =>
        obtain ⟨k2, hk2, rfl, hnd, hbel⟩ := hrel
        have HND := Lib.hid hnd
        have HBL2 := Lib.hid hbel
        clear hnd hbel
        obtain ⟨W2, hW2⟩ : ∃ W, W = wr := ⟨_, rfl⟩
        subst hW2
        by_cases hlt2 : k2 < m
        · have hkz : (k2 : Int) < (m : Int) := by omega
          go_wp2_with fail
          go_loopw [7] (fun i wr => ∃ k3 : Nat, k3 ≤ k2 ∧ i = .int .i64 k3 ∧ (∀ j', j' < k3 → (endsL l)[k2]? ≠ (endsL l)[j']?) ∧ Below W1.heap.size W1 wr) (fun i _ => k2 - (intOf i).toNat)
          case atStart => exact ⟨0, Nat.zero_le _, rfl, fun j' h => absurd h (Nat.not_lt_zero _), HBL2.out⟩
          case round =>
            obtain ⟨k3, hk3, rfl, hnd3, hbel⟩ := hrel
            have HND3 := Lib.hid hnd3
            have HBL3 := Lib.hid hbel
            clear hnd3 hbel
            by_cases hlt3 : k3 < k2
            · have hkz3 : (k3 : Int) < (k2 : Int) := by omega
              have hkz4 : (k3 : Int) < (m : Int) := by omega
              obtain ⟨g, b1, x1, y1, rfl, e1, c1, c2, c3, hg, hb1⟩ := HC.out k2 hlt2
              obtain ⟨g', b2, x2, y2, hgg, e2, d1, d2, d3, _, hb2⟩ := HC.out k3 (by omega)
              obtain rfl : g = g' := by injection hgg with hgg; injection hgg
              clear hgg
              have HE1 := Lib.hid e1
              have HE2 := Lib.hid e2
              have lg : g < wr.heap.size := Nat.lt_of_lt_of_le hg HBL3.out.size
              have lb1 : b1 < wr.heap.size := Nat.lt_of_lt_of_le hb1 HBL3.out.size
              have lb2 : b2 < wr.heap.size := Nat.lt_of_lt_of_le hb2 HBL3.out.size
              have q1 := fun m : Ext wr => m.cell lg ((belCell HBL3.out _ _ hg).trans c1)
              have q2 := fun m : Ext wr => m.cell lb1 ((belCell HBL3.out _ _ hb1).trans c2)
              have q3 := fun m : Ext wr => m.cell lb1 ((belCell HBL3.out _ _ hb1).trans c3)
              have q4 := fun m : Ext wr => m.cell lg ((belCell HBL3.out _ _ hg).trans d1)
              have q5 := fun m : Ext wr => m.cell lb2 ((belCell HBL3.out _ _ hb2).trans d2)
              have q6 := fun m : Ext wr => m.cell lb2 ((belCell HBL3.out _ _ hb2).trans d3)
              clear c1 c2 c3 d1 d2 d3 e1 e2
              by_cases hx : x1 = x2
              · subst hx
                by_cases hy : y1 = y2
                · subst hy
                  have HNB : Hid (netB l = false) := netB_dup ⟨k2, k3, hlt3, by have := HEL.out; omega, by rw [HE1.out, HE2.out]⟩
                  clear HE1 HE2
                  go_wp2_with fail
                  refine wp_region_ext (w0 := wr) (by kernel_rfl) (by kernel_rfl) (Below.refl _ _) ?_
                  repeat (go_big_quiet_step (fail))
                  refine wpQuiet_nil ?_
                  intro w5 hx5
                  have HB5 := Lib.hid (ext_out hx5)
                  clear hx5 q1 q2 q3 q4 q5 q6
                  go_wp2
                  go_ret
                  exact ⟨by rw [HNB.out]; rfl, belStep HBL.out (belStep HBL3.out HB5.out)⟩
                · have HNN : Hid (∀ j', j' < k3 + 1 → (endsL l)[k2]? ≠ (endsL l)[j']?) := fun j' hj => by
                    by_cases e : j' = k3
                    · subst e
                      rw [HE1.out, HE2.out]
                      intro e
                      injection e with e
                      injection e with _ e
                      exact hy e
                    · exact HND3.out j' (by omega)
                  clear HE1 HE2
                  go_wp2_with fail
                  refine wp_region_ext (w0 := wr) (by kernel_rfl) (by kernel_rfl) (Below.refl _ _) ?_
                  repeat (go_big_quiet_step (fail))
                  refine wpQuiet_nil ?_
                  intro w5 hx5
                  have HB5 := Lib.hid (ext_out hx5)
                  clear hx5 q1 q2 q3 q4 q5 q6
                  go_wp2
                  go_roundw
                  case rel => exact ⟨k3 + 1, by omega, by go_num, HNN.out, belStep HBL3.out HB5.out⟩
                  case measure => simp [intOf]; omega
              · have HNN : Hid (∀ j', j' < k3 + 1 → (endsL l)[k2]? ≠ (endsL l)[j']?) := fun j' hj => by
                  by_cases e : j' = k3
                  · subst e
                    rw [HE1.out, HE2.out]
                    intro e
                    injection e with e
                    injection e with e _
                    exact hx e
                  · exact HND3.out j' (by omega)
                have hx' : (x1 == x2) = false := by simpa using hx
                clear HE1 HE2
                go_wp2_with fail
                refine wp_region_ext (w0 := wr) (by kernel_rfl) (by kernel_rfl) (Below.refl _ _) ?_
                repeat (go_big_quiet_step (fail))
                refine wpQuiet_nil ?_
                intro w5 hx5
                have HB5 := Lib.hid (ext_out hx5)
                clear hx5 q1 q2 q3 q4 q5 q6
                go_wp2
                go_roundw
                case rel => exact ⟨k3 + 1, by omega, by go_num, HNN.out, belStep HBL3.out HB5.out⟩
                case measure => simp [intOf]; omega
            · obtain rfl : k3 = k2 := by omega
              have HNN : Hid (∀ i' j', j' < i' → i' < k3 + 1 → (endsL l)[i']? ≠ (endsL l)[j']?) := fun i' j' hj hi => by
                by_cases e : i' = k3
                · subst e
                  exact HND3.out j' hj
                · exact HND.out i' j' hj (by omega)
              go_wp2
              go_roundw
              case rel => exact ⟨k3 + 1, by omega, by go_num, HNN.out, HBL3.out⟩
              case measure => simp [intOf]; omega
        · obtain rfl : k2 = m := by omega
          have HNB : Hid (netB l = decide (l.length ≤ 6)) := netB_all HALLN.out (fun ⟨i, j, hj, hi, he⟩ => HND.out i j hj (by have := HEL.out; omega) he)
          have hdec : decide (l.length ≤ 6) = decide ((k : Int) ≤ 6) := by rw [hN]; exact decide_eq_decide.2 (by omega)
          go_wp2
          go_ret
          exact ⟨by rw [HNB.out, hdec]; rfl, belStep HBL.out HBL2.out⟩

end Go.Proofs.YtjjhahhchimmlaaGreatDoor

namespace Go.Proofs.YtjjhahhchimmlaaGreatDoor
open Go.ChangeShapes Go.WideShapes Go.ChangeAt Go.RowKit Go.Joins
set_option linter.unusedVariables false

end Go.Proofs.YtjjhahhchimmlaaGreatDoor

namespace Go.Proofs.YtjjhahhchimmlaaGreatDoor
open Go.ChangeShapes Go.WideShapes Go.ChangeAt Go.RowKit Go.Joins
set_option linter.unusedVariables false

set_option maxRecDepth 100000 in
set_option maxHeartbeats 4000000 in
theorem l21Peer_any (w : World) (v : Value) (l : List K4) (sw port : Int) (h : Lks w w.heap.size v l) :
    Calls Tryz.prog 50 #[v, .int .i64 sw, .int .i64 port] w fun e w' => e = .returned (.tuple #[.int .i64 (peerF l sw port).1, .int .i64 (peerF l sw port).2]) ∧ Below w.heap.size w w' := by
  obtain ⟨a, cap, rfl, hc, hm, hh⟩ := h
  have HH := Lib.hid hh
  clear hh
  unfold maxLen at hm
  generalize hN : l.length = n at *
  go_enter Tryz.func50, Tryz.ntmps50
  go_wp2_with fail
  go_loopw [8] (fun i wr => ∃ k : Nat, k ≤ n ∧ i = .int .i64 k ∧ peerF (l.drop k) sw port = peerF l sw port ∧ Below w.heap.size w wr) (fun i _ => n - (intOf i).toNat)
  case atStart => exact ⟨0, Nat.zero_le _, rfl, rfl, Below.refl _ _⟩
  case round =>
    obtain ⟨k, hk, rfl, hpe, hbel⟩ := hrel
    by_cases hlt : k < n
    · have hkz : (k : Int) < (n : Int) := by omega
      rcases HH.out with h1 | ⟨b, off, rfl, hb, hcell⟩
      · rw [h1] at hN; simp at hN; omega
      obtain ⟨c0, c1, c2, c3⟩ := (hcell k hlt).below hbel hb
      rw [peerF_drop (by omega)] at hpe
      have HBL := Lib.hid hbel
      have hbr : b < wr.heap.size := Nat.lt_of_lt_of_le hb hbel.size
      clear hcell hbel
      generalize lkAt l k = x at *
      obtain ⟨A, B, C, D⟩ := x
      dsimp only at c0 c1 c2 c3 hpe
      have q0 := fun m : Ext wr => m.cell hbr c0
      have q1 := fun m : Ext wr => m.cell hbr c1
      have q2 := fun m : Ext wr => m.cell hbr c2
      have q3 := fun m : Ext wr => m.cell hbr c3
      by_cases e1 : A = sw ∧ B = port
      · rw [if_pos e1] at hpe
        have HPE : Hid (peerF l sw port = (C, D)) := hpe.symm
        have f1 : (A == sw) = true := by simp [e1.1]
        have f2 : (B == port) = true := by simp [e1.2]
        clear hpe e1
        go_wp2_with fail
        refine wp_region_ext (w0 := wr) (by kernel_rfl) (by kernel_rfl) (Below.refl _ _) ?_
        repeat (go_big_quiet_step (fail))
        refine wpQuiet_nil ?_
        intro w5 hx5
        have HB5 := Lib.hid (ext_out hx5)
        clear hx5 q0 q1 q2 q3
        go_wp2
        go_ret2
        exact ⟨by rw [HPE.out]; try rfl, belStep HBL.out HB5.out⟩
      · by_cases e2 : C = sw ∧ D = port
        · rw [if_neg e1, if_pos e2] at hpe
          have HPE : Hid (peerF l sw port = (A, B)) := hpe.symm
          have g1 : (C == sw) = true := by simp [e2.1]
          have g2 : (D == port) = true := by simp [e2.2]
          clear hpe e2
          have HF : (A == sw) = false ∨ ((A == sw) = true ∧ (B == port) = false) := by
            by_cases x : A = sw
            · exact .inr ⟨by simp [x], by simpa using fun y => e1 ⟨x, y⟩⟩
            · exact .inl (by simpa using x)
          clear e1
          rcases HF with f1 | ⟨f1, f2⟩
          all_goals
            go_wp2_with fail
            refine wp_region_ext (w0 := wr) (by kernel_rfl) (by kernel_rfl) (Below.refl _ _) ?_
            repeat (go_big_quiet_step (fail))
            refine wpQuiet_nil ?_
            intro w5 hx5
            have HB5 := Lib.hid (ext_out hx5)
            clear hx5 q0 q1 q2 q3
            go_wp2
            go_ret2
            exact ⟨by rw [HPE.out]; try rfl, belStep HBL.out HB5.out⟩
        · rw [if_neg e1, if_neg e2] at hpe
          have HPE := Lib.hid hpe
          clear hpe q0 q1 q2 q3
          have HF : (A == sw) = false ∨ ((A == sw) = true ∧ (B == port) = false) := by
            by_cases x : A = sw
            · exact .inr ⟨by simp [x], by simpa using fun y => e1 ⟨x, y⟩⟩
            · exact .inl (by simpa using x)
          have HG : (C == sw) = false ∨ ((C == sw) = true ∧ (D == port) = false) := by
            by_cases x : C = sw
            · exact .inr ⟨by simp [x], by simpa using fun y => e2 ⟨x, y⟩⟩
            · exact .inl (by simpa using x)
          clear e1 e2
          rcases HF with f1 | ⟨f1, f2⟩ <;> rcases HG with g1 | ⟨g1, g2⟩
          all_goals
            go_wp2
            go_roundw
            case rel => exact ⟨k + 1, by omega, by go_num, HPE.out, HBL.out⟩
            case measure => simp [intOf]; omega
    · obtain rfl : k = n := by omega
      rw [List.drop_eq_nil_of_le (by omega)] at hpe
      have HPE : Hid (peerF l sw port = (0, 0)) := hpe.symm
      clear hpe
      go_wp2
      go_ret2
      exact ⟨by rw [HPE.out]; try rfl, hbel⟩

/-- The answer of both. -/
def peerV (l : List K4) (sw port : Int) : Value := bif netB l then .tuple #[.int .i64 (peerF l sw port).1, .int .i64 (peerF l sw port).2, .bool (decide ((peerF l sw port).1 > 0))] else .tuple #[.int .i64 0, .int .i64 0, .bool false]

theorem peer_none {l : List K4} (h : netB l = true) {sw port : Int} (hz : swB sw = false ∨ ptB port = false) : peerF l sw port = (0, 0) := by
  rcases peer_ok h sw port with h0 | ⟨⟨s1, s4⟩, ⟨t1, t3⟩, -⟩
  · exact h0
  · rcases hz with hz | hz
    · rw [show swB sw = true from inB_mk s1 s4] at hz; cases hz
    · rw [show ptB port = true from inB_mk t1 t3] at hz; cases hz

end Go.Proofs.YtjjhahhchimmlaaGreatDoor
