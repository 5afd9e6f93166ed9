/-
  Proved: promise 14 (what is left of a pattern is patterns apart), at every code from which the patterns are drawn; the code reads on as it did. No condition.
-/
import Derived.Test.YtdiegaffbbhamabWildLessF
namespace Go.Proofs.Ytdiegaffbbhamab
open Go.ChangeShapes Go.WideShapes Go.ChangeAt Go.RowKit Go.Joins
set_option linter.unusedVariables false

theorem cnt_take (l : List ByteArray) (f : Nat → Bool) : ∀ k, k ≤ l.length → cntL (l.take k) f = cntTo (fun j => okS (strAt l j) && hasM (cf (strAt l j)) (vf (strAt l j)) f) k
  | 0, _ => by simp [cntL, cntTo]
  | k + 1, h => by
    have ih := cnt_take l f k (by omega)
    simp only [cntTo]
    rw [← ih]
    unfold cntL strAt
    rw [List.take_succ_eq_append_getElem (by omega), List.map_append, List.sum_append, List.getD_eq_getElem?_getD, List.getElem?_eq_getElem (by omega)]
    simp only [List.map_cons, List.map_nil, List.sum_cons, List.sum_nil, Option.getD_some, Nat.add_zero]
/-- As many of the texts a head of a number is of, as the count says. -/
theorem cnt_row {a b : ByteArray} (ha : okS a = true) (hb : okS b = true) (n : Nat) : cntTo (fun j => hasS (strAt (lessL a b) j) ((n : Int) / 16 % 4) ((n : Int) / 4 % 4) ((n : Int) % 4)) (lessL a b).length
    = (hasS a ((n : Int) / 16 % 4) ((n : Int) / 4 % 4) ((n : Int) % 4) && !hasS b ((n : Int) / 16 % 4) ((n : Int) / 4 % 4) ((n : Int) % 4)).toNat := by
  rw [cntTo_congr (fun j _ => hasS_lx (strAt (lessL a b) j) n), ← cnt_take _ _ _ (Nat.le_refl _), List.take_length, less_count ha hb, hasS_lx, hasS_lx, ha, hb, Bool.true_and, Bool.true_and]
/-- A row's form, with what the walk asks of it: its length, and its strings. -/
theorem row_open {w : World} {base : Nat} {v : Value} {l : List ByteArray} (h : StrRow w base v l) : ∃ (a : Option Addr) (cap : Nat), v = .slice a l.length cap ∧ l.length ≤ cap ∧ cap ≤ maxLen ∧ (0 < l.length → ∃ g, a = some ⟨g, 0, none⟩ ∧ g < w.heap.size ∧ ∀ j, j < l.length → w.cell? ⟨g, j, none⟩ = some (.string (strAt l j))) := by
  rcases h.form with ⟨rfl, rfl⟩ | ⟨g, cap, rfl, hb, hg, hc, hm, hcell, hfr⟩
  · exact ⟨none, 0, rfl, Nat.le_refl _, Nat.zero_le _, fun h => by simp at h⟩
  · exact ⟨_, cap, rfl, hc, hm, fun _ => ⟨g, rfl, hg, hcell⟩⟩

set_option maxHeartbeats 8000000 in
theorem walk_FnWildLess (a : Option Addr) (len cap : Nat) (w : World) (hb : BytesIn w w.heap.size a len cap) :
    Calls Try.prog 6 #[.slice a len cap] w fun e w' => e = .returned (.bool true) ∧ Below w.heap.size w w' := by
  have HB := Lib.hid hb
  have hm : (len : Int) ≤ maxLen := by have := hb.1; have := hb.2.1; omega
  unfold maxLen at hm
  clear hb
  by_cases hlen : (1048576 : Int) < (len : Int)
  · go_enter Try.func6, Try.ntmps6
    go_wp2
    go_ret
    exact ⟨rfl, Below.refl _ _⟩
  go_enter Try.func6, Try.ntmps6
  go_wp2_with fail
  refine (drawWildLess_any _ _ _ _ HB.out).mono ?_
  rintro e w1 ⟨s, t, hs, ht, rfl, b1⟩
  have s1 := b1.size
  go_wp2_with fail
  refine (iWildLess_any s t (by omega) (by omega) _).mono ?_
  rintro e w2 ⟨v0, rfl, r0, b2⟩
  have R0 := Lib.hid r0
  have s2 := b2.size
  clear r0
  go_wp2_with fail
  refine (sWildLess_any s t (by omega) (by omega) _).mono ?_
  rintro e w3 ⟨v1, rfl, r1, b3⟩
  have R1 := Lib.hid r1
  have R0' := Lib.hid (R0.out.below b3)
  have B3 : Hid (Below w.heap.size w w3) := belStep b1 (belStep b2 b3)
  have z3 := B3.out.size
  have hn := lessL_len s t
  clear r1 b1 b2 b3 R0
  have hcnt := Lib.hid (fun h1 h2 => cnt_row (a := s) (b := t) h1 h2)
  have hsz : Hid (∀ j, (strAt (lessL s t) j).size ≤ 1048576) := by
    intro j
    unfold strAt
    rw [List.getD_eq_getElem?_getD]
    cases h : (lessL s t)[j]? with
    | none => exact Nat.zero_le _
    | some x =>
      have hx := List.mem_of_getElem? h
      show x.size ≤ 1048576
      unfold lessL at hx
      revert hx
      cases okS s && okS t
      · simp
      · cases meetS s t
        · intro hx
          simp at hx
          subst hx
          omega
        · intro hx
          simp only [cond_true, textsOf, List.mem_map] at hx
          obtain ⟨p, _, rfl⟩ := hx
          exact Nat.le_trans (Nat.le_of_eq (mk6_size _)) (by omega)
  obtain ⟨a0, cap0, rfl, hc0, hm0, hp0⟩ := row_open R0'.out
  obtain ⟨a1, cap1, rfl, hc1, hm1, hp1⟩ := row_open R1.out
  have HP0 := Lib.hid hp0
  have HP1 := Lib.hid hp1
  unfold maxLen at hm0 hm1
  clear hp0 hp1 R0' R1
  generalize lessL s t = L at *
  generalize hN : L.length = n at *
  go_wp2_with fail
  refine (sWildOk_any s (by omega) _).mono ?_
  rintro e w' ⟨rfl, rfl⟩
  cases hks : okS s
  · go_wp2
    go_ret
    exact ⟨rfl, B3.out⟩
  go_wp2_with fail
  refine (sWildOk_any t (by omega) _).mono ?_
  rintro e w' ⟨rfl, rfl⟩
  cases hkt : okS t
  · go_wp2
    go_ret
    exact ⟨rfl, B3.out⟩
  have HCNT := Lib.hid (hcnt.out hks hkt)
  clear hcnt hks hkt
  go_wp2
  go_loopw [7] (fun i wr => ∃ k : Nat, k ≤ 64 ∧ i = .int .i64 k ∧ Below w3.heap.size w3 wr) (fun i _ => 64 - (intOf i).toNat)
  case atStart => exact ⟨0, Nat.zero_le _, rfl, Below.refl _ _⟩
  case round =>
    obtain ⟨k, hk, rfl, hbel⟩ := hrel
    by_cases hlt : k < 64
    · have hcn := HCNT.out k
      go_wp2_with fail
      refine (lxHead_at _ (by omega) _).mono ?_
      rintro e w4 ⟨rfl, b4⟩
      have s4 := b4.size
      have z4 := hbel.size
      generalize hu : (k : Int) / 16 % 4 = u at *
      generalize hv : (k : Int) / 4 % 4 = v at *
      generalize hq : (k : Int) % 4 = q at *
      clear hu hv hq
      go_wp2
      have C0 := Lib.hid (trip_cells (newBlock w4 (.cells #[.int .i64 u, .int .i64 v, .int .i64 q] 29)))
      have BW : Hid (Below w3.heap.size w3 (w4.alloc (.cells #[.int .i64 u, .int .i64 v, .int .i64 q] 29))) := (belStep hbel b4).alloc (by omega) _
      have zW : w4.heap.size < (w4.alloc (.cells #[.int .i64 u, .int .i64 v, .int .i64 q] 29)).heap.size := by simp
      clear b4 hbel
      generalize w4.alloc (.cells #[.int .i64 u, .int .i64 v, .int .i64 q] 29) = W at *
      generalize w4.heap.size = h at *
      have HC := Lib.hid (cellsHeld C0.out zW)
      go_loopw [9, 10] (fun x i wr => ∃ j : Nat, j ≤ n ∧ i = .int .i64 j ∧ x = .int .i64 ((cntTo (fun j => hasS (strAt L j) u v q) j : Nat) : Int) ∧ Below W.heap.size W wr) (fun _ i _ => n - (intOf i).toNat)
      case atStart => exact ⟨0, Nat.zero_le _, rfl, rfl, Below.refl _ _⟩
      case round =>
        obtain ⟨j, hj, rfl, rfl, hbj⟩ := hrel
        have hjl := cntTo_le (fun j => hasS (strAt L j) u v q) j
        by_cases hltj : j < n
        · have hz : (j : Int) < (n : Int) := by omega
          obtain ⟨g, rfl, hg, hcell⟩ := HP0.out (by omega)
          obtain ⟨g', rfl, hg', hcell'⟩ := HP1.out (by omega)
          have bj3 : Below w3.heap.size w3 wr := BW.out.trans (hbj.mono BW.out.size)
          have c0 : wr.cell? ⟨g, j, none⟩ = some (.string (strAt L j)) := (belCell bj3 _ _ hg).trans (hcell j hltj)
          have c1 : wr.cell? ⟨g', j, none⟩ = some (.string (strAt L j)) := (belCell bj3 _ _ hg').trans (hcell' j hltj)
          have HX : Hid (∀ w' : World, Below W.heap.size W w' → w'.cell? ⟨g, j, none⟩ = some (.string (strAt L j))) := fun w' hb' => (belCell (BW.out.trans (hb'.mono BW.out.size)) _ _ hg).trans (hcell j hltj)
          clear hcell hcell' bj3
          have HE : Hid (cntTo (fun j => hasS (strAt L j) u v q) (j + 1) = cntTo (fun j => hasS (strAt L j) u v q) j + (hasS (strAt L j) u v q).toNat) := rfl
          have HH := Lib.hid (iWildHas_any (strAt L j) (hsz.out j) u v q)
          generalize hcc : cntTo (fun j => hasS (strAt L j) u v q) j = m at *
          clear hcc
          generalize strAt L j = x at *
          go_wp2_with fail
          go_quiet (fail)
          have bq := belDrewN hbj nq
          clear hbj c0 c1
          generalize wr.drewN nq = V at *
          have c0 := HX.out V bq
          obtain ⟨q0, q1, q2⟩ := HC.out V bq
          have HB := Lib.hid bq
          clear bq
          have HS : Hid (∀ w' : World, Below W.heap.size W w' → (w'.cell? ⟨g, j, none⟩ = some (.string x) ∧ w'.cell? ⟨h, 0, none⟩ = some (.int .i64 u) ∧ w'.cell? ⟨h, 1, none⟩ = some (.int .i64 v) ∧ w'.cell? ⟨h, 2, none⟩ = some (.int .i64 q) ∧ Below W.heap.size W w')) := fun w' hb' => by
            obtain ⟨a1, a2, a3⟩ := HC.out w' hb'
            exact ⟨HX.out w' hb', a1, a2, a3, hb'⟩
          clear c0 q0 q1 q2
          cases hb : hasS x u v q
          all_goals
            rw [hb] at HH HE
            go_wp2_with fail
            go_region_held3 (fun w' => w'.cell? ⟨g, j, none⟩ = some (.string x) ∧ w'.cell? ⟨h, 0, none⟩ = some (.int .i64 u) ∧ w'.cell? ⟨h, 1, none⟩ = some (.int .i64 v) ∧ w'.cell? ⟨h, 2, none⟩ = some (.int .i64 q) ∧ Below W.heap.size W w')
              (first | exact HS.out _ HB.out.drew | (go_split_ands; exact HS.out _ (belStep (by assumption) hq)))
              (first | (go_at_call 13; ((with_reducible refine (HH.out _).mono ?_); rintro e wq ⟨rfl, hq⟩)))
            go_split_ands
            go_wp2
            go_roundw
            case rel => exact ⟨j + 1, by omega, by go_num, by rw [HE.out]; rfl, by assumption⟩
            case measure => simp [intOf]; omega
        · obtain rfl : j = n := by omega
          rw [hcn]
          have HS1 := Lib.hid (iWildHas_any s (by omega) u v q)
          have HS2 := Lib.hid (iWildHas_any t (by omega) u v q)
          clear hjl hcn
          generalize hasS s u v q = A at *
          generalize hasS t u v q = B at *
          obtain ⟨q0, q1, q2⟩ := HC.out _ hbj
          cases A
          · go_wp2_with fail
            refine (HS1.out _).mono ?_
            rintro e w5 ⟨rfl, b5⟩
            go_wp2
            go_roundw
            case rel => exact ⟨k + 1, by omega, by go_num, BW.out.trans ((belStep hbj b5).mono BW.out.size)⟩
            case measure => simp [intOf]; omega
          · cases B
            all_goals
              go_wp2_with fail
              refine (HS1.out _).mono ?_
              rintro e w5 ⟨rfl, b5⟩
              have b5' := belStep hbj b5
              obtain ⟨p0, p1, p2⟩ := HC.out _ b5'
              go_wp2_with fail
              refine (HS2.out _).mono ?_
              rintro e w6 ⟨rfl, b6⟩
              go_wp2
              go_roundw
              case rel => exact ⟨k + 1, by omega, by go_num, BW.out.trans ((belStep b5' b6).mono BW.out.size)⟩
              case measure => simp [intOf]; omega
    · obtain rfl : k = 64 := by omega
      go_wp2
      go_ret
      exact ⟨rfl, B3.out.trans (hbel.mono z3)⟩

set_option maxRecDepth 100000 in
theorem lifted_FnWildLess (os : Os) (started : os.Started) (H : Type) (enc : TypeId × Value → H) :
    ReturnsInHanded {} Try.checked os 6 .any (Rows.fnWildLessSpec.pre6 enc Try.prog Try.f6 Rows.fnWildLessRow.domain false) (Rows.fnWildLessSpec.post enc Try.prog Try.f6 false true false false) := by
  refine returnsInHanded_of_change (C := Try.checked) own started (by kernel_rfl) Try.func6
    (ChangeSpec.witness6 (enc := enc) (C := Try.checked) false ⟨#[], #[.slice none 0 0], []⟩ 8 (by kernel_rfl) (by kernel_rfl) (by kernel_rfl) (by kernel_rfl)) ?_
  intro W base args ds gs before hval0 hW hcnd _
  have hval : ∀ (j : Nat) t v, Try.f6.params[j]? = some t → args[j]? = some v → Value.okWide Try.prog W .any base t v := hval0
  have hW' := hW
  obtain ⟨p, q, hA0, hV, rfl, hfz, hnd⟩ := hW
  have hA : DataW.TrodAll enc Try.prog W 0 (fun _ => true) true Try.f6.params.toList args.toList ds p := hA0
  rw [Try.params6] at hA hval
  obtain ⟨v0, vs0, d0, ds0, p0, q0, hargs, rfl, rfl, h0, r0⟩ := trodAll_cons hA
  obtain ⟨rfl, rfl, rfl⟩ := trodAll_nil r0
  obtain rfl : args = #[v0] := by cases args; simp_all
  obtain ⟨rfl, rfl⟩ := trodVars_none hV
  have k0 := h0
  have lt0 : ∀ x ∈ p0, x.block < W.heap.size := by obtain ⟨m, hm⟩ := k0; exact DataW.trod_lt m _ _ _ hm
  obtain ⟨a0, len0, cap0, rfl⟩ := okWide_slice Try.underlying22 (hval 0 22 v0 rfl rfl)
  have w0 : BytesIn W W.heap.size a0 len0 cap0 := isRow_of h0
  clear hA0 hval0
  refine (walk_FnWildLess a0 len0 cap0 W w0).mono fun e W' ⟨he, bel⟩ => ?_
  subst he
  exact ⟨_, rfl, _, _, _, [], _, [], hW', trodAll_mk1 (shut_bool Try.underlying4 _), (trodAll_cons_mk (Below.trod laidOut (by kernel_rfl) (of_decide_eq_true (by kernel_rfl)) k0 bel lt0) (trodAll_mk0)), rfl, bel.frame _, fun h => by cases h⟩

theorem over_FnWildLess : Rows.fnWildLessRow.holds Try.pinned (OpenSpec.ofChange Rows.fnWildLessSpec) :=
  OpenClaim.holds_of_wide 6 Try.f6 rfl rfl rfl rfl rfl rfl rfl ⟨rfl, rfl, rfl, rfl, rfl⟩ rfl rfl rfl rfl rfl (by kernel_rfl) Try.func6 (by kernel_rfl)
    (of_decide_eq_true (by kernel_rfl)) (by unfold Func.isWrapper; first | (rw [if_pos (by decide +kernel)]; kernel_rfl) | (rw [if_neg (by decide +kernel)]; exact ⟨rfl, rfl⟩))
    (fun os started H enc _ => lifted_FnWildLess os started H enc)

theorem proved_FnWildLess : Rows.FnWildLessSaid := over_FnWildLess

end Go.Proofs.Ytdiegaffbbhamab
