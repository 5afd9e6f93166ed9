/-
  Proved: promise 15 (what is left, and what is in common, are all), at every code from which the patterns are drawn; the code reads on as it did. No condition.
-/
import Derived.Test.YtdiegaffbbhamabWildLessF
namespace Go.Proofs.Ytdiegaffbbhamab
open Go.ChangeShapes Go.WideShapes Go.ChangeAt Go.RowKit Go.Joins
set_option linter.unusedVariables false

theorem sum_step (l : List ByteArray) {k : Nat} (h : k < l.length) : sumL (l.take (k + 1)) = sumL (l.take k) + manyS (strAt l k) := by
  unfold sumL strAt
  rw [List.take_succ_eq_append_getElem h, List.map_append, List.sum_append, List.getD_eq_getElem?_getD, List.getElem?_eq_getElem h]
  simp only [List.map_cons, List.map_nil, List.sum_cons, List.sum_nil, Option.getD_some, Int.add_zero]
theorem manyS_bound (s : ByteArray) : 0 ≤ manyS s ∧ manyS s ≤ 64 := by
  unfold manyS
  cases okS s
  · show (0 : Int) ≤ 0 ∧ (0 : Int) ≤ 64
    omega
  · have := manyB_pos (cf s)
    show 0 ≤ manyB (cf s) ∧ manyB (cf s) ≤ 64
    omega
theorem sum_bound (l : List ByteArray) : ∀ k, k ≤ l.length → 0 ≤ sumL (l.take k) ∧ sumL (l.take k) ≤ 64 * (k : Int)
  | 0, _ => by simp [sumL]
  | k + 1, h => by
    have ih := sum_bound l k (by omega)
    have hb := manyS_bound (strAt l k)
    rw [sum_step l (by omega)]
    omega
/-- A row's form, with what the walk asks of it: its length, and its strings. -/
theorem row_open {w : World} {base : Nat} {v : Value} {l : List ByteArray} (h : StrRow w base v l) : ∃ (a : Option Addr) (cap : Nat), v = .slice a l.length cap ∧ l.length ≤ cap ∧ cap ≤ maxLen ∧ (0 < l.length → ∃ g, a = some ⟨g, 0, none⟩ ∧ g < w.heap.size ∧ ∀ j, j < l.length → w.cell? ⟨g, j, none⟩ = some (.string (strAt l j))) := by
  rcases h.form with ⟨rfl, rfl⟩ | ⟨g, cap, rfl, hb, hg, hc, hm, hcell, hfr⟩
  · exact ⟨none, 0, rfl, Nat.le_refl _, Nat.zero_le _, fun h => by simp at h⟩
  · exact ⟨_, cap, rfl, hc, hm, fun _ => ⟨g, rfl, hg, hcell⟩⟩

set_option maxHeartbeats 4000000 in
theorem walk_FnLessMany (a : Option Addr) (len cap : Nat) (w : World) (hb : BytesIn w w.heap.size a len cap) :
    Calls Try.prog 7 #[.slice a len cap] w fun e w' => e = .returned (.bool true) ∧ Below w.heap.size w w' := by
  have HB := Lib.hid hb
  have hm : (len : Int) ≤ maxLen := by have := hb.1; have := hb.2.1; omega
  unfold maxLen at hm
  clear hb
  by_cases hlen : (1048576 : Int) < (len : Int)
  · go_enter Try.func7, Try.ntmps7
    go_wp2
    go_ret
    exact ⟨rfl, Below.refl _ _⟩
  go_enter Try.func7, Try.ntmps7
  go_wp2_with fail
  refine (drawWildLess_any _ _ _ _ HB.out).mono ?_
  rintro e w1 ⟨s, t, hs, ht, rfl, b1⟩
  have s1 := b1.size
  go_wp2_with fail
  refine (iWildLess_any s t (by omega) (by omega) _).mono ?_
  rintro e w2 ⟨v0, rfl, r0, b2⟩
  have R0 := Lib.hid r0
  have s2 := b2.size
  clear r0
  go_wp2_with fail
  refine (sWildLess_any s t (by omega) (by omega) _).mono ?_
  rintro e w3 ⟨v1, rfl, r1, b3⟩
  have R1 := Lib.hid r1
  have R0' := Lib.hid (R0.out.below b3)
  have B3 : Hid (Below w.heap.size w w3) := belStep b1 (belStep b2 b3)
  have z3 := B3.out.size
  have hn := lessL_len s t
  clear r1 b1 b2 b3 R0
  have hsum := Lib.hid (fun h1 h2 => less_sum (a := s) (b := t) h1 h2)
  have hnone := Lib.hid (fun h1 h2 => less_none (a := s) (b := t) h1 h2)
  have hst := Lib.hid (fun k (hk : k < (lessL s t).length) => sum_step (lessL s t) hk)
  have hbd := Lib.hid (fun k (hk : k ≤ (lessL s t).length) => sum_bound (lessL s t) k hk)
  have hall : Hid (sumL ((lessL s t).take (lessL s t).length) = sumL (lessL s t)) := by show _ = _; rw [List.take_length]
  have hsz : Hid (∀ j, (strAt (lessL s t) j).size ≤ 1048576) := by
    intro j
    unfold strAt
    rw [List.getD_eq_getElem?_getD]
    cases h : (lessL s t)[j]? with
    | none => exact Nat.zero_le _
    | some x =>
      have hx := List.mem_of_getElem? h
      show x.size ≤ 1048576
      unfold lessL at hx
      revert hx
      cases okS s && okS t
      · simp
      · cases meetS s t
        · intro hx
          simp at hx
          subst hx
          omega
        · intro hx
          simp only [cond_true, textsOf, List.mem_map] at hx
          obtain ⟨p, _, rfl⟩ := hx
          exact Nat.le_trans (Nat.le_of_eq (mk6_size _)) (by omega)
  obtain ⟨a0, cap0, rfl, hc0, hm0, hp0⟩ := row_open R0'.out
  obtain ⟨a1, cap1, rfl, hc1, hm1, -⟩ := row_open R1.out
  have HP0 := Lib.hid hp0
  unfold maxLen at hm0 hm1
  clear hp0 R0' R1
  have hax := andS_size s t
  generalize lessL s t = L at *
  generalize hN : L.length = n at *
  go_wp2_with fail
  refine (sWildOk_any s (by omega) _).mono ?_
  rintro e w' ⟨rfl, rfl⟩
  cases hks : okS s
  · go_wp2
    go_ret
    exact ⟨rfl, B3.out⟩
  go_wp2_with fail
  refine (sWildOk_any t (by omega) _).mono ?_
  rintro e w' ⟨rfl, rfl⟩
  cases hkt : okS t
  · go_wp2
    go_ret
    exact ⟨rfl, B3.out⟩
  have HSUM := Lib.hid (hsum.out hks hkt)
  have hnn := hnone.out hks hkt
  clear hsum hnone
  go_wp2
  go_loopw [7, 8] (fun x i wr => ∃ k : Nat, k ≤ n ∧ i = .int .i64 k ∧ x = .int .i64 (sumL (L.take k)) ∧ Below w3.heap.size w3 wr) (fun _ i _ => n - (intOf i).toNat)
  case atStart => exact ⟨0, Nat.zero_le _, rfl, rfl, Below.refl _ _⟩
  case round =>
    obtain ⟨k, hk, rfl, rfl, hbel⟩ := hrel
    have hbb := hbd.out k hk
    by_cases hlt : k < n
    · have hz : (k : Int) < (n : Int) := by omega
      obtain ⟨g, rfl, hg, hcell⟩ := HP0.out (by omega)
      have c0 : wr.cell? ⟨g, k, none⟩ = some (.string (strAt L k)) := (belCell hbel _ _ hg).trans (hcell k hlt)
      clear hcell
      have HST := Lib.hid (hst.out k hlt)
      have hmb := manyS_bound (strAt L k)
      have HM := Lib.hid (iWildMany_any (strAt L k) (hsz.out k))
      generalize strAt L k = x at *
      generalize manyS x = m at *
      generalize sumL (L.take k) = y at *
      obtain ⟨y0, y1⟩ := hbb
      obtain ⟨m0, m1⟩ := hmb
      go_wp2_with fail
      refine (HM.out _).mono ?_
      rintro e w4 ⟨rfl, b4⟩
      go_wp2
      go_roundw
      case rel => exact ⟨k + 1, by omega, by go_num, by rw [HST.out], belStep hbel b4⟩
      case measure => simp [intOf]; omega
    · obtain rfl : k = n := by omega
      rw [hall.out]
      rw [hall.out] at hbb
      clear hall
      go_wp2_with fail
      refine (iWildAnd_any s t (by omega) (by omega) _).mono ?_
      rintro e w4 ⟨rfl, b4⟩
      have hsu := HSUM.out
      have HMA := Lib.hid (iWildMany_any (andS s t) (by omega))
      have HMS := Lib.hid (iWildMany_any s (by omega))
      have HIN := Lib.hid (iWildIn_any s t (by omega) (by omega))
      have hma := manyS_bound (andS s t)
      generalize andS s t = x at *
      generalize manyS x = m at *
      generalize sumL L = y at *
      generalize manyS s = z at *
      generalize inS s t = q at *
      obtain ⟨y0, y1⟩ := hbb
      obtain ⟨m0, m1⟩ := hma
      cases hm : meetS s t
      · rw [hm] at hsu
        have hsu' : y = z := by simpa using hsu
        subst hsu'
        clear hsu HSUM
        go_wp2_with fail
        refine (HMS.out _).mono ?_
        rintro e w5 ⟨rfl, b5⟩
        go_wp2_with fail
        refine (HIN.out _).mono ?_
        rintro e w6 ⟨rfl, b6⟩
        rw [← hnn]
        go_wp2
        go_ret
        exact ⟨rfl, belStep B3.out (belStep hbel (belStep b4 (belStep b5 b6)))⟩
      · rw [hm] at hsu
        have hsu' : y + m = z := by simpa using hsu
        subst hsu'
        clear hsu HSUM
        go_wp2_with fail
        refine (HMA.out _).mono ?_
        rintro e w5 ⟨rfl, b5⟩
        go_wp2_with fail
        refine (HMS.out _).mono ?_
        rintro e w6 ⟨rfl, b6⟩
        go_wp2_with fail
        refine (HIN.out _).mono ?_
        rintro e w7 ⟨rfl, b7⟩
        rw [← hnn]
        go_wp2
        go_ret
        exact ⟨rfl, belStep B3.out (belStep hbel (belStep b4 (belStep b5 (belStep b6 b7))))⟩

set_option maxRecDepth 100000 in
theorem lifted_FnLessMany (os : Os) (started : os.Started) (H : Type) (enc : TypeId × Value → H) :
    ReturnsInHanded {} Try.checked os 7 .any (Rows.fnLessManySpec.pre6 enc Try.prog Try.f7 Rows.fnLessManyRow.domain false) (Rows.fnLessManySpec.post enc Try.prog Try.f7 false true false false) := by
  refine returnsInHanded_of_change (C := Try.checked) own started (by kernel_rfl) Try.func7
    (ChangeSpec.witness6 (enc := enc) (C := Try.checked) false ⟨#[], #[.slice none 0 0], []⟩ 8 (by kernel_rfl) (by kernel_rfl) (by kernel_rfl) (by kernel_rfl)) ?_
  intro W base args ds gs before hval0 hW hcnd _
  have hval : ∀ (j : Nat) t v, Try.f7.params[j]? = some t → args[j]? = some v → Value.okWide Try.prog W .any base t v := hval0
  have hW' := hW
  obtain ⟨p, q, hA0, hV, rfl, hfz, hnd⟩ := hW
  have hA : DataW.TrodAll enc Try.prog W 0 (fun _ => true) true Try.f7.params.toList args.toList ds p := hA0
  rw [Try.params7] at hA hval
  obtain ⟨v0, vs0, d0, ds0, p0, q0, hargs, rfl, rfl, h0, r0⟩ := trodAll_cons hA
  obtain ⟨rfl, rfl, rfl⟩ := trodAll_nil r0
  obtain rfl : args = #[v0] := by cases args; simp_all
  obtain ⟨rfl, rfl⟩ := trodVars_none hV
  have k0 := h0
  have lt0 : ∀ x ∈ p0, x.block < W.heap.size := by obtain ⟨m, hm⟩ := k0; exact DataW.trod_lt m _ _ _ hm
  obtain ⟨a0, len0, cap0, rfl⟩ := okWide_slice Try.underlying22 (hval 0 22 v0 rfl rfl)
  have w0 : BytesIn W W.heap.size a0 len0 cap0 := isRow_of h0
  clear hA0 hval0
  refine (walk_FnLessMany a0 len0 cap0 W w0).mono fun e W' ⟨he, bel⟩ => ?_
  subst he
  exact ⟨_, rfl, _, _, _, [], _, [], hW', trodAll_mk1 (shut_bool Try.underlying4 _), (trodAll_cons_mk (Below.trod laidOut (by kernel_rfl) (of_decide_eq_true (by kernel_rfl)) k0 bel lt0) (trodAll_mk0)), rfl, bel.frame _, fun h => by cases h⟩

theorem over_FnLessMany : Rows.fnLessManyRow.holds Try.pinned (OpenSpec.ofChange Rows.fnLessManySpec) :=
  OpenClaim.holds_of_wide 7 Try.f7 rfl rfl rfl rfl rfl rfl rfl ⟨rfl, rfl, rfl, rfl, rfl⟩ rfl rfl rfl rfl rfl (by kernel_rfl) Try.func7 (by kernel_rfl)
    (of_decide_eq_true (by kernel_rfl)) (by unfold Func.isWrapper; first | (rw [if_pos (by decide +kernel)]; kernel_rfl) | (rw [if_neg (by decide +kernel)]; exact ⟨rfl, rfl⟩))
    (fun os started H enc _ => lifted_FnLessMany os started H enc)

theorem proved_FnLessMany : Rows.FnLessManySaid := over_FnLessMany

end Go.Proofs.Ytdiegaffbbhamab
