/-
  Proved: promise 7 (a head is of a pattern, if each sign is its own, or x), at every code from which the pattern and the head are drawn; the code reads on as it did. No condition.
-/
import Derived.Test.YtdiegaffbbhamaaWildFacts
namespace Go.Proofs.Ytdiegaffbbhamaa
open Go.ChangeShapes Go.WideShapes Go.ChangeAt Go.RowKit Go.Joins
set_option linter.unusedVariables false

theorem belHead {n : Nat} {w v : World} (h : Below n w v) {r : Nat} (hr : n ≤ r) (a b c : Value) : Below n w (((v.setCell ⟨r, 0, none⟩ a).setCell ⟨r, 1, none⟩ b).setCell ⟨r, 2, none⟩ c) := ((h.setCell hr _).setCell hr _).setCell hr _
theorem rdHead {v : World} {g B : Nat} (h : RdOk v g B) {r : Nat} (hr : g < r) (a b c : Value) : RdOk (((v.setCell ⟨r, 0, none⟩ a).setCell ⟨r, 1, none⟩ b).setCell ⟨r, 2, none⟩ c) g B := ((h.setCell hr _).setCell hr _).setCell hr _
theorem putHead {v : World} {r : Nat} {x y z : Value} {t : TypeId} (h : v.heap[r]? = some (.cells #[x, y, z] t)) (a b c : Value) : (((v.setCell ⟨r, 0, none⟩ a).setCell ⟨r, 1, none⟩ b).setCell ⟨r, 2, none⟩ c).heap[r]? = some (.cells #[a, b, c] t) := by
  have h1 := block_setCell (i := 0) h a
  have h2 := block_setCell (i := 1) h1 b
  have h3 := block_setCell (i := 2) h2 c
  simpa using h3
theorem otherHead {v : World} {r q : Nat} (hq : q ≠ r) (a b c : Value) : (((v.setCell ⟨r, 0, none⟩ a).setCell ⟨r, 1, none⟩ b).setCell ⟨r, 2, none⟩ c).heap[q]? = v.heap[q]? := by
  rw [Below.heap_setCell _ _ _ _ (by exact hq), Below.heap_setCell _ _ _ _ (by exact hq), Below.heap_setCell _ _ _ _ (by exact hq)]

set_option maxHeartbeats 4000000 in
theorem drawWildHas_any (w : World) (a : Option Addr) (len cap : Nat) (hb : BytesIn w w.heap.size a len cap) :
    Calls Try.prog 33 #[.slice a len cap] w (TextHeadDrawn w) := by
  have HB := Lib.hid ((hb.keep (w' := w.alloc (.cells #[.int .i64 0, .int .i64 0, .int .i64 0] 26)) (fun k hk => Below.heap_alloc _ _ _ hk)).up (g' := w.heap.size + 1) (by omega))
  clear hb
  go_enter Try.func33, Try.ntmps33
  go_wp2_with fail
  refine (open_any _ _ _ _ (by simpa using HB.out)).mono ?_
  rintro e w1 ⟨rfl, hr, b1⟩
  have hr' : RdOk w1 (w.heap.size + 1) 0 := by simpa using hr
  have HR := Lib.hid hr'
  have s1 := HR.out.lt
  have R1 : Hid (w1.heap[w.heap.size]? = some (.cells #[.int .i64 0, .int .i64 0, .int .i64 0] 26)) := (b1.block _ (by simp)).trans (newBlock w _)
  have B1 : Hid (Below w.heap.size w w1) := (below_alloc1 _ _).trans (b1.mono (by simp))
  clear hr hr' b1
  simp only [World.size_alloc]
  go_wp2_with fail
  refine (l91Wild_any _ _ _ HR.out (by omega)).mono ?_
  rintro e w2 ⟨s, hs, rfl, hr2, g2⟩
  have HR2 := Lib.hid hr2
  have s2 := g2.size
  clear hr2
  have R2 : Hid (w2.heap[w.heap.size]? = some (.cells #[.int .i64 0, .int .i64 0, .int .i64 0] 26)) := (g2.block _ (by omega) (someNe (by omega))).trans R1.out
  have B2 : Hid (Below w.heap.size w w2) := B1.out.trans (gBel g2 (by omega) (by omega))
  go_wp2_with fail
  refine (l91Head_any _ _ _ HR2.out (by omega)).mono ?_
  rintro e w3 ⟨x, y, z, hn, rfl, hr3, g3⟩
  have HR3 := Lib.hid (hr3.alloc (.cells #[.int .i64 x, .int .i64 y, .int .i64 z] 26))
  have s3 := g3.size
  clear hr3 hn
  have R3 : Hid ((w3.alloc (.cells #[.int .i64 x, .int .i64 y, .int .i64 z] 26)).heap[w.heap.size]? = some (.cells #[.int .i64 0, .int .i64 0, .int .i64 0] 26)) := (Below.heap_alloc _ _ _ (by omega)).trans ((g3.block _ (by omega) (someNe (by omega))).trans R2.out)
  have B3 : Hid (Below w.heap.size w (w3.alloc (.cells #[.int .i64 x, .int .i64 y, .int .i64 z] 26))) := (B2.out.trans (gBel g3 (by omega) (by omega))).alloc (by omega) _
  have H3 := Lib.hid (newBlock w3 (.cells #[.int .i64 x, .int .i64 y, .int .i64 z] 26))
  have z3 : w.heap.size + 1 < w3.heap.size := by omega
  clear g2 g3 R1 R2 B1 B2 HR HR2
  go_wp2
  generalize hh : w3.heap.size = h at *
  go_loopw [7] (fun i wr => ∃ k : Nat, k ≤ 12 ∧ i = .int .i64 k ∧ RdOk wr (w.heap.size + 1) (11 + 4 * k) ∧ wr.heap[w.heap.size]? = some (.cells #[.int .i64 0, .int .i64 0, .int .i64 0] 26) ∧ (∃ x y z : Int, wr.heap[h]? = some (.cells #[.int .i64 x, .int .i64 y, .int .i64 z] 26)) ∧ h < wr.heap.size ∧ Below w.heap.size w wr) (fun i _ => 12 - (intOf i).toNat)
  case atStart => exact ⟨0, Nat.zero_le _, rfl, HR3.out.le (by omega), R3.out, ⟨x, y, z, H3.out⟩, by simp [hh], B3.out⟩
  case round =>
    clear H3 R3 B3 HR3
    obtain ⟨k, hk, rfl, hrd, hres, ⟨x, y, z, hhd⟩, hhl, hbel⟩ := hrel
    have HRD := Lib.hid hrd
    have HRES := Lib.hid hres
    have HHD := Lib.hid hhd
    clear hrd hres hhd
    have nh : w.heap.size ≠ h := by omega
    by_cases hlt : k < 12
    · go_wp2_with fail
      refine (pick_any _ _ _ _ HRD.out (by omega) (by omega)).mono ?_
      rintro e w4 ⟨v, v0, v1, rfl, hr4, g4⟩
      have HR4 := Lib.hid hr4
      have s4 := g4.size
      clear hr4
      have RS4 : Hid (w4.heap[w.heap.size]? = some (.cells #[.int .i64 0, .int .i64 0, .int .i64 0] 26)) := (g4.block _ (by omega) (someNe (by omega))).trans HRES.out
      have HD4 : Hid (w4.heap[h]? = some (.cells #[.int .i64 x, .int .i64 y, .int .i64 z] 26)) := (g4.block _ (by omega) (someNe (by omega))).trans HHD.out
      have B4 : Hid (Below w.heap.size w w4) := hbel.trans (gBel g4 (by omega) (by omega))
      obtain ⟨ra, rb, rc, rf⟩ := trip_cells RS4.out
      obtain ⟨ha, hb, hc, hf⟩ := trip_cells HD4.out
      by_cases hv : 0 < v
      · go_wp2_with fail
        refine (sWildHas_any s (by omega) x y z _).mono ?_
        rintro e w5 ⟨rfl, b5⟩
        have s5 := b5.size
        have HR5 := Lib.hid (HR4.out.below b5 (by omega))
        have RS5 : Hid (w5.heap[w.heap.size]? = some (.cells #[.int .i64 0, .int .i64 0, .int .i64 0] 26)) := (b5.block _ (by omega)).trans RS4.out
        have HD5 : Hid (w5.heap[h]? = some (.cells #[.int .i64 x, .int .i64 y, .int .i64 z] 26)) := (b5.block _ (by omega)).trans HD4.out
        have B5 : Hid (Below w.heap.size w w5) := B4.out.trans (b5.mono (by omega))
        clear ra rb rc rf ha hb hc hf b5 g4
        obtain ⟨ra, rb, rc, rf⟩ := trip_cells RS5.out
        obtain ⟨ha, hb, hc, hf⟩ := trip_cells HD5.out
        cases hhas : hasS s x y z
        · clear ra rb rc rf ha hb hc hf
          go_wp2_with fail
          refine (l91Head_any _ _ _ HR5.out (by omega)).mono ?_
          rintro e w6 ⟨x', y', z', hn, rfl, hr6, g6⟩
          have HR6 := Lib.hid hr6
          have s6 := g6.size
          clear hr6 hn
          have RS6 : Hid (w6.heap[w.heap.size]? = some (.cells #[.int .i64 0, .int .i64 0, .int .i64 0] 26)) := (g6.block _ (by omega) (someNe (by omega))).trans RS5.out
          have HD6 : Hid (w6.heap[h]? = some (.cells #[.int .i64 x, .int .i64 y, .int .i64 z] 26)) := (g6.block _ (by omega) (someNe (by omega))).trans HD5.out
          have B6 : Hid (Below w.heap.size w w6) := B5.out.trans (gBel g6 (by omega) (by omega))
          obtain ⟨ha, hb, hc, hf⟩ := trip_cells HD6.out
          go_wp2
          go_roundw
          case rel => exact ⟨k + 1, by omega, by go_num, (rdHead HR6.out (by omega) _ _ _).le (by omega), (otherHead nh _ _ _).trans RS6.out, ⟨x', y', z', putHead HD6.out _ _ _⟩, by simp [World.setCell]; omega, belHead B6.out (by omega) _ _ _⟩
          case measure => simp [intOf]; omega
        · go_wp2_with fail
          go_region
          go_wp2
          exact bodyPost_ret (v := .tuple #[.string s, .agg #[.int .i64 x, .int .i64 y, .int .i64 z]]) (by simp [results, Try.results33, go_sem, ra, rb, rc]) rfl
            ⟨s, x, y, z, by omega, rfl, (belHead B5.out (Nat.le_refl _) _ _ _).drew⟩
      · obtain rfl : v = 0 := by omega
        go_wp2_with fail
        go_region
        go_wp2
        exact bodyPost_ret (v := .tuple #[.string s, .agg #[.int .i64 x, .int .i64 y, .int .i64 z]]) (by simp [results, Try.results33, go_sem, ra, rb, rc]) rfl
          ⟨s, x, y, z, by omega, rfl, (belHead B4.out (Nat.le_refl _) _ _ _).drew⟩
    · obtain rfl : k = 12 := by omega
      obtain ⟨ra, rb, rc, rf⟩ := trip_cells HRES.out
      obtain ⟨ha, hb, hc, hf⟩ := trip_cells HHD.out
      go_wp2_with fail
      go_region
      go_wp2
      exact bodyPost_ret (v := .tuple #[.string s, .agg #[.int .i64 x, .int .i64 y, .int .i64 z]]) (by simp [results, Try.results33, go_sem, ra, rb, rc]) rfl
        ⟨s, x, y, z, by omega, rfl, (belHead hbel (Nat.le_refl _) _ _ _).drew⟩

def preAll (P : Nat → Bool) : Nat → Bool | 0 => true | k + 1 => preAll P k && P k
theorem preAll_six (P : Nat → Bool) : preAll P 6 = all6 P := by
  simp only [preAll, all6]
  cases P 0 <;> cases P 1 <;> cases P 2 <;> cases P 3 <;> cases P 4 <;> cases P 5 <;> rfl
theorem allX_has (x y z : Int) (h : okB x y z = true) : hasS ⟨#[120, 120, 120, 120, 120, 120]⟩ x y z = true := by
  unfold hasS
  rw [h]
  generalize hB x y z = f
  rw [Bool.true_and, show okS ⟨#[120, 120, 120, 120, 120, 120]⟩ = true from by decide, Bool.true_and]
  unfold hasM
  refine all6_iff.2 fun i hi => ?_
  match i, hi with
  | 0, _ | 1, _ | 2, _ | 3, _ | 4, _ | 5, _ => simp [cf, vf, byA]
theorem own_byA {x y z : Int} (h : okB x y z = true) {i : Nat} (hi : i < 6) : byA (ofS x y z) i = bitV (hB x y z i) := by
  unfold ofS
  rw [h]
  show byA (txt _ _) i = _
  rw [← of_bits, mk6_byA _ hi]
theorem own_size {x y z : Int} (h : okB x y z = true) : (ofS x y z).size = 6 := by unfold ofS; rw [h]; rfl

set_option maxHeartbeats 4000000 in
theorem walk_FnWildHas (a : Option Addr) (len cap : Nat) (w : World) (hb : BytesIn w w.heap.size a len cap) :
    Calls Try.prog 10 #[.slice a len cap] w fun e w' => e = .returned (.bool true) ∧ Below w.heap.size w w' := by
  have HB := Lib.hid hb
  have hm : (len : Int) ≤ maxLen := by have := hb.1; have := hb.2.1; omega
  unfold maxLen at hm
  clear hb
  by_cases hlen : (1048576 : Int) < (len : Int)
  · go_enter Try.func10, Try.ntmps10
    go_wp2
    go_ret
    exact ⟨rfl, Below.refl _ _⟩
  go_enter Try.func10, Try.ntmps10
  go_wp2_with fail
  refine (drawWildHas_any _ _ _ _ HB.out).mono ?_
  rintro e w1 ⟨s, x, y, z, hs, rfl, b1⟩
  have s1 := b1.size
  have B1 : Hid (Below w.heap.size w (w1.alloc (.cells #[.int .i64 x, .int .i64 y, .int .i64 z] 26))) := b1.alloc s1 _
  go_wp2_with fail
  have C0 := Lib.hid (trip_cells (newBlock w1 (.cells #[.int .i64 x, .int .i64 y, .int .i64 z] 26)))
  have zW : w1.heap.size < (w1.alloc (.cells #[.int .i64 x, .int .i64 y, .int .i64 z] 26)).heap.size := by simp
  clear b1
  generalize w1.alloc (.cells #[.int .i64 x, .int .i64 y, .int .i64 z] 26) = W at *
  have HC := Lib.hid (cellsHeld C0.out zW)
  generalize w1.heap.size = h at *
  refine (iWildHas_any s (by omega) x y z _).mono ?_
  rintro e w2 ⟨rfl, b2⟩
  obtain ⟨q0, q1, q2⟩ := HC.out _ b2
  go_wp2_with fail
  refine (sWildHas_any s (by omega) x y z _).mono ?_
  rintro e w3 ⟨rfl, b3⟩
  have b3' := belStep b2 b3
  clear q0 q1 q2 b2 b3
  obtain ⟨q0, q1, q2⟩ := HC.out _ b3'
  go_wp2_with fail
  refine (sWildOk_any s (by omega) _).mono ?_
  rintro e w' ⟨rfl, rfl⟩
  cases hk : okS s
  · go_wp2_with fail
    refine (sWildHas_any s (by omega) x y z _).mono ?_
    rintro e w5 ⟨rfl, b5⟩
    go_wp2
    go_ret
    exact ⟨rfl, B1.out.trans ((belStep b3' b5).mono B1.out.size)⟩
  go_wp2_with fail
  refine (sHeadOk_any x y z _).mono ?_
  rintro e w4 ⟨rfl, b4⟩
  have b4' := belStep b3' b4
  clear q0 q1 q2 b3' b4
  obtain ⟨q0, q1, q2⟩ := HC.out _ b4'
  cases ho : okB x y z
  · go_wp2_with fail
    refine (sWildHas_any s (by omega) x y z _).mono ?_
    rintro e w5 ⟨rfl, b5⟩
    go_wp2
    go_ret
    exact ⟨rfl, B1.out.trans ((belStep b4' b5).mono B1.out.size)⟩
  go_wp2_with fail
  refine (iWildOf_any x y z _).mono ?_
  rintro e w5 ⟨rfl, b5⟩
  have b5' := belStep b4' b5
  clear q0 q1 q2 b4' b5
  have h6 := okS_size hk
  have hp6 := own_size ho
  have HP : Hid (∀ i, i < 6 → byA (ofS x y z) i = bitV (hB x y z i)) := fun i hi => own_byA ho hi
  have HE : Hid (hasS s x y z = preAll (fun i => (byA s i == 120) || (byA s i == bitV (hB x y z i))) 6) := by
    show _ = _
    unfold hasS
    rw [ho, hk, preAll_six, hasM_pos hk]
    rfl
  have HX := Lib.hid (iWildHas_any ⟨#[120, 120, 120, 120, 120, 120]⟩ (by decide) x y z)
  rw [allX_has x y z ho] at HX
  generalize hB x y z = f at *
  generalize ofS x y z = p at *
  generalize hasS s x y z = ok at *
  clear ho hk
  go_wp2
  go_loopw [7, 8] (fun c i wr => ∃ k : Nat, k ≤ 6 ∧ i = .int .i64 k ∧ c = .bool (preAll (fun i => (byA s i == 120) || (byA s i == bitV (f i))) k) ∧ Below W.heap.size W wr) (fun _ i _ => 6 - (intOf i).toNat)
  case atStart => exact ⟨0, Nat.zero_le _, rfl, rfl, b5'⟩
  case round =>
    obtain ⟨k, hk, rfl, rfl, hbel⟩ := hrel
    by_cases hlt : k < 6
    · have HS : Hid (preAll (fun i => (byA s i == 120) || (byA s i == bitV (f i))) (k + 1) = (preAll (fun i => (byA s i == 120) || (byA s i == bitV (f i))) k && ((byA s k == 120) || (byA s k == bitV (f k))))) := rfl
      have hzs : (k : Int) < (s.size : Int) := by omega
      have hzp : (k : Int) < (p.size : Int) := by omega
      have gs : (s[k]'(by omega)) = byA s k := byA_get _
      have gp : (p[k]'(by omega)) = bitV (f k) := (byA_get _).trans (HP.out k hlt)
      cases hc : preAll (fun i => (byA s i == 120) || (byA s i == bitV (f i))) k
      · rw [hc] at HS
        go_wp2_with fail
        go_quiet (fail)
        go_wp2
        go_roundw
        case rel => exact ⟨k + 1, by omega, by go_num, by rw [HS.out]; rfl, belDrewN hbel nq⟩
        case measure => simp [intOf]; omega
      rw [hc] at HS
      clear hc
      by_cases e120 : byA s k = 120
      · rw [e120] at HS gs
        have ht : (((120 : UInt8).toNat : Int) == 120) = true := rfl
        go_wp2_with fail
        go_quiet (fail)
        go_wp2
        go_roundw
        case rel => exact ⟨k + 1, by omega, by go_num, by rw [HS.out]; rfl, belDrewN hbel nq⟩
        case measure => simp [intOf]; omega
      · have n120 := (byte_ne 120 120 rfl (by omega) e120).1
        have e120' : (byA s k == 120) = false := by simpa using e120
        rw [e120', Bool.false_or, Bool.true_and] at HS
        have ne : (((byA s k).toNat : Int) == ((bitV (f k)).toNat : Int)) = (byA s k == bitV (f k)) := by
          cases hq : (byA s k == bitV (f k))
          · have := u8_ne hq
            simpa using this
          · have : byA s k = bitV (f k) := by simpa using hq
            rw [this]; simp
        clear e120 e120'
        go_wp2_with fail
        go_quiet (fail)
        go_wp2
        go_roundw
        case rel => exact ⟨k + 1, by omega, by go_num, by rw [HS.out], belDrewN hbel nq⟩
        case measure => simp [intOf]; omega
    · obtain rfl : k = 6 := by omega
      obtain ⟨q0, q1, q2⟩ := HC.out _ hbel
      rw [← HE.out]
      go_wp2_with fail
      refine (HX.out _).mono ?_
      rintro e w6 ⟨rfl, b6⟩
      go_wp2
      go_ret
      exact ⟨rfl, B1.out.trans ((belStep hbel b6).mono B1.out.size)⟩

set_option maxRecDepth 100000 in
theorem lifted_FnWildHas (os : Os) (started : os.Started) (H : Type) (enc : TypeId × Value → H) :
    ReturnsInHanded {} Try.checked os 10 .any (Rows.fnWildHasSpec.pre6 enc Try.prog Try.f10 Rows.fnWildHasRow.domain false) (Rows.fnWildHasSpec.post enc Try.prog Try.f10 false true false false) := by
  refine returnsInHanded_of_change (C := Try.checked) own started (by kernel_rfl) Try.func10
    (ChangeSpec.witness6 (enc := enc) (C := Try.checked) false ⟨#[], #[.slice none 0 0], []⟩ 8 (by kernel_rfl) (by kernel_rfl) (by kernel_rfl) (by kernel_rfl)) ?_
  intro W base args ds gs before hval0 hW hcnd _
  have hval : ∀ (j : Nat) t v, Try.f10.params[j]? = some t → args[j]? = some v → Value.okWide Try.prog W .any base t v := hval0
  have hW' := hW
  obtain ⟨p, q, hA0, hV, rfl, hfz, hnd⟩ := hW
  have hA : DataW.TrodAll enc Try.prog W 0 (fun _ => true) true Try.f10.params.toList args.toList ds p := hA0
  rw [Try.params10] at hA hval
  obtain ⟨v0, vs0, d0, ds0, p0, q0, hargs, rfl, rfl, h0, r0⟩ := trodAll_cons hA
  obtain ⟨rfl, rfl, rfl⟩ := trodAll_nil r0
  obtain rfl : args = #[v0] := by cases args; simp_all
  obtain ⟨rfl, rfl⟩ := trodVars_none hV
  have k0 := h0
  have lt0 : ∀ x ∈ p0, x.block < W.heap.size := by obtain ⟨m, hm⟩ := k0; exact DataW.trod_lt m _ _ _ hm
  obtain ⟨a0, len0, cap0, rfl⟩ := okWide_slice Try.underlying39 (hval 0 39 v0 rfl rfl)
  have w0 : BytesIn W W.heap.size a0 len0 cap0 := isRow_of h0
  clear hA0 hval0
  refine (walk_FnWildHas a0 len0 cap0 W w0).mono fun e W' ⟨he, bel⟩ => ?_
  subst he
  exact ⟨_, rfl, _, _, _, [], _, [], hW', trodAll_mk1 (shut_bool Try.underlying4 _), (trodAll_cons_mk (Below.trod laidOut (by kernel_rfl) (of_decide_eq_true (by kernel_rfl)) k0 bel lt0) (trodAll_mk0)), rfl, bel.frame _, fun h => by cases h⟩

theorem over_FnWildHas : Rows.fnWildHasRow.holds Try.pinned (OpenSpec.ofChange Rows.fnWildHasSpec) :=
  OpenClaim.holds_of_wide 10 Try.f10 rfl rfl rfl rfl rfl rfl rfl ⟨rfl, rfl, rfl, rfl, rfl⟩ rfl rfl rfl rfl rfl (by kernel_rfl) Try.func10 (by kernel_rfl)
    (of_decide_eq_true (by kernel_rfl)) (by unfold Func.isWrapper; first | (rw [if_pos (by decide +kernel)]; kernel_rfl) | (rw [if_neg (by decide +kernel)]; exact ⟨rfl, rfl⟩))
    (fun os started H enc _ => lifted_FnWildHas os started H enc)

theorem proved_FnWildHas : Rows.FnWildHasSaid := over_FnWildHas

end Go.Proofs.Ytdiegaffbbhamaa
