/-
  Proved: FnPeerBack is true at every input.
-/
import Derived.Test.YtbjndcfdcjpkmaaOwnB
import Derived.Test.YtbjndcfdcjpkmaaNetDrC
import Derived.Test.YtbjndcfdcjpkmaaNetPeerP
import Derived.Test.YtbjndcfdcjpkmaaNetPeerW
namespace Go.Proofs.Ytbjndcfdcjpkmaa
open Go.ChangeShapes Go.WideShapes Go.ChangeAt Go.RowKit Go.Joins
set_option linter.unusedVariables false

/-- A link has an end at this port. -/
def endB (x : K4) (s t : Int) : Bool := (x.p == s && x.s == t) || (x.o == s && x.t == t)
def canL (l : List K4) (s t : Int) : Bool := l.any fun x => endB x s t
theorem can_peer : ∀ (l : List K4) (s t : Int), (∀ k ∈ l, lkOk k = true) → decide ((peerF l s t).1 > 0) = canL l s t
  | [], s, t, _ => rfl
  | x :: l, s, t, h => by
    have ih := can_peer l s t (fun k hk => h k (by simp [hk]))
    obtain ⟨hp, ho, hne, hs, ht⟩ := lkOk_parts (h x (by simp))
    have e : peerF (x :: l) s t = if x.p = s ∧ x.s = t then (x.o, x.t) else if x.o = s ∧ x.t = t then (x.p, x.s) else peerF l s t := rfl
    have e2 : canL (x :: l) s t = (endB x s t || canL l s t) := rfl
    rw [e, e2]
    unfold endB
    by_cases h1 : x.p = s ∧ x.s = t
    · rw [if_pos h1, h1.1, h1.2]
      simp; omega
    · rw [if_neg h1]
      by_cases h2 : x.o = s ∧ x.t = t
      · rw [if_pos h2, h2.1, h2.2]
        simp; omega
      · rw [if_neg h2, ih]
        have f1 : (x.p == s && x.s == t) = false := by simpa using h1
        have f2 : (x.o == s && x.t == t) = false := by simpa using h2
        rw [f1, f2]
        rfl
theorem can_take {l : List K4} {k : Nat} (h : k < l.length) (s t : Int) : canL (l.take (k + 1)) s t = (canL (l.take k) s t || endB (lkAt l k) s t) := by
  unfold canL
  rw [List.take_add_one, List.any_append, List.getElem?_eq_getElem h, lkAt_lt h]
  simp

set_option maxRecDepth 100000 in
set_option maxHeartbeats 8000000 in
theorem walk_FnPeerBack (a : Option Addr) (len cap : Nat) (w : World) (hb : BytesIn w w.heap.size a len cap) :
    Calls Try.prog 7 #[.slice a len cap] w fun e w' => e = .returned (.bool true) ∧ Below w.heap.size w w' := by
  have HB := Lib.hid hb
  have hm : (len : Int) ≤ maxLen := by have := hb.1; have := hb.2.1; omega
  unfold maxLen at hm
  clear hb
  by_cases hlen : (1048576 : Int) < (len : Int)
  · go_enter Try.func7, Try.ntmps7
    go_wp2
    go_ret
    exact ⟨rfl, Below.refl _ _⟩
  go_enter Try.func7, Try.ntmps7
  go_wp2_with fail
  refine (drawNetPeer_any _ _ _ _ HB.out).mono ?_
  rintro e w1 ⟨v, l, sw, port, rfl, hl, hrow, b1⟩
  have hn : l.length ≤ 1048576 := by omega
  have HROW := Lib.hid hrow
  have HL : Hid (∀ W, Below w1.heap.size w1 W → Lks W W.heap.size v l) := fun W hb => (hrow.lks.below hb (Nat.le_refl _)).mono hb.size
  have HI : Hid (∀ (s t : Int) W, Below w1.heap.size w1 W → Calls Try.prog 27 #[v, .int .i64 s, .int .i64 t] W fun e w' => e = .returned (peerV l s t) ∧ Below W.heap.size W w') := fun s t W h => iNetPeer_any W v l s t (HL.out W h)
  have HS : Hid (∀ W, Below w1.heap.size w1 W → Calls Try.prog 30 #[v, .int .i64 sw, .int .i64 port] W fun e w' => e = .returned (peerV l sw port) ∧ Below W.heap.size W w') := fun W h => sNetPeer_any W v l sw port (HL.out W h) hn
  have HO : Hid (∀ W, Below w1.heap.size w1 W → Calls Try.prog 21 #[v] W fun e w' => e = .returned (.bool (netB l)) ∧ Below W.heap.size W w') := fun W h => sNetOk_any W v l (HL.out W h) hn
  have BW : Hid (∀ W, Below w1.heap.size w1 W → Below w.heap.size w W) := fun W hb => belStep b1 hb
  have HI1 := Lib.hid (fun W h => HI.out sw port W h)
  obtain ⟨va, vc, rfl⟩ : ∃ va vc, v = .slice va l.length vc := by
    rcases hrow.form with ⟨rfl, rfl⟩ | ⟨_, _, rfl, -⟩ <;> exact ⟨_, _, rfl⟩
  clear hrow b1 HB HL
  generalize hN : l.length = N at *
  have HN := Lib.hid hN
  clear hN
  cases hnb : netB l
  · have HPV : Hid (peerV l sw port = .tuple #[.int .i64 0, .int .i64 0, .bool false]) := by show _ = _; unfold peerV; rw [hnb]; rfl
    rw [HPV.out] at HS HI1
    rw [hnb] at HO
    clear hnb HPV
    go_wp2_with fail
    refine (HS.out _ (Below.refl _ _)).mono ?_
    rintro e w2 ⟨rfl, b2⟩
    have B2 := Lib.hid b2
    clear b2 HS
    go_wp2_with fail
    refine (HI1.out _ B2.out).mono ?_
    rintro e w3 ⟨rfl, b3⟩
    have B3 := Lib.hid (belStep B2.out b3)
    clear b3 B2 HI1
    go_wp2_with fail
    refine (HO.out _ B3.out).mono ?_
    rintro e w4 ⟨rfl, b4⟩
    have B4 := Lib.hid (belStep B3.out b4)
    clear b4 B3 HO
    go_wp2
    go_ret
    exact ⟨by first | rfl | (simp; done), BW.out _ B4.out⟩
  have HPV : Hid (∀ s t : Int, peerV l s t = .tuple #[.int .i64 (peerF l s t).1, .int .i64 (peerF l s t).2, .bool (decide ((peerF l s t).1 > 0))]) := by intro s t; unfold peerV; rw [hnb]; rfl
  rw [HPV.out] at HS HI1
  rw [hnb] at HO
  have HCAN : Hid (decide ((peerF l sw port).1 > 0) = canL l sw port) := can_peer l sw port (net_ok hnb)
  have HPO := Lib.hid (peer_ok hnb sw port)
  have HC0 : Hid (canL (l.take 0) sw port = false) := by show _ = _; simp [canL]
  have HCN : Hid (canL (l.take N) sw port = canL l sw port) := by show _ = _; rw [← HN.out, List.take_length]
  have HCS : Hid (∀ k, k < N → canL (l.take (k + 1)) sw port = (canL (l.take k) sw port || endB (lkAt l k) sw port)) := fun k hk => can_take (by rw [HN.out]; exact hk) sw port
  clear hnb
  generalize hCC : (fun k => canL (l.take k) sw port) = CP at *
  have HC0' : Hid (CP 0 = false) := by rw [← hCC]; exact HC0
  have HCN' : Hid (CP N = canL l sw port) := by rw [← hCC]; exact HCN
  have HCS' : Hid (∀ k, k < N → CP (k + 1) = (CP k || endB (lkAt l k) sw port)) := by rw [← hCC]; exact HCS
  clear HC0 HCN HCS hCC
  have HBK : Hid ((peerF l sw port).1 > 0 → (peerF l sw port).1 ≠ sw ∧ peerV l (peerF l sw port).1 (peerF l sw port).2 = .tuple #[.int .i64 sw, .int .i64 port, .bool true]) := by
    intro h
    rcases HPO.out with h0 | ⟨⟨s1, s4⟩, -, -, -, hne, hbk⟩
    · rw [h0] at h; exact absurd h (by decide)
    · refine ⟨hne, ?_⟩
      rw [HPV.out, hbk]
      have : decide (sw > 0) = true := by simp; omega
      rw [this]
  have HZ : Hid (¬ (peerF l sw port).1 > 0 → peerV l (peerF l sw port).1 (peerF l sw port).2 = .tuple #[.int .i64 (peerF l 0 0).1, .int .i64 (peerF l 0 0).2, .bool (decide ((peerF l 0 0).1 > 0))]) := by
    intro h
    rcases HPO.out with h0 | ⟨-, -, ⟨h1, -⟩, -⟩
    · rw [h0]; exact HPV.out 0 0
    · omega
  clear HPO HPV
  generalize (peerF l sw port).1 = A at *
  generalize (peerF l sw port).2 = P at *
  generalize canL l sw port = can at *
  have HFC : Hid (∀ k, k < N → ∃ b, va = some ⟨b, 0, none⟩ ∧ ∀ W, Below w1.heap.size w1 W → FourK W b (k * 4) (lkAt l k)) := by
    intro k hk
    rcases HROW.out.form with ⟨-, h'⟩ | ⟨b, cap', h, -⟩
    · have := HN.out
      rw [h'] at this
      simp at this
      omega
    · rw [HN.out] at h
      simp at h
      obtain ⟨rfl, rfl⟩ := h
      have hb := (World.ownsRow.lt HROW.out b rfl).2
      exact ⟨b, rfl, fun W hW => ((HROW.out.cells HN.out).1 k hk).below hW hb⟩
  clear HROW
  go_wp2_with fail
  refine (HS.out _ (Below.refl _ _)).mono ?_
  rintro e w2 ⟨rfl, b2⟩
  have B2 := Lib.hid b2
  clear b2 HS
  go_wp2_with fail
  refine (HI1.out _ B2.out).mono ?_
  rintro e w3 ⟨rfl, b3⟩
  have B3 := Lib.hid (belStep B2.out b3)
  clear b3 B2 HI1
  go_wp2_with fail
  refine (HO.out _ B3.out).mono ?_
  rintro e w4 ⟨rfl, b4⟩
  have B4 := Lib.hid (belStep B3.out b4)
  clear b4 B3 HO
  go_wp2
  go_loopw [12, 13] (fun c i wr => ∃ k : Nat, k ≤ N ∧ c = .bool (CP k) ∧ i = .int .i64 (k : Int) ∧ Below w1.heap.size w1 wr) (fun _ i _ => N - (intOf i).toNat)
  case atStart => exact ⟨0, by omega, by rw [HC0'.out], rfl, B4.out⟩
  case round =>
    obtain ⟨k, hk, rfl, rfl, hbel⟩ := hrel
    have HBL := Lib.hid hbel
    clear hbel
    by_cases hlt : k < N
    · have h1 : (k : Int) < (N : Int) := by omega
      have hw1 : IntKind.i64.wrap ((k : Int) + 1) = (k : Int) + 1 := by rw [IntKind.wrap_i64]; omega
      obtain ⟨b, hvb, hf⟩ := HFC.out k hlt
      subst hvb
      obtain ⟨c0, c1, c2, c3⟩ := hf _ HBL.out
      have HST := Lib.hid (HCS'.out k hlt)
      generalize lkAt l k = x at *
      clear hf
      cases hcp : CP k
      · have KEY : ∀ r : Bool, endB x sw port = r → CP (k + 1) = r := fun r hr => by rw [HST.out, hcp, hr]; rfl
        have HKEY := Lib.hid KEY
        clear KEY
        by_cases e1 : x.p = sw
        · by_cases e2 : x.s = port
          · have f1 : (x.p == sw) = true := by simp [e1]
            have f2 : (x.s == port) = true := by simp [e2]
            have HE : Hid (CP (k + 1) = true) := HKEY.out _ (by unfold endB; rw [f1, f2]; rfl)
            clear e1 e2
            go_wp2
            go_roundw
            case rel => exact ⟨k + 1, by omega, by rw [HE.out], by go_num, HBL.out⟩
            case measure => simp [intOf]; omega
          · have f1 : (x.p == sw) = true := by simp [e1]
            have f2 : (x.s == port) = false := by simpa using e2
            by_cases e3 : x.o = sw
            · have f3 : (x.o == sw) = true := by simp [e3]
              by_cases e4 : x.t = port
              · have f4 : (x.t == port) = true := by simp [e4]
                have HE : Hid (CP (k + 1) = true) := HKEY.out _ (by unfold endB; rw [f1, f2, f3, f4]; rfl)
                clear e1 e2 e3 e4
                go_wp2
                go_roundw
                case rel => exact ⟨k + 1, by omega, by rw [HE.out], by go_num, HBL.out⟩
                case measure => simp [intOf]; omega
              · have f4 : (x.t == port) = false := by simpa using e4
                have HE : Hid (CP (k + 1) = false) := HKEY.out _ (by unfold endB; rw [f1, f2, f3, f4]; rfl)
                clear e1 e2 e3 e4
                go_wp2
                go_roundw
                case rel => exact ⟨k + 1, by omega, by rw [HE.out], by go_num, HBL.out⟩
                case measure => simp [intOf]; omega
            · have f3 : (x.o == sw) = false := by simpa using e3
              have HE : Hid (CP (k + 1) = false) := HKEY.out _ (by unfold endB; rw [f1, f2, f3]; rfl)
              clear e1 e2 e3
              go_wp2
              go_roundw
              case rel => exact ⟨k + 1, by omega, by rw [HE.out], by go_num, HBL.out⟩
              case measure => simp [intOf]; omega
        · have f1 : (x.p == sw) = false := by simpa using e1
          by_cases e3 : x.o = sw
          · have f3 : (x.o == sw) = true := by simp [e3]
            by_cases e4 : x.t = port
            · have f4 : (x.t == port) = true := by simp [e4]
              have HE : Hid (CP (k + 1) = true) := HKEY.out _ (by unfold endB; rw [f1, f3, f4]; rfl)
              clear e1 e3 e4
              go_wp2
              go_roundw
              case rel => exact ⟨k + 1, by omega, by rw [HE.out], by go_num, HBL.out⟩
              case measure => simp [intOf]; omega
            · have f4 : (x.t == port) = false := by simpa using e4
              have HE : Hid (CP (k + 1) = false) := HKEY.out _ (by unfold endB; rw [f1, f3, f4]; rfl)
              clear e1 e3 e4
              go_wp2
              go_roundw
              case rel => exact ⟨k + 1, by omega, by rw [HE.out], by go_num, HBL.out⟩
              case measure => simp [intOf]; omega
          · have f3 : (x.o == sw) = false := by simpa using e3
            have HE : Hid (CP (k + 1) = false) := HKEY.out _ (by unfold endB; rw [f1, f3]; rfl)
            clear e1 e3
            go_wp2
            go_roundw
            case rel => exact ⟨k + 1, by omega, by rw [HE.out], by go_num, HBL.out⟩
            case measure => simp [intOf]; omega
      · have HE : Hid (CP (k + 1) = true) := by show _ = _; rw [HST.out, hcp]; rfl
        go_wp2
        go_roundw
        case rel => exact ⟨k + 1, by omega, by rw [HE.out], by go_num, HBL.out⟩
        case measure => simp [intOf]; omega
    · obtain rfl : k = N := by omega
      have h1 : ¬ (k : Int) < (k : Int) := by omega
      rw [HCN'.out, ← HCAN.out]
      have HIB := Lib.hid (fun W h => HI.out A P W h)
      by_cases hA : A > 0
      · obtain ⟨hne, hbk⟩ := HBK.out hA
        rw [hbk] at HIB
        have hA' : decide (A > 0) = true := by simp; omega
        have hne' : (A == sw) = false := by simpa using hne
        go_wp2_with fail
        refine (HIB.out _ HBL.out).mono ?_
        rintro e w6 ⟨rfl, b6⟩
        have B6 := Lib.hid (belStep HBL.out b6)
        clear b6 hbk
        go_wp2
        go_ret
        exact ⟨by first | rfl | (simp; done) | (simp; omega), BW.out _ B6.out⟩
      · have hz := HZ.out (by omega)
        rw [hz] at HIB
        have hA' : decide (A > 0) = false := by simp; omega
        generalize (peerF l 0 0).1 = a0 at *
        generalize (peerF l 0 0).2 = p0 at *
        generalize decide (a0 > 0) = k0 at *
        clear hz
        go_wp2_with fail
        refine (HIB.out _ HBL.out).mono ?_
        rintro e w6 ⟨rfl, b6⟩
        have B6 := Lib.hid (belStep HBL.out b6)
        clear b6
        go_wp2
        go_ret
        exact ⟨by first | rfl | (simp; done) | (simp; omega), BW.out _ B6.out⟩

set_option maxRecDepth 100000 in
theorem lifted_FnPeerBack (os : Os) (started : os.Started) (H : Type) (enc : TypeId × Value → H) :
    ReturnsInHanded {} Try.checked os 7 .any (Rows.fnPeerBackSpec.pre6 enc Try.prog Try.f7 Rows.fnPeerBackRow.domain false) (Rows.fnPeerBackSpec.post enc Try.prog Try.f7 false true false false) := by
  refine returnsInHanded_of_change (C := Try.checked) own started (by kernel_rfl) Try.func7
    (ChangeSpec.witness6 (enc := enc) (C := Try.checked) false ⟨#[], #[.slice none 0 0], []⟩ 8 (by kernel_rfl) (by kernel_rfl) (by kernel_rfl) (by kernel_rfl)) ?_
  intro W base args ds gs before hval0 hW hcnd _
  have hval : ∀ (j : Nat) t v, Try.f7.params[j]? = some t → args[j]? = some v → Value.okWide Try.prog W .any base t v := hval0
  have hW' := hW
  obtain ⟨p, q, hA0, hV, rfl, hfz, hnd⟩ := hW
  have hA : DataW.TrodAll enc Try.prog W 0 (fun _ => true) true Try.f7.params.toList args.toList ds p := hA0
  rw [Try.params7] at hA hval
  obtain ⟨v0, vs0, d0, ds0, p0, q0, hargs, rfl, rfl, h0, r0⟩ := trodAll_cons hA
  obtain ⟨rfl, rfl, rfl⟩ := trodAll_nil r0
  obtain rfl : args = #[v0] := by cases args; simp_all
  obtain ⟨rfl, rfl⟩ := trodVars_none hV
  have k0 := h0
  have lt0 : ∀ x ∈ p0, x.block < W.heap.size := by obtain ⟨m, hm⟩ := k0; exact DataW.trod_lt m _ _ _ hm
  obtain ⟨a0, len0, cap0, rfl⟩ := okWide_slice Try.underlying31 (hval 0 31 v0 rfl rfl)
  have w0 : BytesIn W W.heap.size a0 len0 cap0 := isRow_of h0
  clear hA0 hval0
  refine (walk_FnPeerBack a0 len0 cap0 W w0).mono fun e W' ⟨he, bel⟩ => ?_
  subst he
  exact ⟨_, rfl, _, _, _, [], _, [], hW', trodAll_mk1 (shut_bool Try.underlying4 _), (trodAll_cons_mk (Below.trod laidOut (by kernel_rfl) (of_decide_eq_true (by kernel_rfl)) k0 bel lt0) (trodAll_mk0)), rfl, bel.frame _, fun h => by cases h⟩

theorem over_FnPeerBack : Rows.fnPeerBackRow.holds Try.pinned (OpenSpec.ofChange Rows.fnPeerBackSpec) :=
  OpenClaim.holds_of_wide 7 Try.f7 rfl rfl rfl rfl rfl rfl rfl ⟨rfl, rfl, rfl, rfl, rfl⟩ rfl rfl rfl rfl rfl (by kernel_rfl) Try.func7 (by kernel_rfl)
    (of_decide_eq_true (by kernel_rfl)) (by unfold Func.isWrapper; first | (rw [if_pos (by decide +kernel)]; kernel_rfl) | (rw [if_neg (by decide +kernel)]; exact ⟨rfl, rfl⟩))
    (fun os started H enc _ => lifted_FnPeerBack os started H enc)

theorem proved_FnPeerBack : Rows.FnPeerBackSaid := over_FnPeerBack

end Go.Proofs.Ytbjndcfdcjpkmaa
