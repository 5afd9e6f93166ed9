/-
  Whether two conditions hold for the same heads: what the program answers.
-/
import Derived.Test.YtddkpimmcmnogaaDoorPredMask
import Derived.Test.YtddkpimmcmnogaaDoorPredB
namespace Go.Proofs.YtddkpimmcmnogaaDoor
open Go.ChangeShapes Go.WideShapes Go.ChangeAt Go.RowKit Go.Joins
set_option linter.unusedVariables false

set_option maxRecDepth 100000 in
set_option maxHeartbeats 4000000 in
theorem same_any (t t' : ByteArray) (ad ad' : Option Addr) (n1 n1' c1 c1' k j : Nat) (caps daps : Array Value) (w : World) (h h' : Int → Bool)
    (he : ∀ (args : Array Value) (W : World), (callFunc k args).run Tryd.prog W = .ok (.enter k args) W)
    (hd : ∀ (args : Array Value) (W : World), (callFunc j args).run Tryd.prog W = .ok (.enter j args) W)
    (hc : ∀ W : World, Below w.heap.size w W → ∀ n : Int, 0 ≤ n → n ≤ 63 → Calls Tryd.prog k (#[.int .u8 n] ++ caps) W fun e W' => e = .returned (.bool (h n)) ∧ Below W.heap.size W W')
    (hc' : ∀ W : World, Below w.heap.size w W → ∀ n : Int, 0 ≤ n → n ≤ 63 → Calls Tryd.prog j (#[.int .u8 n] ++ daps) W fun e W' => e = .returned (.bool (h' n)) ∧ Below W.heap.size W W') :
    Calls Tryd.prog 48 #[.agg #[.string t, .slice ad n1 c1, .func (.func k) #[] caps], .agg #[.string t', .slice ad' n1' c1', .func (.func j) #[] daps]] w fun e w' =>
      ∃ b : Bool, e = .returned (.bool b) ∧ (b = true ↔ ∀ n : Int, 0 ≤ n → n ≤ 63 → h n = h' n) ∧ Below w.heap.size w w' := by
  have HC := Lib.hid hc
  have HC' := Lib.hid hc'
  clear hc hc'
  have HW0 : Hid (∀ W : World, Below (w.heap.size + 1 + 1) ((w.alloc (.cells #[.string t, .slice ad n1 c1, .func (.func k) #[] caps] 47)).alloc (.cells #[.string t', .slice ad' n1' c1', .func (.func j) #[] daps] 47)) W →
      W.cell? ⟨w.heap.size, 2, none⟩ = some (.func (.func k) #[] caps) ∧ W.cell? ⟨w.heap.size + 1, 2, none⟩ = some (.func (.func j) #[] daps) ∧ Below w.heap.size w W ∧ w.heap.size + 1 + 1 ≤ W.heap.size) := fun W hW =>
    ⟨(hW.cell (p := ⟨w.heap.size, 2, none⟩) (by simp; omega)).trans (by simp), (hW.cell (p := ⟨w.heap.size + 1, 2, none⟩) (by simp)).trans (by simp), (below_alloc2 _ _ _).trans (hW.mono (by omega)), Nat.le_trans (by simp) hW.size⟩
  have HB0 := Lib.hid (Below.refl (w.heap.size + 1 + 1) ((w.alloc (.cells #[.string t, .slice ad n1 c1, .func (.func k) #[] caps] 47)).alloc (.cells #[.string t', .slice ad' n1' c1', .func (.func j) #[] daps] 47)))
  go_enter Tryd.func48, Tryd.ntmps48
  go_wp2
  generalize ((w.alloc (.cells #[.string t, .slice ad n1 c1, .func (.func k) #[] caps] 47)).alloc (.cells #[.string t', .slice ad' n1' c1', .func (.func j) #[] daps] 47)) = W0 at *
  go_loopw [6] (fun i wr => ∃ n : Nat, n ≤ 64 ∧ i = .int .i64 n ∧ (∀ m : Int, 0 ≤ m → m < (n : Int) → h m = h' m) ∧ Below (w.heap.size + 1 + 1) W0 wr) (fun i _ => 64 - (intOf i).toNat)
  case atStart => exact ⟨0, Nat.zero_le _, rfl, fun m h0 h1 => by simp at h1; omega, HB0.out⟩
  case round =>
    clear HB0
    obtain ⟨n, hn, rfl, hsm, hbel⟩ := hrel
    have HS := Lib.hid hsm
    clear hsm
    obtain ⟨q0, q1, q2, q3⟩ := HW0.out _ hbel
    have BL := Lib.hid hbel
    have BQ := Lib.hid q2
    clear hbel q2
    by_cases hlt : n < 64
    · have hnz : (n : Int) < 64 := by omega
      have hn0 : (0 : Int) ≤ (n : Int) := by omega
      have D0 : Hid (Below wr.heap.size wr wr.drew) := (Below.refl _ _).drew
      have HCL : Hid (∀ W', Below wr.heap.size wr W' → W'.cell? ⟨w.heap.size, 2, none⟩ = some (.func (.func k) #[] caps) ∧ W'.cell? ⟨w.heap.size + 1, 2, none⟩ = some (.func (.func j) #[] daps)) := fun W' hb => ⟨cellLater q0 hb, cellLater q1 hb⟩
      have C0 : Hid (∀ W', Below wr.heap.size wr W' → Calls Tryd.prog k (#[.int .u8 n] ++ caps) W' fun e W'' => e = .returned (.bool (h n)) ∧ Below W'.heap.size W' W'') := fun W' hb => HC.out W' (BQ.out.trans (hb.mono (by omega))) n (by omega) (by omega)
      have C1 : Hid (∀ W', Below wr.heap.size wr W' → Calls Tryd.prog j (#[.int .u8 n] ++ daps) W' fun e W'' => e = .returned (.bool (h' n)) ∧ Below W'.heap.size W' W'') := fun W' hb => HC'.out W' (BQ.out.trans (hb.mono (by omega))) n (by omega) (by omega)
      have HN : Hid (h n = h' n → ∀ m : Int, 0 ≤ m → m < ((n + 1 : Nat) : Int) → h m = h' m) := fun e m h0 h1 => by
        by_cases hm : m = (n : Int)
        · subst hm; exact e
        · exact HS.out m h0 (by omega)
      have HF : Hid (h n ≠ h' n → (false = true ↔ ∀ m : Int, 0 ≤ m → m ≤ 63 → h m = h' m)) := fun e => ⟨fun h => (by cases h), fun hh => absurd (hh n (by omega) (by omega)) e⟩
      have hcv : IntKind.u8.wrap (n : Int) = (n : Int) := by simp [IntKind.wrap, IntKind.bits, IntKind.signed]; omega
      clear HS HC HC' q0 q1 HW0
      generalize h (n : Int) = x at *
      generalize h' (n : Int) = y at *
      go_wp2_with fail
      go_region_held3 (fun W' => W'.cell? ⟨w.heap.size, 2, none⟩ = some (.func (.func k) #[] caps) ∧ W'.cell? ⟨w.heap.size + 1, 2, none⟩ = some (.func (.func j) #[] daps))
        (first | exact HCL.out _ D0.out | exact HCL.out _ D2.out | exact HCL.out _ D1.out)
        (first
          | (((with_reducible refine (C0.out _ D0.out).mono ?_); rintro e w8 ⟨rfl, b8⟩; have D1 : Hid (Below wr.heap.size wr w8) := belStep D0.out b8; clear b8))
          | (((with_reducible refine (C1.out _ D1.out).mono ?_); rintro e w9 ⟨rfl, b9⟩; have D2 : Hid (Below wr.heap.size wr w9) := belStep D1.out b9; clear b9)))
      cases x <;> cases y
      · go_wp2
        go_roundw
        case rel => exact ⟨n + 1, by omega, by go_num, HN.out rfl, BL.out.trans (D2.out.mono (by omega))⟩
        case measure => simp [intOf]; omega
      · go_wp2
        go_ret
        exact ⟨false, rfl, HF.out (by decide), BQ.out.trans (D2.out.mono (by omega))⟩
      · go_wp2
        go_ret
        exact ⟨false, rfl, HF.out (by decide), BQ.out.trans (D2.out.mono (by omega))⟩
      · go_wp2
        go_roundw
        case rel => exact ⟨n + 1, by omega, by go_num, HN.out rfl, BL.out.trans (D2.out.mono (by omega))⟩
        case measure => simp [intOf]; omega
    · obtain rfl : n = 64 := by omega
      go_wp2
      go_ret
      exact ⟨true, rfl, ⟨fun _ m h0 h1 => HS.out m h0 (by omega), fun _ => rfl⟩, BQ.out⟩

theorem predKept (w1 : World) (x y z : Value) (t : TypeId) (W : World) (hW : Below (w1.alloc (.cells #[x, y, z] t)).heap.size (w1.alloc (.cells #[x, y, z] t)) W) :
    W.cell? ⟨w1.heap.size, 0, none⟩ = some x ∧ W.cell? ⟨w1.heap.size, 1, none⟩ = some y ∧ W.cell? ⟨w1.heap.size, 2, none⟩ = some z :=
  ⟨(belCell hW _ 0 (by simp)).trans (by simp), (belCell hW _ 1 (by simp)).trans (by simp), (belCell hW _ 2 (by simp)).trans (by simp)⟩

/-- What the function of a whole condition says, by the world behind. -/
theorem whole_fn {w : World} {base : Nat} {c : Cnd} {x0 x1 : Value} {k : Nat} {caps : Array Value} (h : CRep w base c x0 x1 (.func (.func k) #[] caps)) :
    (∀ (args : Array Value) (W : World), (callFunc k args).run Tryd.prog W = .ok (.enter k args) W) ∧
    ∀ W : World, Below w.heap.size w W → ∀ n : Int, 0 ≤ n → n ≤ 63 → Calls Tryd.prog k (#[.int .u8 n] ++ caps) W fun e W' => e = .returned (.bool (evn c n)) ∧ Below W.heap.size W W' := by
  obtain ⟨k', caps', hk, he, hc⟩ := h.fn
  cases hk
  exact ⟨he, fun W hb n h0 h1 => hc W (Ag.of hb (Nat.le_refl _)) n h0 h1⟩

set_option maxRecDepth 100000 in
set_option maxHeartbeats 2000000 in
theorem iPredSame_any (l m : List UInt8) (hl : l.length ≤ 1048576) (hm : m.length ≤ 1048576) (ep : Addr) (w : World) (hE : w.cell? ⟨0, 0, none⟩ = some (errV ep)) :
    Calls Tryd.prog 26 #[.string (bs l), .string (bs m)] w fun e w' => e = .returned (.bool (sameL l m)) ∧ Below w.heap.size w w' := by
  have hg := World.block_lt_of_cell? _ _ hE
  have HE : Hid (∀ W : World, Below w.heap.size w W → W.cell? ⟨0, 0, none⟩ = some (.iface 126 (.pointer (some ep)))) := fun W hb => cellLater hE hb
  unfold sameL
  cases hw : whole l with
  | none =>
    have HC : Hid (∀ W : World, Below w.heap.size w W → Calls Tryd.prog 39 #[.string (bs l)] W (NoWhole ep W)) := fun W hb => readPred_no l hw hl ep W (cellLater hE hb)
    unfold NoWhole errV at HC
    cases hw' : whole m with
    | none =>
      have HD : Hid (∀ W : World, Below w.heap.size w W → Calls Tryd.prog 39 #[.string (bs m)] W (NoWhole ep W)) := fun W hb => readPred_no m hw' hm ep W (cellLater hE hb)
      unfold NoWhole errV at HD
      clear hE hw hw' hl hm
      generalize bs l = s at *
      generalize bs m = t at *
      simp only
      go_enter Tryd.func26, Tryd.ntmps26
      go_wp2_with fail
      refine (HC.out _ (Below.refl _ _)).mono ?_
      rintro e w1 ⟨rfl, b1⟩
      have B1 := Lib.hid b1
      have s1 := b1.size
      clear b1 HC
      go_wp2_with fail
      refine (HD.out _ (B1.out.alloc s1 _)).mono ?_
      rintro e w2 ⟨rfl, b2⟩
      have B2 : Hid (Below w.heap.size w w2) := (B1.out.alloc s1 _).trans (b2.mono (by simp; omega))
      have s2 := B2.out.size
      have hE2 := HE.out _ B2.out
      have hg2 : 0 < w2.heap.size := by omega
      clear b2 B1 HD
      go_wp2_with fail
      refine (is_same _ _).mono ?_
      rintro e w3 ⟨rfl, rfl⟩
      go_wp2
      go_ret
      exact ⟨rfl, by repeat (first | exact B2.out | refine Below.drew ?_ | refine Below.alloc ?_ (by have := B2.out.size; omega) _)⟩
    | some c' =>
      obtain ⟨rfl, hk', h16'⟩ := whole_some hw'
      have HD : Hid (∀ W : World, Below w.heap.size w W → Calls Tryd.prog 39 #[.string (bs c'.txt)] W fun e w' => ∃ (ad : Option Addr) (n1 c1 k1 : Nat) (caps : Array Value), e = .returned (.tuple #[.agg #[.string (bs c'.txt), .slice ad n1 c1, .func (.func k1) #[] caps], .nilIface]) ∧ Below W.heap.size W w') := fun W hb => by
        refine (readPred_yes c' hk' h16' ep W (cellLater hE hb)).mono ?_
        rintro e w1 ⟨ad, n1, c1, k1, caps, rfl, hR, b1⟩
        exact ⟨_, _, _, _, _, rfl, b1⟩
      clear hE hw hw' hl hm hk' h16'
      generalize bs l = s at *
      generalize bs c'.txt = t at *
      simp only
      go_enter Tryd.func26, Tryd.ntmps26
      go_wp2_with fail
      refine (HC.out _ (Below.refl _ _)).mono ?_
      rintro e w1 ⟨rfl, b1⟩
      have B1 := Lib.hid b1
      have s1 := b1.size
      clear b1 HC
      go_wp2_with fail
      refine (HD.out _ (B1.out.alloc s1 _)).mono ?_
      rintro e w2 ⟨ad, n1, c1, k1, caps, rfl, b2⟩
      have B2 : Hid (Below w.heap.size w w2) := (B1.out.alloc s1 _).trans (b2.mono (by simp; omega))
      have s2 := B2.out.size
      have hE2 := HE.out _ B2.out
      have hg2 : 0 < w2.heap.size := by omega
      clear b2 B1 HD
      go_wp2_with fail
      refine (is_same _ _).mono ?_
      rintro e w3 ⟨rfl, rfl⟩
      go_wp2
      go_ret
      exact ⟨rfl, by repeat (first | exact B2.out | refine Below.drew ?_ | refine Below.alloc ?_ (by have := B2.out.size; omega) _)⟩
  | some c =>
    obtain ⟨rfl, hk, h16⟩ := whole_some hw
    have HC : Hid (∀ W : World, Below w.heap.size w W → Calls Tryd.prog 39 #[.string (bs c.txt)] W (Whole c W)) := fun W hb => readPred_yes c hk h16 ep W (cellLater hE hb)
    unfold Whole at HC
    cases hw' : whole m with
    | none =>
      have HD : Hid (∀ W : World, Below w.heap.size w W → Calls Tryd.prog 39 #[.string (bs m)] W (NoWhole ep W)) := fun W hb => readPred_no m hw' hm ep W (cellLater hE hb)
      unfold NoWhole errV at HD
      clear hE hw hw' hl hm hk h16
      generalize bs c.txt = s at *
      generalize bs m = t at *
      simp only
      go_enter Tryd.func26, Tryd.ntmps26
      go_wp2_with fail
      refine (HC.out _ (Below.refl _ _)).mono ?_
      rintro e w1 ⟨ad, n1, c1, k1, caps, rfl, hR, b1⟩
      have B1 := Lib.hid b1
      have s1 := b1.size
      clear b1 HC hR
      go_wp2_with fail
      refine (HD.out _ (B1.out.alloc s1 _)).mono ?_
      rintro e w2 ⟨rfl, b2⟩
      have B2 : Hid (Below w.heap.size w w2) := (B1.out.alloc s1 _).trans (b2.mono (by simp; omega))
      have s2 := B2.out.size
      have hE2 := HE.out _ B2.out
      have hg2 : 0 < w2.heap.size := by omega
      have HE3 := Lib.hid (fun W hW => HE.out W (B2.out.trans hW))
      clear b2 B1 HD
      go_wp2_with fail
      refine (is_nil _ _).mono ?_
      rintro e w3 ⟨rfl, rfl⟩
      go_wp2_with fail
      refine (is_same _ _).mono ?_
      rintro e w3 ⟨rfl, rfl⟩
      go_wp2
      go_ret
      exact ⟨rfl, by repeat (first | exact B2.out | refine Below.drew ?_ | refine Below.alloc ?_ (by have := B2.out.size; omega) _)⟩
    | some c' =>
      obtain ⟨rfl, hk', h16'⟩ := whole_some hw'
      have HD : Hid (∀ W : World, Below w.heap.size w W → Calls Tryd.prog 39 #[.string (bs c'.txt)] W (Whole c' W)) := fun W hb => readPred_yes c' hk' h16' ep W (cellLater hE hb)
      unfold Whole at HD
      have HS := Lib.hid (evM_same c c')
      clear hE hw hw' hl hm hk h16 hk' h16'
      generalize bs c.txt = s at *
      generalize bs c'.txt = t at *
      simp only
      generalize (evM c == evM c') = R at *
      go_enter Tryd.func26, Tryd.ntmps26
      go_wp2_with fail
      refine (HC.out _ (Below.refl _ _)).mono ?_
      rintro e w1 ⟨ad, n1, c1, k1, caps, rfl, hR, b1⟩
      have B1 := Lib.hid b1
      have s1 := b1.size
      have HR := Lib.hid hR
      clear b1 HC hR
      go_wp2_with fail
      refine (HD.out _ (B1.out.alloc s1 _)).mono ?_
      rintro e w2 ⟨ad', n1', c1', k1', caps', rfl, hR', b2⟩
      have B2 : Hid (Below w.heap.size w w2) := (B1.out.alloc s1 _).trans (b2.mono (by simp; omega))
      have s2 := B2.out.size
      have hE2 := HE.out _ B2.out
      have hg2 : 0 < w2.heap.size := by omega
      have HR' := Lib.hid hR'
      have HR2 := Lib.hid (CRep.later (Ag.of b2 (Nat.le_refl _)) (CRep.later (Ag.of (below_alloc1 w1 (.cells #[.string s, .slice ad n1 c1, .func (.func k1) #[] caps] 47)) (Nat.le_refl _)) HR.out))
      obtain ⟨q0, q1, q2⟩ := predKept w1 (.string s) (.slice ad n1 c1) (.func (.func k1) #[] caps) 47 w2 b2
      have z12 : w1.heap.size < w2.heap.size := by have := b2.size; simp at this; omega
      clear b2 B1 HD hR' HR
      go_wp2_with fail
      refine (is_nil _ _).mono ?_
      rintro e w3 ⟨rfl, rfl⟩
      go_wp2_with fail
      refine (is_nil _ _).mono ?_
      rintro e w3 ⟨rfl, rfl⟩
      have F1 := whole_fn (CRep.later (Ag.of (below_alloc1 w2 (.cells #[.string t, .slice ad' n1' c1', .func (.func k1') #[] caps'] 47)) (Nat.le_refl _)) HR2.out)
      have F2 := whole_fn (CRep.later (Ag.of (below_alloc1 w2 (.cells #[.string t, .slice ad' n1' c1', .func (.func k1') #[] caps'] 47)) (Nat.le_refl _)) HR'.out)
      have HG := Lib.hid (same_any s t ad ad' n1 n1' c1 c1' k1 k1' caps caps' _ _ _ F1.1 F2.1 F1.2 F2.2)
      clear F1 F2
      go_wp2_with fail
      refine HG.out.mono ?_
      rintro e w4 ⟨b, rfl, hb, b4⟩
      have HBR : Hid (b = R) := by
        have := hb.trans HS.out.symm
        show _ = _
        cases b <;> cases R <;> simp_all
      clear hb HG
      obtain rfl : b = R := HBR.out
      clear HBR HS
      go_wp2
      go_ret
      exact ⟨rfl, (B2.out.alloc s2 _).trans (b4.mono (by simp; omega))⟩

end Go.Proofs.YtddkpimmcmnogaaDoor
