/-
  Proved: promise 57 (a rule that is never the first can go), at every code from which the table and the place are drawn; the code reads on as it did. No condition but the card's own: the listed variables of the library stand as its text lays them.
-/
import Derived.Test.YtehgpehhpijkjaaGreatDoorRuleCard
import Derived.Test.YtehgpehhpijkjaaGreatDoorOwnB
import Derived.Test.YtehgpehhpijkjaaGreatDoorTabPartF
import Derived.Test.YtehgpehhpijkjaaGreatDoorTabDrawB
import Derived.Test.YtehgpehhpijkjaaGreatDoorTabOkI
namespace Go.Proofs.YtehgpehhpijkjaaGreatDoor
open Go.ChangeShapes Go.WideShapes Go.ChangeAt Go.RowKit Go.Joins
set_option linter.unusedVariables false

theorem doI_cons (x y z : Int) (r : R4) (l : List R4) : doI x y z (r :: l) = bif mR x y z r then ((x, y, tagTo r.t z), r.o) else doI x y z l := by
  unfold doI
  rw [List.findIdx?_cons]
  cases mR x y z r
  · rw [cond_false]
    cases l.findIdx? (mR x y z) <;> rfl
  · rfl
def seenR (x y z : Int) : Option R4 → (Int × Int × Int) × Int
  | none => ((x, y, z), 0)
  | some r => ((x, y, tagTo r.t z), r.o)
theorem doI_find (x y z : Int) : ∀ l : List R4, doI x y z l = seenR x y z (l.find? (mR x y z))
  | [] => rfl
  | r :: l => by
    rw [doI_cons, List.find?_cons]
    cases mR x y z r
    · exact doI_find x y z l
    · rfl
theorem drop_idle {x y z : Int} {l : List R4} {r : R4} (h : ∀ q, l.find? (mR x y z) = some q → q ≠ r) : doI x y z (dropF r l) = doI x y z l := by
  rw [doI_find, doI_find]
  unfold dropF
  rw [find_filter l (fun q hq => by simp [sameR_not (h q hq)])]
theorem ru_inj {l : List R4} (hp : l.Pairwise (fun a b => cmR a b < 0)) {i k : Nat} (hi : i < l.length) (hk : k < l.length) (h : ruAt l i = ruAt l k) : i = k := by
  rw [ruAt_lt hi, ruAt_lt hk] at h
  rcases Nat.lt_trichotomy i k with c | c | c
  · have := List.pairwise_iff_getElem.1 hp i k hi hk c
    rw [h, cmR_self] at this
    omega
  · exact c
  · have := List.pairwise_iff_getElem.1 hp k i hk hi c
    rw [h, cmR_self] at this
    omega
theorem idle_head {l : List R4} (ht : tOk l = true) {k : Nat} (hk : k < l.length) {n : Nat} (hn : n < 64) (h : ¬ atF (kb6 n) l = (k : Int)) : doN (dropT (ruAt l k) l) n = doN l n := by
  have hok := tOk_at ht
  have hr := hok k hk
  unfold doN
  rw [show dropT (ruAt l k) l = dropF (ruAt l k) l from by simp [dropT, ht, hr]]
  refine drop_idle fun q hq e => h ?_
  subst e
  obtain ⟨hp, i, hi, hix, hlow⟩ := List.find?_eq_some_iff_getElem.1 hq
  have hik : i = k := ru_inj (tOk_pw.1 ht).2.2 hi hk (by rw [ruAt_lt hi]; exact hix)
  subst hik
  rw [← atI_kb hok hn]
  refine atI_some hk (fun j hj => ?_) hp
  rw [ruAt_lt (by omega)]
  simpa using hlow j hj
theorem idle_same {l : List R4} (ht : tOk l = true) {k : Nat} (hk : k < l.length) (hA : areaT l (k : Int) = []) : sameT (dropT (ruAt l k) l) l = true := by
  have hr := tOk_at ht k hk
  refine sameT_yes (dropT_ok ht hr).1 ht fun n hn => ?_
  have h := area_head ht (z := (k : Int)) (by omega) (by omega) hn
  rw [hA] at h
  have h' : ¬ atF (kb6 n) l = (k : Int) := fun e => by
    rw [e] at h
    simp [inSp] at h
  unfold agreeB
  rw [idle_head ht hk hn h']
  simp

theorem doT_idle {l : List R4} (h : tOk l = true) {k : Nat} (hk : k < 64) : doT ((k : Int) / 16 % 4) ((k : Int) / 4 % 4) ((k : Int) % 4) l = doN l k := by
  rw [show (k : Int) / 16 % 4 = (k : Int) / 16 from by omega]
  unfold doT doN
  rw [h, okB_numA k hk]
  rfl

set_option maxRecDepth 100000 in
set_option maxHeartbeats 8000000 in
theorem walk_FnDropIdle (a : Option Addr) (len cap : Nat) (a' : Option Addr) (len' cap' : Nat) (w : World) (hb : BytesIn w w.heap.size a len cap) (hb' : BytesIn w w.heap.size a' len' cap') (hE : EtOk w) :
    Calls Tryz.prog 6 #[.slice a len cap, .slice a' len' cap'] w fun e w' => e = .returned (.bool true) ∧ Below w.heap.size w w' := by
  have HB := Lib.hid hb
  have HE := Lib.hid hE
  have hm : (len : Int) ≤ maxLen := by have := hb.1; have := hb.2.1; omega
  have hm' : (len' : Int) ≤ maxLen := by have := hb'.1; have := hb'.2.1; omega
  unfold maxLen at hm hm'
  clear hb hb' hE
  by_cases hlen : (1048576 : Int) < (len : Int)
  · go_enter Tryz.func6, Tryz.ntmps6
    go_wp2
    go_ret
    exact ⟨rfl, Below.refl _ _⟩
  have hl1 : decide ((1048576 : Int) < (len : Int)) = false := by simp; omega
  have hl1n : decide ((1048576 : Nat) < len) = false := by simp; omega
  by_cases hlen' : (1048576 : Int) < (len' : Int)
  · go_enter Tryz.func6, Tryz.ntmps6
    go_wp2
    go_ret
    exact ⟨rfl, Below.refl _ _⟩
  have hl2 : decide ((1048576 : Int) < (len' : Int)) = false := by simp; omega
  have hl2n : decide ((1048576 : Nat) < len') = false := by simp; omega
  go_enter Tryz.func6, Tryz.ntmps6
  go_wp2_with fail
  refine (drawTableDo_any _ _ _ _ HB.out).mono ?_
  rintro e w1 ⟨v, l, x, y, z, rfl, hl, hx, b1⟩
  have s1 := b1.size
  have B1 : Hid (Below w.heap.size w (w1.alloc (.cells #[.int .i64 x, .int .i64 y, .int .i64 z] 35))) := b1.alloc s1 _
  have HX0 : Hid (Rls (w1.alloc (.cells #[.int .i64 x, .int .i64 y, .int .i64 z] 35)) (w1.alloc (.cells #[.int .i64 x, .int .i64 y, .int .i64 z] 35)).heap.size v l) := (hx.below (below_alloc1 _ _)).rls
  have C0 := Lib.hid (newBlockM w1 (.cells #[.int .i64 x, .int .i64 y, .int .i64 z] 35))
  clear hx b1
  have hl' : l.length ≤ 1048576 := by omega
  obtain ⟨⟨⟨d1, d2, d3⟩, od⟩, hdd⟩ : ∃ d, doT x y z l = d := ⟨_, rfl⟩
  have HSD := Lib.hid (fun W h => sTableDo_any W v l h hl' x y z)
  have HID := Lib.hid (fun W h => iTableDo_any W v l h hl' x y z)
  rw [hdd] at HSD HID
  dsimp only at HSD HID
  have HDD := Lib.hid hdd
  clear hdd
  go_wp2_with fail
  generalize hW : w1.alloc (.cells #[.int .i64 x, .int .i64 y, .int .i64 z] 35) = W at *
  have zW : w1.heap.size < W.heap.size := by rw [← hW]; simp
  clear hW
  have HC : Hid (∀ W', Below W.heap.size W W' → W'.cell? ⟨w1.heap.size, 0, none⟩ = some (.int .i64 x) ∧ W'.cell? ⟨w1.heap.size, 1, none⟩ = some (.int .i64 y) ∧ W'.cell? ⟨w1.heap.size, 2, none⟩ = some (.int .i64 z)) := fun W' hb => trio3 ((hb.block _ zW).trans C0.out)
  have HX : Hid (∀ W', Below W.heap.size W W' → Rls W' W'.heap.size v l) := fun W' hb => (HX0.out.below hb (Nat.le_refl _)).mono hb.size
  have BW : Hid (∀ W', Below W.heap.size W W' → Below w.heap.size w W') := fun W' hb => B1.out.trans (hb.mono B1.out.size)
  generalize w1.heap.size = h at *
  clear C0 HX0 B1
  refine (HSD.out _ (HX.out _ (Below.refl _ _))).mono ?_
  rintro e w2 ⟨rfl, b2⟩
  have c2 := b2.alloc b2.size (.cells #[.int .i64 d1, .int .i64 d2, .int .i64 d3] 35)
  have HB2 := Lib.hid c2
  have K2 := Lib.hid (newBlockM w2 (.cells #[.int .i64 d1, .int .i64 d2, .int .i64 d3] 35))
  obtain ⟨q0, q1, q2⟩ := HC.out _ b2
  have l2 : h < w2.heap.size := Nat.lt_of_lt_of_le zW b2.size
  clear b2 c2
  go_wp2_with fail
  refine (HID.out _ (HX.out _ HB2.out) (HE.out.below (BW.out _ HB2.out))).mono ?_
  rintro e w3 ⟨rfl, b3⟩
  have K3 := (b3.block _ (by simp)).trans K2.out
  have c3 := (belStep HB2.out b3).alloc (belStep HB2.out b3).size (.cells #[.int .i64 d1, .int .i64 d2, .int .i64 d3] 35)
  have HB3 := Lib.hid c3
  have s3 := b3.size
  simp at s3
  have KW := Lib.hid ((Below.heap_alloc w3 (.cells #[.int .i64 d1, .int .i64 d2, .int .i64 d3] 35) w2.heap.size (by omega)).trans K3)
  have KX := Lib.hid (newBlockM w3 (.cells #[.int .i64 d1, .int .i64 d2, .int .i64 d3] 35))
  have g1 : w2.heap.size < w3.heap.size := by omega
  have g2 : h < w3.heap.size := by omega
  have g3 : w3.heap.size < (w3.alloc (.cells #[.int .i64 d1, .int .i64 d2, .int .i64 d3] 35)).heap.size := by simp
  obtain ⟨e0, e1, e2, -⟩ := cells3 K3
  clear q0 q1 q2 b3 c3 K3
  go_wp2_with fail
  generalize w3.alloc (.cells #[.int .i64 d1, .int .i64 d2, .int .i64 d3] 35) = V at *
  obtain ⟨q0, q1, q2⟩ := HC.out _ HB3.out
  obtain ⟨x0, x1, x2, -⟩ := cells3 KX.out
  obtain ⟨y0, y1, y2, -⟩ := cells3 KW.out
  have hV : w2.heap.size < V.heap.size := by omega
  have HK : Hid (∀ W', Below V.heap.size V W' → (W'.cell? ⟨h, 0, none⟩ = some (.int .i64 x) ∧ W'.cell? ⟨h, 1, none⟩ = some (.int .i64 y) ∧ W'.cell? ⟨h, 2, none⟩ = some (.int .i64 z)) ∧ (W'.cell? ⟨w3.heap.size, 0, none⟩ = some (.int .i64 d1) ∧ W'.cell? ⟨w3.heap.size, 1, none⟩ = some (.int .i64 d2) ∧ W'.cell? ⟨w3.heap.size, 2, none⟩ = some (.int .i64 d3)) ∧ (W'.cell? ⟨w2.heap.size, 0, none⟩ = some (.int .i64 d1) ∧ W'.cell? ⟨w2.heap.size, 1, none⟩ = some (.int .i64 d2) ∧ W'.cell? ⟨w2.heap.size, 2, none⟩ = some (.int .i64 d3)) ∧ Below W.heap.size W W' ∧ h < W'.heap.size ∧ w3.heap.size < W'.heap.size) := fun W' hb =>
    ⟨HC.out _ (belStep HB3.out hb), trio3 ((hb.block _ g3).trans KX.out), trio3 ((hb.block _ hV).trans KW.out), belStep HB3.out hb, by have := hb.size; omega, by have := hb.size; omega⟩
  clear q0 q1 q2 x0 x1 x2 y0 y1 y2 e0 e1 e2 KX KW K2 HB2 zW l2 s3 hV
  generalize w3.heap.size = bx at *
  generalize w2.heap.size = bh at *
  refine (sTableOk_any _ v l (HX.out _ HB3.out) hl').mono ?_
  rintro e w4 ⟨rfl, b4⟩
  cases ht : tOk l
  · obtain ⟨-, ⟨x0, x1, x2⟩, ⟨y0, y1, y2⟩, bb, -, -⟩ := HK.out _ b4
    have FB := Lib.hid (BW.out _ bb)
    clear b4 bb
    go_wp2
    go_ret
    exact ⟨rfl, FB.out⟩
  obtain ⟨⟨q0, q1, q2⟩, ⟨x0, x1, x2⟩, ⟨y0, y1, y2⟩, bb, -, -⟩ := HK.out _ b4
  have FBW : Hid (∀ W', Below w4.heap.size w4 W' → Below w.heap.size w W') := fun W' hb => BW.out _ (belStep bb hb)
  have HXW : Hid (∀ W', Below w4.heap.size w4 W' → Rls W' W'.heap.size v l) := fun W' hb => HX.out _ (belStep bb hb)
  have HEW : Hid (∀ W', Below w4.heap.size w4 W' → EtOk W') := fun W' hb => HE.out.below (BW.out _ (belStep bb hb))
  obtain ⟨d, cp, rfl, hcp, hmx, hh⟩ := HX.out _ bb
  unfold maxLen at hmx
  clear bb b4 HSD HID HK HX BW HDD HC HB3
  by_cases h0 : l.length = 0
  · have h0z : (l.length : Int) = 0 := by omega
    have h0b : ((l.length : Int) == 0) = true := by rw [h0]; rfl
    clear hh
    go_wp2
    go_ret
    exact ⟨rfl, FBW.out _ (Below.refl _ _)⟩
  obtain ⟨b', off, rfl, hb', hcell⟩ : ∃ b off, d = some ⟨b, off, none⟩ ∧ b < w4.heap.size ∧ Hid (∀ i, i < l.length → Four w4 b (off + i * 4) (ruAt l i)) := by
    rcases hh with h | ⟨b, off, h1, h2, h3⟩
    · rw [h] at h0; exact absurd rfl h0
    · exact ⟨b, off, h1, h2, h3⟩
  clear hh
  have h0z : ¬ (l.length : Int) = 0 := by omega
  obtain ⟨k, hk, hkl⟩ : ∃ k : Nat, (len' : Int) % (l.length : Int) = (k : Int) ∧ k < l.length := ⟨len' % l.length, by omega, Nat.mod_lt _ (by omega)⟩
  have hkz : (k : Int) < (l.length : Int) := by omega
  have hr := tOk_at ht k hkl
  obtain ⟨-, -, hdl, hdo⟩ := dropO_has ht hr (ruAt_mem hkl)
  have HIA := Lib.hid (fun W h => iTableArea_any W (.slice (some ⟨b', off, none⟩) l.length cp) l h hl' (k : Int))
  have HID := Lib.hid (fun W h => iTableDrop_all W (.slice (some ⟨b', off, none⟩) l.length cp) l h hl' (ruAt l k))
  rw [hdo] at HID
  have HSA : Hid (areaT l (k : Int) = [] → sameT (dropT (ruAt l k) l) l = true) := idle_same ht hkl
  have HTN : Hid (tOk (dropT (ruAt l k) l) = true) := (dropT_ok ht hr).1
  have HAT : Hid (okSp (areaT l (k : Int)) = true ∧ Fit6 (areaT l (k : Int)) ∧ (∀ n : Nat, n < 64 → inSp (areaT l (k : Int)) (f6 (hB ((n : Int) / 16 % 4) ((n : Int) / 4 % 4) ((n : Int) % 4))) = true ∨ doN (dropT (ruAt l k) l) n = doN l n)) := by
    refine ⟨by rw [areaT_yes ht (by omega) (by omega)]; exact okSp_tidy _, by rw [areaT_yes ht (by omega) (by omega)]; exact fit_tidy _, fun n hn => ?_⟩
    rw [area_head ht (by omega) (by omega) hn]
    by_cases e : atF (kb6 n) l = (k : Int)
    · exact .inl (by rw [e]; simp)
    · exact .inr (idle_head ht hkl hn e)
  have HTL := Lib.hid ht
  have hTl : (dropT (ruAt l k) l).length ≤ 1048576 := by have := dropT_len (ruAt l k) l; omega
  have HAL := Lib.hid (areaT_len l (k : Int))
  clear hr hdo hdl
  obtain ⟨c0, c1, c2, c3⟩ := hcell.out k hkl
  generalize dropT (ruAt l k) l = T at *
  generalize areaT l (k : Int) = A at *
  generalize ruAt l k = r at *
  clear hcell ht
  go_wp2_with fail
  refine (HIA.out _ (HXW.out _ (Below.refl _ _)) (HEW.out _ (Below.refl _ _))).mono ?_
  rintro e w5 ⟨s, rfl, hrow, b5⟩
  obtain ⟨sa, sn, sc, rfl, hsn⟩ : ∃ sa sn sc, s = .slice sa sn sc ∧ Hid (sn = A.length) := by
    rcases hrow.form with ⟨h1, h2⟩ | ⟨g', c', h1, -⟩
    · exact ⟨_, _, _, h1, by show 0 = A.length; rw [h2]; rfl⟩
    · exact ⟨_, _, _, h1, rfl⟩
  have HR := Lib.hid hrow
  have B5 := Lib.hid b5
  have cb := belCell b5
  replace c0 := (cb _ (off + k * 4) hb').trans c0
  replace c1 := (cb _ (off + k * 4 + 1) hb').trans c1
  replace c2 := (cb _ (off + k * 4 + 2) hb').trans c2
  replace c3 := (cb _ (off + k * 4 + 3) hb').trans c3
  clear hrow b5 cb q0 q1 q2 x0 x1 x2 y0 y1 y2
  go_wp2_with fail
  refine (HID.out _ (HXW.out _ B5.out) (HEW.out _ B5.out)).mono ?_
  rintro e w6 ⟨u, rfl, hrow, b6⟩
  have HROW := Lib.hid hrow.rls
  replace HR := Lib.hid (HR.out.below b6)
  have B6 := Lib.hid (belStep B5.out b6)
  clear hrow b6 c0 c1 c2 c3
  obtain ⟨ta, tc, rfl⟩ : ∃ ta tc, u = .slice ta T.length tc := by
    obtain ⟨ta, tc, rfl, -⟩ := HROW.out
    exact ⟨ta, tc, rfl⟩
  have HTW : Hid (∀ W, Below w6.heap.size w6 W → Rls W W.heap.size (.slice ta T.length tc) T) := fun W hb => (HROW.out.below hb (Nat.le_refl _)).mono hb.size
  have HRW : Hid (∀ W, Below w6.heap.size w6 W → Strs W W.heap.size (.slice sa sn sc) A) := fun W hb => (HR.out.below hb).strs
  have HDO : Hid (∀ n : Nat, n < 64 → ∀ W, Below w4.heap.size w4 W → Calls Tryz.prog 19 #[.slice (some ⟨b', off, none⟩) l.length cp, .agg #[.int .i64 ((n : Int) / 16 % 4), .int .i64 ((n : Int) / 4 % 4), .int .i64 ((n : Int) % 4)]] W fun e w' => e = .returned (.tuple #[.agg #[.int .i64 (doN l n).1.1, .int .i64 (doN l n).1.2.1, .int .i64 (doN l n).1.2.2], .int .i64 (doN l n).2]) ∧ Below W.heap.size W w') := fun n hn W hW => by
    have := iTableDo_any W _ l (HXW.out _ hW) hl' ((n : Int) / 16 % 4) ((n : Int) / 4 % 4) ((n : Int) % 4) (HEW.out _ hW)
    rwa [doT_idle HTL.out hn] at this
  have HDO' : Hid (∀ n : Nat, n < 64 → ∀ W, Below w6.heap.size w6 W → Calls Tryz.prog 19 #[.slice ta T.length tc, .agg #[.int .i64 ((n : Int) / 16 % 4), .int .i64 ((n : Int) / 4 % 4), .int .i64 ((n : Int) % 4)]] W fun e w' => e = .returned (.tuple #[.agg #[.int .i64 (doN T n).1.1, .int .i64 (doN T n).1.2.1, .int .i64 (doN T n).1.2.2], .int .i64 (doN T n).2]) ∧ Below W.heap.size W w') := fun n hn W hW => by
    have := iTableDo_any W _ T (HTW.out _ hW) hTl ((n : Int) / 16 % 4) ((n : Int) / 4 % 4) ((n : Int) % 4) (HEW.out _ (belStep B6.out hW))
    rwa [doT_idle HTN.out hn] at this
  have HTE := Lib.hid hTl
  clear HROW HR HIA HID hTl
  go_wp2
  go_loopw [15] (fun i wr => ∃ n : Nat, n ≤ 64 ∧ i = .int .i64 n ∧ Below w6.heap.size w6 wr) (fun i _ => 64 - (intOf i).toNat)
  case atStart => exact ⟨0, Nat.zero_le _, rfl, Below.refl _ _⟩
  case round =>
    obtain ⟨n, hn, rfl, hbel⟩ := hrel
    have HBL := Lib.hid hbel
    clear hbel
    by_cases hlt : n < 64
    · have hnz : (n : Int) < 64 := by omega
      have HD := Lib.hid (HDO.out n hlt)
      have HD' := Lib.hid (HDO'.out n hlt)
      have HLX := Lib.hid (lxHead_at n (by omega))
      obtain ⟨hok, hfit, hcase⟩ := HAT.out
      have HCS := hcase n hlt
      have HIK := Lib.hid (fun W h => iSpaceHas_any W (.slice sa sn sc) A ((n : Int) / 16 % 4) ((n : Int) / 4 % 4) ((n : Int) % 4) h hfit)
      rw [lx_ok, hok, Bool.true_and, Bool.true_and] at HIK
      generalize inSp A (f6 (hB ((n : Int) / 16 % 4) ((n : Int) / 4 % 4) ((n : Int) % 4))) = isA at *
      obtain ⟨⟨⟨x1, x2, x3⟩, ox⟩, hx⟩ : ∃ d, doN l n = d := ⟨_, rfl⟩
      obtain ⟨⟨⟨y1, y2, y3⟩, oy⟩, hy⟩ : ∃ d, doN T n = d := ⟨_, rfl⟩
      rw [hx] at HD HCS
      rw [hy] at HD' HCS
      dsimp only at HD HD'
      clear hx hy hok hfit hcase HDO HDO' HAT
      go_wp2_with fail
      refine (HLX.out _).mono ?_
      rintro e w7 ⟨rfl, b7⟩
      have B7 := Lib.hid ((belStep HBL.out b7).alloc (belStep HBL.out b7).size (.cells #[.int .i64 ((n : Int) / 16 % 4), .int .i64 ((n : Int) / 4 % 4), .int .i64 ((n : Int) % 4)] 35))
      have HG : Hid (∀ W, Below (w7.alloc (.cells #[.int .i64 ((n : Int) / 16 % 4), .int .i64 ((n : Int) / 4 % 4), .int .i64 ((n : Int) % 4)] 35)).heap.size (w7.alloc (.cells #[.int .i64 ((n : Int) / 16 % 4), .int .i64 ((n : Int) / 4 % 4), .int .i64 ((n : Int) % 4)] 35)) W → W.cell? ⟨w7.heap.size, 0, none⟩ = some (.int .i64 ((n : Int) / 16 % 4)) ∧ W.cell? ⟨w7.heap.size, 1, none⟩ = some (.int .i64 ((n : Int) / 4 % 4)) ∧ W.cell? ⟨w7.heap.size, 2, none⟩ = some (.int .i64 ((n : Int) % 4))) := fun W hb => trio3 ((hb.block _ (by simp)).trans (newBlockM w7 (.cells #[.int .i64 ((n : Int) / 16 % 4), .int .i64 ((n : Int) / 4 % 4), .int .i64 ((n : Int) % 4)] 35)))
      clear b7
      obtain ⟨g0, g1, g2⟩ := HG.out _ (Below.refl _ _)
      go_wp2_with fail
      refine (HD.out _ (belStep B6.out B7.out)).mono ?_
      rintro e w8 ⟨rfl, b8⟩
      have C8 := Lib.hid (b8.alloc b8.size (.cells #[.int .i64 x1, .int .i64 x2, .int .i64 x3] 35))
      have B8 := Lib.hid (belStep B7.out C8.out)
      clear b8 g0 g1 g2
      obtain ⟨g0, g1, g2⟩ := HG.out _ C8.out
      go_wp2_with fail
      refine (HD'.out _ B8.out).mono ?_
      rintro e w9 ⟨rfl, b9⟩
      have C9 := Lib.hid (b9.alloc b9.size (.cells #[.int .i64 y1, .int .i64 y2, .int .i64 y3] 35))
      have B9 := Lib.hid (belStep B8.out C9.out)
      have A9 := Lib.hid (trio3 ((C9.out.block w8.heap.size (by simp)).trans (newBlockM w8 (.cells #[.int .i64 x1, .int .i64 x2, .int .i64 x3] 35))))
      have Y9 := Lib.hid (trio3 (newBlockM w9 (.cells #[.int .i64 y1, .int .i64 y2, .int .i64 y3] 35)))
      have z9 : w8.heap.size < w9.heap.size := by have := b9.size; simp at this; omega
      have z7 : w7.heap.size < w9.heap.size := by have := b9.size; have h8 := C8.out.size; simp at this h8; omega
      clear b9 g0 g1 g2
      obtain ⟨g0, g1, g2⟩ := HG.out _ (belStep C8.out C9.out)
      obtain ⟨a0, a1, a2⟩ := A9.out
      obtain ⟨r0, r1, r2⟩ := Y9.out
      clear HD HD' HLX
      go_wp2_with fail
      refine (HIK.out _ (HRW.out _ B9.out)).mono ?_
      rintro e w10 ⟨rfl, b10⟩
      have B10 := Lib.hid (belStep B9.out b10)
      have cb := belCell b10
      have a0' := (cb w8.heap.size 0 (by simp; omega)).trans a0
      have a1' := (cb w8.heap.size 1 (by simp; omega)).trans a1
      have a2' := (cb w8.heap.size 2 (by simp; omega)).trans a2
      have r0' := (cb w9.heap.size 0 (by simp)).trans r0
      have r1' := (cb w9.heap.size 1 (by simp)).trans r1
      have r2' := (cb w9.heap.size 2 (by simp)).trans r2
      clear cb b10 a0 a1 a2 r0 r1 r2 g0 g1 g2 A9 Y9 HG HIK C8 C9 B7 B8 B9
      cases isA
      · rcases HCS with e | e
        · cases e
        simp only [Prod.mk.injEq] at e
        obtain ⟨⟨rfl, rfl, rfl⟩, rfl⟩ := e
        go_wp2
        go_roundw
        case rel => exact ⟨n + 1, by omega, by go_num, B10.out⟩
        case measure => simp [intOf]; omega
      · clear HCS
        go_wp2
        go_roundw
        case rel => exact ⟨n + 1, by omega, by go_num, B10.out⟩
        case measure => simp [intOf]; omega
    · obtain rfl : n = 64 := by omega
      clear HDO HDO' HAT
      by_cases hs0 : sn = 0
      · have hA : A = [] := List.eq_nil_of_length_eq_zero (by have := hsn.out; omega)
        have HSS := Lib.hid (fun W h h' => iTableSame_any W (.slice ta T.length tc) (.slice (some ⟨b', off, none⟩) l.length cp) T l h h' (by have := HTE.out; omega) hl')
        rw [HSA.out hA] at HSS
        subst hs0
        clear hsn HSA hA
        go_wp2_with fail
        refine (HSS.out _ (HTW.out _ HBL.out) (HXW.out _ (belStep B6.out HBL.out)) (HEW.out _ (belStep B6.out HBL.out))).mono ?_
        rintro e w7 ⟨rfl, b7⟩
        have B7 := Lib.hid (belStep HBL.out b7)
        clear b7
        go_wp2
        go_ret
        exact ⟨rfl, FBW.out _ (belStep B6.out B7.out)⟩
      · have hs1 : (0 : Int) < (sn : Int) := by omega
        clear hsn HSA
        go_wp2
        go_ret
        exact ⟨rfl, FBW.out _ (belStep B6.out HBL.out)⟩

set_option maxRecDepth 100000 in
theorem contract_FnDropIdle (H : Type) (enc : TypeId × Value → H) (W : World) (base : Nat) (args : Array Value) (ds gs : List (DataW H)) (before : List MemPlace)
    (hval : ∀ (j : Nat) t v, Tryz.f6.params[j]? = some t → args[j]? = some v → Value.okWide Tryz.prog W .any base t v)
    (hW : DataW.Whole enc Tryz.prog Tryz.f6.params.toList Rows.fnDropIdleSpec.vars false W args.toList ds gs before) (hE : EtOk W) :
    Calls Tryz.prog 6 args W fun e W' => ∃ v, e = .returned v ∧ Rows.fnDropIdleSpec.post enc Tryz.prog Tryz.f6 false true false false W args v W' := by
  have hW' := hW
  obtain ⟨p, q, hA0, hV, rfl, hfz, hnd⟩ := hW
  have hA : DataW.TrodAll enc Tryz.prog W 0 (fun _ => true) true Tryz.f6.params.toList args.toList ds p := hA0
  rw [Tryz.params6] at hA hval
  obtain ⟨v0, vs0, d0, ds0, p0, q0, hargs, rfl, rfl, h0, r0⟩ := trodAll_cons hA
  obtain ⟨v1, vs1, d1, ds1, p1, q1, rfl, rfl, rfl, h1, r1⟩ := trodAll_cons r0
  obtain ⟨rfl, rfl, rfl⟩ := trodAll_nil r1
  obtain rfl : args = #[v0, v1] := by cases args; simp_all
  obtain ⟨rfl, rfl⟩ := trodVars_none hV
  have k0 := h0
  have lt0 : ∀ x ∈ p0, x.block < W.heap.size := by obtain ⟨m, hm⟩ := k0; exact DataW.trod_lt m _ _ _ hm
  have k1 := h1
  have lt1 : ∀ x ∈ p1, x.block < W.heap.size := by obtain ⟨m, hm⟩ := k1; exact DataW.trod_lt m _ _ _ hm
  obtain ⟨a0, len0, cap0, rfl⟩ := okWide_slice Tryz.underlying22 (hval 0 22 v0 rfl rfl)
  have w0 : BytesIn W W.heap.size a0 len0 cap0 := isRow_of h0
  obtain ⟨a1, len1, cap1, rfl⟩ := okWide_slice Tryz.underlying22 (hval 1 22 v1 rfl rfl)
  have w1 : BytesIn W W.heap.size a1 len1 cap1 := isRow_of h1
  clear hA0
  refine (walk_FnDropIdle a0 len0 cap0 a1 len1 cap1 W w0 w1 hE).mono fun e W' ⟨he, bel⟩ => ?_
  subst he
  exact ⟨_, rfl, _, _, _, [], _, [], hW', trodAll_mk1 (shut_bool Tryz.underlying4 _), (trodAll_cons_mk (Below.trod laidOut (by kernel_rfl) (of_decide_eq_true (by kernel_rfl)) k0 bel lt0) (trodAll_cons_mk (Below.trod laidOut (by kernel_rfl) (of_decide_eq_true (by kernel_rfl)) k1 bel lt1) (trodAll_mk0))), rfl, bel.frame _, fun h => by cases h⟩

/-- A world for the witness: the settled one, with the listed variables as the text lays them. -/
noncomputable def laidWorld_FnDropIdle (os : Os) : World :=
  { World.holding Tryz.prog os ⟨#[], #[], []⟩ with heap := (((((World.holding Tryz.prog os ⟨#[], #[], []⟩).heap).modify 3 (fun | .cells _ t frozen => .cells #[.int .u8 0, .int .u8 1, .int .u8 28, .int .u8 2, .int .u8 29, .int .u8 14, .int .u8 24, .int .u8 3, .int .u8 30, .int .u8 22, .int .u8 20, .int .u8 15, .int .u8 25, .int .u8 17, .int .u8 4, .int .u8 8, .int .u8 31, .int .u8 27, .int .u8 13, .int .u8 23, .int .u8 21, .int .u8 19, .int .u8 16, .int .u8 7, .int .u8 26, .int .u8 12, .int .u8 18, .int .u8 6, .int .u8 11, .int .u8 5, .int .u8 10, .int .u8 9] t frozen | o => o)).modify 4 (fun | .cells _ t frozen => .cells #[.int .u8 0, .int .u8 1, .int .u8 56, .int .u8 2, .int .u8 57, .int .u8 49, .int .u8 28, .int .u8 3, .int .u8 61, .int .u8 58, .int .u8 42, .int .u8 50, .int .u8 38, .int .u8 29, .int .u8 17, .int .u8 4, .int .u8 62, .int .u8 47, .int .u8 59, .int .u8 36, .int .u8 45, .int .u8 43, .int .u8 51, .int .u8 22, .int .u8 53, .int .u8 39, .int .u8 33, .int .u8 30, .int .u8 24, .int .u8 18, .int .u8 12, .int .u8 5, .int .u8 63, .int .u8 55, .int .u8 48, .int .u8 27, .int .u8 60, .int .u8 41, .int .u8 37, .int .u8 16, .int .u8 46, .int .u8 35, .int .u8 44, .int .u8 21, .int .u8 52, .int .u8 32, .int .u8 23, .int .u8 11, .int .u8 54, .int .u8 26, .int .u8 40, .int .u8 15, .int .u8 34, .int .u8 20, .int .u8 31, .int .u8 10, .int .u8 25, .int .u8 14, .int .u8 19, .int .u8 9, .int .u8 13, .int .u8 8, .int .u8 7, .int .u8 6] t frozen | o => o)).modify 2 (fun | .cells _ t frozen => .cells #[.int .u64 1, .int .u64 10, .int .u64 100, .int .u64 1000, .int .u64 10000, .int .u64 100000, .int .u64 1000000, .int .u64 10000000, .int .u64 100000000, .int .u64 1000000000, .int .u64 10000000000, .int .u64 100000000000, .int .u64 1000000000000, .int .u64 10000000000000, .int .u64 100000000000000, .int .u64 1000000000000000, .int .u64 10000000000000000, .int .u64 100000000000000000, .int .u64 1000000000000000000, .int .u64 10000000000000000000] t frozen | o => o)).modify 0 (fun | .cells _ t frozen => .cells #[.iface 176 (.agg #[.pointer (some ⟨5, 131, none⟩)])] t frozen | o => o) }

theorem laidMet_FnDropIdle (os : Os) : laidMetH Tryz.prog Rows.fnDropIdleRow.laid ((laidWorld_FnDropIdle os).forCall (fun _ _ => 0) ⟨#[], #[.slice none 0 0, .slice none 0 0], []⟩).memory :=
  laidMetH_of_parts (laidMet_of_run' 8 (by kernel_rfl) (by kernel_rfl)) (by kernel_rfl)

theorem reads_FnDropIdle (os : Os) {H : Type} (enc : TypeId × Value → H) : ∃ places, DataW.whole enc Tryz.prog ((laidWorld_FnDropIdle os).forCall (fun _ _ => 0) ⟨#[], #[.slice none 0 0, .slice none 0 0], []⟩).memory Tryz.f6.params.toList Rows.fnDropIdleSpec.vars false (#[.slice none 0 0, .slice none 0 0] : Array Value).toList 8 = some ([.nil, .nil], [], places) :=
  ⟨[], by kernel_rfl⟩

set_option maxRecDepth 100000 in
theorem lifted_FnDropIdle (os : Os) (started : os.Started) (H : Type) (enc : TypeId × Value → H) (F : Stop.Interp) :
    ReturnsInHanded {} Tryz.checked os 6 .any ((OpenSpec.ofChange Rows.fnDropIdleSpec).preRow enc Tryz.prog Tryz.f6 Rows.fnDropIdleRow.domain false Rows.fnDropIdleRow.laid) (((OpenSpec.ofChange Rows.fnDropIdleSpec).at F).post enc Tryz.prog Tryz.f6 false true false false) := by
  obtain ⟨places, hx⟩ := reads_FnDropIdle os enc
  refine returnsInHanded_of_row (C := Tryz.checked) (s := OpenSpec.ofChange Rows.fnDropIdleSpec) own started (by kernel_rfl) Tryz.func6
    (witness_row_at (enc := enc) (C := Tryz.checked) false (laidWorld_FnDropIdle os) #[.slice none 0 0, .slice none 0 0] rfl (by kernel_rfl) (by kernel_rfl) (by kernel_rfl)
      (OpenSpec.preRow_of_cond 8 hx (by kernel_rfl) (fun k hk => by cases hk) (by kernel_rfl) (laidMet_FnDropIdle os))) ?_
  intro W base args ds gs before hval hW _ _ _ hL _ _
  exact contract_FnDropIdle H enc W base args ds gs before hval hW (etOk_of hL (by simp [Rows.fnDropIdleRow]))

theorem said_FnDropIdle : Rows.FnDropIdleSaid :=
  OpenClaim.holds_of_cond 6 Tryz.f6 rfl rfl rfl rfl rfl rfl rfl ⟨rfl, rfl, rfl, rfl, rfl⟩ rfl rfl rfl rfl rfl (by kernel_rfl) Tryz.func6 (by kernel_rfl)
    (of_decide_eq_true (by kernel_rfl)) (by unfold Func.isWrapper; first | (rw [if_pos (by decide +kernel)]; kernel_rfl) | (rw [if_neg (by decide +kernel)]; exact ⟨rfl, rfl⟩))
    (fun os started H enc _ F => by rw [OpenClaim.pre_eq_preRow]; exact lifted_FnDropIdle os started H enc F)

theorem plain_FnDropIdle (f : FuncId) (fn : Func) (hf : Tryz.pinned.checked.prog.funcNamed "loop.example/crossbuck/laws.FnDropIdle" = some f) (hfn : Tryz.pinned.checked.prog.funcs[f]? = some fn) :
    true = Tryz.pinned.checked.prog.looks [] ∧ ∀ (j : Nat) t, fn.params[j]? = some t → Tryz.pinned.checked.prog.wantsStandIn t = false := by
  obtain rfl : f = 6 := Option.some.inj ((show Tryz.prog.funcNamed "loop.example/crossbuck/laws.FnDropIdle" = some 6 by kernel_rfl).symm.trans hf) |>.symm
  obtain rfl : fn = Tryz.f6 := (Option.some.inj (Tryz.func6.symm.trans hfn)).symm
  refine ⟨by kernel_rfl, fun j t ht => ?_⟩
  rw [Tryz.params6] at ht
  obtain rfl : t = 22 := by simpa using Array.mem_of_getElem? ht
  exact (show Tryz.prog.wantsStandIn 22 = false by kernel_rfl)

theorem proved_FnDropIdle : Rows.FnDropIdleCardSaid :=
  Claim7.holds_tied_plain_at .later [] _ _ _ _ said_FnDropIdle (fun _ h => by cases h) (by kernel_rfl) (fun _ h => by cases h) fnDropIdle_row_tie rfl ⟨rfl, rfl⟩ (by kernel_rfl) rfl plain_FnDropIdle (by kernel_rfl)

end Go.Proofs.YtehgpehhpijkjaaGreatDoor
