/-
  Proved: promise 58 (a rule that is put first counts first), at every code from which the table and the head are drawn; the code reads on as it did. No condition but the card's own: the listed variables of the library stand as its text lays them.
-/
import Derived.Test.YtahobeigbjhbbaaGreatDoorRuleCard
import Derived.Test.YtahobeigbjhbbaaGreatDoorOwnB
import Derived.Test.YtahobeigbjhbbaaGreatDoorTabDoS
import Derived.Test.YtahobeigbjhbbaaGreatDoorTabPD
import Derived.Test.YtahobeigbjhbbaaGreatDoorTabDrawB
import Derived.Test.YtahobeigbjhbbaaGreatDoorTabOkI
namespace Go.Proofs.YtahobeigbjhbbaaGreatDoor
open Go.ChangeShapes Go.WideShapes Go.ChangeAt Go.RowKit Go.Joins
set_option linter.unusedVariables false

/-- The rule that is put: of one of three patterns. -/
def ruP (s : ByteArray) (hs : s.size ≤ 1048576) : R4 := ⟨9, s, 2, -1, hs⟩
theorem put_first {r : R4} {l : List R4} (h : putO r l = true) (h0 : ruAt (putT r l) 0 = r) : putT r l = r :: l := by
  obtain ⟨h1, h2, h3⟩ := putT_ok h
  obtain ⟨ht, hr, -, hm, -⟩ := putO_yes h
  obtain ⟨-, hok, hp⟩ := tOk_pw.1 h1
  obtain ⟨-, -, hpl⟩ := tOk_pw.1 ht
  generalize putT r l = y at *
  match y, h2, h0 with
  | b :: t, h2, h0 =>
    obtain rfl : b = r := h0
    rw [List.pairwise_cons] at hp
    have hnt : b ∉ t := fun hx => by have := hp.1 b hx; rw [cmR_self] at this; omega
    congr 1
    refine pw_ext hp.2 hpl fun q => ⟨fun hq => ?_, fun hq => ?_⟩
    · rcases (h3 q).1 (List.mem_cons_of_mem _ hq) with h | rfl
      · exact h
      · exact absurd hq hnt
    · rcases List.mem_cons.1 ((h3 q).2 (.inl hq)) with rfl | h
      · exact absurd hq hm
      · exact h
theorem doI_first (x y z : Int) (r : R4) (l : List R4) : doI x y z (r :: l) = bif mR x y z r then ((x, y, tagTo r.t z), r.o) else doI x y z l := by
  unfold doI
  rw [List.findIdx?_cons]
  cases mR x y z r
  · rw [cond_false]
    cases l.findIdx? (mR x y z) <;> rfl
  · rfl


set_option maxRecDepth 100000 in
set_option maxHeartbeats 8000000 in
theorem walk_FnPutFirst (a : Option Addr) (len cap : Nat) (a' : Option Addr) (len' cap' : Nat) (w : World) (hb : BytesIn w w.heap.size a len cap) (hb' : BytesIn w w.heap.size a' len' cap') (hE : EtOk w) :
    Calls Tryz.prog 6 #[.slice a len cap, .slice a' len' cap'] w fun e w' => e = .returned (.bool true) ∧ Below w.heap.size w w' := by
  have HB := Lib.hid hb
  have HE := Lib.hid hE
  have hm : (len : Int) ≤ maxLen := by have := hb.1; have := hb.2.1; omega
  have hm' : (len' : Int) ≤ maxLen := by have := hb'.1; have := hb'.2.1; omega
  unfold maxLen at hm hm'
  clear hb hb' hE
  by_cases hlen : (1048576 : Int) < (len : Int)
  · go_enter Tryz.func6, Tryz.ntmps6
    go_wp2
    go_ret
    exact ⟨rfl, Below.refl _ _⟩
  have hl1 : decide ((1048576 : Int) < (len : Int)) = false := by simp; omega
  have hl1n : decide ((1048576 : Nat) < len) = false := by simp; omega
  by_cases hlen' : (1048576 : Int) < (len' : Int)
  · go_enter Tryz.func6, Tryz.ntmps6
    go_wp2
    go_ret
    exact ⟨rfl, Below.refl _ _⟩
  have hl2 : decide ((1048576 : Int) < (len' : Int)) = false := by simp; omega
  have hl2n : decide ((1048576 : Nat) < len') = false := by simp; omega
  go_enter Tryz.func6, Tryz.ntmps6
  go_wp2_with fail
  refine (drawTableDo_any _ _ _ _ HB.out).mono ?_
  rintro e w1 ⟨v, l, x, y, z, rfl, hl, hx, b1⟩
  have s1 := b1.size
  have B1 : Hid (Below w.heap.size w (w1.alloc (.cells #[.int .i64 x, .int .i64 y, .int .i64 z] 36))) := b1.alloc s1 _
  have HX0 : Hid (Rls (w1.alloc (.cells #[.int .i64 x, .int .i64 y, .int .i64 z] 36)) (w1.alloc (.cells #[.int .i64 x, .int .i64 y, .int .i64 z] 36)).heap.size v l) := (hx.below (below_alloc1 _ _)).rls
  have C0 := Lib.hid (newBlockM w1 (.cells #[.int .i64 x, .int .i64 y, .int .i64 z] 36))
  clear hx b1
  have hl' : l.length ≤ 1048576 := by omega
  obtain ⟨⟨⟨d1, d2, d3⟩, od⟩, hdd⟩ : ∃ d, doT x y z l = d := ⟨_, rfl⟩
  have HSD := Lib.hid (fun W h => sTableDo_any W v l h hl' x y z)
  have HID := Lib.hid (fun W h => iTableDo_any W v l h hl' x y z)
  rw [hdd] at HSD HID
  dsimp only at HSD HID
  have HDD := Lib.hid hdd
  clear hdd
  go_wp2_with fail
  generalize hW : w1.alloc (.cells #[.int .i64 x, .int .i64 y, .int .i64 z] 36) = W at *
  have zW : w1.heap.size < W.heap.size := by rw [← hW]; simp
  clear hW
  have HC : Hid (∀ W', Below W.heap.size W W' → W'.cell? ⟨w1.heap.size, 0, none⟩ = some (.int .i64 x) ∧ W'.cell? ⟨w1.heap.size, 1, none⟩ = some (.int .i64 y) ∧ W'.cell? ⟨w1.heap.size, 2, none⟩ = some (.int .i64 z)) := fun W' hb => trio3 ((hb.block _ zW).trans C0.out)
  have HX : Hid (∀ W', Below W.heap.size W W' → Rls W' W'.heap.size v l) := fun W' hb => (HX0.out.below hb (Nat.le_refl _)).mono hb.size
  have BW : Hid (∀ W', Below W.heap.size W W' → Below w.heap.size w W') := fun W' hb => B1.out.trans (hb.mono B1.out.size)
  generalize w1.heap.size = h at *
  clear C0 HX0 B1
  refine (HSD.out _ (HX.out _ (Below.refl _ _))).mono ?_
  rintro e w2 ⟨rfl, b2⟩
  have c2 := b2.alloc b2.size (.cells #[.int .i64 d1, .int .i64 d2, .int .i64 d3] 36)
  have HB2 := Lib.hid c2
  have K2 := Lib.hid (newBlockM w2 (.cells #[.int .i64 d1, .int .i64 d2, .int .i64 d3] 36))
  obtain ⟨q0, q1, q2⟩ := HC.out _ b2
  have l2 : h < w2.heap.size := Nat.lt_of_lt_of_le zW b2.size
  clear b2 c2
  go_wp2_with fail
  refine (HID.out _ (HX.out _ HB2.out) (HE.out.below (BW.out _ HB2.out))).mono ?_
  rintro e w3 ⟨rfl, b3⟩
  have K3 := (b3.block _ (by simp)).trans K2.out
  have c3 := (belStep HB2.out b3).alloc (belStep HB2.out b3).size (.cells #[.int .i64 d1, .int .i64 d2, .int .i64 d3] 36)
  have HB3 := Lib.hid c3
  have s3 := b3.size
  simp at s3
  have KW := Lib.hid ((Below.heap_alloc w3 (.cells #[.int .i64 d1, .int .i64 d2, .int .i64 d3] 36) w2.heap.size (by omega)).trans K3)
  have KX := Lib.hid (newBlockM w3 (.cells #[.int .i64 d1, .int .i64 d2, .int .i64 d3] 36))
  have g1 : w2.heap.size < w3.heap.size := by omega
  have g2 : h < w3.heap.size := by omega
  have g3 : w3.heap.size < (w3.alloc (.cells #[.int .i64 d1, .int .i64 d2, .int .i64 d3] 36)).heap.size := by simp
  obtain ⟨e0, e1, e2, -⟩ := cells3 K3
  clear q0 q1 q2 b3 c3 K3
  go_wp2_with fail
  generalize w3.alloc (.cells #[.int .i64 d1, .int .i64 d2, .int .i64 d3] 36) = V at *
  obtain ⟨q0, q1, q2⟩ := HC.out _ HB3.out
  obtain ⟨x0, x1, x2, -⟩ := cells3 KX.out
  obtain ⟨y0, y1, y2, -⟩ := cells3 KW.out
  have hV : w2.heap.size < V.heap.size := by omega
  have HK : Hid (∀ W', Below V.heap.size V W' → (W'.cell? ⟨h, 0, none⟩ = some (.int .i64 x) ∧ W'.cell? ⟨h, 1, none⟩ = some (.int .i64 y) ∧ W'.cell? ⟨h, 2, none⟩ = some (.int .i64 z)) ∧ (W'.cell? ⟨w3.heap.size, 0, none⟩ = some (.int .i64 d1) ∧ W'.cell? ⟨w3.heap.size, 1, none⟩ = some (.int .i64 d2) ∧ W'.cell? ⟨w3.heap.size, 2, none⟩ = some (.int .i64 d3)) ∧ (W'.cell? ⟨w2.heap.size, 0, none⟩ = some (.int .i64 d1) ∧ W'.cell? ⟨w2.heap.size, 1, none⟩ = some (.int .i64 d2) ∧ W'.cell? ⟨w2.heap.size, 2, none⟩ = some (.int .i64 d3)) ∧ Below W.heap.size W W' ∧ h < W'.heap.size ∧ w3.heap.size < W'.heap.size) := fun W' hb =>
    ⟨HC.out _ (belStep HB3.out hb), trio3 ((hb.block _ g3).trans KX.out), trio3 ((hb.block _ hV).trans KW.out), belStep HB3.out hb, by have := hb.size; omega, by have := hb.size; omega⟩
  clear q0 q1 q2 x0 x1 x2 y0 y1 y2 e0 e1 e2 KX KW K2 HB2 zW l2 s3 hV
  generalize w3.heap.size = bx at *
  generalize w2.heap.size = bh at *
  refine (sTableOk_any _ v l (HX.out _ HB3.out) hl').mono ?_
  rintro e w4 ⟨rfl, b4⟩
  cases ht : tOk l
  · obtain ⟨-, ⟨x0, x1, x2⟩, ⟨y0, y1, y2⟩, bb, -, -⟩ := HK.out _ b4
    have FB := Lib.hid (BW.out _ bb)
    clear b4 bb
    go_wp2
    go_ret
    exact ⟨rfl, FB.out⟩
  obtain ⟨⟨q0, q1, q2⟩, -, -, -, -, -⟩ := HK.out _ b4
  go_wp2_with fail
  refine (sHeadOk_any x y z _).mono ?_
  rintro e w5 ⟨rfl, b5⟩
  have b5' := belStep b4 b5
  clear q0 q1 q2 b4 b5
  obtain ⟨⟨q0, q1, q2⟩, ⟨x0, x1, x2⟩, ⟨y0, y1, y2⟩, bb, l0, l1⟩ := HK.out _ b5'
  cases ho : okB x y z
  · have FB := Lib.hid (BW.out _ bb)
    clear bb b5'
    go_wp2
    go_ret
    exact ⟨rfl, FB.out⟩
  have hdi : doI x y z l = ((d1, d2, d3), od) := by
    have := HDD.out
    rw [doT, ht, ho] at this
    exact this
  have HB5 := Lib.hid b5'
  have HBB := Lib.hid bb
  have HIP := Lib.hid (fun W h hE r => iTablePut_any W v l h hl' r hE)
  clear b5' bb x0 x1 x2 y0 y1 y2 q0 q1 q2 HDD HSD HID
  have hokb : okB x y z = true := ho
  rcases (show (len' : Int) % 3 = 0 ∨ (len' : Int) % 3 = 1 ∨ (len' : Int) % 3 = 2 by omega) with h3 | h3 | h3
  · have B6 : Hid (Below w5.heap.size w5 ((w5.alloc (.cells #[.string ⟨#[120, 120, 120, 120, 49, 120]⟩, .string ⟨#[48, 49, 120, 120, 120, 120]⟩, .string ⟨#[120, 120, 120, 120, 120, 120]⟩] 9)).alloc (.cells #[.int .i64 9, .string ⟨#[120, 120, 120, 120, 49, 120]⟩, .int .i64 2, .int .i64 (-1)] 25))) := ((Below.refl _ _).alloc (Nat.le_refl _) _).alloc (by simp) _
    have K6 : Hid (Four ((w5.alloc (.cells #[.string ⟨#[120, 120, 120, 120, 49, 120]⟩, .string ⟨#[48, 49, 120, 120, 120, 120]⟩, .string ⟨#[120, 120, 120, 120, 120, 120]⟩] 9)).alloc (.cells #[.int .i64 9, .string ⟨#[120, 120, 120, 120, 49, 120]⟩, .int .i64 2, .int .i64 (-1)] 25)) (w5.heap.size + 1) 0 (ruP ⟨#[120, 120, 120, 120, 49, 120]⟩ (by decide))) := by
      have h := newFour (w5.alloc (.cells #[.string ⟨#[120, 120, 120, 120, 49, 120]⟩, .string ⟨#[48, 49, 120, 120, 120, 120]⟩, .string ⟨#[120, 120, 120, 120, 120, 120]⟩] 9)) (ruP ⟨#[120, 120, 120, 120, 49, 120]⟩ (by decide))
      have e : (w5.alloc (.cells #[.string ⟨#[120, 120, 120, 120, 49, 120]⟩, .string ⟨#[48, 49, 120, 120, 120, 120]⟩, .string ⟨#[120, 120, 120, 120, 120, 120]⟩] 9)).heap.size = w5.heap.size + 1 := by simp
      rw [e] at h
      exact h
    have z6 : w5.heap.size + 1 < ((w5.alloc (.cells #[.string ⟨#[120, 120, 120, 120, 49, 120]⟩, .string ⟨#[48, 49, 120, 120, 120, 120]⟩, .string ⟨#[120, 120, 120, 120, 120, 120]⟩] 9)).alloc (.cells #[.int .i64 9, .string ⟨#[120, 120, 120, 120, 49, 120]⟩, .int .i64 2, .int .i64 (-1)] 25)).heap.size := by simp
    have hmr : mR x y z (ruP ⟨#[120, 120, 120, 120, 49, 120]⟩ (by decide)) = hasS ⟨#[120, 120, 120, 120, 49, 120]⟩ x y z := by
      show (rOk 9 ⟨#[120, 120, 120, 120, 49, 120]⟩ 2 (-1) && hasS ⟨#[120, 120, 120, 120, 49, 120]⟩ x y z) = hasS ⟨#[120, 120, 120, 120, 49, 120]⟩ x y z
      rw [show rOk 9 ⟨#[120, 120, 120, 120, 49, 120]⟩ 2 (-1) = true from by decide +kernel, Bool.true_and]
    have HWH : Hid (∀ W, Calls Tryz.prog 30 #[.string (ruP ⟨#[120, 120, 120, 120, 49, 120]⟩ (by decide)).s, .agg #[.int .i64 x, .int .i64 y, .int .i64 z]] W fun e w' => e = .returned (.bool (hasS ⟨#[120, 120, 120, 120, 49, 120]⟩ x y z)) ∧ Below W.heap.size W w') := iWildHas_any ⟨#[120, 120, 120, 120, 49, 120]⟩ (by decide) x y z
    have hdo := doI_first x y z (ruP ⟨#[120, 120, 120, 120, 49, 120]⟩ (by decide)) l
    rw [hmr, hdi] at hdo
    go_wp2_with fail
    generalize ((w5.alloc (.cells #[.string ⟨#[120, 120, 120, 120, 49, 120]⟩, .string ⟨#[48, 49, 120, 120, 120, 120]⟩, .string ⟨#[120, 120, 120, 120, 120, 120]⟩] 9)).alloc (.cells #[.int .i64 9, .string ⟨#[120, 120, 120, 120, 49, 120]⟩, .int .i64 2, .int .i64 (-1)] 25)) = W6 at *
    generalize w5.heap.size + 1 = hr at *
    generalize hasS ⟨#[120, 120, 120, 120, 49, 120]⟩ x y z = hw at *
    refine (HIP.out _ (HX.out _ (belStep HBB.out B6.out)) (HE.out.below (BW.out _ (belStep HBB.out B6.out))) (ruP ⟨#[120, 120, 120, 120, 49, 120]⟩ (by decide))).mono ?_
    rintro e w6 ⟨u, rfl, hrow, b6⟩
    have HROW := Lib.hid hrow.rls
    have B66 := Lib.hid (belStep B6.out b6)
    have K66 := Lib.hid (K6.out.below b6 z6)
    have z66 : hr < w6.heap.size := Nat.lt_of_lt_of_le z6 b6.size
    have HPF := Lib.hid (put_first (r := ruP ⟨#[120, 120, 120, 120, 49, 120]⟩ (by decide)) (l := l))
    have HPO := Lib.hid (putT_ok (r := ruP ⟨#[120, 120, 120, 120, 49, 120]⟩ (by decide)) (l := l))
    clear hrow b6 K6 hmr HIP
    generalize putO (ruP ⟨#[120, 120, 120, 120, 49, 120]⟩ (by decide)) l = d at *
    generalize putT (ruP ⟨#[120, 120, 120, 120, 49, 120]⟩ (by decide)) l = T at *
    have FB6 := Lib.hid (BW.out _ (belStep HBB.out B66.out))
    cases d
    · go_wp2
      go_quiet (fail)
      go_wp2
      go_ret
      exact ⟨rfl, belDrewN FB6.out _⟩
    obtain ⟨hto, htl, -⟩ := HPO.out rfl
    replace HPF := Lib.hid (HPF.out rfl)
    obtain ⟨ua, uc, rfl, hcc, hmm, hh⟩ := HROW.out
    rcases hh with h0 | ⟨b', off, rfl, hb', hcell⟩
    · rw [h0] at htl
      simp at htl
    obtain ⟨c0, c1, c2, c3⟩ := hcell 0 (by omega)
    rw [Nat.zero_mul, Nat.add_zero] at c0 c1 c2 c3
    obtain ⟨k0, k1, k2, k3⟩ := K66.out
    simp only [Nat.zero_add] at k1 k2 k3
    clear hcell
    unfold maxLen at hmm
    have hT0 : 0 < T.length := by omega
    have hT0z : (0 : Int) < (T.length : Int) := by omega
    have hdo' : doI x y z (ruP ⟨#[120, 120, 120, 120, 49, 120]⟩ (by decide) :: l) = bif hw then ((x, y, tagTo (-1) z), 2) else ((d1, d2, d3), od) := hdo
    clear hdo
    generalize ruP ⟨#[120, 120, 120, 120, 49, 120]⟩ (by decide) = r at *
    rcases diffR (ruAt T 0) r with heq | ⟨-, hne⟩
    · have hT := HPF.out heq
      rw [heq] at c0 c1 c2 c3
      have hn6 : T.length ≤ 1048576 := by omega
      have HTD := Lib.hid (fun W h => iTableDo_any W (.slice (some ⟨b', off, none⟩) T.length uc) T h hn6 x y z)
      have hdt : doT x y z T = bif hw then ((x, y, tagTo (-1) z), 2) else ((d1, d2, d3), od) := by
        rw [← hT] at hdo'
        unfold doT
        rw [hto, hokb]
        exact hdo'
      obtain ⟨⟨⟨e1, e2, e3⟩, eo⟩, hdd⟩ : ∃ d, doT x y z T = d := ⟨_, rfl⟩
      rw [hdd] at HTD hdt
      dsimp only at HTD
      have HDT := Lib.hid hdt
      have HTL := Lib.hid (And.intro htl (And.intro hcc hmm))
      have HROW2 : Hid (∀ W, Below w6.heap.size w6 W → Rls W W.heap.size (.slice (some ⟨b', off, none⟩) T.length uc) T) := fun W hb => (HROW.out.below hb (Nat.le_refl _)).mono hb.size
      clear hdo' hdd hdt hT heq HPF HPO hdi htl hto
      go_wp2
      go_quiet (fail)
      have B7 := Lib.hid (belDrewN (Below.refl w6.heap.size w6) nq)
      clear c0 c1 c2 c3 k0 k1 k2 k3
      obtain ⟨⟨q0, q1, q2⟩, -, -, -, -, -⟩ := HK.out _ (belStep (belStep HB5.out B66.out) B7.out)
      generalize w6.drewN nq = w7 at *
      go_wp2_with fail
      refine (HTD.out _ (HROW2.out _ B7.out) (HE.out.below (belStep FB6.out B7.out))).mono ?_
      rintro e w8 ⟨rfl, b8⟩
      have B8 := Lib.hid (belStep B7.out b8)
      have B9 := Lib.hid (B8.out.alloc B8.out.size (.cells #[.int .i64 e1, .int .i64 e2, .int .i64 e3] 36))
      obtain ⟨⟨r0, r1, r2⟩, ⟨x0, x1, x2⟩, -, -, -, -⟩ := HK.out _ (belStep (belStep HB5.out B66.out) B9.out)
      obtain ⟨k0, k1, k2, k3⟩ := K66.out.below B9.out z66
      simp only [Nat.zero_add] at k1 k2 k3
      obtain ⟨a0, a1, a2, -⟩ := cells3 (newBlockM w8 (.cells #[.int .i64 e1, .int .i64 e2, .int .i64 e3] 36))
      clear q0 q1 q2 b8
      go_wp2_with fail
      refine (HWH.out _).mono ?_
      rintro e w9 ⟨rfl, b9⟩
      have B10 := Lib.hid (belStep B9.out b9)
      clear r0 r1 r2 x0 x1 x2 k0 k1 k2 k3
      obtain ⟨⟨r0, r1, r2⟩, ⟨x0, x1, x2⟩, -, -, -, -⟩ := HK.out _ (belStep (belStep HB5.out B66.out) B10.out)
      have A3 := trio3 ((b9.block w8.heap.size (by simp)).trans (newBlockM w8 (.cells #[.int .i64 e1, .int .i64 e2, .int .i64 e3] 36)))
      clear a0 a1 a2 b9
      obtain ⟨a0, a1, a2⟩ := A3
      have FB := Lib.hid (belStep FB6.out B10.out)
      have hd := HDT.out
      generalize w8.heap.size = ha at *
      clear HDT
      cases hw
      · simp only [cond_false, Prod.mk.injEq] at hd
        obtain ⟨⟨rfl, rfl, rfl⟩, rfl⟩ := hd
        go_wp2
        (first | go_quiet (fail) | skip)
        go_wp2
        go_ret
        exact ⟨rfl, by first | exact FB.out | exact belDrewN FB.out _⟩
      · simp only [cond_true, Prod.mk.injEq, tagTo] at hd
        obtain ⟨⟨rfl, rfl, hz⟩, rfl⟩ := hd
        rw [if_neg (by decide)] at hz
        subst hz
        go_wp2
        (first | go_quiet (fail) | skip)
        go_wp2
        go_ret
        exact ⟨rfl, by first | exact FB.out | exact belDrewN FB.out _⟩
    · clear HPF HPO hdo' htl hto
      generalize ruAt T 0 = q at *
      rcases hne with hne | ⟨hq0, hne⟩ | ⟨hq0, hq1, hne⟩ | ⟨hq0, hq1, hq2, hne⟩
      all_goals
        go_wp2
        go_quiet (fail)
        go_wp2
        go_ret
        exact ⟨rfl, belDrewN FB6.out _⟩
  · have B6 : Hid (Below w5.heap.size w5 ((w5.alloc (.cells #[.string ⟨#[120, 120, 120, 120, 49, 120]⟩, .string ⟨#[48, 49, 120, 120, 120, 120]⟩, .string ⟨#[120, 120, 120, 120, 120, 120]⟩] 9)).alloc (.cells #[.int .i64 9, .string ⟨#[48, 49, 120, 120, 120, 120]⟩, .int .i64 2, .int .i64 (-1)] 25))) := ((Below.refl _ _).alloc (Nat.le_refl _) _).alloc (by simp) _
    have K6 : Hid (Four ((w5.alloc (.cells #[.string ⟨#[120, 120, 120, 120, 49, 120]⟩, .string ⟨#[48, 49, 120, 120, 120, 120]⟩, .string ⟨#[120, 120, 120, 120, 120, 120]⟩] 9)).alloc (.cells #[.int .i64 9, .string ⟨#[48, 49, 120, 120, 120, 120]⟩, .int .i64 2, .int .i64 (-1)] 25)) (w5.heap.size + 1) 0 (ruP ⟨#[48, 49, 120, 120, 120, 120]⟩ (by decide))) := by
      have h := newFour (w5.alloc (.cells #[.string ⟨#[120, 120, 120, 120, 49, 120]⟩, .string ⟨#[48, 49, 120, 120, 120, 120]⟩, .string ⟨#[120, 120, 120, 120, 120, 120]⟩] 9)) (ruP ⟨#[48, 49, 120, 120, 120, 120]⟩ (by decide))
      have e : (w5.alloc (.cells #[.string ⟨#[120, 120, 120, 120, 49, 120]⟩, .string ⟨#[48, 49, 120, 120, 120, 120]⟩, .string ⟨#[120, 120, 120, 120, 120, 120]⟩] 9)).heap.size = w5.heap.size + 1 := by simp
      rw [e] at h
      exact h
    have z6 : w5.heap.size + 1 < ((w5.alloc (.cells #[.string ⟨#[120, 120, 120, 120, 49, 120]⟩, .string ⟨#[48, 49, 120, 120, 120, 120]⟩, .string ⟨#[120, 120, 120, 120, 120, 120]⟩] 9)).alloc (.cells #[.int .i64 9, .string ⟨#[48, 49, 120, 120, 120, 120]⟩, .int .i64 2, .int .i64 (-1)] 25)).heap.size := by simp
    have hmr : mR x y z (ruP ⟨#[48, 49, 120, 120, 120, 120]⟩ (by decide)) = hasS ⟨#[48, 49, 120, 120, 120, 120]⟩ x y z := by
      show (rOk 9 ⟨#[48, 49, 120, 120, 120, 120]⟩ 2 (-1) && hasS ⟨#[48, 49, 120, 120, 120, 120]⟩ x y z) = hasS ⟨#[48, 49, 120, 120, 120, 120]⟩ x y z
      rw [show rOk 9 ⟨#[48, 49, 120, 120, 120, 120]⟩ 2 (-1) = true from by decide +kernel, Bool.true_and]
    have HWH : Hid (∀ W, Calls Tryz.prog 30 #[.string (ruP ⟨#[48, 49, 120, 120, 120, 120]⟩ (by decide)).s, .agg #[.int .i64 x, .int .i64 y, .int .i64 z]] W fun e w' => e = .returned (.bool (hasS ⟨#[48, 49, 120, 120, 120, 120]⟩ x y z)) ∧ Below W.heap.size W w') := iWildHas_any ⟨#[48, 49, 120, 120, 120, 120]⟩ (by decide) x y z
    have hdo := doI_first x y z (ruP ⟨#[48, 49, 120, 120, 120, 120]⟩ (by decide)) l
    rw [hmr, hdi] at hdo
    go_wp2_with fail
    generalize ((w5.alloc (.cells #[.string ⟨#[120, 120, 120, 120, 49, 120]⟩, .string ⟨#[48, 49, 120, 120, 120, 120]⟩, .string ⟨#[120, 120, 120, 120, 120, 120]⟩] 9)).alloc (.cells #[.int .i64 9, .string ⟨#[48, 49, 120, 120, 120, 120]⟩, .int .i64 2, .int .i64 (-1)] 25)) = W6 at *
    generalize w5.heap.size + 1 = hr at *
    generalize hasS ⟨#[48, 49, 120, 120, 120, 120]⟩ x y z = hw at *
    refine (HIP.out _ (HX.out _ (belStep HBB.out B6.out)) (HE.out.below (BW.out _ (belStep HBB.out B6.out))) (ruP ⟨#[48, 49, 120, 120, 120, 120]⟩ (by decide))).mono ?_
    rintro e w6 ⟨u, rfl, hrow, b6⟩
    have HROW := Lib.hid hrow.rls
    have B66 := Lib.hid (belStep B6.out b6)
    have K66 := Lib.hid (K6.out.below b6 z6)
    have z66 : hr < w6.heap.size := Nat.lt_of_lt_of_le z6 b6.size
    have HPF := Lib.hid (put_first (r := ruP ⟨#[48, 49, 120, 120, 120, 120]⟩ (by decide)) (l := l))
    have HPO := Lib.hid (putT_ok (r := ruP ⟨#[48, 49, 120, 120, 120, 120]⟩ (by decide)) (l := l))
    clear hrow b6 K6 hmr HIP
    generalize putO (ruP ⟨#[48, 49, 120, 120, 120, 120]⟩ (by decide)) l = d at *
    generalize putT (ruP ⟨#[48, 49, 120, 120, 120, 120]⟩ (by decide)) l = T at *
    have FB6 := Lib.hid (BW.out _ (belStep HBB.out B66.out))
    cases d
    · go_wp2
      go_quiet (fail)
      go_wp2
      go_ret
      exact ⟨rfl, belDrewN FB6.out _⟩
    obtain ⟨hto, htl, -⟩ := HPO.out rfl
    replace HPF := Lib.hid (HPF.out rfl)
    obtain ⟨ua, uc, rfl, hcc, hmm, hh⟩ := HROW.out
    rcases hh with h0 | ⟨b', off, rfl, hb', hcell⟩
    · rw [h0] at htl
      simp at htl
    obtain ⟨c0, c1, c2, c3⟩ := hcell 0 (by omega)
    rw [Nat.zero_mul, Nat.add_zero] at c0 c1 c2 c3
    obtain ⟨k0, k1, k2, k3⟩ := K66.out
    simp only [Nat.zero_add] at k1 k2 k3
    clear hcell
    unfold maxLen at hmm
    have hT0 : 0 < T.length := by omega
    have hT0z : (0 : Int) < (T.length : Int) := by omega
    have hdo' : doI x y z (ruP ⟨#[48, 49, 120, 120, 120, 120]⟩ (by decide) :: l) = bif hw then ((x, y, tagTo (-1) z), 2) else ((d1, d2, d3), od) := hdo
    clear hdo
    generalize ruP ⟨#[48, 49, 120, 120, 120, 120]⟩ (by decide) = r at *
    rcases diffR (ruAt T 0) r with heq | ⟨-, hne⟩
    · have hT := HPF.out heq
      rw [heq] at c0 c1 c2 c3
      have hn6 : T.length ≤ 1048576 := by omega
      have HTD := Lib.hid (fun W h => iTableDo_any W (.slice (some ⟨b', off, none⟩) T.length uc) T h hn6 x y z)
      have hdt : doT x y z T = bif hw then ((x, y, tagTo (-1) z), 2) else ((d1, d2, d3), od) := by
        rw [← hT] at hdo'
        unfold doT
        rw [hto, hokb]
        exact hdo'
      obtain ⟨⟨⟨e1, e2, e3⟩, eo⟩, hdd⟩ : ∃ d, doT x y z T = d := ⟨_, rfl⟩
      rw [hdd] at HTD hdt
      dsimp only at HTD
      have HDT := Lib.hid hdt
      have HTL := Lib.hid (And.intro htl (And.intro hcc hmm))
      have HROW2 : Hid (∀ W, Below w6.heap.size w6 W → Rls W W.heap.size (.slice (some ⟨b', off, none⟩) T.length uc) T) := fun W hb => (HROW.out.below hb (Nat.le_refl _)).mono hb.size
      clear hdo' hdd hdt hT heq HPF HPO hdi htl hto
      go_wp2
      go_quiet (fail)
      have B7 := Lib.hid (belDrewN (Below.refl w6.heap.size w6) nq)
      clear c0 c1 c2 c3 k0 k1 k2 k3
      obtain ⟨⟨q0, q1, q2⟩, -, -, -, -, -⟩ := HK.out _ (belStep (belStep HB5.out B66.out) B7.out)
      generalize w6.drewN nq = w7 at *
      go_wp2_with fail
      refine (HTD.out _ (HROW2.out _ B7.out) (HE.out.below (belStep FB6.out B7.out))).mono ?_
      rintro e w8 ⟨rfl, b8⟩
      have B8 := Lib.hid (belStep B7.out b8)
      have B9 := Lib.hid (B8.out.alloc B8.out.size (.cells #[.int .i64 e1, .int .i64 e2, .int .i64 e3] 36))
      obtain ⟨⟨r0, r1, r2⟩, ⟨x0, x1, x2⟩, -, -, -, -⟩ := HK.out _ (belStep (belStep HB5.out B66.out) B9.out)
      obtain ⟨k0, k1, k2, k3⟩ := K66.out.below B9.out z66
      simp only [Nat.zero_add] at k1 k2 k3
      obtain ⟨a0, a1, a2, -⟩ := cells3 (newBlockM w8 (.cells #[.int .i64 e1, .int .i64 e2, .int .i64 e3] 36))
      clear q0 q1 q2 b8
      go_wp2_with fail
      refine (HWH.out _).mono ?_
      rintro e w9 ⟨rfl, b9⟩
      have B10 := Lib.hid (belStep B9.out b9)
      clear r0 r1 r2 x0 x1 x2 k0 k1 k2 k3
      obtain ⟨⟨r0, r1, r2⟩, ⟨x0, x1, x2⟩, -, -, -, -⟩ := HK.out _ (belStep (belStep HB5.out B66.out) B10.out)
      have A3 := trio3 ((b9.block w8.heap.size (by simp)).trans (newBlockM w8 (.cells #[.int .i64 e1, .int .i64 e2, .int .i64 e3] 36)))
      clear a0 a1 a2 b9
      obtain ⟨a0, a1, a2⟩ := A3
      have FB := Lib.hid (belStep FB6.out B10.out)
      have hd := HDT.out
      generalize w8.heap.size = ha at *
      clear HDT
      cases hw
      · simp only [cond_false, Prod.mk.injEq] at hd
        obtain ⟨⟨rfl, rfl, rfl⟩, rfl⟩ := hd
        go_wp2
        (first | go_quiet (fail) | skip)
        go_wp2
        go_ret
        exact ⟨rfl, by first | exact FB.out | exact belDrewN FB.out _⟩
      · simp only [cond_true, Prod.mk.injEq, tagTo] at hd
        obtain ⟨⟨rfl, rfl, hz⟩, rfl⟩ := hd
        rw [if_neg (by decide)] at hz
        subst hz
        go_wp2
        (first | go_quiet (fail) | skip)
        go_wp2
        go_ret
        exact ⟨rfl, by first | exact FB.out | exact belDrewN FB.out _⟩
    · clear HPF HPO hdo' htl hto
      generalize ruAt T 0 = q at *
      rcases hne with hne | ⟨hq0, hne⟩ | ⟨hq0, hq1, hne⟩ | ⟨hq0, hq1, hq2, hne⟩
      all_goals
        go_wp2
        go_quiet (fail)
        go_wp2
        go_ret
        exact ⟨rfl, belDrewN FB6.out _⟩
  · have B6 : Hid (Below w5.heap.size w5 ((w5.alloc (.cells #[.string ⟨#[120, 120, 120, 120, 49, 120]⟩, .string ⟨#[48, 49, 120, 120, 120, 120]⟩, .string ⟨#[120, 120, 120, 120, 120, 120]⟩] 9)).alloc (.cells #[.int .i64 9, .string ⟨#[120, 120, 120, 120, 120, 120]⟩, .int .i64 2, .int .i64 (-1)] 25))) := ((Below.refl _ _).alloc (Nat.le_refl _) _).alloc (by simp) _
    have K6 : Hid (Four ((w5.alloc (.cells #[.string ⟨#[120, 120, 120, 120, 49, 120]⟩, .string ⟨#[48, 49, 120, 120, 120, 120]⟩, .string ⟨#[120, 120, 120, 120, 120, 120]⟩] 9)).alloc (.cells #[.int .i64 9, .string ⟨#[120, 120, 120, 120, 120, 120]⟩, .int .i64 2, .int .i64 (-1)] 25)) (w5.heap.size + 1) 0 (ruP ⟨#[120, 120, 120, 120, 120, 120]⟩ (by decide))) := by
      have h := newFour (w5.alloc (.cells #[.string ⟨#[120, 120, 120, 120, 49, 120]⟩, .string ⟨#[48, 49, 120, 120, 120, 120]⟩, .string ⟨#[120, 120, 120, 120, 120, 120]⟩] 9)) (ruP ⟨#[120, 120, 120, 120, 120, 120]⟩ (by decide))
      have e : (w5.alloc (.cells #[.string ⟨#[120, 120, 120, 120, 49, 120]⟩, .string ⟨#[48, 49, 120, 120, 120, 120]⟩, .string ⟨#[120, 120, 120, 120, 120, 120]⟩] 9)).heap.size = w5.heap.size + 1 := by simp
      rw [e] at h
      exact h
    have z6 : w5.heap.size + 1 < ((w5.alloc (.cells #[.string ⟨#[120, 120, 120, 120, 49, 120]⟩, .string ⟨#[48, 49, 120, 120, 120, 120]⟩, .string ⟨#[120, 120, 120, 120, 120, 120]⟩] 9)).alloc (.cells #[.int .i64 9, .string ⟨#[120, 120, 120, 120, 120, 120]⟩, .int .i64 2, .int .i64 (-1)] 25)).heap.size := by simp
    have hmr : mR x y z (ruP ⟨#[120, 120, 120, 120, 120, 120]⟩ (by decide)) = hasS ⟨#[120, 120, 120, 120, 120, 120]⟩ x y z := by
      show (rOk 9 ⟨#[120, 120, 120, 120, 120, 120]⟩ 2 (-1) && hasS ⟨#[120, 120, 120, 120, 120, 120]⟩ x y z) = hasS ⟨#[120, 120, 120, 120, 120, 120]⟩ x y z
      rw [show rOk 9 ⟨#[120, 120, 120, 120, 120, 120]⟩ 2 (-1) = true from by decide +kernel, Bool.true_and]
    have HWH : Hid (∀ W, Calls Tryz.prog 30 #[.string (ruP ⟨#[120, 120, 120, 120, 120, 120]⟩ (by decide)).s, .agg #[.int .i64 x, .int .i64 y, .int .i64 z]] W fun e w' => e = .returned (.bool (hasS ⟨#[120, 120, 120, 120, 120, 120]⟩ x y z)) ∧ Below W.heap.size W w') := iWildHas_any ⟨#[120, 120, 120, 120, 120, 120]⟩ (by decide) x y z
    have hdo := doI_first x y z (ruP ⟨#[120, 120, 120, 120, 120, 120]⟩ (by decide)) l
    rw [hmr, hdi] at hdo
    go_wp2_with fail
    generalize ((w5.alloc (.cells #[.string ⟨#[120, 120, 120, 120, 49, 120]⟩, .string ⟨#[48, 49, 120, 120, 120, 120]⟩, .string ⟨#[120, 120, 120, 120, 120, 120]⟩] 9)).alloc (.cells #[.int .i64 9, .string ⟨#[120, 120, 120, 120, 120, 120]⟩, .int .i64 2, .int .i64 (-1)] 25)) = W6 at *
    generalize w5.heap.size + 1 = hr at *
    generalize hasS ⟨#[120, 120, 120, 120, 120, 120]⟩ x y z = hw at *
    refine (HIP.out _ (HX.out _ (belStep HBB.out B6.out)) (HE.out.below (BW.out _ (belStep HBB.out B6.out))) (ruP ⟨#[120, 120, 120, 120, 120, 120]⟩ (by decide))).mono ?_
    rintro e w6 ⟨u, rfl, hrow, b6⟩
    have HROW := Lib.hid hrow.rls
    have B66 := Lib.hid (belStep B6.out b6)
    have K66 := Lib.hid (K6.out.below b6 z6)
    have z66 : hr < w6.heap.size := Nat.lt_of_lt_of_le z6 b6.size
    have HPF := Lib.hid (put_first (r := ruP ⟨#[120, 120, 120, 120, 120, 120]⟩ (by decide)) (l := l))
    have HPO := Lib.hid (putT_ok (r := ruP ⟨#[120, 120, 120, 120, 120, 120]⟩ (by decide)) (l := l))
    clear hrow b6 K6 hmr HIP
    generalize putO (ruP ⟨#[120, 120, 120, 120, 120, 120]⟩ (by decide)) l = d at *
    generalize putT (ruP ⟨#[120, 120, 120, 120, 120, 120]⟩ (by decide)) l = T at *
    have FB6 := Lib.hid (BW.out _ (belStep HBB.out B66.out))
    cases d
    · go_wp2
      go_quiet (fail)
      go_wp2
      go_ret
      exact ⟨rfl, belDrewN FB6.out _⟩
    obtain ⟨hto, htl, -⟩ := HPO.out rfl
    replace HPF := Lib.hid (HPF.out rfl)
    obtain ⟨ua, uc, rfl, hcc, hmm, hh⟩ := HROW.out
    rcases hh with h0 | ⟨b', off, rfl, hb', hcell⟩
    · rw [h0] at htl
      simp at htl
    obtain ⟨c0, c1, c2, c3⟩ := hcell 0 (by omega)
    rw [Nat.zero_mul, Nat.add_zero] at c0 c1 c2 c3
    obtain ⟨k0, k1, k2, k3⟩ := K66.out
    simp only [Nat.zero_add] at k1 k2 k3
    clear hcell
    unfold maxLen at hmm
    have hT0 : 0 < T.length := by omega
    have hT0z : (0 : Int) < (T.length : Int) := by omega
    have hdo' : doI x y z (ruP ⟨#[120, 120, 120, 120, 120, 120]⟩ (by decide) :: l) = bif hw then ((x, y, tagTo (-1) z), 2) else ((d1, d2, d3), od) := hdo
    clear hdo
    generalize ruP ⟨#[120, 120, 120, 120, 120, 120]⟩ (by decide) = r at *
    rcases diffR (ruAt T 0) r with heq | ⟨-, hne⟩
    · have hT := HPF.out heq
      rw [heq] at c0 c1 c2 c3
      have hn6 : T.length ≤ 1048576 := by omega
      have HTD := Lib.hid (fun W h => iTableDo_any W (.slice (some ⟨b', off, none⟩) T.length uc) T h hn6 x y z)
      have hdt : doT x y z T = bif hw then ((x, y, tagTo (-1) z), 2) else ((d1, d2, d3), od) := by
        rw [← hT] at hdo'
        unfold doT
        rw [hto, hokb]
        exact hdo'
      obtain ⟨⟨⟨e1, e2, e3⟩, eo⟩, hdd⟩ : ∃ d, doT x y z T = d := ⟨_, rfl⟩
      rw [hdd] at HTD hdt
      dsimp only at HTD
      have HDT := Lib.hid hdt
      have HTL := Lib.hid (And.intro htl (And.intro hcc hmm))
      have HROW2 : Hid (∀ W, Below w6.heap.size w6 W → Rls W W.heap.size (.slice (some ⟨b', off, none⟩) T.length uc) T) := fun W hb => (HROW.out.below hb (Nat.le_refl _)).mono hb.size
      clear hdo' hdd hdt hT heq HPF HPO hdi htl hto
      go_wp2
      go_quiet (fail)
      have B7 := Lib.hid (belDrewN (Below.refl w6.heap.size w6) nq)
      clear c0 c1 c2 c3 k0 k1 k2 k3
      obtain ⟨⟨q0, q1, q2⟩, -, -, -, -, -⟩ := HK.out _ (belStep (belStep HB5.out B66.out) B7.out)
      generalize w6.drewN nq = w7 at *
      go_wp2_with fail
      refine (HTD.out _ (HROW2.out _ B7.out) (HE.out.below (belStep FB6.out B7.out))).mono ?_
      rintro e w8 ⟨rfl, b8⟩
      have B8 := Lib.hid (belStep B7.out b8)
      have B9 := Lib.hid (B8.out.alloc B8.out.size (.cells #[.int .i64 e1, .int .i64 e2, .int .i64 e3] 36))
      obtain ⟨⟨r0, r1, r2⟩, ⟨x0, x1, x2⟩, -, -, -, -⟩ := HK.out _ (belStep (belStep HB5.out B66.out) B9.out)
      obtain ⟨k0, k1, k2, k3⟩ := K66.out.below B9.out z66
      simp only [Nat.zero_add] at k1 k2 k3
      obtain ⟨a0, a1, a2, -⟩ := cells3 (newBlockM w8 (.cells #[.int .i64 e1, .int .i64 e2, .int .i64 e3] 36))
      clear q0 q1 q2 b8
      go_wp2_with fail
      refine (HWH.out _).mono ?_
      rintro e w9 ⟨rfl, b9⟩
      have B10 := Lib.hid (belStep B9.out b9)
      clear r0 r1 r2 x0 x1 x2 k0 k1 k2 k3
      obtain ⟨⟨r0, r1, r2⟩, ⟨x0, x1, x2⟩, -, -, -, -⟩ := HK.out _ (belStep (belStep HB5.out B66.out) B10.out)
      have A3 := trio3 ((b9.block w8.heap.size (by simp)).trans (newBlockM w8 (.cells #[.int .i64 e1, .int .i64 e2, .int .i64 e3] 36)))
      clear a0 a1 a2 b9
      obtain ⟨a0, a1, a2⟩ := A3
      have FB := Lib.hid (belStep FB6.out B10.out)
      have hd := HDT.out
      generalize w8.heap.size = ha at *
      clear HDT
      cases hw
      · simp only [cond_false, Prod.mk.injEq] at hd
        obtain ⟨⟨rfl, rfl, rfl⟩, rfl⟩ := hd
        go_wp2
        (first | go_quiet (fail) | skip)
        go_wp2
        go_ret
        exact ⟨rfl, by first | exact FB.out | exact belDrewN FB.out _⟩
      · simp only [cond_true, Prod.mk.injEq, tagTo] at hd
        obtain ⟨⟨rfl, rfl, hz⟩, rfl⟩ := hd
        rw [if_neg (by decide)] at hz
        subst hz
        go_wp2
        (first | go_quiet (fail) | skip)
        go_wp2
        go_ret
        exact ⟨rfl, by first | exact FB.out | exact belDrewN FB.out _⟩
    · clear HPF HPO hdo' htl hto
      generalize ruAt T 0 = q at *
      rcases hne with hne | ⟨hq0, hne⟩ | ⟨hq0, hq1, hne⟩ | ⟨hq0, hq1, hq2, hne⟩
      all_goals
        go_wp2
        go_quiet (fail)
        go_wp2
        go_ret
        exact ⟨rfl, belDrewN FB6.out _⟩

set_option maxRecDepth 100000 in
theorem contract_FnPutFirst (H : Type) (enc : TypeId × Value → H) (W : World) (base : Nat) (args : Array Value) (ds gs : List (DataW H)) (before : List MemPlace)
    (hval : ∀ (j : Nat) t v, Tryz.f6.params[j]? = some t → args[j]? = some v → Value.okWide Tryz.prog W .any base t v)
    (hW : DataW.Whole enc Tryz.prog Tryz.f6.params.toList Rows.fnPutFirstSpec.vars false W args.toList ds gs before) (hE : EtOk W) :
    Calls Tryz.prog 6 args W fun e W' => ∃ v, e = .returned v ∧ Rows.fnPutFirstSpec.post enc Tryz.prog Tryz.f6 false true false false W args v W' := by
  have hW' := hW
  obtain ⟨p, q, hA0, hV, rfl, hfz, hnd⟩ := hW
  have hA : DataW.TrodAll enc Tryz.prog W 0 (fun _ => true) true Tryz.f6.params.toList args.toList ds p := hA0
  rw [Tryz.params6] at hA hval
  obtain ⟨v0, vs0, d0, ds0, p0, q0, hargs, rfl, rfl, h0, r0⟩ := trodAll_cons hA
  obtain ⟨v1, vs1, d1, ds1, p1, q1, rfl, rfl, rfl, h1, r1⟩ := trodAll_cons r0
  obtain ⟨rfl, rfl, rfl⟩ := trodAll_nil r1
  obtain rfl : args = #[v0, v1] := by cases args; simp_all
  obtain ⟨rfl, rfl⟩ := trodVars_none hV
  have k0 := h0
  have lt0 : ∀ x ∈ p0, x.block < W.heap.size := by obtain ⟨m, hm⟩ := k0; exact DataW.trod_lt m _ _ _ hm
  have k1 := h1
  have lt1 : ∀ x ∈ p1, x.block < W.heap.size := by obtain ⟨m, hm⟩ := k1; exact DataW.trod_lt m _ _ _ hm
  obtain ⟨a0, len0, cap0, rfl⟩ := okWide_slice Tryz.underlying22 (hval 0 22 v0 rfl rfl)
  have w0 : BytesIn W W.heap.size a0 len0 cap0 := isRow_of h0
  obtain ⟨a1, len1, cap1, rfl⟩ := okWide_slice Tryz.underlying22 (hval 1 22 v1 rfl rfl)
  have w1 : BytesIn W W.heap.size a1 len1 cap1 := isRow_of h1
  clear hA0
  refine (walk_FnPutFirst a0 len0 cap0 a1 len1 cap1 W w0 w1 hE).mono fun e W' ⟨he, bel⟩ => ?_
  subst he
  exact ⟨_, rfl, _, _, _, [], _, [], hW', trodAll_mk1 (shut_bool Tryz.underlying4 _), (trodAll_cons_mk (Below.trod laidOut (by kernel_rfl) (of_decide_eq_true (by kernel_rfl)) k0 bel lt0) (trodAll_cons_mk (Below.trod laidOut (by kernel_rfl) (of_decide_eq_true (by kernel_rfl)) k1 bel lt1) (trodAll_mk0))), rfl, bel.frame _, fun h => by cases h⟩

/-- A world for the witness: the settled one, with the listed variables as the text lays them. -/
noncomputable def laidWorld_FnPutFirst (os : Os) : World :=
  { World.holding Tryz.prog os ⟨#[], #[], []⟩ with heap := (((((World.holding Tryz.prog os ⟨#[], #[], []⟩).heap).modify 3 (fun | .cells _ t frozen => .cells #[.int .u8 0, .int .u8 1, .int .u8 28, .int .u8 2, .int .u8 29, .int .u8 14, .int .u8 24, .int .u8 3, .int .u8 30, .int .u8 22, .int .u8 20, .int .u8 15, .int .u8 25, .int .u8 17, .int .u8 4, .int .u8 8, .int .u8 31, .int .u8 27, .int .u8 13, .int .u8 23, .int .u8 21, .int .u8 19, .int .u8 16, .int .u8 7, .int .u8 26, .int .u8 12, .int .u8 18, .int .u8 6, .int .u8 11, .int .u8 5, .int .u8 10, .int .u8 9] t frozen | o => o)).modify 4 (fun | .cells _ t frozen => .cells #[.int .u8 0, .int .u8 1, .int .u8 56, .int .u8 2, .int .u8 57, .int .u8 49, .int .u8 28, .int .u8 3, .int .u8 61, .int .u8 58, .int .u8 42, .int .u8 50, .int .u8 38, .int .u8 29, .int .u8 17, .int .u8 4, .int .u8 62, .int .u8 47, .int .u8 59, .int .u8 36, .int .u8 45, .int .u8 43, .int .u8 51, .int .u8 22, .int .u8 53, .int .u8 39, .int .u8 33, .int .u8 30, .int .u8 24, .int .u8 18, .int .u8 12, .int .u8 5, .int .u8 63, .int .u8 55, .int .u8 48, .int .u8 27, .int .u8 60, .int .u8 41, .int .u8 37, .int .u8 16, .int .u8 46, .int .u8 35, .int .u8 44, .int .u8 21, .int .u8 52, .int .u8 32, .int .u8 23, .int .u8 11, .int .u8 54, .int .u8 26, .int .u8 40, .int .u8 15, .int .u8 34, .int .u8 20, .int .u8 31, .int .u8 10, .int .u8 25, .int .u8 14, .int .u8 19, .int .u8 9, .int .u8 13, .int .u8 8, .int .u8 7, .int .u8 6] t frozen | o => o)).modify 2 (fun | .cells _ t frozen => .cells #[.int .u64 1, .int .u64 10, .int .u64 100, .int .u64 1000, .int .u64 10000, .int .u64 100000, .int .u64 1000000, .int .u64 10000000, .int .u64 100000000, .int .u64 1000000000, .int .u64 10000000000, .int .u64 100000000000, .int .u64 1000000000000, .int .u64 10000000000000, .int .u64 100000000000000, .int .u64 1000000000000000, .int .u64 10000000000000000, .int .u64 100000000000000000, .int .u64 1000000000000000000, .int .u64 10000000000000000000] t frozen | o => o)).modify 0 (fun | .cells _ t frozen => .cells #[.iface 193 (.agg #[.pointer (some ⟨5, 130, none⟩)])] t frozen | o => o) }

theorem laidMet_FnPutFirst (os : Os) : laidMetH Tryz.prog Rows.fnPutFirstRow.laid ((laidWorld_FnPutFirst os).forCall (fun _ _ => 0) ⟨#[], #[.slice none 0 0, .slice none 0 0], []⟩).memory :=
  laidMetH_of_parts (laidMet_of_run' 8 (by kernel_rfl) (by kernel_rfl)) (by kernel_rfl)

theorem reads_FnPutFirst (os : Os) {H : Type} (enc : TypeId × Value → H) : ∃ places, DataW.whole enc Tryz.prog ((laidWorld_FnPutFirst os).forCall (fun _ _ => 0) ⟨#[], #[.slice none 0 0, .slice none 0 0], []⟩).memory Tryz.f6.params.toList Rows.fnPutFirstSpec.vars false (#[.slice none 0 0, .slice none 0 0] : Array Value).toList 8 = some ([.nil, .nil], [], places) :=
  ⟨[], by kernel_rfl⟩

set_option maxRecDepth 100000 in
theorem lifted_FnPutFirst (os : Os) (started : os.Started) (H : Type) (enc : TypeId × Value → H) (F : Stop.Interp) :
    ReturnsInHanded {} Tryz.checked os 6 .any ((OpenSpec.ofChange Rows.fnPutFirstSpec).preRow enc Tryz.prog Tryz.f6 Rows.fnPutFirstRow.domain false Rows.fnPutFirstRow.laid) (((OpenSpec.ofChange Rows.fnPutFirstSpec).at F).post enc Tryz.prog Tryz.f6 false true false false) := by
  obtain ⟨places, hx⟩ := reads_FnPutFirst os enc
  refine returnsInHanded_of_row (C := Tryz.checked) (s := OpenSpec.ofChange Rows.fnPutFirstSpec) own started (by kernel_rfl) Tryz.func6
    (witness_row_at (enc := enc) (C := Tryz.checked) false (laidWorld_FnPutFirst os) #[.slice none 0 0, .slice none 0 0] rfl (by kernel_rfl) (by kernel_rfl) (by kernel_rfl)
      (OpenSpec.preRow_of_cond 8 hx (by kernel_rfl) (fun k hk => by cases hk) (by kernel_rfl) (laidMet_FnPutFirst os))) ?_
  intro W base args ds gs before hval hW _ _ _ hL _ _
  exact contract_FnPutFirst H enc W base args ds gs before hval hW (etOk_of hL (by simp [Rows.fnPutFirstRow]))

theorem said_FnPutFirst : Rows.FnPutFirstSaid :=
  OpenClaim.holds_of_cond 6 Tryz.f6 rfl rfl rfl rfl rfl rfl rfl ⟨rfl, rfl, rfl, rfl, rfl⟩ rfl rfl rfl rfl rfl (by kernel_rfl) Tryz.func6 (by kernel_rfl)
    (of_decide_eq_true (by kernel_rfl)) (by unfold Func.isWrapper; first | (rw [if_pos (by decide +kernel)]; kernel_rfl) | (rw [if_neg (by decide +kernel)]; exact ⟨rfl, rfl⟩))
    (fun os started H enc _ F => by rw [OpenClaim.pre_eq_preRow]; exact lifted_FnPutFirst os started H enc F)

theorem plain_FnPutFirst (f : FuncId) (fn : Func) (hf : Tryz.pinned.checked.prog.funcNamed "loop.example/crossbuck/laws.FnPutFirst" = some f) (hfn : Tryz.pinned.checked.prog.funcs[f]? = some fn) :
    true = Tryz.pinned.checked.prog.looks [] ∧ ∀ (j : Nat) t, fn.params[j]? = some t → Tryz.pinned.checked.prog.wantsStandIn t = false := by
  obtain rfl : f = 6 := Option.some.inj ((show Tryz.prog.funcNamed "loop.example/crossbuck/laws.FnPutFirst" = some 6 by kernel_rfl).symm.trans hf) |>.symm
  obtain rfl : fn = Tryz.f6 := (Option.some.inj (Tryz.func6.symm.trans hfn)).symm
  refine ⟨by kernel_rfl, fun j t ht => ?_⟩
  rw [Tryz.params6] at ht
  obtain rfl : t = 22 := by simpa using Array.mem_of_getElem? ht
  exact (show Tryz.prog.wantsStandIn 22 = false by kernel_rfl)

theorem proved_FnPutFirst : Rows.FnPutFirstCardSaid :=
  Claim7.holds_tied_plain_at .later [] _ _ _ _ said_FnPutFirst (fun _ h => by cases h) (by kernel_rfl) (fun _ h => by cases h) fnPutFirst_row_tie rfl ⟨rfl, rfl⟩ (by kernel_rfl) rfl plain_FnPutFirst (by kernel_rfl)

end Go.Proofs.YtahobeigbjhbbaaGreatDoor

