/-
  Proved: promise 55 (a last rule of all heads takes what is of none), at every code from which the table and the head are drawn; the code reads on as it did. No condition but the card's own: the listed variables of the library stand as its text lays them.
-/
import Derived.Test.YtehgpehhpijkjaaGreatDoorRuleCard
import Derived.Test.YtehgpehhpijkjaaGreatDoorOwnB
import Derived.Test.YtehgpehhpijkjaaGreatDoorTabPartF
import Derived.Test.YtehgpehhpijkjaaGreatDoorTabDrawB
import Derived.Test.YtehgpehhpijkjaaGreatDoorTabOkI
namespace Go.Proofs.YtehgpehhpijkjaaGreatDoor
open Go.ChangeShapes Go.WideShapes Go.ChangeAt Go.RowKit Go.Joins
set_option linter.unusedVariables false

theorem doI_cons (x y z : Int) (r : R4) (l : List R4) : doI x y z (r :: l) = bif mR x y z r then ((x, y, tagTo r.t z), r.o) else doI x y z l := by
  unfold doI
  rw [List.findIdx?_cons]
  cases mR x y z r
  · rw [cond_false]
    cases l.findIdx? (mR x y z) <;> rfl
  · rfl
def seenR (x y z : Int) : Option R4 → (Int × Int × Int) × Int
  | none => ((x, y, z), 0)
  | some r => ((x, y, tagTo r.t z), r.o)
theorem doI_find (x y z : Int) : ∀ l : List R4, doI x y z l = seenR x y z (l.find? (mR x y z))
  | [] => rfl
  | r :: l => by
    rw [doI_cons, List.find?_cons]
    cases mR x y z r
    · exact doI_find x y z l
    · rfl
theorem doT_idle {l : List R4} (h : tOk l = true) {k : Nat} (hk : k < 64) : doT ((k : Int) / 16 % 4) ((k : Int) / 4 % 4) ((k : Int) % 4) l = doN l k := by
  rw [show (k : Int) / 16 % 4 = (k : Int) / 16 from by omega]
  unfold doT doN
  rw [h, okB_numA k hk]
  rfl

/-- The rule that is put. -/
def ruL : R4 := ⟨0, ⟨#[120, 120, 120, 120, 120, 120]⟩, 4, 3, by decide⟩
theorem put_last {r : R4} {l : List R4} (h : putO r l = true) (h0 : ruAt (putT r l) l.length = r) : putT r l = l ++ [r] := by
  obtain ⟨h1, h2, h3⟩ := putT_ok h
  obtain ⟨ht, hr, -, hm, -⟩ := putO_yes h
  obtain ⟨-, hok, hp⟩ := tOk_pw.1 h1
  obtain ⟨-, -, hpl⟩ := tOk_pw.1 ht
  generalize putT r l = y at *
  have e : y = y.take l.length ++ [r] := by
    have := take_step y (i := l.length) (by omega)
    rw [h0, List.take_of_length_le (by omega)] at this
    exact this
  rw [e] at hp
  have hpt := List.pairwise_append.1 hp
  have hnt : r ∉ y.take l.length := fun hx => by have := hpt.2.2 r hx r (by simp); rw [cmR_self] at this; omega
  rw [e]
  congr 1
  refine pw_ext hpt.1 hpl fun q => ⟨fun hq => ?_, fun hq => ?_⟩
  · rcases (h3 q).1 (List.mem_of_mem_take hq) with h | rfl
    · exact h
    · exact absurd hq hnt
  · have hy := (h3 q).2 (.inl hq)
    rw [e] at hy
    rcases List.mem_append.1 hy with h | h
    · exact h
    · obtain rfl : q = r := by simpa using h
      exact absurd hq hm
theorem ruL_all {x y z : Int} (ho : okB x y z = true) : mR x y z ruL = true := by
  show (rOk 0 ⟨#[120, 120, 120, 120, 120, 120]⟩ 4 3 && hasS ⟨#[120, 120, 120, 120, 120, 120]⟩ x y z) = true
  rw [show rOk 0 ⟨#[120, 120, 120, 120, 120, 120]⟩ 4 3 = true from by decide +kernel, Bool.true_and]
  unfold hasS
  rw [ho, show okS ⟨#[120, 120, 120, 120, 120, 120]⟩ = true from by decide +kernel, Bool.true_and, Bool.true_and]
  simp [hasM, all6, cf, byA]
  try decide
theorem last_head {l : List R4} {n : Nat} (hn : n < 64) : (atI ((n : Int) / 16) ((n : Int) / 4 % 4) ((n : Int) % 4) l = -1 ∧ doN (l ++ [ruL]) n = (((n : Int) / 16, (n : Int) / 4 % 4, 3), 4)) ∨ (0 ≤ atI ((n : Int) / 16) ((n : Int) / 4 % 4) ((n : Int) % 4) l ∧ doN (l ++ [ruL]) n = doN l n) := by
  unfold doN
  rw [doI_find, doI_find, List.find?_append]
  rcases atI_find (a := (n : Int) / 16) (b := (n : Int) / 4 % 4) (c := (n : Int) % 4) (l := l) with ⟨h1, h2, -⟩ | ⟨i, hi, h1, h2, -⟩
  · refine .inl ⟨h2, ?_⟩
    have e : l.find? (mR ((n : Int) / 16) ((n : Int) / 4 % 4) ((n : Int) % 4)) = none := by
      rw [List.find?_eq_none]
      rw [List.findIdx?_eq_none_iff] at h1
      exact fun x hx => by simp [h1 x hx]
    rw [e, Option.none_or, List.find?_cons, ruL_all (okB_numA n hn)]
    rfl
  · refine .inr ⟨by omega, ?_⟩
    obtain ⟨hi', hp, -⟩ := List.findIdx?_eq_some_iff_getElem.1 h1
    obtain ⟨q, hq⟩ : ∃ q, l.find? (mR ((n : Int) / 16) ((n : Int) / 4 % 4) ((n : Int) % 4)) = some q := by
      cases hx : l.find? (mR ((n : Int) / 16) ((n : Int) / 4 % 4) ((n : Int) % 4)) with
      | none => rw [List.find?_eq_none] at hx; exact absurd hp (by simpa using hx _ (List.getElem_mem hi'))
      | some q => exact ⟨q, rfl⟩
    rw [hq]
    rfl
theorem last_area {l : List R4} (ht : tOk (l ++ [ruL]) = true) : areaT (l ++ [ruL]) (-1) = [] := by
  rw [areaT_yes ht (by omega) (by omega)]
  have e : areaM (l ++ [ruL]) (-1) = tabF 6 (fun _ => false) := tabF_congr 6 fun b _ => by
    rw [decide_eq_false_iff_not, ← atF_none]
    rw [List.any_append]
    have : hasR b ruL = true := by
      unfold hasR
      show (bif okS ⟨#[120, 120, 120, 120, 120, 120]⟩ then hasM (cf ⟨#[120, 120, 120, 120, 120, 120]⟩) (vf ⟨#[120, 120, 120, 120, 120, 120]⟩) (bitF b) else true) = true
      rw [show okS ⟨#[120, 120, 120, 120, 120, 120]⟩ = true from by decide +kernel, cond_true]
      simp [hasM, all6, cf, byA]
      try decide
    simp [this]
  rw [e]
  rfl

set_option maxRecDepth 100000 in
set_option maxHeartbeats 8000000 in
theorem walk_FnTableLast (a : Option Addr) (len cap : Nat) (a' : Option Addr) (len' cap' : Nat) (w : World) (hb : BytesIn w w.heap.size a len cap) (hb' : BytesIn w w.heap.size a' len' cap') (hE : EtOk w) :
    Calls Tryz.prog 5 #[.slice a len cap, .slice a' len' cap'] w fun e w' => e = .returned (.bool true) ∧ Below w.heap.size w w' := by
  have HB := Lib.hid hb
  have HE := Lib.hid hE
  have hm : (len : Int) ≤ maxLen := by have := hb.1; have := hb.2.1; omega
  have hm' : (len' : Int) ≤ maxLen := by have := hb'.1; have := hb'.2.1; omega
  unfold maxLen at hm hm'
  clear hb hb' hE
  by_cases hlen : (1048576 : Int) < (len : Int)
  · go_enter Tryz.func5, Tryz.ntmps5
    go_wp2
    go_ret
    exact ⟨rfl, Below.refl _ _⟩
  have hl1 : decide ((1048576 : Int) < (len : Int)) = false := by simp; omega
  have hl1n : decide ((1048576 : Nat) < len) = false := by simp; omega
  by_cases hlen' : (1048576 : Int) < (len' : Int)
  · go_enter Tryz.func5, Tryz.ntmps5
    go_wp2
    go_ret
    exact ⟨rfl, Below.refl _ _⟩
  have hl2 : decide ((1048576 : Int) < (len' : Int)) = false := by simp; omega
  have hl2n : decide ((1048576 : Nat) < len') = false := by simp; omega
  go_enter Tryz.func5, Tryz.ntmps5
  go_wp2_with fail
  refine (drawTableDo_any _ _ _ _ HB.out).mono ?_
  rintro e w1 ⟨v, l, x, y, z, rfl, hl, hx, b1⟩
  have s1 := b1.size
  have B1 : Hid (Below w.heap.size w (w1.alloc (.cells #[.int .i64 x, .int .i64 y, .int .i64 z] 35))) := b1.alloc s1 _
  have HX0 : Hid (Rls (w1.alloc (.cells #[.int .i64 x, .int .i64 y, .int .i64 z] 35)) (w1.alloc (.cells #[.int .i64 x, .int .i64 y, .int .i64 z] 35)).heap.size v l) := (hx.below (below_alloc1 _ _)).rls
  have C0 := Lib.hid (newBlockM w1 (.cells #[.int .i64 x, .int .i64 y, .int .i64 z] 35))
  clear hx b1
  have hl' : l.length ≤ 1048576 := by omega
  obtain ⟨⟨⟨d1, d2, d3⟩, od⟩, hdd⟩ : ∃ d, doT x y z l = d := ⟨_, rfl⟩
  have HSD := Lib.hid (fun W h => sTableDo_any W v l h hl' x y z)
  have HID := Lib.hid (fun W h => iTableDo_any W v l h hl' x y z)
  rw [hdd] at HSD HID
  dsimp only at HSD HID
  have HDD := Lib.hid hdd
  clear hdd
  go_wp2_with fail
  generalize hW : w1.alloc (.cells #[.int .i64 x, .int .i64 y, .int .i64 z] 35) = W at *
  have zW : w1.heap.size < W.heap.size := by rw [← hW]; simp
  clear hW
  have HC : Hid (∀ W', Below W.heap.size W W' → W'.cell? ⟨w1.heap.size, 0, none⟩ = some (.int .i64 x) ∧ W'.cell? ⟨w1.heap.size, 1, none⟩ = some (.int .i64 y) ∧ W'.cell? ⟨w1.heap.size, 2, none⟩ = some (.int .i64 z)) := fun W' hb => trio3 ((hb.block _ zW).trans C0.out)
  have HX : Hid (∀ W', Below W.heap.size W W' → Rls W' W'.heap.size v l) := fun W' hb => (HX0.out.below hb (Nat.le_refl _)).mono hb.size
  have BW : Hid (∀ W', Below W.heap.size W W' → Below w.heap.size w W') := fun W' hb => B1.out.trans (hb.mono B1.out.size)
  generalize w1.heap.size = h at *
  clear C0 HX0 B1
  refine (HSD.out _ (HX.out _ (Below.refl _ _))).mono ?_
  rintro e w2 ⟨rfl, b2⟩
  have c2 := b2.alloc b2.size (.cells #[.int .i64 d1, .int .i64 d2, .int .i64 d3] 35)
  have HB2 := Lib.hid c2
  have K2 := Lib.hid (newBlockM w2 (.cells #[.int .i64 d1, .int .i64 d2, .int .i64 d3] 35))
  obtain ⟨q0, q1, q2⟩ := HC.out _ b2
  have l2 : h < w2.heap.size := Nat.lt_of_lt_of_le zW b2.size
  clear b2 c2
  go_wp2_with fail
  refine (HID.out _ (HX.out _ HB2.out) (HE.out.below (BW.out _ HB2.out))).mono ?_
  rintro e w3 ⟨rfl, b3⟩
  have K3 := (b3.block _ (by simp)).trans K2.out
  have c3 := (belStep HB2.out b3).alloc (belStep HB2.out b3).size (.cells #[.int .i64 d1, .int .i64 d2, .int .i64 d3] 35)
  have HB3 := Lib.hid c3
  have s3 := b3.size
  simp at s3
  have KW := Lib.hid ((Below.heap_alloc w3 (.cells #[.int .i64 d1, .int .i64 d2, .int .i64 d3] 35) w2.heap.size (by omega)).trans K3)
  have KX := Lib.hid (newBlockM w3 (.cells #[.int .i64 d1, .int .i64 d2, .int .i64 d3] 35))
  have g1 : w2.heap.size < w3.heap.size := by omega
  have g2 : h < w3.heap.size := by omega
  have g3 : w3.heap.size < (w3.alloc (.cells #[.int .i64 d1, .int .i64 d2, .int .i64 d3] 35)).heap.size := by simp
  obtain ⟨e0, e1, e2, -⟩ := cells3 K3
  clear q0 q1 q2 b3 c3 K3
  go_wp2_with fail
  generalize w3.alloc (.cells #[.int .i64 d1, .int .i64 d2, .int .i64 d3] 35) = V at *
  obtain ⟨q0, q1, q2⟩ := HC.out _ HB3.out
  obtain ⟨x0, x1, x2, -⟩ := cells3 KX.out
  obtain ⟨y0, y1, y2, -⟩ := cells3 KW.out
  have hV : w2.heap.size < V.heap.size := by omega
  have HK : Hid (∀ W', Below V.heap.size V W' → (W'.cell? ⟨h, 0, none⟩ = some (.int .i64 x) ∧ W'.cell? ⟨h, 1, none⟩ = some (.int .i64 y) ∧ W'.cell? ⟨h, 2, none⟩ = some (.int .i64 z)) ∧ (W'.cell? ⟨w3.heap.size, 0, none⟩ = some (.int .i64 d1) ∧ W'.cell? ⟨w3.heap.size, 1, none⟩ = some (.int .i64 d2) ∧ W'.cell? ⟨w3.heap.size, 2, none⟩ = some (.int .i64 d3)) ∧ (W'.cell? ⟨w2.heap.size, 0, none⟩ = some (.int .i64 d1) ∧ W'.cell? ⟨w2.heap.size, 1, none⟩ = some (.int .i64 d2) ∧ W'.cell? ⟨w2.heap.size, 2, none⟩ = some (.int .i64 d3)) ∧ Below W.heap.size W W' ∧ h < W'.heap.size ∧ w3.heap.size < W'.heap.size) := fun W' hb =>
    ⟨HC.out _ (belStep HB3.out hb), trio3 ((hb.block _ g3).trans KX.out), trio3 ((hb.block _ hV).trans KW.out), belStep HB3.out hb, by have := hb.size; omega, by have := hb.size; omega⟩
  clear q0 q1 q2 x0 x1 x2 y0 y1 y2 e0 e1 e2 KX KW K2 HB2 zW l2 s3 hV
  generalize w3.heap.size = bx at *
  generalize w2.heap.size = bh at *
  refine (sTableOk_any _ v l (HX.out _ HB3.out) hl').mono ?_
  rintro e w4 ⟨rfl, b4⟩
  cases ht : tOk l
  · obtain ⟨-, ⟨x0, x1, x2⟩, ⟨y0, y1, y2⟩, bb, -, -⟩ := HK.out _ b4
    have FB := Lib.hid (BW.out _ bb)
    clear b4 bb
    go_wp2
    go_ret
    exact ⟨rfl, FB.out⟩
  obtain ⟨⟨q0, q1, q2⟩, -, -, -, -, -⟩ := HK.out _ b4
  go_wp2_with fail
  refine (sHeadOk_any x y z _).mono ?_
  rintro e w5 ⟨rfl, b5⟩
  have b5' := belStep b4 b5
  clear q0 q1 q2 b4 b5
  obtain ⟨⟨q0, q1, q2⟩, ⟨x0, x1, x2⟩, ⟨y0, y1, y2⟩, bb, l0, l1⟩ := HK.out _ b5'
  cases ho : okB x y z
  · have FB := Lib.hid (BW.out _ bb)
    clear bb b5'
    go_wp2
    go_ret
    exact ⟨rfl, FB.out⟩
  have hdi : doI x y z l = ((d1, d2, d3), od) := by
    have := HDD.out
    rw [doT, ht, ho] at this
    exact this
  have HB5 := Lib.hid b5'
  have HBB := Lib.hid bb
  have HIP := Lib.hid (fun W h hE r => iTablePut_any W v l h hl' r hE)
  clear b5' bb x0 x1 x2 y0 y1 y2 q0 q1 q2 HDD HSD HID
  have HTL0 := Lib.hid ht
  clear hdi ho
  have B6 : Hid (Below w5.heap.size w5 (w5.alloc (.cells #[.int .i64 0, .string ⟨#[120, 120, 120, 120, 120, 120]⟩, .int .i64 4, .int .i64 3] 31))) := (Below.refl _ _).alloc (Nat.le_refl _) _
  have K6 : Hid (Four (w5.alloc (.cells #[.int .i64 0, .string ⟨#[120, 120, 120, 120, 120, 120]⟩, .int .i64 4, .int .i64 3] 31)) w5.heap.size 0 ruL) := newFour w5 ruL
  have z6 : w5.heap.size < (w5.alloc (.cells #[.int .i64 0, .string ⟨#[120, 120, 120, 120, 120, 120]⟩, .int .i64 4, .int .i64 3] 31)).heap.size := by simp
  go_wp2_with fail
  generalize (w5.alloc (.cells #[.int .i64 0, .string ⟨#[120, 120, 120, 120, 120, 120]⟩, .int .i64 4, .int .i64 3] 31)) = W6 at *
  have z55 := z6
  refine (HIP.out _ (HX.out _ (belStep HBB.out B6.out)) (HE.out.below (BW.out _ (belStep HBB.out B6.out))) ruL).mono ?_
  rintro e w6 ⟨u, rfl, hrow, b6⟩
  have HROW := Lib.hid hrow.rls
  have B66 := Lib.hid (belStep B6.out b6)
  have K66 := Lib.hid (K6.out.below b6 z6)
  have z66 : w5.heap.size < w6.heap.size := Nat.lt_of_lt_of_le z6 b6.size
  have HPF := Lib.hid (put_last (r := ruL) (l := l))
  have HPO := Lib.hid (putT_ok (r := ruL) (l := l))
  have HLA := Lib.hid (last_area (l := l))
  have HLH := Lib.hid (fun n hn => last_head (l := l) (n := n) hn)
  clear hrow b6 K6 HIP
  generalize putO ruL l = d at *
  generalize putT ruL l = T at *
  have FB6 := Lib.hid (BW.out _ (belStep HBB.out B66.out))
  cases d
  · go_wp2
    go_quiet (fail)
    go_wp2
    go_ret
    exact ⟨rfl, belDrewN FB6.out _⟩
  obtain ⟨hto, htl, -⟩ := HPO.out rfl
  replace HPF := Lib.hid (HPF.out rfl)
  obtain ⟨ua, uc, rfl, hcc, hmm, hh⟩ := HROW.out
  rcases hh with h0 | ⟨b', off, rfl, hb', hcell⟩
  · rw [h0] at htl
    simp at htl
  obtain ⟨c0, c1, c2, c3⟩ := hcell l.length (by omega)
  obtain ⟨k0, k1, k2, k3⟩ := K66.out
  simp only [Nat.zero_add] at k1 k2 k3
  clear hcell
  unfold maxLen at hmm
  have hidx : (T.length : Int) - 1 = (l.length : Int) := by omega
  have hTl : l.length < T.length := by omega
  have hTlz : (l.length : Int) < (T.length : Int) := by omega
  have hn6 : T.length ≤ 1048576 := by omega
  have HTLN := Lib.hid htl
  generalize ruL = r at *
  clear htl
  rcases diffR (ruAt T l.length) r with heq | ⟨-, hne⟩
  · have hT := HPF.out heq
    rw [heq] at c0 c1 c2 c3
    rw [← hT] at HLA HLH
    have HTD := Lib.hid (fun W h => iTableDo_any W (.slice (some ⟨b', off, none⟩) T.length uc) T h hn6)
    have HTO := Lib.hid hto
    have HTA := Lib.hid (fun W h => iTableArea_any W (.slice (some ⟨b', off, none⟩) T.length uc) T h hn6 (-1))
    rw [HLA.out hto] at HTA
    have HTW : Hid (∀ W, Below w6.heap.size w6 W → Rls W W.heap.size (.slice (some ⟨b', off, none⟩) T.length uc) T) := fun W hb => (HROW.out.below hb (Nat.le_refl _)).mono hb.size
    have HXW : Hid (∀ W, Below w6.heap.size w6 W → Rls W W.heap.size v l) := fun W hb => HX.out _ (belStep (belStep HBB.out B66.out) hb)
    have HEW : Hid (∀ W, Below w6.heap.size w6 W → EtOk W) := fun W hb => HE.out.below (BW.out _ (belStep (belStep HBB.out B66.out) hb))
    have HDO : Hid (∀ n : Nat, n < 64 → ∀ W, Below w6.heap.size w6 W → Calls Tryz.prog 19 #[v, .agg #[.int .i64 ((n : Int) / 16 % 4), .int .i64 ((n : Int) / 4 % 4), .int .i64 ((n : Int) % 4)]] W fun e w' => e = .returned (.tuple #[.agg #[.int .i64 (doN l n).1.1, .int .i64 (doN l n).1.2.1, .int .i64 (doN l n).1.2.2], .int .i64 (doN l n).2]) ∧ Below W.heap.size W w') := fun n hn W hW => by
      have := iTableDo_any W _ l (HXW.out _ hW) hl' ((n : Int) / 16 % 4) ((n : Int) / 4 % 4) ((n : Int) % 4) (HEW.out _ hW)
      rwa [doT_idle HTL0.out hn] at this
    have HDO' : Hid (∀ n : Nat, n < 64 → ∀ W, Below w6.heap.size w6 W → Calls Tryz.prog 19 #[.slice (some ⟨b', off, none⟩) T.length uc, .agg #[.int .i64 ((n : Int) / 16 % 4), .int .i64 ((n : Int) / 4 % 4), .int .i64 ((n : Int) % 4)]] W fun e w' => e = .returned (.tuple #[.agg #[.int .i64 (doN T n).1.1, .int .i64 (doN T n).1.2.1, .int .i64 (doN T n).1.2.2], .int .i64 (doN T n).2]) ∧ Below W.heap.size W w') := fun n hn W hW => by
      have := iTableDo_any W _ T (HTW.out _ hW) hn6 ((n : Int) / 16 % 4) ((n : Int) / 4 % 4) ((n : Int) % 4) (HEW.out _ hW)
      rwa [doT_idle HTO.out hn] at this
    have HTT : Hid (∀ n : Nat, n < 64 → ∀ W, Below w6.heap.size w6 W → Calls Tryz.prog 23 #[v, .agg #[.int .i64 ((n : Int) / 16 % 4), .int .i64 ((n : Int) / 4 % 4), .int .i64 ((n : Int) % 4)]] W fun e w' => e = .returned (.int .i64 (atI ((n : Int) / 16) ((n : Int) / 4 % 4) ((n : Int) % 4) l)) ∧ Below W.heap.size W w') := fun n hn W hW => by
      have := iTableAt_any W v l (HXW.out _ hW) hl' ((n : Int) / 16 % 4) ((n : Int) / 4 % 4) ((n : Int) % 4) (HEW.out _ hW)
      rw [show (n : Int) / 16 % 4 = (n : Int) / 16 from by omega] at this ⊢
      unfold atT at this
      rw [HTL0.out, okB_numA n hn] at this
      exact this
    clear hT heq HPF HPO hto HLA HTD
    go_wp2
    go_quiet (fail)
    have B7 := Lib.hid (belDrewN (Below.refl w6.heap.size w6) nq)
    clear c0 c1 c2 c3 k0 k1 k2 k3
    generalize w6.drewN nq = W7 at *
    go_wp2
    go_loopw [14] (fun i wr => ∃ n : Nat, n ≤ 64 ∧ i = .int .i64 n ∧ Below w6.heap.size w6 wr) (fun i _ => 64 - (intOf i).toNat)
    case atStart => exact ⟨0, Nat.zero_le _, rfl, B7.out⟩
    case round =>
      obtain ⟨n, hn, rfl, hbel⟩ := hrel
      have HBL := Lib.hid hbel
      clear hbel
      by_cases hlt : n < 64
      · have hnz : (n : Int) < 64 := by omega
        have HD := Lib.hid (HDO.out n hlt)
        have HD' := Lib.hid (HDO'.out n hlt)
        have HAA := Lib.hid (HTT.out n hlt)
        have HLX := Lib.hid (lxHead_at n (by omega))
        have HCS := HLH.out n hlt
        obtain ⟨at1, hat⟩ : ∃ z, atI ((n : Int) / 16) ((n : Int) / 4 % 4) ((n : Int) % 4) l = z := ⟨_, rfl⟩
        obtain ⟨⟨⟨x1, x2, x3⟩, ox⟩, hx⟩ : ∃ d, doN l n = d := ⟨_, rfl⟩
        obtain ⟨⟨⟨y1, y2, y3⟩, oy⟩, hy⟩ : ∃ d, doN T n = d := ⟨_, rfl⟩
        rw [hx] at HD
        rw [hy] at HD'
        rw [hat] at HAA
        rw [hx, hy, hat] at HCS
        dsimp only at HD HD'
        clear hx hy hat HDO HDO' HTT HLH
        go_wp2_with fail
        refine (HLX.out _).mono ?_
        rintro e w7 ⟨rfl, b7⟩
        have B7 := Lib.hid ((belStep HBL.out b7).alloc (belStep HBL.out b7).size (.cells #[.int .i64 ((n : Int) / 16 % 4), .int .i64 ((n : Int) / 4 % 4), .int .i64 ((n : Int) % 4)] 35))
        have HG : Hid (∀ W, Below (w7.alloc (.cells #[.int .i64 ((n : Int) / 16 % 4), .int .i64 ((n : Int) / 4 % 4), .int .i64 ((n : Int) % 4)] 35)).heap.size (w7.alloc (.cells #[.int .i64 ((n : Int) / 16 % 4), .int .i64 ((n : Int) / 4 % 4), .int .i64 ((n : Int) % 4)] 35)) W → W.cell? ⟨w7.heap.size, 0, none⟩ = some (.int .i64 ((n : Int) / 16 % 4)) ∧ W.cell? ⟨w7.heap.size, 1, none⟩ = some (.int .i64 ((n : Int) / 4 % 4)) ∧ W.cell? ⟨w7.heap.size, 2, none⟩ = some (.int .i64 ((n : Int) % 4))) := fun W hb => trio3 ((hb.block _ (by simp)).trans (newBlockM w7 (.cells #[.int .i64 ((n : Int) / 16 % 4), .int .i64 ((n : Int) / 4 % 4), .int .i64 ((n : Int) % 4)] 35)))
        clear b7
        obtain ⟨g0, g1, g2⟩ := HG.out _ (Below.refl _ _)
        go_wp2_with fail
        refine (HD.out _ B7.out).mono ?_
        rintro e w8 ⟨rfl, b8⟩
        have C8 := Lib.hid (b8.alloc b8.size (.cells #[.int .i64 x1, .int .i64 x2, .int .i64 x3] 35))
        have B8 := Lib.hid (belStep B7.out C8.out)
        clear b8 g0 g1 g2
        obtain ⟨g0, g1, g2⟩ := HG.out _ C8.out
        go_wp2_with fail
        refine (HD'.out _ B8.out).mono ?_
        rintro e w9 ⟨rfl, b9⟩
        have C9 := Lib.hid (b9.alloc b9.size (.cells #[.int .i64 y1, .int .i64 y2, .int .i64 y3] 35))
        have B9 := Lib.hid (belStep B8.out C9.out)
        have A9 := Lib.hid (trio3 ((C9.out.block w8.heap.size (by simp)).trans (newBlockM w8 (.cells #[.int .i64 x1, .int .i64 x2, .int .i64 x3] 35))))
        have Y9 := Lib.hid (trio3 (newBlockM w9 (.cells #[.int .i64 y1, .int .i64 y2, .int .i64 y3] 35)))
        have z9 : w8.heap.size < w9.heap.size := by have := b9.size; simp at this; omega
        clear b9 g0 g1 g2
        have HC10 : Hid (∀ W, Below (w9.alloc (.cells #[.int .i64 y1, .int .i64 y2, .int .i64 y3] 35)).heap.size (w9.alloc (.cells #[.int .i64 y1, .int .i64 y2, .int .i64 y3] 35)) W → (W.cell? ⟨w7.heap.size, 0, none⟩ = some (.int .i64 ((n : Int) / 16 % 4)) ∧ W.cell? ⟨w7.heap.size, 1, none⟩ = some (.int .i64 ((n : Int) / 4 % 4)) ∧ W.cell? ⟨w7.heap.size, 2, none⟩ = some (.int .i64 ((n : Int) % 4))) ∧ (W.cell? ⟨w8.heap.size, 0, none⟩ = some (.int .i64 x1) ∧ W.cell? ⟨w8.heap.size, 1, none⟩ = some (.int .i64 x2) ∧ W.cell? ⟨w8.heap.size, 2, none⟩ = some (.int .i64 x3)) ∧ (W.cell? ⟨w9.heap.size, 0, none⟩ = some (.int .i64 y1) ∧ W.cell? ⟨w9.heap.size, 1, none⟩ = some (.int .i64 y2) ∧ W.cell? ⟨w9.heap.size, 2, none⟩ = some (.int .i64 y3)) ∧ Below w6.heap.size w6 W) := fun W hb => by
          have cb := belCell hb
          obtain ⟨p0, p1, p2⟩ := A9.out
          obtain ⟨s0, s1, s2⟩ := Y9.out
          exact ⟨HG.out _ (belStep (belStep C8.out C9.out) hb), ⟨(cb w8.heap.size 0 (by simp; omega)).trans p0, (cb w8.heap.size 1 (by simp; omega)).trans p1, (cb w8.heap.size 2 (by simp; omega)).trans p2⟩, ⟨(cb w9.heap.size 0 (by simp)).trans s0, (cb w9.heap.size 1 (by simp)).trans s1, (cb w9.heap.size 2 (by simp)).trans s2⟩, belStep B9.out hb⟩
        obtain ⟨⟨g0, g1, g2⟩, ⟨a0, a1, a2⟩, ⟨r0, r1, r2⟩, BB0⟩ := HC10.out _ (Below.refl _ _)
        clear HD HD' HLX
        go_wp2_with fail
        refine (HAA.out _ BB0).mono ?_
        rintro e w10 ⟨rfl, b10⟩
        clear g0 g1 g2 a0 a1 a2 r0 r1 r2 BB0
        obtain ⟨⟨g0, g1, g2⟩, ⟨a0, a1, a2⟩, ⟨r0, r1, r2⟩, BB1⟩ := HC10.out _ b10
        have HB10 := Lib.hid b10
        have B10 := Lib.hid BB1
        clear b10 BB1
        rcases HCS with ⟨e1, e2⟩ | ⟨e1, e2⟩
        · subst e1
          simp only [Prod.mk.injEq] at e2
          obtain ⟨⟨rfl, rfl, rfl⟩, rfl⟩ := e2
          go_wp2_with fail
          refine (HAA.out _ B10.out).mono ?_
          rintro e w11 ⟨rfl, b11⟩
          clear g0 g1 g2 a0 a1 a2 r0 r1 r2
          obtain ⟨⟨g0, g1, g2⟩, ⟨a0, a1, a2⟩, ⟨r0, r1, r2⟩, BB1⟩ := HC10.out _ (belStep HB10.out b11)
          have B11 := Lib.hid BB1
          clear b11 BB1 HC10 HB10
          go_wp2
          go_roundw
          case rel => exact ⟨n + 1, by omega, by go_num, B11.out⟩
          case measure => simp [intOf]; omega
        · simp only [Prod.mk.injEq] at e2
          obtain ⟨⟨rfl, rfl, rfl⟩, rfl⟩ := e2
          go_wp2_with fail
          refine (HAA.out _ B10.out).mono ?_
          rintro e w11 ⟨rfl, b11⟩
          clear g0 g1 g2 a0 a1 a2 r0 r1 r2
          obtain ⟨⟨g0, g1, g2⟩, ⟨a0, a1, a2⟩, ⟨r0, r1, r2⟩, BB1⟩ := HC10.out _ (belStep HB10.out b11)
          have B11 := Lib.hid BB1
          clear b11 BB1 HC10 HB10
          go_wp2
          go_roundw
          case rel => exact ⟨n + 1, by omega, by go_num, B11.out⟩
          case measure => simp [intOf]; omega
      · obtain rfl : n = 64 := by omega
        clear HDO HDO' HTT HLH
        go_wp2_with fail
        refine (HTA.out _ (HTW.out _ HBL.out) (HEW.out _ HBL.out)).mono ?_
        rintro e w7 ⟨s, rfl, hrow, b7⟩
        have B7 := Lib.hid (belStep HBL.out b7)
        obtain ⟨sa, sc, rfl⟩ : ∃ sa sc, s = .slice sa 0 sc := by
          rcases hrow.form with ⟨h1, h2⟩ | ⟨g', c', h1, -⟩
          · exact ⟨_, _, h1⟩
          · exact ⟨_, _, h1⟩
        clear hrow b7
        go_wp2
        go_ret
        exact ⟨rfl, belStep FB6.out B7.out⟩
  · clear HPF HPO hto HLA HLH
    generalize ruAt T l.length = q at *
    rcases hne with hne | ⟨hq0, hne⟩ | ⟨hq0, hq1, hne⟩ | ⟨hq0, hq1, hq2, hne⟩
    all_goals
      go_wp2
      go_quiet (fail)
      go_wp2
      go_ret
      exact ⟨rfl, belDrewN FB6.out _⟩

set_option maxRecDepth 100000 in
theorem contract_FnTableLast (H : Type) (enc : TypeId × Value → H) (W : World) (base : Nat) (args : Array Value) (ds gs : List (DataW H)) (before : List MemPlace)
    (hval : ∀ (j : Nat) t v, Tryz.f5.params[j]? = some t → args[j]? = some v → Value.okWide Tryz.prog W .any base t v)
    (hW : DataW.Whole enc Tryz.prog Tryz.f5.params.toList Rows.fnTableLastSpec.vars false W args.toList ds gs before) (hE : EtOk W) :
    Calls Tryz.prog 5 args W fun e W' => ∃ v, e = .returned v ∧ Rows.fnTableLastSpec.post enc Tryz.prog Tryz.f5 false true false false W args v W' := by
  have hW' := hW
  obtain ⟨p, q, hA0, hV, rfl, hfz, hnd⟩ := hW
  have hA : DataW.TrodAll enc Tryz.prog W 0 (fun _ => true) true Tryz.f5.params.toList args.toList ds p := hA0
  rw [Tryz.params5] at hA hval
  obtain ⟨v0, vs0, d0, ds0, p0, q0, hargs, rfl, rfl, h0, r0⟩ := trodAll_cons hA
  obtain ⟨v1, vs1, d1, ds1, p1, q1, rfl, rfl, rfl, h1, r1⟩ := trodAll_cons r0
  obtain ⟨rfl, rfl, rfl⟩ := trodAll_nil r1
  obtain rfl : args = #[v0, v1] := by cases args; simp_all
  obtain ⟨rfl, rfl⟩ := trodVars_none hV
  have k0 := h0
  have lt0 : ∀ x ∈ p0, x.block < W.heap.size := by obtain ⟨m, hm⟩ := k0; exact DataW.trod_lt m _ _ _ hm
  have k1 := h1
  have lt1 : ∀ x ∈ p1, x.block < W.heap.size := by obtain ⟨m, hm⟩ := k1; exact DataW.trod_lt m _ _ _ hm
  obtain ⟨a0, len0, cap0, rfl⟩ := okWide_slice Tryz.underlying22 (hval 0 22 v0 rfl rfl)
  have w0 : BytesIn W W.heap.size a0 len0 cap0 := isRow_of h0
  obtain ⟨a1, len1, cap1, rfl⟩ := okWide_slice Tryz.underlying22 (hval 1 22 v1 rfl rfl)
  have w1 : BytesIn W W.heap.size a1 len1 cap1 := isRow_of h1
  clear hA0
  refine (walk_FnTableLast a0 len0 cap0 a1 len1 cap1 W w0 w1 hE).mono fun e W' ⟨he, bel⟩ => ?_
  subst he
  exact ⟨_, rfl, _, _, _, [], _, [], hW', trodAll_mk1 (shut_bool Tryz.underlying4 _), (trodAll_cons_mk (Below.trod laidOut (by kernel_rfl) (of_decide_eq_true (by kernel_rfl)) k0 bel lt0) (trodAll_cons_mk (Below.trod laidOut (by kernel_rfl) (of_decide_eq_true (by kernel_rfl)) k1 bel lt1) (trodAll_mk0))), rfl, bel.frame _, fun h => by cases h⟩

/-- A world for the witness: the settled one, with the listed variables as the text lays them. -/
noncomputable def laidWorld_FnTableLast (os : Os) : World :=
  { World.holding Tryz.prog os ⟨#[], #[], []⟩ with heap := (((((World.holding Tryz.prog os ⟨#[], #[], []⟩).heap).modify 3 (fun | .cells _ t frozen => .cells #[.int .u8 0, .int .u8 1, .int .u8 28, .int .u8 2, .int .u8 29, .int .u8 14, .int .u8 24, .int .u8 3, .int .u8 30, .int .u8 22, .int .u8 20, .int .u8 15, .int .u8 25, .int .u8 17, .int .u8 4, .int .u8 8, .int .u8 31, .int .u8 27, .int .u8 13, .int .u8 23, .int .u8 21, .int .u8 19, .int .u8 16, .int .u8 7, .int .u8 26, .int .u8 12, .int .u8 18, .int .u8 6, .int .u8 11, .int .u8 5, .int .u8 10, .int .u8 9] t frozen | o => o)).modify 4 (fun | .cells _ t frozen => .cells #[.int .u8 0, .int .u8 1, .int .u8 56, .int .u8 2, .int .u8 57, .int .u8 49, .int .u8 28, .int .u8 3, .int .u8 61, .int .u8 58, .int .u8 42, .int .u8 50, .int .u8 38, .int .u8 29, .int .u8 17, .int .u8 4, .int .u8 62, .int .u8 47, .int .u8 59, .int .u8 36, .int .u8 45, .int .u8 43, .int .u8 51, .int .u8 22, .int .u8 53, .int .u8 39, .int .u8 33, .int .u8 30, .int .u8 24, .int .u8 18, .int .u8 12, .int .u8 5, .int .u8 63, .int .u8 55, .int .u8 48, .int .u8 27, .int .u8 60, .int .u8 41, .int .u8 37, .int .u8 16, .int .u8 46, .int .u8 35, .int .u8 44, .int .u8 21, .int .u8 52, .int .u8 32, .int .u8 23, .int .u8 11, .int .u8 54, .int .u8 26, .int .u8 40, .int .u8 15, .int .u8 34, .int .u8 20, .int .u8 31, .int .u8 10, .int .u8 25, .int .u8 14, .int .u8 19, .int .u8 9, .int .u8 13, .int .u8 8, .int .u8 7, .int .u8 6] t frozen | o => o)).modify 2 (fun | .cells _ t frozen => .cells #[.int .u64 1, .int .u64 10, .int .u64 100, .int .u64 1000, .int .u64 10000, .int .u64 100000, .int .u64 1000000, .int .u64 10000000, .int .u64 100000000, .int .u64 1000000000, .int .u64 10000000000, .int .u64 100000000000, .int .u64 1000000000000, .int .u64 10000000000000, .int .u64 100000000000000, .int .u64 1000000000000000, .int .u64 10000000000000000, .int .u64 100000000000000000, .int .u64 1000000000000000000, .int .u64 10000000000000000000] t frozen | o => o)).modify 0 (fun | .cells _ t frozen => .cells #[.iface 176 (.agg #[.pointer (some ⟨5, 131, none⟩)])] t frozen | o => o) }

theorem laidMet_FnTableLast (os : Os) : laidMetH Tryz.prog Rows.fnTableLastRow.laid ((laidWorld_FnTableLast os).forCall (fun _ _ => 0) ⟨#[], #[.slice none 0 0, .slice none 0 0], []⟩).memory :=
  laidMetH_of_parts (laidMet_of_run' 8 (by kernel_rfl) (by kernel_rfl)) (by kernel_rfl)

theorem reads_FnTableLast (os : Os) {H : Type} (enc : TypeId × Value → H) : ∃ places, DataW.whole enc Tryz.prog ((laidWorld_FnTableLast os).forCall (fun _ _ => 0) ⟨#[], #[.slice none 0 0, .slice none 0 0], []⟩).memory Tryz.f5.params.toList Rows.fnTableLastSpec.vars false (#[.slice none 0 0, .slice none 0 0] : Array Value).toList 8 = some ([.nil, .nil], [], places) :=
  ⟨[], by kernel_rfl⟩

set_option maxRecDepth 100000 in
theorem lifted_FnTableLast (os : Os) (started : os.Started) (H : Type) (enc : TypeId × Value → H) (F : Stop.Interp) :
    ReturnsInHanded {} Tryz.checked os 5 .any ((OpenSpec.ofChange Rows.fnTableLastSpec).preRow enc Tryz.prog Tryz.f5 Rows.fnTableLastRow.domain false Rows.fnTableLastRow.laid) (((OpenSpec.ofChange Rows.fnTableLastSpec).at F).post enc Tryz.prog Tryz.f5 false true false false) := by
  obtain ⟨places, hx⟩ := reads_FnTableLast os enc
  refine returnsInHanded_of_row (C := Tryz.checked) (s := OpenSpec.ofChange Rows.fnTableLastSpec) own started (by kernel_rfl) Tryz.func5
    (witness_row_at (enc := enc) (C := Tryz.checked) false (laidWorld_FnTableLast os) #[.slice none 0 0, .slice none 0 0] rfl (by kernel_rfl) (by kernel_rfl) (by kernel_rfl)
      (OpenSpec.preRow_of_cond 8 hx (by kernel_rfl) (fun k hk => by cases hk) (by kernel_rfl) (laidMet_FnTableLast os))) ?_
  intro W base args ds gs before hval hW _ _ _ hL _ _
  exact contract_FnTableLast H enc W base args ds gs before hval hW (etOk_of hL (by simp [Rows.fnTableLastRow]))

theorem said_FnTableLast : Rows.FnTableLastSaid :=
  OpenClaim.holds_of_cond 5 Tryz.f5 rfl rfl rfl rfl rfl rfl rfl ⟨rfl, rfl, rfl, rfl, rfl⟩ rfl rfl rfl rfl rfl (by kernel_rfl) Tryz.func5 (by kernel_rfl)
    (of_decide_eq_true (by kernel_rfl)) (by unfold Func.isWrapper; first | (rw [if_pos (by decide +kernel)]; kernel_rfl) | (rw [if_neg (by decide +kernel)]; exact ⟨rfl, rfl⟩))
    (fun os started H enc _ F => by rw [OpenClaim.pre_eq_preRow]; exact lifted_FnTableLast os started H enc F)

theorem plain_FnTableLast (f : FuncId) (fn : Func) (hf : Tryz.pinned.checked.prog.funcNamed "loop.example/crossbuck/laws.FnTableLast" = some f) (hfn : Tryz.pinned.checked.prog.funcs[f]? = some fn) :
    true = Tryz.pinned.checked.prog.looks [] ∧ ∀ (j : Nat) t, fn.params[j]? = some t → Tryz.pinned.checked.prog.wantsStandIn t = false := by
  obtain rfl : f = 5 := Option.some.inj ((show Tryz.prog.funcNamed "loop.example/crossbuck/laws.FnTableLast" = some 5 by kernel_rfl).symm.trans hf) |>.symm
  obtain rfl : fn = Tryz.f5 := (Option.some.inj (Tryz.func5.symm.trans hfn)).symm
  refine ⟨by kernel_rfl, fun j t ht => ?_⟩
  rw [Tryz.params5] at ht
  obtain rfl : t = 22 := by simpa using Array.mem_of_getElem? ht
  exact (show Tryz.prog.wantsStandIn 22 = false by kernel_rfl)

theorem proved_FnTableLast : Rows.FnTableLastCardSaid :=
  Claim7.holds_tied_plain_at .later [] _ _ _ _ said_FnTableLast (fun _ h => by cases h) (by kernel_rfl) (fun _ h => by cases h) fnTableLast_row_tie rfl ⟨rfl, rfl⟩ (by kernel_rfl) rfl plain_FnTableLast (by kernel_rfl)

end Go.Proofs.YtehgpehhpijkjaaGreatDoor
