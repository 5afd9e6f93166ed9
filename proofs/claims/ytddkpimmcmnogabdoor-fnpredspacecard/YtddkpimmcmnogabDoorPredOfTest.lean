/-
  The set of heads for which a function is true, as the program builds it in a diagram.
-/
import Derived.Test.YtddkpimmcmnogabDoorPredMask
import Derived.Test.YtddkpimmcmnogabDoorSpaceV
import Derived.Test.YtddkpimmcmnogabDoorSpaceSp
namespace Go.Proofs.YtddkpimmcmnogabDoor
open Go.ChangeShapes Go.WideShapes Go.ChangeAt Go.RowKit Go.Joins
set_option linter.unusedVariables false

theorem bitF_no (pre : List Bool) : ofB (bitF (pre ++ [false])) = ofB (bitF pre) := by
  apply ofB_congr
  intro i _
  simp only [bitF, List.getD_eq_getElem?_getD]
  rcases Nat.lt_trichotomy i pre.length with h | h | h
  · rw [List.getElem?_append_left h]
  · subst h
    simp
  · rw [List.getElem?_eq_none (by simp; omega), List.getElem?_eq_none (by omega)]
theorem bitF_yes (pre : List Bool) (hp : pre.length < 6) : bits BinOp.or IntKind.u8 (ofB (bitF pre)) (pw pre.length) = ofB (bitF (pre ++ [true])) := by
  rw [or_pw _ hp]
  apply ofB_congr
  intro i _
  simp only [bitF, List.getD_eq_getElem?_getD]
  rcases Nat.lt_trichotomy i pre.length with h | h | h
  · rw [List.getElem?_append_left h]
    have : (i == pre.length) = false := by simp; omega
    rw [this, Bool.or_false]
  · subst h
    simp
  · rw [List.getElem?_eq_none (l := pre) (by omega), List.getElem?_eq_none (l := pre ++ [true]) (by simp; omega)]
    have : (i == pre.length) = false := by simp; omega
    rw [this, Bool.or_false]

theorem evM_tab (c : Cnd) : evM c = tabF 6 (fun l => evn c (ofB (bitF l))) := by
  rw [tab6]
  unfold evM
  apply List.map_congr_left
  intro j hj
  rw [kb6_num (List.mem_range.1 hj)]

theorem Ag.grown {base b : Nat} {w0 w w' : World} (h : Ag base w0 w) (hg : w.grownBy w' (some b)) (hb : w0.heap.size ≤ b) : Ag base w0 w' :=
  ⟨Nat.le_trans h.1 hg.size, fun i h0 h1 => (hg.block i (Nat.lt_of_lt_of_le h1 h.1) (by intro e; cases e; omega)).trans (h.2 i h0 h1)⟩

set_option maxRecDepth 100000 in
set_option maxHeartbeats 4000000 in
theorem ofTest_end (w0 : World) (base k : Nat) (caps : Array Value) (g : Int → Bool)
    (he : ∀ (args : Array Value) (W : World), (callFunc k args).run Tryd.prog W = .ok (.enter k args) W)
    (hc : ∀ W : World, Ag base w0 W → ∀ n : Int, 0 ≤ n → n ≤ 63 → Calls Tryd.prog k (#[.int .u8 n] ++ caps) W fun e W' => e = .returned (.bool (g n)) ∧ Below W.heap.size W W')
    (b e : Nat) (n : Int) (h0 : 0 ≤ n) (h1 : n ≤ 63) (w : World) (E : List Nd) (hd : Dg w b e E) (hA : Ag base w0 w) :
    Calls Tryd.prog 22 #[.agg #[.map (some b), .pointer (some ⟨e, 0, none⟩)], .int .i64 6, .int .u8 n, .func (.func k) #[] caps] w fun ex w' => ∃ p, ex = .returned (.pointer p) ∧ Good w w' b e E 0 p [g n] := by
  have HC := Lib.hid (fun W hW => hc W hW n h0 h1)
  have HD := Lib.hid hd
  have HA := Lib.hid hA
  clear hc hd hA
  generalize g n = x at *
  have K0 : Hid (∀ W', Below (w.alloc (.cells #[.map (some b), .pointer (some ⟨e, 0, none⟩)] 52)).heap.size (w.alloc (.cells #[.map (some b), .pointer (some ⟨e, 0, none⟩)] 52)) W' → W'.cell? ⟨w.heap.size, 1, none⟩ = some (.pointer (some ⟨e, 0, none⟩))) := fun W' hb => (belCell hb _ 1 (by simp)).trans (by simp)
  have HA1 : Hid (∀ W', Below (w.alloc (.cells #[.map (some b), .pointer (some ⟨e, 0, none⟩)] 52)).heap.size (w.alloc (.cells #[.map (some b), .pointer (some ⟨e, 0, none⟩)] 52)) W' → Ag base w0 W') := fun W' hb => (HA.out.alloc _).trans (Ag.of hb (Nat.le_refl _))
  have HG : Hid (∀ W', Below (w.alloc (.cells #[.map (some b), .pointer (some ⟨e, 0, none⟩)] 52)).heap.size (w.alloc (.cells #[.map (some b), .pointer (some ⟨e, 0, none⟩)] 52)) W' → Good w W' b e E 0 (bif x then some ⟨e, 0, none⟩ else none) [x]) := fun W' hb => by
    refine ⟨E, fun x hx => hx, (HD.out.alloc _).below hb, ?_, sTrans (World.grownBy_alloc _ _ _) (sOf _ hb)⟩
    cases x
    · exact Rep.none_iff.2 rfl
    · exact ⟨rfl, rfl⟩
  have D0 : Hid (Below (w.alloc (.cells #[.map (some b), .pointer (some ⟨e, 0, none⟩)] 52)).heap.size (w.alloc (.cells #[.map (some b), .pointer (some ⟨e, 0, none⟩)] 52)) (w.alloc (.cells #[.map (some b), .pointer (some ⟨e, 0, none⟩)] 52)).drew) := (Below.refl _ _).drew
  go_enter Tryd.func22, Tryd.ntmps22
  go_wp2_with fail
  generalize w.alloc (.cells #[.map (some b), .pointer (some ⟨e, 0, none⟩)] 52) = W at *
  go_region_held3 (fun W' => W'.cell? ⟨w.heap.size, 1, none⟩ = some (.pointer (some ⟨e, 0, none⟩)))
    (first | exact K0.out _ D0.out | exact K0.out _ D1.out)
    (first
      | (((with_reducible refine (HC.out _ (HA1.out _ D0.out)).mono ?_); rintro ex w8 ⟨rfl, b8⟩; have D1 : Hid (Below W.heap.size W w8) := belStep D0.out b8; clear b8))
      | (go_at_call 37; ((with_reducible refine (keptNode_any _ _ _).mono ?_); rintro ex w9 ⟨rfl, rfl⟩)))
  go_wp2
  go_ret
  exact ⟨_, rfl, HG.out _ D1.out⟩

set_option maxRecDepth 100000 in
set_option maxHeartbeats 4000000 in
theorem ofTest_node (b e : Nat) (k : Nat) (caps : Array Value) (h q : Nat) (hq : q < 6) (x y : Int) (hxy : bits BinOp.or IntKind.u8 x (pw q) = y) (w : World) (E : List Nd) (m0 m1 : List Bool) (hd : Dg w b e E)
    (ih0 : ∀ (W : World) (E : List Nd), Dg W b e E → w.grownBy W (some b) → Calls Tryd.prog 22 #[.agg #[.map (some b), .pointer (some ⟨e, 0, none⟩)], .int .i64 ((q : Int) + 1), .int .u8 x, .func (.func k) #[] caps] W fun ex w' => ∃ p, ex = .returned (.pointer p) ∧ Good W w' b e E h p m0)
    (ih1 : ∀ (W : World) (E : List Nd), Dg W b e E → w.grownBy W (some b) → Calls Tryd.prog 22 #[.agg #[.map (some b), .pointer (some ⟨e, 0, none⟩)], .int .i64 ((q : Int) + 1), .int .u8 y, .func (.func k) #[] caps] W fun ex w' => ∃ p, ex = .returned (.pointer p) ∧ Good W w' b e E h p m1) :
    Calls Tryd.prog 22 #[.agg #[.map (some b), .pointer (some ⟨e, 0, none⟩)], .int .i64 (q : Int), .int .u8 x, .func (.func k) #[] caps] w fun ex w' => ∃ p, ex = .returned (.pointer p) ∧ Good w w' b e E (h + 1) p (m0 ++ m1) := by
  have HI0 := Lib.hid ih0
  have HI1 := Lib.hid ih1
  have HD := Lib.hid (hd.alloc (.cells #[.map (some b), .pointer (some ⟨e, 0, none⟩)] 52))
  have hbl := hd.lt_b
  have G0 : Hid (w.grownBy (w.alloc (.cells #[.map (some b), .pointer (some ⟨e, 0, none⟩)] 52)) (some b)) := World.grownBy_alloc _ _ _
  have K0 := Lib.hid (newBlockM w (.cells #[.map (some b), .pointer (some ⟨e, 0, none⟩)] 52))
  clear ih0 ih1 hd
  have e6 : ((q : Int) == 6) = false := by simp; omega
  have hnb : w.heap.size ≠ b := by omega
  go_enter Tryd.func22, Tryd.ntmps22
  go_wp2_with fail
  have zW : w.heap.size < (w.alloc (.cells #[.map (some b), .pointer (some ⟨e, 0, none⟩)] 52)).heap.size := by simp
  generalize w.alloc (.cells #[.map (some b), .pointer (some ⟨e, 0, none⟩)] 52) = W at *
  refine (HI0.out _ E HD.out G0.out).mono ?_
  rintro ex w1 ⟨p, rfl, E1, s1, d1, R1, g1⟩
  have K1 := Lib.hid ((g1.block _ zW (by intro e; cases e; omega)).trans K0.out)
  have z1 : w.heap.size < w1.heap.size := by have := g1.size; omega
  have G1 := Lib.hid (sTrans G0.out g1)
  have S1 := Lib.hid s1
  have DD1 := Lib.hid d1
  have RR1 := Lib.hid R1
  obtain ⟨c0, c1, cf⟩ := duoCells K1.out
  clear s1 d1 R1 g1 HI0 HD G0 K0
  have HK : Hid (∀ W' : World, w1.grownBy W' (some b) → W'.cell? ⟨w.heap.size, 0, none⟩ = some (.map (some b)) ∧ W'.cell? ⟨w.heap.size, 1, none⟩ = some (.pointer (some ⟨e, 0, none⟩))) := fun W' hg => ⟨(sCell hg 0 z1 hnb).trans c0, (sCell hg 1 z1 hnb).trans c1⟩
  have DD1' := Lib.hid DD1.out.drew
  have G1' : Hid (w.grownBy w1.drew (some b)) := sTrans G1.out (sOf _ (Below.refl _ w1).drew)
  have hq0 : (0 : Int) ≤ (q : Int) := by omega
  have hq6 : (q : Int) < 6 := by omega
  have hqw : IntKind.i64.wrap ((q : Int) + 1) = (q : Int) + 1 := by simp [IntKind.wrap, IntKind.bits, IntKind.signed]; omega
  go_wp2_with fail
  clear K1 c0 c1 cf
  go_region_held3 (fun W' => W'.cell? ⟨w.heap.size, 0, none⟩ = some (.map (some b)) ∧ W'.cell? ⟨w.heap.size, 1, none⟩ = some (.pointer (some ⟨e, 0, none⟩)))
    (first | exact HK.out _ (sOf _ (Below.refl _ w1).drew) | exact HK.out _ G2.out)
    (first
      | (go_at_call 38; ((with_reducible refine (wildBit_at _ hq _).mono ?_); rintro ex wq ⟨rfl, rfl⟩))
      | (go_at_call 22; ((with_reducible refine (HI1.out _ _ DD1'.out G1'.out).mono ?_); rintro ex w2 ⟨p2, rfl, E2, s2, d2, R2, g2⟩; have S2 := Lib.hid s2; have DD2 := Lib.hid d2; have RR2 := Lib.hid R2; have G2 : Hid (w1.grownBy w2 (some b)) := sTrans (sOf _ (Below.refl _ w1).drew) g2; clear s2 d2 R2 g2)))
  obtain ⟨c0, c1⟩ := HK.out _ G2.out
  go_wp2_with fail
  refine (node_any _ _ _ _ _ _ _ _ _ DD2.out (RR1.out.mono S2.out) RR2.out).mono ?_
  rintro ex w3 ⟨p3, rfl, E3, s3, d3, R3, g3⟩
  have S3 := Lib.hid s3
  have DD3 := Lib.hid d3
  have RR3 := Lib.hid R3
  have G3 : Hid (w.grownBy w3 (some b)) := sTrans G1.out (sTrans G2.out g3)
  clear s3 d3 R3 g3
  go_wp2
  go_ret
  exact ⟨_, rfl, E3, fun x hx => S3.out x (S2.out x (S1.out x hx)), DD3.out, RR3.out, G3.out⟩

/-- The set of a test, from a position on. -/
theorem ofTest_any (w0 : World) (base k : Nat) (caps : Array Value) (g : Int → Bool)
    (he : ∀ (args : Array Value) (W : World), (callFunc k args).run Tryd.prog W = .ok (.enter k args) W)
    (hc : ∀ W : World, Ag base w0 W → ∀ n : Int, 0 ≤ n → n ≤ 63 → Calls Tryd.prog k (#[.int .u8 n] ++ caps) W fun e W' => e = .returned (.bool (g n)) ∧ Below W.heap.size W W')
    (b e : Nat) (hb0 : w0.heap.size ≤ b) : ∀ (h : Nat) (pre : List Bool), pre.length + h = 6 → ∀ (w : World) (E : List Nd), Dg w b e E → Ag base w0 w →
    Calls Tryd.prog 22 #[.agg #[.map (some b), .pointer (some ⟨e, 0, none⟩)], .int .i64 (pre.length : Int), .int .u8 (ofB (bitF pre)), .func (.func k) #[] caps] w fun ex w' => ∃ p, ex = .returned (.pointer p) ∧ Good w w' b e E h p (tabF h (fun l => g (ofB (bitF (pre ++ l)))))
  | 0, pre, hp, w, E, hd, hA => by
    have h6 : (pre.length : Int) = 6 := by omega
    rw [h6]
    have := ofTest_end w0 base k caps g he hc b e (ofB (bitF pre)) (ofB_bound _).1 (ofB_bound _).2 w E hd hA
    simpa [tabF] using this
  | h + 1, pre, hp, w, E, hd, hA => by
    have e1 : (pre.length : Int) + 1 = ((pre ++ [false]).length : Int) := by simp
    have e2 : (pre.length : Int) + 1 = ((pre ++ [true]).length : Int) := by simp
    have h0 := ofTest_any w0 base k caps g he hc b e hb0 h (pre ++ [false]) (by simp; omega)
    have h1 := ofTest_any w0 base k caps g he hc b e hb0 h (pre ++ [true]) (by simp; omega)
    rw [← e1, bitF_no] at h0
    rw [← e2] at h1
    simp only [List.append_assoc, List.cons_append, List.nil_append] at h0 h1
    exact ofTest_node b e k caps h pre.length (by omega) _ _ (bitF_yes pre (by omega)) w E _ _ hd
      (fun W E hD hG => h0 W E hD (hA.grown hG hb0)) (fun W E hD hG => h1 W E hD (hA.grown hG hb0))

end Go.Proofs.YtddkpimmcmnogabDoor
