/-
  Chapter 3, what the program's SpaceTidy, SpaceOr, SpaceAnd, SpaceLess, SpaceMany return.
  Plain facts on chapter 3's canonical lists: they are spaces, and have the heads of their set; what is left of a pattern, as a set.
-/
import Derived.Test.YtehgpehhpijkjaaGreatDoorSpaceV
import Derived.Test.YtehgpehhpijkjaaGreatDoorSpaceImplA
import Derived.Test.YtehgpehhpijkjaaGreatDoorWildF
import Derived.Test.YtehgpehhpijkjaaGreatDoorStrB

namespace Go.Proofs.YtehgpehhpijkjaaGreatDoor
open Go.ChangeShapes Go.WideShapes Go.ChangeAt Go.RowKit Go.Joins
set_option linter.unusedVariables false

def tidyR (l : List ByteArray) : List ByteArray := bif okSp l then tidyT (spL l) else []
def opR (f : Bool → Bool → Bool) (l l' : List ByteArray) : List ByteArray := bif okSp l && okSp l' then tidyT (List.zipWith f (spL l) (spL l')) else []
def manyR (l : List ByteArray) : Int := bif okSp l then sumL6 (tidyB 6 (spL l)) else -1
theorem tidyR_len (l : List ByteArray) : (tidyR l).length ≤ 64 := by
  unfold tidyR
  cases okSp l
  · simp
  · exact tidyT_len _
theorem opR_len (f : Bool → Bool → Bool) (l l' : List ByteArray) : (opR f l l').length ≤ 64 := by
  unfold opR
  cases okSp l && okSp l'
  · simp
  · exact tidyT_len _

set_option maxRecDepth 100000 in
set_option maxHeartbeats 2000000 in
theorem combineSpaces_any (w : World) (v v' : Value) (l l' : List ByteArray) (f t s : Bool) (hl : Strs w w.heap.size v l) (hl' : Strs w w.heap.size v' l') (hs : Fit6 l) (hs' : Fit6 l') :
    Calls Tryz.prog 39 #[v, v', .agg #[.bool f, .bool t, .bool s]] w fun ex w' => ∃ u, ex = .returned u ∧ StrRow w' w.heap.size u (opR (keepF f t s) l l') ∧ Below w.heap.size w w' := by
  have HA : Hid (∀ W, Below (w.heap.size + 1) (w.alloc (.cells #[.bool f, .bool t, .bool s] 74)) W → Below w.heap.size w W ∧ W.cell? ⟨w.heap.size, 0, none⟩ = some (.bool f) ∧ W.cell? ⟨w.heap.size, 1, none⟩ = some (.bool t) ∧ W.cell? ⟨w.heap.size, 2, none⟩ = some (.bool s)) := fun W hb =>
    ⟨(below_alloc1 _ _).trans (hb.mono (by omega)), trioCells ((hb.block _ (by omega)).trans (newBlockM w _))⟩
  have HL := Lib.hid hl
  have HL' := Lib.hid hl'
  have HS := Lib.hid hs
  have HS' := Lib.hid hs'
  clear hl hl' hs hs'
  go_enter Tryz.func39, Tryz.ntmps39
  go_wp2_with fail
  refine (newDiagram_any _).mono ?_
  rintro ex w2 ⟨b, e, rfl, hb, d2, b2⟩
  have s2 := b2.size
  simp at s2 hb
  have B2 : Hid (Below (w.heap.size + 1) (w.alloc (.cells #[.bool f, .bool t, .bool s] 74)) (w2.alloc (.cells #[.map (some b), .pointer (some ⟨e, 0, none⟩)] 63))) := (by simpa using b2 : Below (w.heap.size + 1) (w.alloc (.cells #[.bool f, .bool t, .bool s] 74)) w2).alloc (by omega) _
  have DD2 : Hid (Dg (w2.alloc (.cells #[.map (some b), .pointer (some ⟨e, 0, none⟩)] 63)) b e []) := d2.alloc _
  have HL2 : Hid (Strs (w2.alloc (.cells #[.map (some b), .pointer (some ⟨e, 0, none⟩)] 63)) w.heap.size v l) := HL.out.below (HA.out _ B2.out).1 (Nat.le_refl _)
  have HL2' : Hid (Strs (w2.alloc (.cells #[.map (some b), .pointer (some ⟨e, 0, none⟩)] 63)) w.heap.size v' l') := HL'.out.below (HA.out _ B2.out).1 (Nat.le_refl _)
  have hbox := newBlockM w2 (.cells #[.map (some b), .pointer (some ⟨e, 0, none⟩)] 63)
  have hb2 := d2.lt_b
  clear b2 d2 HL HL'
  go_wp2_with fail
  refine (readTwo_any _ _ _ w.heap.size _ _ _ _ _ DD2.out HL2.out HL2'.out (by simp; omega) (by omega) HS.out HS'.out).mono ?_
  rintro ex w3 ⟨p, q, rfl, E1, d3, R3, R3', g3⟩
  have s3 := g3.size
  simp at s3
  have B3 : Hid (Below (w.heap.size + 1) (w.alloc (.cells #[.bool f, .bool t, .bool s] 74)) w3) := B2.out.trans (sBel g3 (by omega) (by simp; omega))
  have hbox3 := duoCells ((g3.block w2.heap.size (by simp) (by intro e; cases e; omega)).trans hbox)
  obtain ⟨x0, x1, x2⟩ := hbox3
  obtain ⟨-, y0, y1, y2⟩ := HA.out _ B3.out
  have DD3 := Lib.hid d3
  have RR3 := Lib.hid R3
  have RR3' := Lib.hid R3'
  clear d3 R3 R3' g3 hbox
  cases hk : okSp l
  · have HT : Hid (opR (keepF f t s) l l' = []) := by show _ = _; simp [opR, hk]
    go_wp2
    go_ret
    exact ⟨_, rfl, by rw [HT.out]; exact World.ownsRow_nil _ _ _ _, (HA.out _ B3.out).1⟩
  cases hk' : okSp l'
  · have HT : Hid (opR (keepF f t s) l l' = []) := by show _ = _; simp [opR, hk']
    go_wp2
    go_ret
    exact ⟨_, rfl, by rw [HT.out]; exact World.ownsRow_nil _ _ _ _, (HA.out _ B3.out).1⟩
  have HT : Hid (opR (keepF f t s) l l' = tidyT (List.zipWith (keepF f t s) (spL l) (spL l'))) := by show _ = _; simp [opR, hk, hk']
  have HR : Hid (Rep E1 e 6 p (spL l)) := by
    have := RR3.out
    rw [setL, hk] at this
    exact this
  have HR' : Hid (Rep E1 e 6 q (spL l')) := by
    have := RR3'.out
    rw [setL, hk'] at this
    exact this
  go_wp2_with fail
  refine (combine_any _ _ _ _ _ 6 _ _ _ _ _ _ DD3.out HR.out HR'.out).mono ?_
  rintro ex w4 ⟨r, rfl, E2, s4, d4, R4, g4⟩
  have s4' := g4.size
  have B4 : Hid (Below w.heap.size w w4) := (HA.out _ B3.out).1.trans (sBel g4 (by omega) (by omega))
  have DD4 := Lib.hid d4
  have RR4 := Lib.hid R4
  clear s4 d4 R4 g4
  go_wp2_with fail
  refine (texts_any _ _ _ _ _ _ DD4.out RR4.out).mono ?_
  rintro ex w5 ⟨u, rfl, r5, b5⟩
  have R5 := Lib.hid r5
  have B5 := Lib.hid (belStep B4.out b5)
  have hs4 := B4.out.size
  clear r5 b5
  go_wp2
  go_ret
  exact ⟨_, rfl, by rw [HT.out]; exact R5.out.mono (by omega), B5.out⟩

theorem keep_or : keepF true true true = fun x y => x || y := by funext x y; cases x <;> cases y <;> rfl
theorem keep_and : keepF false true false = fun x y => x && y := by funext x y; cases x <;> cases y <;> rfl
theorem keep_less : keepF true false false = fun x y => x && !y := by funext x y; cases x <;> cases y <;> rfl

set_option maxHeartbeats 1000000 in
theorem iSpaceOr_any (w : World) (v v' : Value) (l l' : List ByteArray) (hl : Strs w w.heap.size v l) (hl' : Strs w w.heap.size v' l') (hs : Fit6 l) (hs' : Fit6 l') :
    Calls Tryz.prog 16 #[v, v'] w fun ex w' => ∃ u, ex = .returned u ∧ StrRow w' w.heap.size u (opR (fun x y => x || y) l l') ∧ Below w.heap.size w w' := by
  rw [← keep_or]
  have HC := Lib.hid (combineSpaces_any w v v' l l' true true true hl hl' hs hs')
  clear hl hl' hs hs'
  go_enter Tryz.func16, Tryz.ntmps16
  go_wp2_with (go_at_call 39; refine HC.out.mono ?_; rintro ex w2 ⟨u, rfl, hh⟩; have HH := Lib.hid hh; clear hh)
  go_ret
  exact ⟨u, rfl, HH.out⟩

set_option maxHeartbeats 1000000 in
theorem iSpaceLess_any (w : World) (v v' : Value) (l l' : List ByteArray) (hl : Strs w w.heap.size v l) (hl' : Strs w w.heap.size v' l') (hs : Fit6 l) (hs' : Fit6 l') :
    Calls Tryz.prog 12 #[v, v'] w fun ex w' => ∃ u, ex = .returned u ∧ StrRow w' w.heap.size u (opR (fun x y => x && !y) l l') ∧ Below w.heap.size w w' := by
  rw [← keep_less]
  have HC := Lib.hid (combineSpaces_any w v v' l l' true false false hl hl' hs hs')
  clear hl hl' hs hs'
  go_enter Tryz.func12, Tryz.ntmps12
  go_wp2_with (go_at_call 39; refine HC.out.mono ?_; rintro ex w2 ⟨u, rfl, hh⟩; have HH := Lib.hid hh; clear hh)
  go_ret
  exact ⟨u, rfl, HH.out⟩

end Go.Proofs.YtehgpehhpijkjaaGreatDoor

namespace Go.Proofs.YtehgpehhpijkjaaGreatDoor
open Go.ChangeShapes Go.WideShapes Go.ChangeAt Go.RowKit Go.Joins
set_option linter.unusedVariables false

/-- A set at a list of bits. -/
def atB : Nat → List Bool → List Bool → Bool
  | 0, m, _ => m.getD 0 false
  | h + 1, m, [] => false
  | h + 1, m, b :: l => atB h (bif b then m.drop (2 ^ h) else m.take (2 ^ h)) l
theorem tab_atB : ∀ (h : Nat) (m : List Bool), m.length = 2 ^ h → tabF h (atB h m) = m
  | 0, m, hl => by
    match m, hl with
    | [x], _ => rfl
  | h + 1, m, hl => by
    have hp : 2 ^ (h + 1) = 2 ^ h + 2 ^ h := by rw [Nat.pow_succ]; omega
    rw [tabF]
    have e0 := tab_atB h (m.take (2 ^ h)) (by simp; omega)
    have e1 := tab_atB h (m.drop (2 ^ h)) (by simp; omega)
    show tabF h (fun l => atB h (m.take (2 ^ h)) l) ++ tabF h (fun l => atB h (m.drop (2 ^ h)) l) = m
    rw [e0, e1, List.take_append_drop]
/-- Signs fit bits. -/
def fitB : List UInt8 → List Bool → Bool
  | x :: xs, b :: l => ((x == 120) || (x == (bif b then 49 else 48))) && fitB xs l
  | _, _ => true
theorem any_cons (c : UInt8) (b : Bool) (l : List Bool) : ∀ L : List (List UInt8), (L.map (fun x => c :: x)).any (fun x => fitB x (b :: l)) = (((c == 120) || (c == (bif b then 49 else 48))) && L.any (fun x => fitB x l))
  | [] => by simp
  | x :: L => by
    rw [List.map_cons, List.any_cons, List.any_cons, any_cons c b l L, fitB]
    cases ((c == 120) || (c == (bif b then 49 else 48))) <;> simp
theorem tidyB_at : ∀ (h : Nat) (m : List Bool) (l : List Bool), m.length = 2 ^ h → l.length = h → (tidyB h m).any (fun x => fitB x l) = atB h m l
  | 0, m, l, hm, hl => by
    match m, l, hm, hl with
    | [true], [], _, _ => rfl
    | [false], [], _, _ => rfl
  | h + 1, m, b :: l, hm, hl => by
    have hp : 2 ^ (h + 1) = 2 ^ h + 2 ^ h := by rw [Nat.pow_succ]; omega
    have i0 := tidyB_at h (m.take (2 ^ h)) l (by simp; omega) (by simpa using hl)
    have i1 := tidyB_at h (m.drop (2 ^ h)) l (by simp; omega) (by simpa using hl)
    rw [tidyB, atB]
    cases he : (m.take (2 ^ h) == m.drop (2 ^ h))
    · rw [cond_false, List.any_append, any_cons, any_cons, i0, i1]
      cases b <;> simp
    · rw [cond_true, any_cons, i0]
      rw [beq_iff_eq] at he
      cases b
      · simp
      · rw [cond_true, ← he]; simp
theorem fit_pos : ∀ (x : UInt8) (b : Bool), (x = 48 ∨ x = 49 ∨ x = 120) → ((b && !(x == 120)) == (x == 49)) = ((x == 120) || (x == (bif b then 49 else 48))) := by
  rintro x b (rfl | rfl | rfl) <;> cases b <;> rfl
theorem hasM_fit {x : List UInt8} {l : List Bool} (hx : x.length = 6) (hl : l.length = 6) (hs : ∀ b ∈ x, b = 48 ∨ b = 49 ∨ b = 120) : hasM (cL x) (vL x) (bitF l) = fitB x l := by
  obtain ⟨a, b, c, d, e, f, rfl⟩ := list6 hx
  obtain ⟨a', b', c', d', e', f', rfl⟩ := list6 hl
  simp only [hasM, all6, cL, vL, bitF, fitB, List.getD_cons_zero, List.getD_cons_succ]
  rw [fit_pos a a' (hs a (by simp)), fit_pos b b' (hs b (by simp)), fit_pos c c' (hs c (by simp)), fit_pos d d' (hs d (by simp)), fit_pos e e' (hs e (by simp)), fit_pos f f' (hs f (by simp))]
  simp
theorem vL_cL (x : List UInt8) (i : Nat) (h : vL x i = true) : cL x i = true := by
  unfold vL cL at *
  rw [beq_iff_eq] at h
  rw [h]; rfl
theorem any_mem {α : Type} {p q : α → Bool} : ∀ {L : List α}, (∀ x ∈ L, p x = q x) → L.any p = L.any q
  | [], _ => rfl
  | x :: L, h => by rw [List.any_cons, List.any_cons, h x (List.mem_cons_self ..), any_mem (fun y hy => h y (List.mem_cons_of_mem _ hy))]
theorem inSp_tidy {m : List Bool} (hm : m.length = 64) {l : List Bool} (hl : l.length = 6) : inSp (tidyT m) l = atB 6 m l := by
  rw [← tidyB_at 6 m l hm hl]
  unfold inSp tidyT
  rw [List.any_map]
  refine any_mem fun x hx => ?_
  have h6 := tidyB_len 6 m x hx
  have hs := tidyB_sgn 6 m x hx
  show hasM (cf (sText x)) (vf (sText x)) (bitF l) = fitB x l
  rw [← txt_L h6 hs, hasM_txt (fun i _ h => vL_cL x i h), hasM_fit h6 hl hs]
theorem spL_tidy {m : List Bool} (hm : m.length = 64) : spL (tidyT m) = m := by
  have := tab_atB 6 m hm
  rw [← this, spL]
  rw [this]
  refine (tabF_congr 6 fun l hl => ?_).trans this
  exact inSp_tidy hm hl
theorem okSp_tidy (m : List Bool) : okSp (tidyT m) = true := by
  simp only [okSp, Bool.and_eq_true, decide_eq_true_eq, List.all_eq_true]
  refine ⟨tidyT_len m, fun s hs => ?_⟩
  obtain ⟨x, hx, rfl⟩ := List.mem_map.1 hs
  exact okS_L (tidyB_len 6 m x hx) (tidyB_sgn 6 m x hx)
theorem fit_tidy (m : List Bool) : Fit6 (tidyT m) := strs_max fun s hs => by
  obtain ⟨x, hx, rfl⟩ := List.mem_map.1 hs
  rw [show (sText x).size = x.length from by simp [sText, ByteArray.size], tidyB_len 6 m x hx]
  omega

/-! ### What is left of a pattern -/

theorem okSp_one (a : ByteArray) : okSp [a] = okS a := by simp [okSp]

/-- One text, as a slice of its own. -/
theorem oneRow (w : World) (a : ByteArray) {base : Nat} (hb : base ≤ w.heap.size) : StrRow (w.alloc (.cells #[.string a] 9)) base (.slice (some ⟨w.heap.size, 0, none⟩) 1 1) [a] :=
  ⟨rfl, .inr ⟨w.heap.size, 1, #[.string a], rfl, hb, newBlockM w _, Nat.le_refl _, by unfold maxLen; omega, rfl, rfl⟩⟩

set_option maxHeartbeats 1000000 in
theorem lxTexts_same (w : World) (base base' : Nat) (v v' : Value) (l : List ByteArray) (h : StrRow w base v l) (h' : StrRow w base' v' l) (hn : l.length ≤ 1048576) :
    Calls Tryz.prog 9 #[v, v'] w fun e w' => e = .returned (.bool true) ∧ Below w.heap.size w w' := by
  rcases h.form with ⟨rfl, rfl⟩ | ⟨g, cap, rfl, hb, hg, hc, hm, hcell, hfr⟩
  · rcases h'.form with ⟨rfl, -⟩ | ⟨g', cap', rfl, -, -, -, -, -, -⟩
    all_goals
      go_enter Tryz.func9, Tryz.ntmps9
      go_wp2
      go_loop [5] (fun i => i = .int .i64 0) (fun i => (intOf i).toNat)
      case atStart => rfl
      case round =>
        subst hrel
        go_wp2
        go_ret
        exact ⟨rfl, Below.refl _ _⟩
  · rcases h'.form with ⟨rfl, rfl⟩ | ⟨g', cap', rfl, hb', hg', hc', hm', hcell', hfr'⟩
    · go_enter Tryz.func9, Tryz.ntmps9
      go_wp2
      go_loop [5] (fun i => i = .int .i64 0) (fun i => (intOf i).toNat)
      case atStart => rfl
      case round =>
        subst hrel
        go_wp2
        go_ret
        exact ⟨rfl, Below.refl _ _⟩
    · have HC := Lib.hid hcell
      have HC' := Lib.hid hcell'
      clear hcell hcell' h h' hfr hfr'
      unfold maxLen at hm hm'
      generalize hN : l.length = n at *
      go_enter Tryz.func9, Tryz.ntmps9
      go_wp2
      go_loopw [5] (fun i wr => ∃ k : Nat, k ≤ n ∧ i = .int .i64 k ∧ Below w.heap.size w wr) (fun i _ => n - (intOf i).toNat)
      case atStart => exact ⟨0, Nat.zero_le _, rfl, Below.refl _ _⟩
      case round =>
        obtain ⟨k, hk, rfl, hbel⟩ := hrel
        by_cases hlt : k < n
        · have hz : (k : Int) < (n : Int) := by omega
          have c1 : wr.cell? ⟨g, k, none⟩ = some (.string (strAt l k)) := (belCell hbel _ _ hg).trans (HC.out k hlt)
          have c2 : wr.cell? ⟨g', k, none⟩ = some (.string (strAt l k)) := (belCell hbel _ _ hg').trans (HC'.out k hlt)
          generalize strAt l k = x at *
          go_wp2_with fail
          go_quiet (fail)
          go_wp2
          go_roundw
          case rel => exact ⟨k + 1, by omega, by go_num, ⟨hbel.os, hbel.tape, hbel.output, hbel.size, hbel.block⟩⟩
          case measure => simp [intOf]; omega
        · obtain rfl : k = n := by omega
          go_wp2
          go_ret
          exact ⟨rfl, hbel⟩

end Go.Proofs.YtehgpehhpijkjaaGreatDoor
