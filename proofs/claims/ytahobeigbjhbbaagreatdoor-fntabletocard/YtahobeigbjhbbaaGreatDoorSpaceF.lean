/-
  Chapter 3, what the program's SpaceTidy, SpaceOr, SpaceAnd, SpaceLess, SpaceMany return.
  Plain facts on chapter 3's canonical lists: they are spaces, and have the heads of their set; what is left of a pattern, as a set.
-/
import Derived.Test.YtahobeigbjhbbaaGreatDoorSpaceV
import Derived.Test.YtahobeigbjhbbaaGreatDoorSpaceImplA
import Derived.Test.YtahobeigbjhbbaaGreatDoorWildF
import Derived.Test.YtahobeigbjhbbaaGreatDoorStrB

namespace Go.Proofs.YtahobeigbjhbbaaGreatDoor
open Go.ChangeShapes Go.WideShapes Go.ChangeAt Go.RowKit Go.Joins
set_option linter.unusedVariables false

def tidyR (l : List ByteArray) : List ByteArray := bif okSp l then tidyT (spL l) else []
def opR (f : Bool → Bool → Bool) (l l' : List ByteArray) : List ByteArray := bif okSp l && okSp l' then tidyT (List.zipWith f (spL l) (spL l')) else []
def manyR (l : List ByteArray) : Int := bif okSp l then sumL6 (tidyB 6 (spL l)) else -1
theorem tidyR_len (l : List ByteArray) : (tidyR l).length ≤ 64 := by
  unfold tidyR
  cases okSp l
  · simp
  · exact tidyT_len _
theorem opR_len (f : Bool → Bool → Bool) (l l' : List ByteArray) : (opR f l l').length ≤ 64 := by
  unfold opR
  cases okSp l && okSp l'
  · simp
  · exact tidyT_len _

set_option maxRecDepth 100000 in
set_option maxHeartbeats 2000000 in
theorem iSpaceMany_any (w : World) (v : Value) (l : List ByteArray) (hl : Strs w w.heap.size v l) (hs : Fit6 l) :
    Calls Tryz.prog 51 #[v] w fun ex w' => ex = .returned (.int .i64 (manyR l)) ∧ Below w.heap.size w w' := by
  have HL := Lib.hid hl
  have HS := Lib.hid hs
  clear hl hs
  go_enter Tryz.func51, Tryz.ntmps51
  go_wp2_with fail
  refine (newDiagram_any _).mono ?_
  rintro ex w2 ⟨b, e, rfl, hb, d2, b2⟩
  have s2 := b2.size
  have B2 := Lib.hid b2
  have HL2 : Hid (Strs w2 w.heap.size v l) := HL.out.below b2 (Nat.le_refl _)
  have DD2 := Lib.hid d2
  clear b2 d2 HL
  go_wp2_with fail
  refine (read_any _ _ _ w.heap.size _ _ _ DD2.out HL2.out (by omega) HS.out).mono ?_
  rintro ex w3 ⟨p, rfl, E1, s3, d3, R3, g3⟩
  have s3' := g3.size
  have B3 : Hid (Below w.heap.size w w3) := B2.out.trans (sBel g3 (by omega) (by omega))
  have DD3 := Lib.hid d3
  have RR3 := Lib.hid R3
  clear s3 d3 R3 g3
  cases hk : okSp l
  · have HT : Hid (manyR l = -1) := by show _ = _; simp [manyR, hk]
    go_wp2
    go_ret
    exact ⟨congrArg (fun x => Ending.returned (Value.int IntKind.i64 x)) HT.out.symm, B3.out⟩
  · have HT : Hid (manyR l = sumL6 (tidyB 6 (spL l))) := by show _ = _; simp [manyR, hk]
    have HR : Hid (Rep E1 e 6 p (spL l)) := by
      have := RR3.out
      rw [setL, hk] at this
      exact this
    go_wp2_with fail
    refine (many_node _ _ _ _ _ _ DD3.out HR.out).mono ?_
    rintro ex w4 ⟨rfl, b4⟩
    have B4 := Lib.hid (belStep B3.out b4)
    clear b4
    go_wp2
    go_ret
    exact ⟨congrArg (fun x => Ending.returned (Value.int IntKind.i64 x)) HT.out.symm, B4.out⟩

theorem keep_or : keepF true true true = fun x y => x || y := by funext x y; cases x <;> cases y <;> rfl
theorem keep_and : keepF false true false = fun x y => x && y := by funext x y; cases x <;> cases y <;> rfl
theorem keep_less : keepF true false false = fun x y => x && !y := by funext x y; cases x <;> cases y <;> rfl

end Go.Proofs.YtahobeigbjhbbaaGreatDoor

namespace Go.Proofs.YtahobeigbjhbbaaGreatDoor
open Go.ChangeShapes Go.WideShapes Go.ChangeAt Go.RowKit Go.Joins
set_option linter.unusedVariables false

/-- A set at a list of bits. -/
def atB : Nat → List Bool → List Bool → Bool
  | 0, m, _ => m.getD 0 false
  | h + 1, m, [] => false
  | h + 1, m, b :: l => atB h (bif b then m.drop (2 ^ h) else m.take (2 ^ h)) l
theorem tab_atB : ∀ (h : Nat) (m : List Bool), m.length = 2 ^ h → tabF h (atB h m) = m
  | 0, m, hl => by
    match m, hl with
    | [x], _ => rfl
  | h + 1, m, hl => by
    have hp : 2 ^ (h + 1) = 2 ^ h + 2 ^ h := by rw [Nat.pow_succ]; omega
    rw [tabF]
    have e0 := tab_atB h (m.take (2 ^ h)) (by simp; omega)
    have e1 := tab_atB h (m.drop (2 ^ h)) (by simp; omega)
    show tabF h (fun l => atB h (m.take (2 ^ h)) l) ++ tabF h (fun l => atB h (m.drop (2 ^ h)) l) = m
    rw [e0, e1, List.take_append_drop]
/-- Signs fit bits. -/
def fitB : List UInt8 → List Bool → Bool
  | x :: xs, b :: l => ((x == 120) || (x == (bif b then 49 else 48))) && fitB xs l
  | _, _ => true
theorem any_cons (c : UInt8) (b : Bool) (l : List Bool) : ∀ L : List (List UInt8), (L.map (fun x => c :: x)).any (fun x => fitB x (b :: l)) = (((c == 120) || (c == (bif b then 49 else 48))) && L.any (fun x => fitB x l))
  | [] => by simp
  | x :: L => by
    rw [List.map_cons, List.any_cons, List.any_cons, any_cons c b l L, fitB]
    cases ((c == 120) || (c == (bif b then 49 else 48))) <;> simp
theorem tidyB_at : ∀ (h : Nat) (m : List Bool) (l : List Bool), m.length = 2 ^ h → l.length = h → (tidyB h m).any (fun x => fitB x l) = atB h m l
  | 0, m, l, hm, hl => by
    match m, l, hm, hl with
    | [true], [], _, _ => rfl
    | [false], [], _, _ => rfl
  | h + 1, m, b :: l, hm, hl => by
    have hp : 2 ^ (h + 1) = 2 ^ h + 2 ^ h := by rw [Nat.pow_succ]; omega
    have i0 := tidyB_at h (m.take (2 ^ h)) l (by simp; omega) (by simpa using hl)
    have i1 := tidyB_at h (m.drop (2 ^ h)) l (by simp; omega) (by simpa using hl)
    rw [tidyB, atB]
    cases he : (m.take (2 ^ h) == m.drop (2 ^ h))
    · rw [cond_false, List.any_append, any_cons, any_cons, i0, i1]
      cases b <;> simp
    · rw [cond_true, any_cons, i0]
      rw [beq_iff_eq] at he
      cases b
      · simp
      · rw [cond_true, ← he]; simp
theorem fit_pos : ∀ (x : UInt8) (b : Bool), (x = 48 ∨ x = 49 ∨ x = 120) → ((b && !(x == 120)) == (x == 49)) = ((x == 120) || (x == (bif b then 49 else 48))) := by
  rintro x b (rfl | rfl | rfl) <;> cases b <;> rfl
theorem hasM_fit {x : List UInt8} {l : List Bool} (hx : x.length = 6) (hl : l.length = 6) (hs : ∀ b ∈ x, b = 48 ∨ b = 49 ∨ b = 120) : hasM (cL x) (vL x) (bitF l) = fitB x l := by
  obtain ⟨a, b, c, d, e, f, rfl⟩ := list6 hx
  obtain ⟨a', b', c', d', e', f', rfl⟩ := list6 hl
  simp only [hasM, all6, cL, vL, bitF, fitB, List.getD_cons_zero, List.getD_cons_succ]
  rw [fit_pos a a' (hs a (by simp)), fit_pos b b' (hs b (by simp)), fit_pos c c' (hs c (by simp)), fit_pos d d' (hs d (by simp)), fit_pos e e' (hs e (by simp)), fit_pos f f' (hs f (by simp))]
  simp
theorem vL_cL (x : List UInt8) (i : Nat) (h : vL x i = true) : cL x i = true := by
  unfold vL cL at *
  rw [beq_iff_eq] at h
  rw [h]; rfl
theorem any_mem {α : Type} {p q : α → Bool} : ∀ {L : List α}, (∀ x ∈ L, p x = q x) → L.any p = L.any q
  | [], _ => rfl
  | x :: L, h => by rw [List.any_cons, List.any_cons, h x (List.mem_cons_self ..), any_mem (fun y hy => h y (List.mem_cons_of_mem _ hy))]
theorem inSp_tidy {m : List Bool} (hm : m.length = 64) {l : List Bool} (hl : l.length = 6) : inSp (tidyT m) l = atB 6 m l := by
  rw [← tidyB_at 6 m l hm hl]
  unfold inSp tidyT
  rw [List.any_map]
  refine any_mem fun x hx => ?_
  have h6 := tidyB_len 6 m x hx
  have hs := tidyB_sgn 6 m x hx
  show hasM (cf (sText x)) (vf (sText x)) (bitF l) = fitB x l
  rw [← txt_L h6 hs, hasM_txt (fun i _ h => vL_cL x i h), hasM_fit h6 hl hs]
theorem spL_tidy {m : List Bool} (hm : m.length = 64) : spL (tidyT m) = m := by
  have := tab_atB 6 m hm
  rw [← this, spL]
  rw [this]
  refine (tabF_congr 6 fun l hl => ?_).trans this
  exact inSp_tidy hm hl
theorem okSp_tidy (m : List Bool) : okSp (tidyT m) = true := by
  simp only [okSp, Bool.and_eq_true, decide_eq_true_eq, List.all_eq_true]
  refine ⟨tidyT_len m, fun s hs => ?_⟩
  obtain ⟨x, hx, rfl⟩ := List.mem_map.1 hs
  exact okS_L (tidyB_len 6 m x hx) (tidyB_sgn 6 m x hx)
theorem fit_tidy (m : List Bool) : Fit6 (tidyT m) := strs_max fun s hs => by
  obtain ⟨x, hx, rfl⟩ := List.mem_map.1 hs
  rw [show (sText x).size = x.length from by simp [sText, ByteArray.size], tidyB_len 6 m x hx]
  omega

/-! ### What is left of a pattern -/

theorem okSp_one (a : ByteArray) : okSp [a] = okS a := by simp [okSp]

/-- One text, as a slice of its own. -/
theorem oneRow (w : World) (a : ByteArray) {base : Nat} (hb : base ≤ w.heap.size) : StrRow (w.alloc (.cells #[.string a] 9)) base (.slice (some ⟨w.heap.size, 0, none⟩) 1 1) [a] :=
  ⟨rfl, .inr ⟨w.heap.size, 1, #[.string a], rfl, hb, newBlockM w _, Nat.le_refl _, by unfold maxLen; omega, rfl, rfl⟩⟩

set_option maxHeartbeats 1000000 in
theorem lxTexts_same (w : World) (base base' : Nat) (v v' : Value) (l : List ByteArray) (h : StrRow w base v l) (h' : StrRow w base' v' l) (hn : l.length ≤ 1048576) :
    Calls Tryz.prog 50 #[v, v'] w fun e w' => e = .returned (.bool true) ∧ Below w.heap.size w w' := by
  rcases h.form with ⟨rfl, rfl⟩ | ⟨g, cap, rfl, hb, hg, hc, hm, hcell, hfr⟩
  · rcases h'.form with ⟨rfl, -⟩ | ⟨g', cap', rfl, -, -, -, -, -, -⟩
    all_goals
      go_enter Tryz.func50, Tryz.ntmps50
      go_wp2
      go_loop [5] (fun i => i = .int .i64 0) (fun i => (intOf i).toNat)
      case atStart => rfl
      case round =>
        subst hrel
        go_wp2
        go_ret
        exact ⟨rfl, Below.refl _ _⟩
  · rcases h'.form with ⟨rfl, rfl⟩ | ⟨g', cap', rfl, hb', hg', hc', hm', hcell', hfr'⟩
    · go_enter Tryz.func50, Tryz.ntmps50
      go_wp2
      go_loop [5] (fun i => i = .int .i64 0) (fun i => (intOf i).toNat)
      case atStart => rfl
      case round =>
        subst hrel
        go_wp2
        go_ret
        exact ⟨rfl, Below.refl _ _⟩
    · have HC := Lib.hid hcell
      have HC' := Lib.hid hcell'
      clear hcell hcell' h h' hfr hfr'
      unfold maxLen at hm hm'
      generalize hN : l.length = n at *
      go_enter Tryz.func50, Tryz.ntmps50
      go_wp2
      go_loopw [5] (fun i wr => ∃ k : Nat, k ≤ n ∧ i = .int .i64 k ∧ Below w.heap.size w wr) (fun i _ => n - (intOf i).toNat)
      case atStart => exact ⟨0, Nat.zero_le _, rfl, Below.refl _ _⟩
      case round =>
        obtain ⟨k, hk, rfl, hbel⟩ := hrel
        by_cases hlt : k < n
        · have hz : (k : Int) < (n : Int) := by omega
          have c1 : wr.cell? ⟨g, k, none⟩ = some (.string (strAt l k)) := (belCell hbel _ _ hg).trans (HC.out k hlt)
          have c2 : wr.cell? ⟨g', k, none⟩ = some (.string (strAt l k)) := (belCell hbel _ _ hg').trans (HC'.out k hlt)
          generalize strAt l k = x at *
          go_wp2_with fail
          go_quiet (fail)
          go_wp2
          go_roundw
          case rel => exact ⟨k + 1, by omega, by go_num, ⟨hbel.os, hbel.tape, hbel.output, hbel.size, hbel.block⟩⟩
          case measure => simp [intOf]; omega
        · obtain rfl : k = n := by omega
          go_wp2
          go_ret
          exact ⟨rfl, hbel⟩

end Go.Proofs.YtahobeigbjhbbaaGreatDoor
