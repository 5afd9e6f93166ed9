/-
  Spaces: plain facts.
-/
import Derived.Test.YtndmedkkecikoaaSpaceIB
import Derived.Test.YtndmedkkecikoaaWildF
import Derived.Test.YtndmedkkecikoaaStrB

namespace Go.Proofs.Ytndmedkkecikoaa
open Go.ChangeShapes Go.WideShapes Go.ChangeAt Go.RowKit Go.Joins
set_option linter.unusedVariables false

/-- A set at a list of bits. -/
def atB : Nat → List Bool → List Bool → Bool
  | 0, m, _ => m.getD 0 false
  | h + 1, m, [] => false
  | h + 1, m, b :: l => atB h (bif b then m.drop (2 ^ h) else m.take (2 ^ h)) l
theorem tab_atB : ∀ (h : Nat) (m : List Bool), m.length = 2 ^ h → tabF h (atB h m) = m
  | 0, m, hl => by
    match m, hl with
    | [x], _ => rfl
  | h + 1, m, hl => by
    have hp : 2 ^ (h + 1) = 2 ^ h + 2 ^ h := by rw [Nat.pow_succ]; omega
    rw [tabF]
    have e0 := tab_atB h (m.take (2 ^ h)) (by simp; omega)
    have e1 := tab_atB h (m.drop (2 ^ h)) (by simp; omega)
    show tabF h (fun l => atB h (m.take (2 ^ h)) l) ++ tabF h (fun l => atB h (m.drop (2 ^ h)) l) = m
    rw [e0, e1, List.take_append_drop]
/-- Signs fit bits. -/
def fitB : List UInt8 → List Bool → Bool
  | x :: xs, b :: l => ((x == 120) || (x == (bif b then 49 else 48))) && fitB xs l
  | _, _ => true
theorem any_cons (c : UInt8) (b : Bool) (l : List Bool) : ∀ L : List (List UInt8), (L.map (fun x => c :: x)).any (fun x => fitB x (b :: l)) = (((c == 120) || (c == (bif b then 49 else 48))) && L.any (fun x => fitB x l))
  | [] => by simp
  | x :: L => by
    rw [List.map_cons, List.any_cons, List.any_cons, any_cons c b l L, fitB]
    cases ((c == 120) || (c == (bif b then 49 else 48))) <;> simp
theorem tidyB_at : ∀ (h : Nat) (m : List Bool) (l : List Bool), m.length = 2 ^ h → l.length = h → (tidyB h m).any (fun x => fitB x l) = atB h m l
  | 0, m, l, hm, hl => by
    match m, l, hm, hl with
    | [true], [], _, _ => rfl
    | [false], [], _, _ => rfl
  | h + 1, m, b :: l, hm, hl => by
    have hp : 2 ^ (h + 1) = 2 ^ h + 2 ^ h := by rw [Nat.pow_succ]; omega
    have i0 := tidyB_at h (m.take (2 ^ h)) l (by simp; omega) (by simpa using hl)
    have i1 := tidyB_at h (m.drop (2 ^ h)) l (by simp; omega) (by simpa using hl)
    rw [tidyB, atB]
    cases he : (m.take (2 ^ h) == m.drop (2 ^ h))
    · rw [cond_false, List.any_append, any_cons, any_cons, i0, i1]
      cases b <;> simp
    · rw [cond_true, any_cons, i0]
      rw [beq_iff_eq] at he
      cases b
      · simp
      · rw [cond_true, ← he]; simp
theorem fit_pos : ∀ (x : UInt8) (b : Bool), (x = 48 ∨ x = 49 ∨ x = 120) → ((b && !(x == 120)) == (x == 49)) = ((x == 120) || (x == (bif b then 49 else 48))) := by
  rintro x b (rfl | rfl | rfl) <;> cases b <;> rfl
theorem hasM_fit {x : List UInt8} {l : List Bool} (hx : x.length = 6) (hl : l.length = 6) (hs : ∀ b ∈ x, b = 48 ∨ b = 49 ∨ b = 120) : hasM (cL x) (vL x) (bitF l) = fitB x l := by
  obtain ⟨a, b, c, d, e, f, rfl⟩ := list6 hx
  obtain ⟨a', b', c', d', e', f', rfl⟩ := list6 hl
  simp only [hasM, all6, cL, vL, bitF, fitB, List.getD_cons_zero, List.getD_cons_succ]
  rw [fit_pos a a' (hs a (by simp)), fit_pos b b' (hs b (by simp)), fit_pos c c' (hs c (by simp)), fit_pos d d' (hs d (by simp)), fit_pos e e' (hs e (by simp)), fit_pos f f' (hs f (by simp))]
  simp
theorem vL_cL (x : List UInt8) (i : Nat) (h : vL x i = true) : cL x i = true := by
  unfold vL cL at *
  rw [beq_iff_eq] at h
  rw [h]; rfl
theorem any_mem {α : Type} {p q : α → Bool} : ∀ {L : List α}, (∀ x ∈ L, p x = q x) → L.any p = L.any q
  | [], _ => rfl
  | x :: L, h => by rw [List.any_cons, List.any_cons, h x (List.mem_cons_self ..), any_mem (fun y hy => h y (List.mem_cons_of_mem _ hy))]
theorem inSp_tidy {m : List Bool} (hm : m.length = 64) {l : List Bool} (hl : l.length = 6) : inSp (tidyT m) l = atB 6 m l := by
  rw [← tidyB_at 6 m l hm hl]
  unfold inSp tidyT
  rw [List.any_map]
  refine any_mem fun x hx => ?_
  have h6 := tidyB_len 6 m x hx
  have hs := tidyB_sgn 6 m x hx
  show hasM (cf (sText x)) (vf (sText x)) (bitF l) = fitB x l
  rw [← txt_L h6 hs, hasM_txt (fun i _ h => vL_cL x i h), hasM_fit h6 hl hs]
theorem spL_tidy {m : List Bool} (hm : m.length = 64) : spL (tidyT m) = m := by
  have := tab_atB 6 m hm
  rw [← this, spL]
  rw [this]
  refine (tabF_congr 6 fun l hl => ?_).trans this
  exact inSp_tidy hm hl
theorem okSp_tidy (m : List Bool) : okSp (tidyT m) = true := by
  simp only [okSp, Bool.and_eq_true, decide_eq_true_eq, List.all_eq_true]
  refine ⟨tidyT_len m, fun s hs => ?_⟩
  obtain ⟨x, hx, rfl⟩ := List.mem_map.1 hs
  exact okS_L (tidyB_len 6 m x hx) (tidyB_sgn 6 m x hx)
theorem fit_tidy (m : List Bool) : Fit6 (tidyT m) := strs_max fun s hs => by
  obtain ⟨x, hx, rfl⟩ := List.mem_map.1 hs
  rw [show (sText x).size = x.length from by simp [sText, ByteArray.size], tidyB_len 6 m x hx]
  omega

/-! ### What is left of a pattern -/

-- 44
theorem lessL_ok {a b : ByteArray} (ha : okS a = true) : ∀ s ∈ lessL a b, okS s = true := by
  intro s hs
  unfold lessL at hs
  cases hb : okS b
  · rw [ha, hb] at hs
    simp at hs
  · rw [ha, hb] at hs
    cases hm : meetS a b <;> rw [hm] at hs
    · simp at hs
      rw [hs]; exact ha
    · simp only [Bool.and_self, cond_true, textsOf, List.mem_map] at hs
      obtain ⟨p, _, rfl⟩ := hs
      exact okS_txt _ _
theorem any_cnt (f : Nat → Bool) : ∀ l : List ByteArray, (∀ s ∈ l, okS s = true) → (l.any fun s => hasM (cf s) (vf s) f) = decide (cntL l f ≠ 0)
  | [], _ => by simp [cntL]
  | s :: l, h => by
    have ih := any_cnt f l (fun x hx => h x (List.mem_cons_of_mem _ hx))
    have e : cntL (s :: l) f = (hasM (cf s) (vf s) f).toNat + cntL l f := by simp [cntL, h s (List.mem_cons_self ..)]
    rw [List.any_cons, ih, e]
    cases hasM (cf s) (vf s) f <;> simp
theorem spL_less {a b : ByteArray} (ha : okS a = true) (hb : okS b = true) : spL (lessL a b) = List.zipWith (fun x y => x && !y) (spL [a]) (spL [b]) := by
  rw [spL, spL, spL, tabF_zip]
  refine tabF_congr 6 fun l _ => ?_
  unfold inSp
  rw [any_cnt _ _ (lessL_ok ha), less_count ha hb]
  simp only [List.any_cons, List.any_nil, Bool.or_false]
  cases hasM (cf a) (vf a) (bitF l) <;> cases hasM (cf b) (vf b) (bitF l) <;> rfl
theorem okSp_less {a b : ByteArray} (ha : okS a = true) : okSp (lessL a b) = true := by
  simp only [okSp, Bool.and_eq_true, decide_eq_true_eq, List.all_eq_true]
  exact ⟨Nat.le_trans (lessL_len a b) (by omega), lessL_ok ha⟩

theorem okSp_one (a : ByteArray) : okSp [a] = okS a := by simp [okSp]

/-- One text, as a slice of its own. -/
theorem oneRow (w : World) (a : ByteArray) {base : Nat} (hb : base ≤ w.heap.size) : StrRow (w.alloc (.cells #[.string a] 9)) base (.slice (some ⟨w.heap.size, 0, none⟩) 1 1) [a] :=
  ⟨rfl, .inr ⟨w.heap.size, 1, #[.string a], rfl, hb, newBlockM w _, Nat.le_refl _, by unfold maxLen; omega, rfl, rfl⟩⟩

set_option maxHeartbeats 1000000 in
theorem lxTexts_same (w : World) (base base' : Nat) (v v' : Value) (l : List ByteArray) (h : StrRow w base v l) (h' : StrRow w base' v' l) (hn : l.length ≤ 1048576) :
    Calls Try.prog 23 #[v, v'] w fun e w' => e = .returned (.bool true) ∧ Below w.heap.size w w' := by
  rcases h.form with ⟨rfl, rfl⟩ | ⟨g, cap, rfl, hb, hg, hc, hm, hcell, hfr⟩
  · rcases h'.form with ⟨rfl, -⟩ | ⟨g', cap', rfl, -, -, -, -, -, -⟩
    all_goals
      go_enter Try.func23, Try.ntmps23
      go_wp2
      go_loop [5] (fun i => i = .int .i64 0) (fun i => (intOf i).toNat)
      case atStart => rfl
      case round =>
        subst hrel
        go_wp2
        go_ret
        exact ⟨rfl, Below.refl _ _⟩
  · rcases h'.form with ⟨rfl, rfl⟩ | ⟨g', cap', rfl, hb', hg', hc', hm', hcell', hfr'⟩
    · go_enter Try.func23, Try.ntmps23
      go_wp2
      go_loop [5] (fun i => i = .int .i64 0) (fun i => (intOf i).toNat)
      case atStart => rfl
      case round =>
        subst hrel
        go_wp2
        go_ret
        exact ⟨rfl, Below.refl _ _⟩
    · have HC := Lib.hid hcell
      have HC' := Lib.hid hcell'
      clear hcell hcell' h h' hfr hfr'
      unfold maxLen at hm hm'
      generalize hN : l.length = n at *
      go_enter Try.func23, Try.ntmps23
      go_wp2
      go_loopw [5] (fun i wr => ∃ k : Nat, k ≤ n ∧ i = .int .i64 k ∧ Below w.heap.size w wr) (fun i _ => n - (intOf i).toNat)
      case atStart => exact ⟨0, Nat.zero_le _, rfl, Below.refl _ _⟩
      case round =>
        obtain ⟨k, hk, rfl, hbel⟩ := hrel
        by_cases hlt : k < n
        · have hz : (k : Int) < (n : Int) := by omega
          have c1 : wr.cell? ⟨g, k, none⟩ = some (.string (strAt l k)) := (belCell hbel _ _ hg).trans (HC.out k hlt)
          have c2 : wr.cell? ⟨g', k, none⟩ = some (.string (strAt l k)) := (belCell hbel _ _ hg').trans (HC'.out k hlt)
          generalize strAt l k = x at *
          go_wp2_with fail
          go_quiet (fail)
          go_wp2
          go_roundw
          case rel => exact ⟨k + 1, by omega, by go_num, ⟨hbel.os, hbel.tape, hbel.output, hbel.size, hbel.block⟩⟩
          case measure => simp [intOf]; omega
        · obtain rfl : k = n := by omega
          go_wp2
          go_ret
          exact ⟨rfl, hbel⟩

end Go.Proofs.Ytndmedkkecikoaa
