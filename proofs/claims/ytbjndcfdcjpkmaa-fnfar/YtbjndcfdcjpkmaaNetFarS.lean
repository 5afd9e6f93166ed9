/-
  Nets, the model: how far switches are.
-/
import Derived.Test.YtbjndcfdcjpkmaaNetDist
import Derived.Test.YtbjndcfdcjpkmaaNetPeerW
namespace Go.Proofs.Ytbjndcfdcjpkmaa
open Go.ChangeShapes Go.WideShapes Go.ChangeAt Go.RowKit Go.Joins
set_option linter.unusedVariables false

/-- Five numbers as cells. -/
def faA (D : Nat → Int) : Array Value := #[.int .i64 (D 0), .int .i64 (D 1), .int .i64 (D 2), .int .i64 (D 3), .int .i64 (D 4)]
theorem faA_at (D : Nat → Int) {i : Nat} (h : i < 5) : (faA D)[i]? = some (.int .i64 (D i)) := by
  have : i = 0 ∨ i = 1 ∨ i = 2 ∨ i = 3 ∨ i = 4 := by omega
  rcases this with rfl | rfl | rfl | rfl | rfl <;> rfl
theorem faA_set (D : Nat → Int) {i : Nat} (x : Int) (h : i < 5) : (faA D).setIfInBounds i (.int .i64 x) = faA (upd D i x) := by
  have : i = 0 ∨ i = 1 ∨ i = 2 ∨ i = 3 ∨ i = 4 := by omega
  rcases this with rfl | rfl | rfl | rfl | rfl <;> rfl
/-- A block holds the five numbers. -/
def Fb (t : TypeId) (w : World) (g : Nat) (D : Nat → Int) : Prop := w.heap[g]? = some (.cells (faA D) t)
theorem Fb.cell {t : TypeId} {w : World} {g : Nat} {D : Nat → Int} (h : Fb t w g D) {i : Nat} (hi : i < 5) : w.cell? ⟨g, i, none⟩ = some (.int .i64 (D i)) := by
  rw [cell_of_row w g i _ _ _ h, faA_at D hi]
theorem Fb.frozen {t : TypeId} {w : World} {g : Nat} {D : Nat → Int} (h : Fb t w g D) (i : Nat) : w.frozen? ⟨g, i, none⟩ = false := by simp [World.frozen?, show w.heap[g]? = _ from h]
theorem Fb.below {t : TypeId} {w w' : World} {n g : Nat} {D : Nat → Int} (h : Fb t w g D) (hb : Below n w w') (hn : g < n) : Fb t w' g D := (hb.block g hn).trans h
theorem Fb.lt {t : TypeId} {w : World} {g : Nat} {D : Nat → Int} (h : Fb t w g D) : g < w.heap.size := (Array.getElem?_eq_some_iff.1 h).1
theorem Fb.put {t : TypeId} {w : World} {g i : Nat} {D : Nat → Int} (h : Fb t w g D) (x : Int) (hi : i < 5) : Fb t (w.setCell ⟨g, i, none⟩ (.int .i64 x)) g (upd D i x) := by
  unfold Fb
  rw [← faA_set D x hi]
  exact block_setCell h _

def farN (l : List K4) (c : Nat) : Nat → Nat → Int
  | 0 => dist0 c
  | r + 1 => rnd l (r : Int) (farN l c r)
theorem farN_four (l : List K4) (c : Nat) : farN l c 4 = farS l c := rfl
theorem lkR_drop {l : List K4} {k : Nat} (h : k < l.length) (r : Int) (D : Nat → Int) : (l.drop k).foldl (lkR r) D = (l.drop (k + 1)).foldl (lkR r) (lkR r D (lkAt l k)) := by
  rw [List.drop_eq_getElem_cons h, lkAt_lt h]
  rfl
theorem dist0_cells (c : Nat) (hc : c < 5) : (faA (fun _ => -1)).setIfInBounds c (.int .i64 0) = faA (dist0 c) := faA_set _ 0 hc

set_option maxRecDepth 100000 in
set_option maxHeartbeats 4000000 in
theorem l21Far_any (w : World) (v : Value) (l : List K4) (c : Nat) (h : Lks w w.heap.size v l) (hall : ∀ k ∈ l, lkOk k = true) (hc4 : c ≤ 4) :
    Calls Try.prog 44 #[v, .int .i64 (c : Int)] w fun e w' => e = .returned (.slice (some ⟨w.heap.size, 0, none⟩) 5 5) ∧ Fb 3 w' w.heap.size (farS l c) ∧ Below w.heap.size w w' := by
  obtain ⟨a, cap, rfl, hc, hm, hh⟩ := h
  have HH := Lib.hid hh
  have HALL := Lib.hid hall
  clear hh hall
  unfold maxLen at hm
  generalize hN : l.length = n at *
  have hF0 : Fb 3 (w.alloc (.cells #[.int .i64 (-1), .int .i64 (-1), .int .i64 (-1), .int .i64 (-1), .int .i64 (-1)] 3)) w.heap.size (fun _ => -1) := heap_alloc_last w _
  have HF1 : Hid (Fb 3 (w.alloc (.cells ([Value.int .i64 (-1), .int .i64 (-1), .int .i64 (-1), .int .i64 (-1), .int .i64 (-1)].set c (.int .i64 0)).toArray 3)) w.heap.size (farN l c 0)) := by
    have e : ([Value.int .i64 (-1), .int .i64 (-1), .int .i64 (-1), .int .i64 (-1), .int .i64 (-1)].set c (.int .i64 0)).toArray = faA (dist0 c) := by
      have : c = 0 ∨ c = 1 ∨ c = 2 ∨ c = 3 ∨ c = 4 := by omega
      rcases this with rfl | rfl | rfl | rfl | rfl <;> rfl
    show Fb _ _ _ _
    unfold Fb
    rw [heap_alloc_last, e]
    rfl
  have HB1 := Lib.hid (below_alloc1 w (.cells ([Value.int .i64 (-1), .int .i64 (-1), .int .i64 (-1), .int .i64 (-1), .int .i64 (-1)].set c (.int .i64 0)).toArray 3))
  have hcc := hF0.cell (i := c) (by omega)
  have hff := hF0.frozen
  have i1 : (c : Int) < 5 := by omega
  clear hF0
  go_enter Try.func44, Try.ntmps44
  go_wp2_with fail
  clear hcc hff
  generalize (w.alloc (.cells ([Value.int .i64 (-1), .int .i64 (-1), .int .i64 (-1), .int .i64 (-1), .int .i64 (-1)].set c (.int .i64 0)).toArray 3)) = W0 at *
  go_loopw [6] (fun i wr => ∃ r : Nat, r ≤ 4 ∧ i = .int .i64 r ∧ Fb 3 wr w.heap.size (farN l c r) ∧ Below w.heap.size w wr) (fun i _ => 4 - (intOf i).toNat)
  case atStart => exact ⟨0, by omega, rfl, HF1.out, HB1.out⟩
  case round =>
    obtain ⟨r, hr4, rfl, hfb, hbel⟩ := hrel
    have HFR := Lib.hid hfb
    have HBR := Lib.hid hbel
    clear hfb hbel
    by_cases hltr : r < 4
    · have hrz : (r : Int) < 4 := by omega
      have hrr : ((r : Int) + 1 == (r : Int)) = false := by simp; omega
      have hr1 : ¬ ((r : Int) + 1 < 0) := by omega
      go_wp2_with fail
      go_loopw [7] (fun i wr => ∃ (k : Nat) (D : Nat → Int), k ≤ n ∧ i = .int .i64 k ∧ Fb 3 wr w.heap.size D ∧ (l.drop k).foldl (lkR (r : Int)) D = farN l c (r + 1) ∧ Below w.heap.size w wr) (fun i _ => n - (intOf i).toNat)
      case atStart => exact ⟨0, farN l c r, Nat.zero_le _, rfl, HFR.out, rfl, HBR.out⟩
      case round =>
        obtain ⟨k, D, hk, rfl, hfb, hfold, hbel⟩ := hrel
        have HFD := Lib.hid hfb
        have HBD := Lib.hid hbel
        by_cases hlt : k < n
        · have hkz : (k : Int) < (n : Int) := by omega
          rcases HH.out with h1 | ⟨b, off, rfl, hb, hcell⟩
          · rw [h1] at hN; simp at hN; omega
          obtain ⟨c0, c1, c2, c3⟩ := (hcell k hlt).below hbel hb
          rw [lkR_drop (by omega)] at hfold
          have hlk : lkOk (lkAt l k) = true := HALL.out _ (by rw [lkAt_lt (by omega)]; exact List.getElem_mem _)
          generalize lkAt l k = x at *
          obtain ⟨⟨p1, p4⟩, ⟨o1, o4⟩, hne, -, -⟩ := lkOk_parts hlk
          obtain ⟨A, B, C, E⟩ := x
          dsimp only at c0 c1 c2 c3 p1 p4 o1 o4 hne
          obtain ⟨p, rfl⟩ : ∃ p : Nat, A = (p : Int) := ⟨A.toNat, by omega⟩
          obtain ⟨o, rfl⟩ : ∃ o : Nat, C = (o : Int) := ⟨C.toNat, by omega⟩
          have hne' : p ≠ o := fun e => hne (by rw [e])
          have d0 := hfb.cell (i := p) (by omega)
          have d1 := hfb.cell (i := o) (by omega)
          have df := hfb.frozen
          have ip : (p : Int) < 5 := by omega
          have io : (o : Int) < 5 := by omega
          have jp : (0 : Int) ≤ (p : Int) := by omega
          have jo : (0 : Int) ≤ (o : Int) := by omega
          have HFO := Lib.hid hfold
          have HPUT : Hid (∀ i : Nat, i < 5 → Fb 3 (wr.setCell ⟨w.heap.size, i, none⟩ (.int .i64 ((r : Int) + 1))) w.heap.size (upd D i ((r : Int) + 1)) ∧ Below w.heap.size w (wr.setCell ⟨w.heap.size, i, none⟩ (.int .i64 ((r : Int) + 1)))) := fun i hi => ⟨HFD.out.put _ hi, HBD.out.setCell (Nat.le_refl _) _⟩
          have HLK : Hid (lkR (r : Int) D ⟨(p : Int), B, (o : Int), E⟩ = lk1 (r : Int) (lk1 (r : Int) D p o) o p) := by show _ = _; simp [lkR]
          rw [HLK.out] at HFO
          clear hfb hbel hcell hfold hlk hne p1 p4 o1 o4 HLK
          by_cases q1 : D p = (r : Int) ∧ D o < 0
          · have HD1 : Hid (lk1 (r : Int) (lk1 (r : Int) D p o) o p = upd D o ((r : Int) + 1)) := by
              show _ = _
              rw [show lk1 (r : Int) D p o = upd D o ((r : Int) + 1) from by simp [lk1, q1]]
              have : upd D o ((r : Int) + 1) o = (r : Int) + 1 := by simp [upd]
              unfold lk1
              rw [if_neg (fun x => by rw [this] at x; omega)]
            rw [HD1.out] at HFO
            have HP := Lib.hid (HPUT.out o (by omega))
            have e1 : (D p == (r : Int)) = true := by simp [q1.1]
            have e2 := q1.2
            clear HPUT HD1 q1
            generalize D p = dp at *
            generalize D o = dq at *
            go_wp2
            go_roundw
            case rel => exact ⟨k + 1, _, by omega, by go_num, HP.out.1, HFO.out, HP.out.2⟩
            case measure => simp [intOf]; omega
          · have HD1 : Hid (lk1 (r : Int) D p o = D) := by show _ = _; unfold lk1; rw [if_neg q1]
            rw [HD1.out] at HFO
            have hq1 : (D p == (r : Int)) = false ∨ ((D p == (r : Int)) = true ∧ ¬ D o < 0) := by
              by_cases x : D p = (r : Int)
              · exact .inr ⟨by simp [x], fun y => q1 ⟨x, y⟩⟩
              · exact .inl (by simpa using x)
            by_cases q2 : D o = (r : Int) ∧ D p < 0
            · have HD2 : Hid (lk1 (r : Int) D o p = upd D p ((r : Int) + 1)) := by show _ = _; unfold lk1; rw [if_pos q2]
              rw [HD2.out] at HFO
              have HP := Lib.hid (HPUT.out p (by omega))
              have e1 : (D o == (r : Int)) = true := by simp [q2.1]
              have e2 := q2.2
              have e3 : (D p == (r : Int)) = false := by simp; omega
              clear HPUT HD1 HD2 q1 q2 hq1
              generalize D p = dp at *
              generalize D o = dq at *
              go_wp2
              go_roundw
              case rel => exact ⟨k + 1, _, by omega, by go_num, HP.out.1, HFO.out, HP.out.2⟩
              case measure => simp [intOf]; omega
            · have HD2 : Hid (lk1 (r : Int) D o p = D) := by show _ = _; unfold lk1; rw [if_neg q2]
              rw [HD2.out] at HFO
              have hq2 : (D o == (r : Int)) = false ∨ ((D o == (r : Int)) = true ∧ ¬ D p < 0) := by
                by_cases x : D o = (r : Int)
                · exact .inr ⟨by simp [x], fun y => q2 ⟨x, y⟩⟩
                · exact .inl (by simpa using x)
              have HFK := Lib.hid HFD.out
              clear HPUT HD1 HD2 q1 q2
              have HE : Hid (∃ k' : Nat, ∃ D' : Nat → Int, k' = k + 1 ∧ Fb 3 wr w.heap.size D' ∧ (l.drop (k + 1)).foldl (lkR (r : Int)) D' = farN l c (r + 1)) := ⟨k + 1, D, rfl, HFK.out, HFO.out⟩
              clear HFO HFD HFK
              generalize D p = dp at *
              generalize D o = dq at *
              rcases hq1 with f1 | ⟨f1, f2⟩ <;> rcases hq2 with g1 | ⟨g1, g2⟩
              all_goals
                go_wp2
                go_roundw
                case rel =>
                  obtain ⟨k', D', hk', hfb', hfo'⟩ := HE.out
                  exact ⟨k + 1, D', by omega, by go_num, hfb', hfo', HBD.out⟩
                case measure => simp [intOf]; omega
        · obtain rfl : k = n := by omega
          rw [List.drop_eq_nil_of_le (by omega)] at hfold
          have hfold' : D = farN l c (r + 1) := hfold
          have HFN : Hid (Fb 3 wr w.heap.size (farN l c (r + 1))) := by rw [← hfold']; exact HFD.out
          clear hfb hbel hfold hfold'
          go_wp2
          go_roundw
          case rel => exact ⟨r + 1, by omega, by go_num, HFN.out, HBD.out⟩
          case measure => simp [intOf]; omega
    · obtain rfl : r = 4 := by omega
      go_wp2
      go_ret
      exact ⟨rfl, HFR.out, HBR.out⟩

end Go.Proofs.Ytbjndcfdcjpkmaa
