/-
  TableSame, the model's and the program's: two tables make the same of each head.
-/
import Derived.Test.YtmfgiemhonfapaaGreatDoorTabDoS
import Derived.Test.YtmfgiemhonfapaaGreatDoorHeadB
namespace Go.Proofs.YtmfgiemhonfapaaGreatDoor
open Go.ChangeShapes Go.WideShapes Go.ChangeAt Go.RowKit Go.Joins
set_option linter.unusedVariables false

/-- What comes of the head of a number. -/
def doN (l : List R4) (n : Nat) : (Int × Int × Int) × Int := doI ((n : Int) / 16) ((n : Int) / 4 % 4) ((n : Int) % 4) l
def agreeB (l m : List R4) (n : Nat) : Bool := decide ((doN l n).2 = (doN m n).2) && (decide ((doN l n).2 = 0) || decide ((doN l n).1 = (doN m n).1))
def sameT (l m : List R4) : Bool := tOk l && (tOk m && (List.range 64).all (agreeB l m))
theorem sameT_yes {l m : List R4} (h : tOk l = true) (h' : tOk m = true) (k : ∀ n, n < 64 → agreeB l m n = true) : sameT l m = true := by
  unfold sameT
  rw [h, h', Bool.true_and, Bool.true_and, List.all_eq_true]
  exact fun n hn => k n (List.mem_range.1 hn)
theorem sameT_no {l m : List R4} {n : Nat} (hn : n < 64) (k : agreeB l m n = false) : sameT l m = false := by
  unfold sameT
  have : (List.range 64).all (agreeB l m) = false := by
    rw [List.all_eq_false]
    exact ⟨n, List.mem_range.2 hn, by rw [k]; decide⟩
  rw [this]
  simp
theorem okB_num (n : Nat) (hn : n < 64) : okB ((n : Int) / 16) ((n : Int) / 4 % 4) ((n : Int) % 4) = true := by
  unfold okB
  rw [fldB_mk (by omega) (by omega), fldB_mk (by omega) (by omega), fldB_mk (by omega) (by omega)]
  rfl
theorem doI_port {a b c : Int} {l : List R4} (hok : ∀ i, i < l.length → okR (ruAt l i) = true) : 0 ≤ (doI a b c l).2 := by
  rcases atI_find (a := a) (b := b) (c := c) (l := l) with ⟨-, -, h⟩ | ⟨i, hi, -, -, h⟩
  · rw [h]; exact Int.le_refl _
  · rw [h]; exact (rOk_true (hok i hi)).2.2.1.1

set_option maxRecDepth 100000 in
set_option maxHeartbeats 4000000 in
theorem sTableSame_any (w : World) (v v' : Value) (l m : List R4) (h : Rls w w.heap.size v l) (h' : Rls w w.heap.size v' m) (hn : l.length ≤ 1048576) (hn' : m.length ≤ 1048576) :
    Calls Tryz.prog 23 #[v, v'] w fun e w' => e = .returned (.bool (sameT l m)) ∧ Below w.heap.size w w' := by
  have HL : Hid (∀ W, Below w.heap.size w W → Rls W W.heap.size v l) := fun W hb => (h.below hb (Nat.le_refl _)).mono hb.size
  have HL' : Hid (∀ W, Below w.heap.size w W → Rls W W.heap.size v' m) := fun W hb => (h'.below hb (Nat.le_refl _)).mono hb.size
  clear h h'
  cases ht : tOk l
  · rw [show sameT l m = false from by simp [sameT, ht]]
    go_enter Tryz.func23, Tryz.ntmps23
    go_wp2_with fail
    refine (sTableOk_any _ v l (HL.out _ (Below.refl _ _)) hn).mono ?_
    rintro e w1 ⟨rfl, b1⟩
    rw [ht]
    go_wp2
    go_ret
    exact ⟨rfl, b1⟩
  cases ht' : tOk m
  · rw [show sameT l m = false from by simp [sameT, ht']]
    go_enter Tryz.func23, Tryz.ntmps23
    go_wp2_with fail
    refine (sTableOk_any _ v l (HL.out _ (Below.refl _ _)) hn).mono ?_
    rintro e w1 ⟨rfl, b1⟩
    rw [ht]
    go_wp2_with fail
    refine (sTableOk_any _ v' m (HL'.out _ b1) hn').mono ?_
    rintro e w2 ⟨rfl, b2⟩
    rw [ht']
    go_wp2
    go_ret
    exact ⟨rfl, belStep b1 b2⟩
  have HOK := Lib.hid (tOk_at ht)
  have HOK' := Lib.hid (tOk_at ht')
  have HNO : Hid (∀ n, n < 64 → agreeB l m n = false → sameT l m = false) := fun n hn k => sameT_no hn k
  have HYES : Hid ((∀ n, n < 64 → agreeB l m n = true) → sameT l m = true) := sameT_yes ht ht'
  go_enter Tryz.func23, Tryz.ntmps23
  go_wp2_with fail
  refine (sTableOk_any _ v l (HL.out _ (Below.refl _ _)) hn).mono ?_
  rintro e w1 ⟨rfl, b1⟩
  rw [ht]
  go_wp2_with fail
  refine (sTableOk_any _ v' m (HL'.out _ b1) hn').mono ?_
  rintro e w2 ⟨rfl, b2⟩
  rw [ht']
  have B2 := Lib.hid (belStep b1 b2)
  clear b1 b2 ht ht'
  go_wp2
  go_loopw [5] (fun i wr => ∃ k : Nat, k ≤ 64 ∧ i = .int .i64 k ∧ (∀ j, j < k → agreeB l m j = true) ∧ Below w.heap.size w wr) (fun i _ => 64 - (intOf i).toNat)
  case atStart => exact ⟨0, Nat.zero_le _, rfl, fun j hj => absurd hj (Nat.not_lt_zero _), B2.out⟩
  case round =>
    obtain ⟨k, hk, rfl, hag, hbel⟩ := hrel
    have HAG := Lib.hid hag
    have HBL := Lib.hid hbel
    clear hag
    by_cases hlt : k < 64
    · have hkz : (k : Int) < 64 := by omega
      have HT := Lib.hid (HNO.out k hlt)
      have HNX : Hid (agreeB l m k = true → ∀ j, j < k + 1 → agreeB l m j = true) := fun hf j hj => by
        by_cases e : j = k
        · subst e; exact hf
        · exact HAG.out j (by omega)
      have ho := okB_num k hlt
      have HD := Lib.hid (fun W (hW : Below w.heap.size w W) => l12Do_any W v l (HL.out _ hW) hn HOK.out _ _ _ ho)
      have HD' := Lib.hid (fun W (hW : Below w.heap.size w W) => l12Do_any W v' m (HL'.out _ hW) hn' HOK'.out _ _ _ ho)
      have hp : 0 ≤ (doN l k).2 := doI_port HOK.out
      have hag : agreeB l m k = (decide ((doN l k).2 = (doN m k).2) && (decide ((doN l k).2 = 0) || decide ((doN l k).1 = (doN m k).1))) := rfl
      rw [show doI ((k : Int) / 16) ((k : Int) / 4 % 4) ((k : Int) % 4) l = doN l k from rfl] at HD
      rw [show doI ((k : Int) / 16) ((k : Int) / 4 % 4) ((k : Int) % 4) m = doN m k from rfl] at HD'
      obtain ⟨⟨⟨x1, x2, x3⟩, ox⟩, hx⟩ : ∃ d, doN l k = d := ⟨_, rfl⟩
      obtain ⟨⟨⟨y1, y2, y3⟩, oy⟩, hy⟩ : ∃ d, doN m k = d := ⟨_, rfl⟩
      rw [hx] at HD hp hag
      rw [hy] at HD' hag
      dsimp only at HD HD' hp hag
      have HG := Lib.hid hag
      clear hx hy ho hbel hag
      go_wp2_with fail
      refine (l1Of_any _ (by omega) (by omega) _).mono ?_
      rintro e w3 ⟨rfl, b3⟩
      have B3 := Lib.hid (belStep HBL.out b3)
      clear b3
      go_wp2_with fail
      refine (HD.out _ B3.out).mono ?_
      rintro e w4 ⟨rfl, b4⟩
      have B4 := Lib.hid ((belStep B3.out b4).alloc (belStep B3.out b4).size (.cells #[.int .i64 x1, .int .i64 x2, .int .i64 x3] 25))
      have K4 := Lib.hid (newBlockM w4 (.cells #[.int .i64 x1, .int .i64 x2, .int .i64 x3] 25))
      clear b4
      go_wp2_with fail
      refine (l1Of_any _ (by omega) (by omega) _).mono ?_
      rintro e w5 ⟨rfl, b5⟩
      have B5 := Lib.hid (belStep B4.out b5)
      have K5 := Lib.hid ((b5.block _ (by simp)).trans K4.out)
      have s5 := b5.size
      simp at s5
      clear b5
      go_wp2_with fail
      refine (HD'.out _ B5.out).mono ?_
      rintro e w6 ⟨rfl, b6⟩
      have s6 := b6.size
      obtain ⟨c0, c1, c2, -⟩ := cells3 ((b6.block _ (by omega)).trans K5.out)
      have B6 := Lib.hid ((belStep B5.out b6).alloc (belStep B5.out b6).size (.cells #[.int .i64 y1, .int .i64 y2, .int .i64 y3] 25))
      have g6 : w4.heap.size < w6.heap.size := by omega
      clear b6 HD HD' K4 K5
      by_cases e0 : ox = oy
      · subst e0
        by_cases ez : ox = 0
        · subst ez
          go_wp2
          go_roundw
          case rel => exact ⟨k + 1, by omega, by go_num, HNX.out (by rw [HG.out]; simp), B6.out⟩
          case measure => simp [intOf]; omega
        · have hpos : 0 < ox := by omega
          by_cases e1 : (x1, x2, x3) = (y1, y2, y3)
          · simp only [Prod.mk.injEq] at e1
            obtain ⟨rfl, rfl, rfl⟩ := e1
            go_wp2
            go_roundw
            case rel => exact ⟨k + 1, by omega, by go_num, HNX.out (by rw [HG.out]; simp), B6.out⟩
            case measure => simp [intOf]; omega
          · have HNE : Hid (agreeB l m k = false) := by show agreeB l m k = false; rw [HG.out]; simp [ez]; exact fun h1 h2 h3 => e1 (by rw [h1, h2, h3])
            by_cases f1 : x1 = y1
            · subst f1
              by_cases f2 : x2 = y2
              · subst f2
                have f3 : ¬ x3 = y3 := fun h => e1 (by rw [h])
                go_wp2
                go_ret
                exact ⟨by rw [HT.out HNE.out]; rfl, B6.out⟩
              · go_wp2
                go_ret
                exact ⟨by rw [HT.out HNE.out]; rfl, B6.out⟩
            · go_wp2
              go_ret
              exact ⟨by rw [HT.out HNE.out]; rfl, B6.out⟩
      · have HNE : Hid (agreeB l m k = false) := by show agreeB l m k = false; rw [HG.out]; simp [e0]
        go_wp2
        go_ret
        exact ⟨by rw [HT.out HNE.out]; rfl, B6.out⟩
    · obtain rfl : k = 64 := by omega
      go_wp2
      go_ret
      exact ⟨by rw [HYES.out HAG.out]; rfl, HBL.out⟩

/-- Two ends of a head agree. -/
def effB (x1 x2 x3 ox y1 y2 y3 oy : Int) : Bool := decide (ox = oy) && (decide (ox = 0) || decide ((x1, x2, x3) = (y1, y2, y3)))

set_option maxHeartbeats 1000000 in
theorem sameEffect_any (x1 x2 x3 ox y1 y2 y3 oy : Int) (w : World) :
    Calls Tryz.prog 47 #[.agg #[.int .i64 x1, .int .i64 x2, .int .i64 x3], .int .i64 ox, .agg #[.int .i64 y1, .int .i64 y2, .int .i64 y3], .int .i64 oy] w fun e w' => e = .returned (.bool (effB x1 x2 x3 ox y1 y2 y3 oy)) ∧ Below w.heap.size w w' := by
  by_cases e0 : ox = oy
  · subst e0
    by_cases ez : ox = 0
    · subst ez
      rw [show effB x1 x2 x3 0 y1 y2 y3 0 = true from by simp [effB]]
      go_enter Tryz.func47, Tryz.ntmps47
      go_wp2
      go_ret
      exact ⟨rfl, below_alloc2 _ _ _⟩
    · have ez' : (ox == 0) = false := by simpa using ez
      by_cases e1 : (x1, x2, x3) = (y1, y2, y3)
      · simp only [Prod.mk.injEq] at e1
        obtain ⟨rfl, rfl, rfl⟩ := e1
        rw [show effB x1 x2 x3 ox x1 x2 x3 ox = true from by simp [effB]]
        go_enter Tryz.func47, Tryz.ntmps47
        go_wp2
        go_ret
        exact ⟨rfl, below_alloc2 _ _ _⟩
      · rw [show effB x1 x2 x3 ox y1 y2 y3 ox = false from by simp [effB, ez]; exact fun h1 h2 h3 => e1 (by rw [h1, h2, h3])]
        by_cases f1 : x1 = y1
        · subst f1
          by_cases f2 : x2 = y2
          · subst f2
            have f3 : ¬ x3 = y3 := fun h => e1 (by rw [h])
            clear e1
            go_enter Tryz.func47, Tryz.ntmps47
            go_wp2
            go_ret
            exact ⟨rfl, below_alloc2 _ _ _⟩
          · clear e1
            go_enter Tryz.func47, Tryz.ntmps47
            go_wp2
            go_ret
            exact ⟨rfl, below_alloc2 _ _ _⟩
        · clear e1
          go_enter Tryz.func47, Tryz.ntmps47
          go_wp2
          go_ret
          exact ⟨rfl, below_alloc2 _ _ _⟩
  · have e0' : (ox == oy) = false := by simpa using e0
    rw [show effB x1 x2 x3 ox y1 y2 y3 oy = false from by simp [effB, e0]]
    go_enter Tryz.func47, Tryz.ntmps47
    go_wp2
    go_ret
    exact ⟨rfl, below_alloc2 _ _ _⟩

set_option maxRecDepth 100000 in
set_option maxHeartbeats 4000000 in
theorem iTableSame_any (w : World) (v v' : Value) (l m : List R4) (h : Rls w w.heap.size v l) (h' : Rls w w.heap.size v' m) (hn : l.length ≤ 1048576) (hn' : m.length ≤ 1048576) (hE : EtOk w) :
    Calls Tryz.prog 24 #[v, v'] w fun e w' => e = .returned (.bool (sameT l m)) ∧ Below w.heap.size w w' := by
  have HE := Lib.hid hE
  have HL := Lib.hid h
  have HL' : Hid (∀ W, Below w.heap.size w W → Rls W W.heap.size v' m) := fun W hb => (h'.below hb (Nat.le_refl _)).mono hb.size
  clear h h' hE
  have HF : Hid (tOk l = false → sameT l m = false) := fun ht => by show sameT l m = false; simp [sameT, ht]
  have HF' : Hid (tOk m = false → sameT l m = false) := fun ht => by show sameT l m = false; simp [sameT, ht]
  have HNO : Hid (∀ n, n < 64 → agreeB l m n = false → sameT l m = false) := fun n hn k => sameT_no hn k
  have HYES : Hid (tOk l = true → tOk m = true → (∀ n, n < 64 → agreeB l m n = true) → sameT l m = true) := sameT_yes
  go_enter Tryz.func24, Tryz.ntmps24
  go_wp2_with fail
  refine (readTable_any _ v l HL.out hn HE.out).mono ?_
  rintro e w1 ⟨g1, rfl, hg1, hl1, b1⟩
  unfold lstV
  have B1 := Lib.hid (b1.alloc b1.size (lstO g1))
  have K1 := Lib.hid (newBlockM w1 (lstO g1))
  have HR1 : Hid (tOk l = true → LR (w1.alloc (lstO g1)) g1 l) := fun ht => (hl1 ht).below (below_alloc1 _ _)
  clear hl1 b1
  unfold lstO at B1 K1 HR1
  go_wp2_with fail
  refine (readTable_any _ v' m (HL'.out _ B1.out) hn' (HE.out.below B1.out)).mono ?_
  rintro e w2 ⟨g2, rfl, hg2, hl2, b2⟩
  unfold lstV
  have bX := b2.alloc b2.size (lstO g2)
  have B2 := Lib.hid (belStep B1.out bX)
  have K2 := Lib.hid (newBlockM w2 (lstO g2))
  have K1' := Lib.hid ((bX.block _ (by simp)).trans K1.out)
  have HR1' : Hid (tOk l = true → LR (w2.alloc (lstO g2)) g1 l) := fun ht => (HR1.out ht).below bX
  have HR2' : Hid (tOk m = true → LR (w2.alloc (lstO g2)) g2 m) := fun ht => (hl2 ht).below (below_alloc1 _ _)
  have s2 := b2.size
  simp at s2
  clear hl2 b2 bX K1 HR1 B1
  unfold lstO at B2 K2 HR1' HR2' K1'
  cases ht : tOk l
  · go_wp2
    go_ret
    exact ⟨by rw [HF.out ht]; rfl, B2.out⟩
  cases ht' : tOk m
  · go_wp2
    go_ret
    exact ⟨by rw [HF'.out ht']; rfl, B2.out⟩
  have HRA := Lib.hid (HR1'.out ht)
  have HRB := Lib.hid (HR2'.out ht')
  have HY := Lib.hid (HYES.out ht ht')
  have HOK := Lib.hid (tOk_at ht)
  clear HR1' HR2' HYES ht ht' HF HF'
  go_wp2
  obtain ⟨W2, hW2⟩ : ∃ W2, w2.alloc (.cells #[.func (.func 53) #[] #[], .pointer (some ⟨g2, 0, none⟩)] 55) = W2 := ⟨_, rfl⟩
  have hz2 : W2.heap.size = w2.heap.size + 1 := by rw [← hW2]; simp
  rw [hW2] at B2 K2 K1' HRA HRB
  rw [hW2]
  clear hW2
  go_loopw [33] (fun i wr => ∃ k : Nat, k ≤ 64 ∧ i = .int .i64 k ∧ (∀ j, j < k → agreeB l m j = true) ∧ Below W2.heap.size W2 wr) (fun i _ => 64 - (intOf i).toNat)
  case atStart => exact ⟨0, Nat.zero_le _, rfl, fun j hj => absurd hj (Nat.not_lt_zero _), Below.refl _ _⟩
  case round =>
    obtain ⟨k, hk, rfl, hag, hbel⟩ := hrel
    have HAG := Lib.hid hag
    have HBW := Lib.hid hbel
    clear hag
    by_cases hlt : k < 64
    · have hkz : (k : Int) < 64 := by omega
      have HT := Lib.hid (HNO.out k hlt)
      have HNX : Hid (agreeB l m k = true → ∀ j, j < k + 1 → agreeB l m j = true) := fun hf j hj => by
        by_cases e : j = k
        · subst e; exact hf
        · exact HAG.out j (by omega)
      have HD := Lib.hid (fun W (hW : Below W2.heap.size W2 W) => handle_any W g1 l hn (HRA.out.below hW) ((k : Int) / 16) ((k : Int) / 4 % 4) ((k : Int) % 4) (HE.out.below (belStep B2.out hW)))
      have HD' := Lib.hid (fun W (hW : Below W2.heap.size W2 W) => handle_any W g2 m hn' (HRB.out.below hW) ((k : Int) / 16) ((k : Int) / 4 % 4) ((k : Int) % 4) (HE.out.below (belStep B2.out hW)))
      have HKF : Hid (∀ W, Below W2.heap.size W2 W → (W.cell? ⟨w1.heap.size, 0, none⟩ = some (.func (.func 53) #[] #[]) ∧ W.cell? ⟨w1.heap.size, 1, none⟩ = some (.pointer (some ⟨g1, 0, none⟩))) ∧ (W.cell? ⟨w2.heap.size, 0, none⟩ = some (.func (.func 53) #[] #[]) ∧ W.cell? ⟨w2.heap.size, 1, none⟩ = some (.pointer (some ⟨g2, 0, none⟩))) ∧ w1.heap.size < W.heap.size ∧ w2.heap.size < W.heap.size) := fun W hW => by
        have hs := hW.size
        obtain ⟨a0, a1, -⟩ := cells2 ((hW.block _ (by omega)).trans K1'.out)
        obtain ⟨a2, a3, -⟩ := cells2 ((hW.block _ (by omega)).trans K2.out)
        exact ⟨⟨a0, a1⟩, ⟨a2, a3⟩, by omega, by omega⟩
      have hp : 0 ≤ (doN l k).2 := doI_port HOK.out
      have hag : agreeB l m k = (decide ((doN l k).2 = (doN m k).2) && (decide ((doN l k).2 = 0) || decide ((doN l k).1 = (doN m k).1))) := rfl
      rw [hdV_eq, show doI ((k : Int) / 16) ((k : Int) / 4 % 4) ((k : Int) % 4) l = doN l k from rfl] at HD
      rw [hdV_eq, show doI ((k : Int) / 16) ((k : Int) / 4 % 4) ((k : Int) % 4) m = doN m k from rfl] at HD'
      obtain ⟨⟨⟨x1, x2, x3⟩, ox⟩, hx⟩ : ∃ d, doN l k = d := ⟨_, rfl⟩
      obtain ⟨⟨⟨y1, y2, y3⟩, oy⟩, hy⟩ : ∃ d, doN m k = d := ⟨_, rfl⟩
      rw [hx] at HD hp hag
      rw [hy] at HD' hag
      dsimp only at HD HD' hp hag
      generalize atI ((k : Int) / 16) ((k : Int) / 4 % 4) ((k : Int) % 4) l = ai at *
      generalize atI ((k : Int) / 16) ((k : Int) / 4 % 4) ((k : Int) % 4) m = bi at *
      have HG := Lib.hid hag
      unfold lstV at HD HD'
      clear hx hy hbel hag
      go_wp2_with fail
      refine (head_any _ (by omega) (by omega) _).mono ?_
      rintro e w3 ⟨rfl, b3⟩
      have D3 := Lib.hid ((b3.alloc b3.size (.cells #[.int .i64 ((k : Int) / 16), .int .i64 ((k : Int) / 4 % 4), .int .i64 ((k : Int) % 4)] 25)))
      have E3 := Lib.hid (belStep HBW.out D3.out)
      have K3 := Lib.hid (newBlockM w3 (.cells #[.int .i64 ((k : Int) / 16), .int .i64 ((k : Int) / 4 % 4), .int .i64 ((k : Int) % 4)] 25))
      obtain ⟨⟨a0, a1⟩, -, l1, -⟩ := HKF.out _ (belStep HBW.out b3)
      clear b3
      go_wp2_with fail
      refine (HD.out _ E3.out).mono ?_
      rintro e w4 ⟨rfl, b4⟩
      have s4 := b4.size
      simp at s4
      have D4 := Lib.hid (belStep D3.out b4)
      obtain ⟨-, ⟨a2, a3⟩, -, l2⟩ := HKF.out _ (belStep HBW.out D4.out)
      have K4 := Lib.hid ((b4.block _ (by simp)).trans K3.out)
      obtain ⟨h0, h1, h2, -⟩ := cells3 K4.out
      have E4 := Lib.hid (belStep HBW.out (D4.out.alloc D4.out.size (.cells #[.int .i64 x1, .int .i64 x2, .int .i64 x3] 25)))
      have D4' := Lib.hid (D4.out.alloc D4.out.size (.cells #[.int .i64 x1, .int .i64 x2, .int .i64 x3] 25))
      have K5 := Lib.hid (newBlockM w4 (.cells #[.int .i64 x1, .int .i64 x2, .int .i64 x3] 25))
      have l3 : w3.heap.size < w4.heap.size := by omega
      clear b4 a0 a1 l1
      go_wp2_with fail
      refine (HD'.out _ E4.out).mono ?_
      rintro e w5 ⟨rfl, b5⟩
      have s5 := b5.size
      simp at s5
      obtain ⟨c0, c1, c2, -⟩ := cells3 ((b5.block _ (by simp)).trans K5.out)
      have D5 := Lib.hid (belStep D4'.out b5)
      have D6 := Lib.hid (D5.out.alloc D5.out.size (.cells #[.int .i64 y1, .int .i64 y2, .int .i64 y3] 25))
      have FIN := Lib.hid (belStep B2.out (belStep HBW.out D6.out))
      have g6 : w4.heap.size < w5.heap.size := by omega
      have HEF := Lib.hid (sameEffect_any x1 x2 x3 ox y1 y2 y3 oy)
      have HGB : Hid (agreeB l m k = effB x1 x2 x3 ox y1 y2 y3 oy) := HG.out
      clear b5 HD HD' K3 K4 K5 a2 a3 h0 h1 h2 l2 l3 HKF E3 E4 D3 D4 D4' D5 HG
      generalize effB x1 x2 x3 ox y1 y2 y3 oy = q at *
      go_wp2_with fail
      refine (HEF.out _).mono ?_
      rintro e w6 ⟨rfl, b6⟩
      have D7 := Lib.hid (belStep D6.out b6)
      have FIN' := Lib.hid (belStep FIN.out b6)
      clear b6
      cases q
      · go_wp2
        go_ret
        exact ⟨by rw [HT.out HGB.out]; rfl, FIN'.out⟩
      · go_wp2
        go_roundw
        case rel => exact ⟨k + 1, by omega, by go_num, HNX.out HGB.out, belStep HBW.out D7.out⟩
        case measure => simp [intOf]; omega
    · obtain rfl : k = 64 := by omega
      go_wp2
      go_ret
      exact ⟨by rw [HY.out HAG.out]; rfl, belStep B2.out HBW.out⟩

end Go.Proofs.YtmfgiemhonfapaaGreatDoor
