/-
  A packet at a switch is ok: the program's and the model's word.
  A packet's step: the model's.
-/
import Derived.Test.YtjjhahhchimmlaaGreatDoorNetRd
import Derived.Test.YtjjhahhchimmlaaGreatDoorNetOk
import Derived.Test.YtjjhahhchimmlaaGreatDoorHeadB
import Derived.Test.YtjjhahhchimmlaaGreatDoorConfS
import Derived.Test.YtjjhahhchimmlaaGreatDoorTabAD

namespace Go.Proofs.YtjjhahhchimmlaaGreatDoor
open Go.ChangeShapes Go.WideShapes Go.ChangeAt Go.RowKit Go.Joins
set_option linter.unusedVariables false

/-- A packet's value. -/
def spV (s a b c : Int) : Value := .agg #[.int .i64 s, .int .i64 a, .int .i64 b, .int .i64 c]
def spB (s a b c : Int) : Bool := swB s && okB a b c

set_option maxHeartbeats 1000000 in
theorem spotOk_any (s a b c : Int) (w : World) :
    Calls Tryz.prog 34 #[.agg #[.int .i64 s, .int .i64 a, .int .i64 b, .int .i64 c]] w fun e w' => e = .returned (.bool (spB s a b c)) ∧ Below w.heap.size w w' := by
  have HS := Lib.hid (fun W => switchOk_any s W)
  have HH := Lib.hid (fun W => iHeadOk_any a b c W)
  have HA := Lib.hid (below_alloc1 w (.cells #[.int .i64 s, .int .i64 a, .int .i64 b, .int .i64 c] 32))
  unfold spB
  generalize swB s = o1 at *
  generalize okB a b c = o2 at *
  cases o1
  · go_enter Tryz.func34, Tryz.ntmps34
    go_wp2_with fail
    refine (HS.out _).mono ?_
    rintro e w' ⟨rfl, rfl⟩
    go_wp2
    go_ret
    exact ⟨rfl, HA.out⟩
  · go_enter Tryz.func34, Tryz.ntmps34
    go_wp2_with fail
    refine (HS.out _).mono ?_
    rintro e w' ⟨rfl, rfl⟩
    go_wp2_with fail
    refine (HH.out _).mono ?_
    rintro e w1 ⟨rfl, b1⟩
    go_wp2
    go_ret
    exact ⟨rfl, belStep HA.out b1⟩

set_option maxHeartbeats 1000000 in
theorem l22Spot_any (s a b c : Int) (w : World) :
    Calls Tryz.prog 28 #[.agg #[.int .i64 s, .int .i64 a, .int .i64 b, .int .i64 c]] w fun e w' => e = .returned (.bool (spB s a b c)) ∧ Below w.heap.size w w' := by
  have HS := Lib.hid (fun W => l21Sw_any s W)
  have HH := Lib.hid (fun W => sHeadOk_any a b c W)
  have HA := Lib.hid (below_alloc1 w (.cells #[.int .i64 s, .int .i64 a, .int .i64 b, .int .i64 c] 32))
  unfold spB
  generalize swB s = o1 at *
  generalize okB a b c = o2 at *
  cases o1
  · go_enter Tryz.func28, Tryz.ntmps28
    go_wp2_with fail
    refine (HS.out _).mono ?_
    rintro e w' ⟨rfl, rfl⟩
    go_wp2
    go_ret
    exact ⟨rfl, HA.out⟩
  · go_enter Tryz.func28, Tryz.ntmps28
    go_wp2_with fail
    refine (HS.out _).mono ?_
    rintro e w' ⟨rfl, rfl⟩
    go_wp2_with fail
    refine (HH.out _).mono ?_
    rintro e w1 ⟨rfl, b1⟩
    go_wp2
    go_ret
    exact ⟨rfl, belStep HA.out b1⟩

end Go.Proofs.YtjjhahhchimmlaaGreatDoor

namespace Go.Proofs.YtjjhahhchimmlaaGreatDoor
open Go.ChangeShapes Go.WideShapes Go.ChangeAt Go.RowKit Go.Joins
set_option linter.unusedVariables false

/-- What a step answers: the head and the port that the table gives, the switch behind the port. -/
def stW (x a b c A B C o p : Int) : Value := if o = 4 then .tuple #[spV x A B C, .int .i64 2] else if p = 0 then .tuple #[spV x a b c, .int .i64 3] else .tuple #[spV p A B C, .int .i64 1]
/-- A step of a packet. -/
def stV (l : List K4) (L : List (List R4)) (j : Nat) (a b c : Int) : Value :=
  stW (j + 1) a b c (doI a b c (tbAt L j)).1.1 (doI a b c (tbAt L j)).1.2.1 (doI a b c (tbAt L j)).1.2.2 (doI a b c (tbAt L j)).2 (peerF l (j + 1) (doI a b c (tbAt L j)).2).1
theorem do_port {l : List R4} (h : ∀ i, i < l.length → okR (ruAt l i) = true) (a b c : Int) : 0 ≤ (doI a b c l).2 ∧ (doI a b c l).2 ≤ 4 := by
  rcases atI_find (a := a) (b := b) (c := c) (l := l) with ⟨-, -, h2⟩ | ⟨i, hi, -, -, h2⟩
  · rw [h2]; exact ⟨Int.le_refl _, by show (0 : Int) ≤ 4; decide⟩
  · rw [h2]
    exact (rOk_true (h i hi)).2.2.1
theorem quad4 {w : World} {b : Nat} {x y z q : Value} {t : TypeId} (h : w.heap[b]? = some (.cells #[x, y, z, q] t)) : w.cell? ⟨b, 0, none⟩ = some x ∧ w.cell? ⟨b, 1, none⟩ = some y ∧ w.cell? ⟨b, 2, none⟩ = some z ∧ w.cell? ⟨b, 3, none⟩ = some q ∧ ∀ j, w.frozen? ⟨b, j, none⟩ = false := by
  refine ⟨?_, ?_, ?_, ?_, fun j => ?_⟩ <;> simp [World.cell?, World.frozen?, h]
theorem wcNew {X wq : World} {ty : TypeId} {u v z : Value} (h : Below (X.alloc (.cells #[u, v, z] ty)).heap.size (X.alloc (.cells #[u, v, z] ty)) wq) :
    wq.cell? ⟨X.heap.size, 0, none⟩ = some u ∧ wq.cell? ⟨X.heap.size, 1, none⟩ = some v ∧ wq.cell? ⟨X.heap.size, 2, none⟩ = some z ∧ ∀ o, wq.frozen? ⟨X.heap.size, o, none⟩ = false := cells3 ((h.block _ (by simp)).trans (newBlockM X _))
theorem wcNewD {X wq : World} {ty : TypeId} {u v z : Value} (h : Below (X.alloc (.cells #[u, v, z] ty)).drew.heap.size (X.alloc (.cells #[u, v, z] ty)).drew wq) :
    wq.cell? ⟨X.heap.size, 0, none⟩ = some u ∧ wq.cell? ⟨X.heap.size, 1, none⟩ = some v ∧ wq.cell? ⟨X.heap.size, 2, none⟩ = some z ∧ ∀ o, wq.frozen? ⟨X.heap.size, o, none⟩ = false := wcNew (((Below.refl _ _).drew).trans h)
theorem wcSet {A : World} {xb : Nat} {u v z x y q : Value} (k0 : A.cell? ⟨xb, 0, none⟩ = some u) (k1 : A.cell? ⟨xb, 1, none⟩ = some v) (k2 : A.cell? ⟨xb, 2, none⟩ = some z) :
    (((A.setCell ⟨xb, 0, none⟩ x).setCell ⟨xb, 1, none⟩ y).setCell ⟨xb, 2, none⟩ q).cell? ⟨xb, 0, none⟩ = some x ∧ (((A.setCell ⟨xb, 0, none⟩ x).setCell ⟨xb, 1, none⟩ y).setCell ⟨xb, 2, none⟩ q).cell? ⟨xb, 1, none⟩ = some y ∧ (((A.setCell ⟨xb, 0, none⟩ x).setCell ⟨xb, 1, none⟩ y).setCell ⟨xb, 2, none⟩ q).cell? ⟨xb, 2, none⟩ = some q := by
  refine ⟨?_, ?_, ?_⟩ <;> simp [go_sem, k0, k1, k2]

set_option maxRecDepth 100000 in
set_option maxHeartbeats 8000000 in
theorem l22Step_any (w : World) (v u : Value) (l : List K4) (L : List (List R4)) (hl : Lks w w.heap.size v l) (h : Cfs w w.heap.size u L) (h4 : L.length = 4) (hn : ∀ j, j < 4 → (tbAt L j).length ≤ 1048576) (hok : ∀ j, j < 4 → ∀ i, i < (tbAt L j).length → okR (ruAt (tbAt L j) i) = true) (hnet : netB l = true)
    (j : Nat) (hj : j < 4) (a b c : Int) (ho : okB a b c = true) :
    Calls Tryz.prog 29 #[v, u, .agg #[.int .i64 ((j : Int) + 1), .int .i64 a, .int .i64 b, .int .i64 c]] w fun e w' => e = .returned (stV l L j a b c) ∧ Below w.heap.size w w' := by
  obtain ⟨q, cap, rfl, hcap, hm, hh⟩ := h
  rcases hh with h1 | ⟨b0, off, rfl, hb0, hcell⟩
  · rw [h1] at h4; simp at h4
  obtain ⟨tv, d0, hr⟩ := hcell j (by omega)
  have HD : Hid (∀ W, Below w.heap.size w W → Calls Tryz.prog 49 #[tv, .agg #[.int .i64 a, .int .i64 b, .int .i64 c]] W fun e w' => e = .returned (.tuple #[.agg #[.int .i64 (doI a b c (tbAt L j)).1.1, .int .i64 (doI a b c (tbAt L j)).1.2.1, .int .i64 (doI a b c (tbAt L j)).1.2.2], .int .i64 (doI a b c (tbAt L j)).2]) ∧ Below W.heap.size W w') :=
    fun W hb => l12Do_any W tv _ ((hr.below hb (Nat.le_refl _)).mono hb.size) (hn j hj) (hok j hj) a b c ho
  have HP : Hid (∀ W o, Below w.heap.size w W → Calls Tryz.prog 50 #[v, .int .i64 ((j : Int) + 1), .int .i64 o] W fun e w' => e = .returned (.tuple #[.int .i64 (peerF l ((j : Int) + 1) o).1, .int .i64 (peerF l ((j : Int) + 1) o).2]) ∧ Below W.heap.size W w') :=
    fun W o hb => l21Peer_any W v l _ o ((hl.below hb (Nat.le_refl _)).mono hb.size)
  have hz0 : (peerF l ((j : Int) + 1) 0).1 = 0 := by rw [peer_none hnet (.inr (by decide))]
  have HZ := Lib.hid hz0
  unfold stV
  obtain ⟨ua, ulen, ucap, hu⟩ : ∃ ua ulen ucap, tv = .slice ua ulen ucap := by
    obtain ⟨ua, ucap, hu, -⟩ := hr
    exact ⟨_, _, _, hu⟩
  subst hu
  clear hr hcell hok hn hl hz0 ho
  generalize (doI a b c (tbAt L j)).1.1 = A at *
  generalize (doI a b c (tbAt L j)).1.2.1 = B at *
  generalize (doI a b c (tbAt L j)).1.2.2 = C at *
  generalize (doI a b c (tbAt L j)).2 = o at *
  have HTR : Hid (∀ w1, Below ((w.alloc (.cells #[.int .i64 ((j : Int) + 1), .int .i64 a, .int .i64 b, .int .i64 c] 32)).alloc (.cells #[.int .i64 0, .int .i64 0, .int .i64 0, .int .i64 0] 32)).heap.size ((w.alloc (.cells #[.int .i64 ((j : Int) + 1), .int .i64 a, .int .i64 b, .int .i64 c] 32)).alloc (.cells #[.int .i64 0, .int .i64 0, .int .i64 0, .int .i64 0] 32)) w1 →
      (w1.cell? ⟨w.heap.size, 0, none⟩ = some (.int .i64 ((j : Int) + 1)) ∧ w1.cell? ⟨w.heap.size, 1, none⟩ = some (.int .i64 a) ∧ w1.cell? ⟨w.heap.size, 2, none⟩ = some (.int .i64 b) ∧ w1.cell? ⟨w.heap.size, 3, none⟩ = some (.int .i64 c)) ∧
      (w1.cell? ⟨w.heap.size + 1, 0, none⟩ = some (.int .i64 0) ∧ w1.cell? ⟨w.heap.size + 1, 1, none⟩ = some (.int .i64 0) ∧ w1.cell? ⟨w.heap.size + 1, 2, none⟩ = some (.int .i64 0) ∧ w1.cell? ⟨w.heap.size + 1, 3, none⟩ = some (.int .i64 0) ∧ ∀ j, w1.frozen? ⟨w.heap.size + 1, j, none⟩ = false) ∧ w.heap.size + 1 + 1 ≤ w1.heap.size ∧ w1.cell? ⟨b0, off + j, none⟩ = some (.slice ua ulen ucap) ∧ Below w.heap.size w w1) := fun w1 hb => by
    obtain ⟨h1, h2, h3, h4⟩ := twoBlocks hb
    obtain ⟨x0, x1, x2, x3, -⟩ := quad4 h1
    exact ⟨⟨x0, x1, x2, x3⟩, quad4 h2, by omega, (belCell h3 _ _ hb0).trans d0, h3⟩
  have hw1 : IntKind.i64.wrap ((j : Int) + 1 - 1) = (j : Int) := by rw [IntKind.wrap_i64]; omega
  have hjz : (j : Int) < 4 := by omega
  rw [h4] at *
  unfold maxLen at hm
  have HPO := Lib.hid (fun W => HP.out W o)
  have HZP : Hid (o = 0 → (peerF l ((j : Int) + 1) o).1 = 0) := fun e => by rw [e]; exact HZ.out
  clear HP HZ hnet
  generalize (peerF l ((j : Int) + 1) o).1 = p at *
  generalize (peerF l ((j : Int) + 1) o).2 = p2 at *
  generalize hx : (j : Int) + 1 = x at *
  clear hx
  go_enter Tryz.func29, Tryz.ntmps29
  go_wp2
  generalize hW0 : ((w.alloc (.cells #[.int .i64 x, .int .i64 a, .int .i64 b, .int .i64 c] 32)).alloc (.cells #[.int .i64 0, .int .i64 0, .int .i64 0, .int .i64 0] 32)) = W0 at *
  obtain ⟨⟨x0, x1, x2, x3⟩, -, hsz, dd, -⟩ := HTR.out _ (Below.refl _ _)
  have HS : Hid (∀ w', Below W0.heap.size W0 w' → (w'.cell? ⟨w.heap.size, 0, none⟩ = some (.int .i64 x) ∧ w'.cell? ⟨w.heap.size, 1, none⟩ = some (.int .i64 a) ∧ w'.cell? ⟨w.heap.size, 2, none⟩ = some (.int .i64 b) ∧ w'.cell? ⟨w.heap.size, 3, none⟩ = some (.int .i64 c) ∧ w'.cell? ⟨b0, off + j, none⟩ = some (.slice ua ulen ucap) ∧ Below W0.heap.size W0 w')) := fun w' hb => by
    obtain ⟨⟨x0, x1, x2, x3⟩, -, -, dd, -⟩ := HTR.out _ hb
    exact ⟨x0, x1, x2, x3, dd, hb⟩
  have BW0 : Hid (Below w.heap.size w W0) := (HTR.out _ (Below.refl _ _)).2.2.2.2
  have hm2 : cap ≤ 9223372036854775807 := by omega
  clear hW0 h4
  go_region_held3 (fun w' => w'.cell? ⟨w.heap.size, 0, none⟩ = some (.int .i64 x) ∧ w'.cell? ⟨w.heap.size, 1, none⟩ = some (.int .i64 a) ∧ w'.cell? ⟨w.heap.size, 2, none⟩ = some (.int .i64 b) ∧ w'.cell? ⟨w.heap.size, 3, none⟩ = some (.int .i64 c) ∧ w'.cell? ⟨b0, off + j, none⟩ = some (.slice ua ulen ucap) ∧ Below W0.heap.size W0 w')
    (first | assumption | exact HS.out _ ((Below.refl _ _).drew) | exact HS.out _ Bc.out | exact HS.out _ (Below.alloc Bc.out (Below.size Bc.out) _) | exact HS.out _ (Below.alloc ((Below.refl _ _).drew) (Nat.le_refl _) _) | exact HS.out _ (((Bc.out.setCell (by dsimp only; first | exact Nat.le_refl _ | exact Bc.out.size) _).setCell (by dsimp only; first | exact Nat.le_refl _ | exact Bc.out.size) _).setCell (by dsimp only; first | exact Nat.le_refl _ | exact Bc.out.size) _))
    (first
      | (go_at_call 49; ((with_reducible refine (HD.out _ ?_).mono ?_); (go_split_ands; exact belStep BW0.out (by assumption)); rintro e wc ⟨rfl, hq⟩; go_split_ands; have Bc := Lib.hid (belStep (show Below W0.heap.size W0 _ by assumption) hq); (first | have NX := Lib.hid (wcNew hq) | have NX := Lib.hid (wcNewD hq) | skip); (first | obtain ⟨n0, n1, n2, nf⟩ := NX.out | skip))))
  have F := Lib.hid (And.intro (trio3 (newBlockM wc (.cells #[.int .i64 A, .int .i64 B, .int .i64 C] 30))) (HTR.out _ (Bc.out.alloc Bc.out.size (.cells #[.int .i64 A, .int .i64 B, .int .i64 C] 30))))
  generalize (wc.alloc (.cells #[.int .i64 A, .int .i64 B, .int .i64 C] 30)) = D at F ⊢
  generalize wc.heap.size = hb at F ⊢
  clear Bc hq BW0 HS HTR
  rotate_left
  have F := Lib.hid (And.intro (wcSet (x := .int .i64 A) (y := .int .i64 B) (q := .int .i64 C) n0 n1 n2) (HTR.out _ (((Bc.out.setCell (p := ⟨W0.heap.size, 0, none⟩) (Nat.le_refl _) (.int .i64 A)).setCell (p := ⟨W0.heap.size, 1, none⟩) (Nat.le_refl _) (.int .i64 B)).setCell (p := ⟨W0.heap.size, 2, none⟩) (Nat.le_refl _) (.int .i64 C))))
  generalize (((wc.setCell ⟨W0.heap.size, 0, none⟩ (.int .i64 A)).setCell ⟨W0.heap.size, 1, none⟩ (.int .i64 B)).setCell ⟨W0.heap.size, 2, none⟩ (.int .i64 C)) = D at F ⊢
  generalize W0.heap.size = hb at F ⊢
  clear n0 n1 n2 nf NX Bc hq BW0 HS HTR
  rotate_left
  all_goals
    obtain ⟨⟨h0, h1, h2⟩, ⟨x0, x1, x2, x3⟩, ⟨r0, r1, r2, r3, rf⟩, hsz, -, bw⟩ := F.out
    have gh : hb < D.heap.size := World.block_lt_of_cell? D ⟨hb, 0, none⟩ h0
    have g1 : w.heap.size < D.heap.size := by omega
    have g2 : w.heap.size + 1 < D.heap.size := by omega
    have BW := Lib.hid bw
    clear bw
    by_cases o4 : o = 4
    · have e4 : (o == 4) = true := by simp [o4]
      have HW : Hid (stW x a b c A B C o p = .tuple #[spV x A B C, .int .i64 2]) := by show _ = _; rw [stW, if_pos o4]
      clear o4 F
      go_wp2
      exact bodyPost_ret (v := .tuple #[.agg #[.int .i64 x, .int .i64 A, .int .i64 B, .int .i64 C], .int .i64 2]) (by simp [results, Tryz.results29, go_sem, r0, r1, r2, r3]) rfl ⟨by rw [HW.out]; rfl, ((((BW.out.setCell (by exact Nat.le_succ _) _).setCell (by exact Nat.le_succ _) _).setCell (by exact Nat.le_succ _) _).setCell (by exact Nat.le_succ _) _)⟩
    · have e4 : (o == 4) = false := by simp [o4]
      have cD : ∀ W, Below D.heap.size D W → (W.cell? ⟨hb, 0, none⟩ = some (.int .i64 A) ∧ W.cell? ⟨hb, 1, none⟩ = some (.int .i64 B) ∧ W.cell? ⟨hb, 2, none⟩ = some (.int .i64 C)) ∧ (W.cell? ⟨w.heap.size, 0, none⟩ = some (.int .i64 x) ∧ W.cell? ⟨w.heap.size, 1, none⟩ = some (.int .i64 a) ∧ W.cell? ⟨w.heap.size, 2, none⟩ = some (.int .i64 b) ∧ W.cell? ⟨w.heap.size, 3, none⟩ = some (.int .i64 c)) ∧ (W.cell? ⟨w.heap.size + 1, 0, none⟩ = some (.int .i64 0) ∧ W.cell? ⟨w.heap.size + 1, 1, none⟩ = some (.int .i64 0) ∧ W.cell? ⟨w.heap.size + 1, 2, none⟩ = some (.int .i64 0) ∧ W.cell? ⟨w.heap.size + 1, 3, none⟩ = some (.int .i64 0)) ∧ (∀ j, W.frozen? ⟨w.heap.size + 1, j, none⟩ = false) ∧ hb < W.heap.size ∧ w.heap.size + 1 < W.heap.size := fun W hb' => by
        have k := belCell hb'
        have := hb'.size
        exact ⟨⟨(k _ _ gh).trans h0, (k _ _ gh).trans h1, (k _ _ gh).trans h2⟩, ⟨(k _ _ g1).trans x0, (k _ _ g1).trans x1, (k _ _ g1).trans x2, (k _ _ g1).trans x3⟩, ⟨(k _ _ g2).trans r0, (k _ _ g2).trans r1, (k _ _ g2).trans r2, (k _ _ g2).trans r3⟩, fun j => (World.frozen?_of_block (hb'.block _ g2)).trans (rf j), by omega, by omega⟩
      have CD := Lib.hid cD
      have HW : Hid (stW x a b c A B C o p = if p = 0 then .tuple #[spV x a b c, .int .i64 3] else .tuple #[spV p A B C, .int .i64 1]) := by show _ = _; rw [stW, if_neg o4]
      clear o4 F cD h0 h1 h2 x1 x2 x3 r0 r1 r2 r3 rf hsz
      go_wp2_with fail
      refine (HPO.out _ BW.out).mono ?_
      rintro e w5 ⟨rfl, b5⟩
      obtain ⟨⟨h0, h1, h2⟩, ⟨x0, x1, x2, x3⟩, ⟨r0, r1, r2, r3⟩, rf, gh, g2⟩ := CD.out _ b5
      have g1 : w.heap.size < w5.heap.size := by omega
      have B5 := Lib.hid (belStep BW.out b5)
      clear b5 CD
      by_cases p0 : p = 0
      · have HV : Hid (stW x a b c A B C o p = .tuple #[spV x a b c, .int .i64 3]) := by show _ = _; rw [HW.out, if_pos p0]
        have ep : (p == 0) = true := by simp [p0]
        clear p0 HW HZP
        cases eo : (o == 0)
        all_goals
          go_wp2
          exact bodyPost_ret (v := .tuple #[.agg #[.int .i64 x, .int .i64 a, .int .i64 b, .int .i64 c], .int .i64 3]) (by simp [results, Tryz.results29, go_sem, r0, r1, r2, r3]) rfl ⟨by rw [HV.out]; rfl, ((((B5.out.setCell (by exact Nat.le_succ _) _).setCell (by exact Nat.le_succ _) _).setCell (by exact Nat.le_succ _) _).setCell (by exact Nat.le_succ _) _)⟩
      · have HV : Hid (stW x a b c A B C o p = .tuple #[spV p A B C, .int .i64 1]) := by show _ = _; rw [HW.out, if_neg p0]
        have ep : (p == 0) = false := by simp [p0]
        have eo : (o == 0) = false := by simpa using fun h => p0 (HZP.out h)
        clear p0 HW HZP
        go_wp2
        exact bodyPost_ret (v := .tuple #[.agg #[.int .i64 p, .int .i64 A, .int .i64 B, .int .i64 C], .int .i64 1]) (by simp [results, Tryz.results29, go_sem, r0, r1, r2, r3]) rfl ⟨by rw [HV.out]; rfl, ((((B5.out.setCell (by exact Nat.le_succ _) _).setCell (by exact Nat.le_succ _) _).setCell (by exact Nat.le_succ _) _).setCell (by exact Nat.le_succ _) _)⟩

end Go.Proofs.YtjjhahhchimmlaaGreatDoor
