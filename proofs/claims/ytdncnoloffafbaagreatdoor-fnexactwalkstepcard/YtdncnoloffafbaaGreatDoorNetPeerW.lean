/-
  Nets: what lies at the other end of a port, the model's and the program's answer.
-/
import Derived.Test.YtdncnoloffafbaaGreatDoorNetPeerP
import Derived.Test.YtdncnoloffafbaaGreatDoorNetOkI
namespace Go.Proofs.YtdncnoloffafbaaGreatDoor
open Go.ChangeShapes Go.WideShapes Go.ChangeAt Go.RowKit Go.Joins
set_option linter.unusedVariables false

set_option maxRecDepth 100000 in
set_option maxHeartbeats 4000000 in
theorem l21Peer_any (w : World) (v : Value) (l : List K4) (sw port : Int) (h : Lks w w.heap.size v l) :
    Calls Tryz.prog 85 #[v, .int .i64 sw, .int .i64 port] w fun e w' => e = .returned (.tuple #[.int .i64 (peerF l sw port).1, .int .i64 (peerF l sw port).2]) ∧ Below w.heap.size w w' := by
  obtain ⟨a, cap, rfl, hc, hm, hh⟩ := h
  have HH := Lib.hid hh
  clear hh
  unfold maxLen at hm
  generalize hN : l.length = n at *
  go_enter Tryz.func85, Tryz.ntmps85
  go_wp2_with fail
  go_loopw [8] (fun i wr => ∃ k : Nat, k ≤ n ∧ i = .int .i64 k ∧ peerF (l.drop k) sw port = peerF l sw port ∧ Below w.heap.size w wr) (fun i _ => n - (intOf i).toNat)
  case atStart => exact ⟨0, Nat.zero_le _, rfl, rfl, Below.refl _ _⟩
  case round =>
    obtain ⟨k, hk, rfl, hpe, hbel⟩ := hrel
    by_cases hlt : k < n
    · have hkz : (k : Int) < (n : Int) := by omega
      rcases HH.out with h1 | ⟨b, off, rfl, hb, hcell⟩
      · rw [h1] at hN; simp at hN; omega
      obtain ⟨c0, c1, c2, c3⟩ := (hcell k hlt).below hbel hb
      rw [peerF_drop (by omega)] at hpe
      have HBL := Lib.hid hbel
      have hbr : b < wr.heap.size := Nat.lt_of_lt_of_le hb hbel.size
      clear hcell hbel
      generalize lkAt l k = x at *
      obtain ⟨A, B, C, D⟩ := x
      dsimp only at c0 c1 c2 c3 hpe
      have q0 := fun m : Ext wr => m.cell hbr c0
      have q1 := fun m : Ext wr => m.cell hbr c1
      have q2 := fun m : Ext wr => m.cell hbr c2
      have q3 := fun m : Ext wr => m.cell hbr c3
      by_cases e1 : A = sw ∧ B = port
      · rw [if_pos e1] at hpe
        have HPE : Hid (peerF l sw port = (C, D)) := hpe.symm
        have f1 : (A == sw) = true := by simp [e1.1]
        have f2 : (B == port) = true := by simp [e1.2]
        clear hpe e1
        go_wp2_with fail
        refine wp_region_ext (w0 := wr) (by kernel_rfl) (by kernel_rfl) (Below.refl _ _) ?_
        repeat (go_big_quiet_step (fail))
        refine wpQuiet_nil ?_
        intro w5 hx5
        have HB5 := Lib.hid (ext_out hx5)
        clear hx5 q0 q1 q2 q3
        go_wp2
        go_ret2
        exact ⟨by rw [HPE.out]; try rfl, belStep HBL.out HB5.out⟩
      · by_cases e2 : C = sw ∧ D = port
        · rw [if_neg e1, if_pos e2] at hpe
          have HPE : Hid (peerF l sw port = (A, B)) := hpe.symm
          have g1 : (C == sw) = true := by simp [e2.1]
          have g2 : (D == port) = true := by simp [e2.2]
          clear hpe e2
          have HF : (A == sw) = false ∨ ((A == sw) = true ∧ (B == port) = false) := by
            by_cases x : A = sw
            · exact .inr ⟨by simp [x], by simpa using fun y => e1 ⟨x, y⟩⟩
            · exact .inl (by simpa using x)
          clear e1
          rcases HF with f1 | ⟨f1, f2⟩
          all_goals
            go_wp2_with fail
            refine wp_region_ext (w0 := wr) (by kernel_rfl) (by kernel_rfl) (Below.refl _ _) ?_
            repeat (go_big_quiet_step (fail))
            refine wpQuiet_nil ?_
            intro w5 hx5
            have HB5 := Lib.hid (ext_out hx5)
            clear hx5 q0 q1 q2 q3
            go_wp2
            go_ret2
            exact ⟨by rw [HPE.out]; try rfl, belStep HBL.out HB5.out⟩
        · rw [if_neg e1, if_neg e2] at hpe
          have HPE := Lib.hid hpe
          clear hpe q0 q1 q2 q3
          have HF : (A == sw) = false ∨ ((A == sw) = true ∧ (B == port) = false) := by
            by_cases x : A = sw
            · exact .inr ⟨by simp [x], by simpa using fun y => e1 ⟨x, y⟩⟩
            · exact .inl (by simpa using x)
          have HG : (C == sw) = false ∨ ((C == sw) = true ∧ (D == port) = false) := by
            by_cases x : C = sw
            · exact .inr ⟨by simp [x], by simpa using fun y => e2 ⟨x, y⟩⟩
            · exact .inl (by simpa using x)
          clear e1 e2
          rcases HF with f1 | ⟨f1, f2⟩ <;> rcases HG with g1 | ⟨g1, g2⟩
          all_goals
            go_wp2
            go_roundw
            case rel => exact ⟨k + 1, by omega, by go_num, HPE.out, HBL.out⟩
            case measure => simp [intOf]; omega
    · obtain rfl : k = n := by omega
      rw [List.drop_eq_nil_of_le (by omega)] at hpe
      have HPE : Hid (peerF l sw port = (0, 0)) := hpe.symm
      clear hpe
      go_wp2
      go_ret2
      exact ⟨by rw [HPE.out]; try rfl, hbel⟩

/-- The answer of both. -/
def peerV (l : List K4) (sw port : Int) : Value := bif netB l then .tuple #[.int .i64 (peerF l sw port).1, .int .i64 (peerF l sw port).2, .bool (decide ((peerF l sw port).1 > 0))] else .tuple #[.int .i64 0, .int .i64 0, .bool false]

theorem peer_none {l : List K4} (h : netB l = true) {sw port : Int} (hz : swB sw = false ∨ ptB port = false) : peerF l sw port = (0, 0) := by
  rcases peer_ok h sw port with h0 | ⟨⟨s1, s4⟩, ⟨t1, t3⟩, -⟩
  · exact h0
  · rcases hz with hz | hz
    · rw [show swB sw = true from inB_mk s1 s4] at hz; cases hz
    · rw [show ptB port = true from inB_mk t1 t3] at hz; cases hz

set_option maxRecDepth 100000 in
set_option maxHeartbeats 4000000 in
theorem iNetPeer_any (w : World) (v : Value) (l : List K4) (sw port : Int) (h : Lks w w.heap.size v l) :
    Calls Tryz.prog 36 #[v, .int .i64 sw, .int .i64 port] w fun e w' => e = .returned (peerV l sw port) ∧ Below w.heap.size w w' := by
  have HR := Lib.hid (readNet_any w v l h)
  have HS := Lib.hid (fun W => switchOk_any sw W)
  have HT := Lib.hid (fun W => linkPortOk_any port W)
  clear h
  cases hb : netB l
  · rw [show peerV l sw port = .tuple #[.int .i64 0, .int .i64 0, .bool false] from by simp [peerV, hb]]
    rw [hb] at HR
    clear hb HS HT
    go_enter Tryz.func36, Tryz.ntmps36
    go_wp2_with fail
    refine HR.out.mono ?_
    rintro e w1 ⟨P, rfl, -, b1⟩
    have HB := Lib.hid b1
    clear b1 HR
    go_wp2_with (refine wl_alloc rfl rfl ?_)
    intro w2 p2 b2 s2
    go_wp2_with (refine wl_store rfl _ _ rfl _ rfl _ _ rfl p2 ?_)
    intro w3 p3 g3
    have HB3 := Lib.hid (belStep HB.out (b2.trans (grownBel g3 (Nat.le_refl _) b2.size)))
    go_wp2
    go_ret3
    exact ⟨rfl, HB3.out⟩
  · rw [hb] at HR
    cases h1 : swB sw
    · rw [show peerV l sw port = .tuple #[.int .i64 0, .int .i64 0, .bool false] from by simp [peerV, hb, peer_none hb (.inl h1)]]
      rw [h1] at HS
      clear hb HT h1
      go_enter Tryz.func36, Tryz.ntmps36
      go_wp2_with fail
      refine HR.out.mono ?_
      rintro e w1 ⟨P, rfl, -, b1⟩
      have HB := Lib.hid b1
      clear b1 HR
      go_wp2_with (refine wl_alloc rfl rfl ?_)
      intro w2 p2 b2 s2
      go_wp2_with (refine wl_store rfl _ _ rfl _ rfl _ _ rfl p2 ?_)
      intro w3 p3 g3
      have HB3 := Lib.hid (belStep HB.out (b2.trans (grownBel g3 (Nat.le_refl _) b2.size)))
      go_wp2_with fail
      refine (HS.out _).mono ?_
      rintro e w' ⟨rfl, rfl⟩
      go_wp2
      go_ret3
      exact ⟨rfl, HB3.out⟩
    · rw [h1] at HS
      cases h2 : ptB port
      · rw [show peerV l sw port = .tuple #[.int .i64 0, .int .i64 0, .bool false] from by simp [peerV, hb, peer_none hb (.inr h2)]]
        rw [h2] at HT
        clear hb h1 h2
        go_enter Tryz.func36, Tryz.ntmps36
        go_wp2_with fail
        refine HR.out.mono ?_
        rintro e w1 ⟨P, rfl, -, b1⟩
        have HB := Lib.hid b1
        clear b1 HR
        go_wp2_with (refine wl_alloc rfl rfl ?_)
        intro w2 p2 b2 s2
        go_wp2_with (refine wl_store rfl _ _ rfl _ rfl _ _ rfl p2 ?_)
        intro w3 p3 g3
        have HB3 := Lib.hid (belStep HB.out (b2.trans (grownBel g3 (Nat.le_refl _) b2.size)))
        go_wp2_with fail
        refine (HS.out _).mono ?_
        rintro e w' ⟨rfl, rfl⟩
        go_wp2_with fail
        refine (HT.out _).mono ?_
        rintro e w' ⟨rfl, rfl⟩
        go_wp2
        go_ret3
        exact ⟨rfl, HB3.out⟩
      · rw [h2] at HT
        obtain ⟨s, rfl, s1, s4⟩ := sw_nat h1
        obtain ⟨t, rfl, t1, t3⟩ := pt_nat h2
        have hpp := pk_peer hb s t t3
        have hpo := peer_ok hb (s : Int) (t : Int)
        rw [show peerV l (s : Int) (t : Int) = .tuple #[.int .i64 (peerF l s t).1, .int .i64 (peerF l s t).2, .bool (decide ((peerF l s t).1 > 0))] from by simp [peerV, hb]]
        have hxy : ∃ x y : Int, pk l (s * 8 + t * 2) = x ∧ pk l (s * 8 + t * 2 + 1) = y ∧ peerF l s t = (x, y) ∧ ((x = 0 ∧ y = 0) ∨ (0 < x ∧ x ≠ 0)) := by
          refine ⟨_, _, rfl, rfl, hpp.symm, ?_⟩
          rw [← hpp] at hpo
          rcases hpo with h0 | ⟨-, -, ⟨x1, -⟩, -⟩
          · injection h0 with a b
            exact .inl ⟨a, b⟩
          · exact .inr ⟨by omega, by omega⟩
        obtain ⟨x, y, hx, hy, he, hxy⟩ := hxy
        rw [he]
        have HX := Lib.hid hx
        have HY := Lib.hid hy
        have j1 : (0 : Int) ≤ (s : Int) := by omega
        have j2 : (0 : Int) ≤ (t : Int) := by omega
        have i1 : (s : Int) < 5 := by omega
        have i2 : (t : Int) < 4 := by omega
        have HLT : Hid (s * 8 + t * 2 + 1 < 40) := by show _ < _; omega
        clear hb h1 h2 hpp hpo he hx hy
        dsimp only
        have hdx : decide (x > 0) = !(x == 0) := by
          rcases hxy with ⟨rfl, -⟩ | ⟨h, h'⟩
          · rfl
          · simp [h, h']
        rw [hdx]
        clear hdx
        rcases hxy with ⟨rfl, rfl⟩ | ⟨hx0, hx1⟩
        all_goals
          go_enter Tryz.func36, Tryz.ntmps36
          go_wp2_with fail
          refine HR.out.mono ?_
          rintro e w1 ⟨P, rfl, hP, b1⟩
          obtain rfl := hP trivial
          have HB := Lib.hid b1
          clear b1 HR hP
          go_wp2_with (refine wl_alloc rfl rfl ?_)
          intro w2 p2 b2 s2
          go_wp2_with (refine wl_store rfl _ _ rfl _ rfl _ _ rfl p2 ?_)
          intro w3 p3 g3
          have HB3 := Lib.hid (belStep HB.out (b2.trans (grownBel g3 (Nat.le_refl _) b2.size)))
          have r0 := p3.cell (show s * 8 + t * 2 < 40 by have := HLT.out; omega)
          have r1 := p3.cell HLT.out
          rw [HX.out] at r0
          rw [HY.out] at r1
          have hl3 := p3.lt
          clear p2 b2 g3 s2 p3 HX HY
          go_wp2_with fail
          refine (HS.out _).mono ?_
          rintro e w' ⟨rfl, rfl⟩
          go_wp2_with fail
          refine (HT.out _).mono ?_
          rintro e w' ⟨rfl, rfl⟩
          go_wp2_with fail
          clear r0 r1
          first
            | (obtain ⟨d0, d1, d2⟩ := duoAt (w := w3) (t := 79) (a := .int .i64 x) (b := .int .i64 y)
               have HB4 := Lib.hid (belStep HB3.out (below_alloc1 w3 (.cells #[.int .i64 x, .int .i64 y] 79)))
               generalize (w3.alloc (.cells #[.int .i64 x, .int .i64 y] 79)) = W at *)
            | (obtain ⟨d0, d1, d2⟩ := duoAt (w := w3) (t := 79) (a := .int .i64 0) (b := .int .i64 0)
               have HB4 := Lib.hid (belStep HB3.out (below_alloc1 w3 (.cells #[.int .i64 0, .int .i64 0] 79)))
               generalize (w3.alloc (.cells #[.int .i64 0, .int .i64 0] 79)) = W at *)
          have q0 := fun m : Ext W => m.cell d2 d0
          have q1 := fun m : Ext W => m.cell d2 d1
          refine wp_region_ext (w0 := W) (by kernel_rfl) (by kernel_rfl) (Below.refl _ _) ?_
          repeat (go_big_quiet_step (fail))
          refine wpQuiet_nil ?_
          intro w5 hx5
          have HB5 := Lib.hid (belStep HB4.out (ext_out hx5))
          clear hx5 q0 q1 d0 d1
          go_wp2
          go_ret3
          exact ⟨by simp; try omega, HB5.out⟩

end Go.Proofs.YtdncnoloffafbaaGreatDoor
