/-
  Nets: what lies at the other end of a port, the model's and the program's answer.
-/
import Derived.Test.YtjjhahhchimmlaaGreatDoorNetPeerP
import Derived.Test.YtjjhahhchimmlaaGreatDoorNetOkI
namespace Go.Proofs.YtjjhahhchimmlaaGreatDoor
open Go.ChangeShapes Go.WideShapes Go.ChangeAt Go.RowKit Go.Joins
set_option linter.unusedVariables false

set_option maxRecDepth 100000 in
set_option maxHeartbeats 4000000 in
theorem l21Peer_any (w : World) (v : Value) (l : List K4) (sw port : Int) (h : Lks w w.heap.size v l) :
    Calls Tryz.prog 50 #[v, .int .i64 sw, .int .i64 port] w fun e w' => e = .returned (.tuple #[.int .i64 (peerF l sw port).1, .int .i64 (peerF l sw port).2]) ∧ Below w.heap.size w w' := by
  obtain ⟨a, cap, rfl, hc, hm, hh⟩ := h
  have HH := Lib.hid hh
  clear hh
  unfold maxLen at hm
  generalize hN : l.length = n at *
  go_enter Tryz.func50, Tryz.ntmps50
  go_wp2_with fail
  go_loopw [8] (fun i wr => ∃ k : Nat, k ≤ n ∧ i = .int .i64 k ∧ peerF (l.drop k) sw port = peerF l sw port ∧ Below w.heap.size w wr) (fun i _ => n - (intOf i).toNat)
  case atStart => exact ⟨0, Nat.zero_le _, rfl, rfl, Below.refl _ _⟩
  case round =>
    obtain ⟨k, hk, rfl, hpe, hbel⟩ := hrel
    by_cases hlt : k < n
    · have hkz : (k : Int) < (n : Int) := by omega
      rcases HH.out with h1 | ⟨b, off, rfl, hb, hcell⟩
      · rw [h1] at hN; simp at hN; omega
      obtain ⟨c0, c1, c2, c3⟩ := (hcell k hlt).below hbel hb
      rw [peerF_drop (by omega)] at hpe
      have HBL := Lib.hid hbel
      have hbr : b < wr.heap.size := Nat.lt_of_lt_of_le hb hbel.size
      clear hcell hbel
      generalize lkAt l k = x at *
      obtain ⟨A, B, C, D⟩ := x
      dsimp only at c0 c1 c2 c3 hpe
      have q0 := fun m : Ext wr => m.cell hbr c0
      have q1 := fun m : Ext wr => m.cell hbr c1
      have q2 := fun m : Ext wr => m.cell hbr c2
      have q3 := fun m : Ext wr => m.cell hbr c3
      by_cases e1 : A = sw ∧ B = port
      · rw [if_pos e1] at hpe
        have HPE : Hid (peerF l sw port = (C, D)) := hpe.symm
        have f1 : (A == sw) = true := by simp [e1.1]
        have f2 : (B == port) = true := by simp [e1.2]
        clear hpe e1
        go_wp2_with fail
        refine wp_region_ext (w0 := wr) (by kernel_rfl) (by kernel_rfl) (Below.refl _ _) ?_
        repeat (go_big_quiet_step (fail))
        refine wpQuiet_nil ?_
        intro w5 hx5
        have HB5 := Lib.hid (ext_out hx5)
        clear hx5 q0 q1 q2 q3
        go_wp2
        go_ret2
        exact ⟨by rw [HPE.out]; try rfl, belStep HBL.out HB5.out⟩
      · by_cases e2 : C = sw ∧ D = port
        · rw [if_neg e1, if_pos e2] at hpe
          have HPE : Hid (peerF l sw port = (A, B)) := hpe.symm
          have g1 : (C == sw) = true := by simp [e2.1]
          have g2 : (D == port) = true := by simp [e2.2]
          clear hpe e2
          have HF : (A == sw) = false ∨ ((A == sw) = true ∧ (B == port) = false) := by
            by_cases x : A = sw
            · exact .inr ⟨by simp [x], by simpa using fun y => e1 ⟨x, y⟩⟩
            · exact .inl (by simpa using x)
          clear e1
          rcases HF with f1 | ⟨f1, f2⟩
          all_goals
            go_wp2_with fail
            refine wp_region_ext (w0 := wr) (by kernel_rfl) (by kernel_rfl) (Below.refl _ _) ?_
            repeat (go_big_quiet_step (fail))
            refine wpQuiet_nil ?_
            intro w5 hx5
            have HB5 := Lib.hid (ext_out hx5)
            clear hx5 q0 q1 q2 q3
            go_wp2
            go_ret2
            exact ⟨by rw [HPE.out]; try rfl, belStep HBL.out HB5.out⟩
        · rw [if_neg e1, if_neg e2] at hpe
          have HPE := Lib.hid hpe
          clear hpe q0 q1 q2 q3
          have HF : (A == sw) = false ∨ ((A == sw) = true ∧ (B == port) = false) := by
            by_cases x : A = sw
            · exact .inr ⟨by simp [x], by simpa using fun y => e1 ⟨x, y⟩⟩
            · exact .inl (by simpa using x)
          have HG : (C == sw) = false ∨ ((C == sw) = true ∧ (D == port) = false) := by
            by_cases x : C = sw
            · exact .inr ⟨by simp [x], by simpa using fun y => e2 ⟨x, y⟩⟩
            · exact .inl (by simpa using x)
          clear e1 e2
          rcases HF with f1 | ⟨f1, f2⟩ <;> rcases HG with g1 | ⟨g1, g2⟩
          all_goals
            go_wp2
            go_roundw
            case rel => exact ⟨k + 1, by omega, by go_num, HPE.out, HBL.out⟩
            case measure => simp [intOf]; omega
    · obtain rfl : k = n := by omega
      rw [List.drop_eq_nil_of_le (by omega)] at hpe
      have HPE : Hid (peerF l sw port = (0, 0)) := hpe.symm
      clear hpe
      go_wp2
      go_ret2
      exact ⟨by rw [HPE.out]; try rfl, hbel⟩

/-- The answer of both. -/
def peerV (l : List K4) (sw port : Int) : Value := bif netB l then .tuple #[.int .i64 (peerF l sw port).1, .int .i64 (peerF l sw port).2, .bool (decide ((peerF l sw port).1 > 0))] else .tuple #[.int .i64 0, .int .i64 0, .bool false]

theorem peer_none {l : List K4} (h : netB l = true) {sw port : Int} (hz : swB sw = false ∨ ptB port = false) : peerF l sw port = (0, 0) := by
  rcases peer_ok h sw port with h0 | ⟨⟨s1, s4⟩, ⟨t1, t3⟩, -⟩
  · exact h0
  · rcases hz with hz | hz
    · rw [show swB sw = true from inB_mk s1 s4] at hz; cases hz
    · rw [show ptB port = true from inB_mk t1 t3] at hz; cases hz

end Go.Proofs.YtjjhahhchimmlaaGreatDoor
