/-
  The parts of a text: by the program, and by the model.
-/
import Derived.Test.YtddkpimmcmnogaaDoorPredB
import Derived.Test.YtddkpimmcmnogaaDoorStrRow
import Derived.Test.YtddkpimmcmnogaaDoorWildLessI
namespace Go.Proofs.YtddkpimmcmnogaaDoor
open Go.ChangeShapes Go.WideShapes Go.ChangeAt Go.RowKit Go.Joins
set_option linter.unusedVariables false

theorem litRow (w : World) (a : ByteArray) {base : Nat} (hb : base ≤ w.heap.size) : StrRow (w.alloc (.cells #[.string a] 9)) base (.slice (some ⟨w.heap.size, 0, none⟩) 1 1) [a] :=
  ⟨rfl, .inr ⟨w.heap.size, 1, #[.string a], rfl, hb, heap_alloc_new w _, Nat.le_refl _, by unfold maxLen; omega, rfl, rfl⟩⟩

set_option maxHeartbeats 2000000 in
theorem iparts_none (s : ByteArray) (hs : s.size ≤ 1048576) (k : Nat) (caps : Array Value) (w : World) :
    Calls Tryd.prog 42 #[.agg #[.string s, .slice none 0 0, .func (.func k) #[] caps]] w fun e w' => ∃ v, e = .returned v ∧ StrRow w' w.heap.size v [s] ∧ Below w.heap.size w w' := by
  have HC := Lib.hid (fun W => clone_any s W hs)
  go_enter Tryd.func42, Tryd.ntmps42
  go_wp2_with fail
  refine (HC.out _).mono ?_
  rintro e w1 ⟨rfl, b1⟩
  have B1 : Hid (Below w.heap.size w w1) := (below_alloc1 _ _).trans (b1.mono (by simp))
  clear b1
  go_wp2
  go_ret
  exact ⟨_, rfl, litRow w1 s B1.out.size, B1.out.alloc B1.out.size _⟩

set_option maxRecDepth 100000 in
set_option maxHeartbeats 4000000 in
theorem iparts_one (s s0 : ByteArray) (k : Nat) (caps : Array Value) (r cap : Nat) (t : ByteArray) (ad : Option Addr) (n1 c1 k1 : Nat) (caps1 : Array Value) (w : World) (ht : t.size ≤ 1048576) (hs0 : s0.size ≤ 1048576)
    (f0 : ∀ W : World, (Instr.slice 9 (.string s) none (some (.int .i64 1)) none).run Tryd.prog W = .ok (.string s0) W)
    (e0 : w.cell? ⟨r, 0, none⟩ = some (.string t)) (e1 : w.cell? ⟨r, 1, none⟩ = some (.slice ad n1 c1)) (e2 : w.cell? ⟨r, 2, none⟩ = some (.func (.func k1) #[] caps1)) :
    Calls Tryd.prog 42 #[.agg #[.string s, .slice (some ⟨r, 0, none⟩) 1 cap, .func (.func k) #[] caps]] w fun e w' => ∃ v, e = .returned v ∧ StrRow w' w.heap.size v [s0, t] ∧ Below w.heap.size w w' := by
  have hr := World.block_lt_of_cell? _ _ e0
  obtain ⟨i0, hi, hz0, hz1, hz2⟩ := info_parts infoStr
  have HI := Lib.hid hi
  have HZ0 := Lib.hid hz0
  have HZ1 := Lib.hid hz1
  have HZ2 := Lib.hid hz2
  clear hi hz0 hz1 hz2
  have HC := Lib.hid (fun W => clone_any s0 W hs0)
  have HD := Lib.hid (fun W => clone_any t W ht)
  have E0 := Lib.hid e0
  have E1 := Lib.hid e1
  have E2 := Lib.hid e2
  clear e0 e1 e2
  go_enter Tryd.func42, Tryd.ntmps42
  go_wp2_with fail
  refine (HC.out _).mono ?_
  rintro e w1 ⟨rfl, b1⟩
  have B1 : Hid (Below w.heap.size w w1) := (below_alloc1 _ _).trans (b1.mono (by simp))
  have s1 := b1.size
  simp at s1
  have p1 := belCell b1 w.heap.size 1 (by simp)
  simp at p1
  have zz : w.heap.size < w1.heap.size := by omega
  clear b1
  have c0 : Hid ((w1.alloc (.cells #[.string s0] 9)).cell? ⟨r, 0, none⟩ = some (.string t)) := cellLater (cellLater E0.out B1.out) (below_alloc1 _ _)
  have c1' : Hid ((w1.alloc (.cells #[.string s0] 9)).cell? ⟨r, 1, none⟩ = some (.slice ad n1 c1)) := cellLater (cellLater E1.out B1.out) (below_alloc1 _ _)
  have c2' : Hid ((w1.alloc (.cells #[.string s0] 9)).cell? ⟨r, 2, none⟩ = some (.func (.func k1) #[] caps1)) := cellLater (cellLater E2.out B1.out) (below_alloc1 _ _)
  have R1 : Hid (StrRow (w1.alloc (.cells #[.string s0] 9)) w1.heap.size (.slice (some ⟨w1.heap.size, 0, none⟩) 1 1) [s0]) := litRow w1 s0 (Nat.le_refl _)
  have z2 : Hid ((w1.alloc (.cells #[.string s0] 9)).heap.size = w1.heap.size + 1) := by show _ = _; simp
  have BW : Hid (Below w.heap.size w (w1.alloc (.cells #[.string s0] 9))) := B1.out.alloc B1.out.size _
  clear E0 E1 E2 B1 HC f0
  go_wp2_with fail
  have g0 := c0.out
  have g1 := c1'.out
  have g2 := c2'.out
  refine wp_loop_rounds 2 ?_
  rw [rounds_succ]
  go_wp2_with fail
  refine (HD.out _).mono ?_
  rintro e w2 ⟨rfl, b2⟩
  have s2 := b2.size
  simp at s2
  have R2 : Hid (StrRow w2 w1.heap.size (.slice (some ⟨w1.heap.size, 0, none⟩) 1 1) [s0]) := (R1.out.below (below_alloc1 _ _)).below b2
  have B2 : Hid (Below w.heap.size w w2) := (BW.out.alloc BW.out.size _).trans (b2.mono (by simp; omega))
  clear b2 HD R1 BW z2 c0 c1' c2' g0 g1 g2
  go_wp2_with (at_builtin; refine wpList_append_own _ rfl _ _ 23 rfl w1.heap.size 9 i0 (.string ⟨#[]⟩) 1 16 Tryd.underlying23 HI.out HZ0.out HZ1.out HZ2.out rfl (by decide) _ _ _ rfl (World.ownsRow.alloc R2.out _) ⟨w2.heap.size, 0, none⟩ 1 1 [.string t] rfl rfl ?c1 ?c2 ?c3 ?c4 ?c5 ?_)
  case c1 =>
    intro j u hj
    match j, hj with
    | 0, hj => simp at hj; subst hj; simp [Addr.add]
  case c2 => intro u hu; simp at hu; subst hu; rfl
  case c3 => unfold maxLen; simp
  case c4 => simp
  case c5 => simp; omega
  intro v3 w3 hownw3 hgw3 hnilw3
  clear hnilw3
  have sw3 := hgw3.size
  simp at sw3
  have Rw3 : Hid (StrRow w3 w1.heap.size v3 [s0, t]) := hownw3
  have Bw3 : Hid (Below w.heap.size w w3) := (B2.out.alloc (by omega) _).trans ((grownBelow (World.ownsRow.alloc R2.out _) hgw3 (by simp; omega)).mono (by omega))
  clear hownw3 hgw3 R2
  go_wp2_with fail
  rw [rounds_succ]
  go_wp2
  go_ret
  exact ⟨_, rfl, Rw3.out.mono (by omega), Bw3.out⟩

set_option maxRecDepth 100000 in
set_option maxHeartbeats 4000000 in
theorem iparts_two (s s0 : ByteArray) (k : Nat) (caps : Array Value) (r cap : Nat) (t : ByteArray) (ad : Option Addr) (n1 c1 k1 : Nat) (caps1 : Array Value) (t' : ByteArray) (ad' : Option Addr) (n1' c1x k1' : Nat) (caps1' : Array Value) (w : World) (ht : t.size ≤ 1048576) (ht' : t'.size ≤ 1048576) (hs0 : s0.size ≤ 1048576)
    (f0 : ∀ W : World, (Instr.slice 9 (.string s) none (some (.int .i64 1)) none).run Tryd.prog W = .ok (.string s0) W)
    (e0 : w.cell? ⟨r, 0, none⟩ = some (.string t)) (e1 : w.cell? ⟨r, 1, none⟩ = some (.slice ad n1 c1)) (e2 : w.cell? ⟨r, 2, none⟩ = some (.func (.func k1) #[] caps1))
    (e3 : w.cell? ⟨r, 3, none⟩ = some (.string t')) (e4 : w.cell? ⟨r, 4, none⟩ = some (.slice ad' n1' c1x)) (e5 : w.cell? ⟨r, 5, none⟩ = some (.func (.func k1') #[] caps1')) :
    Calls Tryd.prog 42 #[.agg #[.string s, .slice (some ⟨r, 0, none⟩) 2 cap, .func (.func k) #[] caps]] w fun e w' => ∃ v, e = .returned v ∧ StrRow w' w.heap.size v [s0, t, t'] ∧ Below w.heap.size w w' := by
  have hr := World.block_lt_of_cell? _ _ e0
  obtain ⟨i0, hi, hz0, hz1, hz2⟩ := info_parts infoStr
  have HI := Lib.hid hi
  have HZ0 := Lib.hid hz0
  have HZ1 := Lib.hid hz1
  have HZ2 := Lib.hid hz2
  clear hi hz0 hz1 hz2
  have HC := Lib.hid (fun W => clone_any s0 W hs0)
  have HD := Lib.hid (fun W => clone_any t W ht)
  have HD' := Lib.hid (fun W => clone_any t' W ht')
  have E3 := Lib.hid e3
  have E4 := Lib.hid e4
  have E5 := Lib.hid e5
  clear e3 e4 e5
  have E0 := Lib.hid e0
  have E1 := Lib.hid e1
  have E2 := Lib.hid e2
  clear e0 e1 e2
  go_enter Tryd.func42, Tryd.ntmps42
  go_wp2_with fail
  refine (HC.out _).mono ?_
  rintro e w1 ⟨rfl, b1⟩
  have B1 : Hid (Below w.heap.size w w1) := (below_alloc1 _ _).trans (b1.mono (by simp))
  have s1 := b1.size
  simp at s1
  have p1 := belCell b1 w.heap.size 1 (by simp)
  simp at p1
  have zz : w.heap.size < w1.heap.size := by omega
  clear b1
  have c0 : Hid ((w1.alloc (.cells #[.string s0] 9)).cell? ⟨r, 0, none⟩ = some (.string t)) := cellLater (cellLater E0.out B1.out) (below_alloc1 _ _)
  have c1' : Hid ((w1.alloc (.cells #[.string s0] 9)).cell? ⟨r, 1, none⟩ = some (.slice ad n1 c1)) := cellLater (cellLater E1.out B1.out) (below_alloc1 _ _)
  have c2' : Hid ((w1.alloc (.cells #[.string s0] 9)).cell? ⟨r, 2, none⟩ = some (.func (.func k1) #[] caps1)) := cellLater (cellLater E2.out B1.out) (below_alloc1 _ _)
  have R1 : Hid (StrRow (w1.alloc (.cells #[.string s0] 9)) w1.heap.size (.slice (some ⟨w1.heap.size, 0, none⟩) 1 1) [s0]) := litRow w1 s0 (Nat.le_refl _)
  have z2 : Hid ((w1.alloc (.cells #[.string s0] 9)).heap.size = w1.heap.size + 1) := by show _ = _; simp
  have BW : Hid (Below w.heap.size w (w1.alloc (.cells #[.string s0] 9))) := B1.out.alloc B1.out.size _
  clear E0 E1 E2 B1 HC f0
  go_wp2_with fail
  have g0 := c0.out
  have g1 := c1'.out
  have g2 := c2'.out
  refine wp_loop_rounds 3 ?_
  rw [rounds_succ]
  go_wp2_with fail
  refine (HD.out _).mono ?_
  rintro e w2 ⟨rfl, b2⟩
  have s2 := b2.size
  simp at s2
  have R2 : Hid (StrRow w2 w1.heap.size (.slice (some ⟨w1.heap.size, 0, none⟩) 1 1) [s0]) := (R1.out.below (below_alloc1 _ _)).below b2
  have B2 : Hid (Below w.heap.size w w2) := (BW.out.alloc BW.out.size _).trans (b2.mono (by simp; omega))
  clear b2 HD R1 BW z2 c0 c1' c2' g0 g1 g2
  go_wp2_with (at_builtin; refine wpList_append_own _ rfl _ _ 23 rfl w1.heap.size 9 i0 (.string ⟨#[]⟩) 1 16 Tryd.underlying23 HI.out HZ0.out HZ1.out HZ2.out rfl (by decide) _ _ _ rfl (World.ownsRow.alloc R2.out _) ⟨w2.heap.size, 0, none⟩ 1 1 [.string t] rfl rfl ?c1 ?c2 ?c3 ?c4 ?c5 ?_)
  case c1 =>
    intro j u hj
    match j, hj with
    | 0, hj => simp at hj; subst hj; simp [Addr.add]
  case c2 => intro u hu; simp at hu; subst hu; rfl
  case c3 => unfold maxLen; simp
  case c4 => simp
  case c5 => simp; omega
  intro v3 w3 hownw3 hgw3 hnilw3
  clear hnilw3
  have sw3 := hgw3.size
  simp at sw3
  have Rw3 : Hid (StrRow w3 w1.heap.size v3 [s0, t]) := hownw3
  have Bw3 : Hid (Below w.heap.size w w3) := (B2.out.alloc (by omega) _).trans ((grownBelow (World.ownsRow.alloc R2.out _) hgw3 (by simp; omega)).mono (by omega))
  clear hownw3 hgw3 R2
  have g3 := cellLater E3.out Bw3.out
  have g4 := cellLater E4.out Bw3.out
  have g5 := cellLater E5.out Bw3.out
  have hr3 : r < w3.heap.size := by omega
  have n3 : r ≠ w3.heap.size := by omega
  clear E3 E4 E5
  have hf3 : ∃ (a3 : Option Addr) (l3 q3 : Nat), v3 = .slice a3 l3 q3 := by
    rcases Rw3.out.form with ⟨h, -⟩ | ⟨g, cap, h, -⟩
    · exact ⟨_, _, _, h⟩
    · exact ⟨_, _, _, h⟩
  obtain ⟨a3, l3, q3, rfl⟩ := hf3
  go_wp2_with fail
  rw [rounds_succ]
  go_wp2_with fail
  refine (HD'.out _).mono ?_
  rintro e w4 ⟨rfl, b4⟩
  have s4 := b4.size
  simp at s4
  have R4 : Hid (StrRow w4 w1.heap.size (.slice a3 l3 q3) [s0, t]) := (Rw3.out.below (below_alloc1 _ _)).below b4
  have B4 : Hid (Below w.heap.size w w4) := (Bw3.out.alloc Bw3.out.size _).trans (b4.mono (by simp; omega))
  clear b4 HD' Rw3 Bw3 g3 g4 g5
  go_wp2_with (at_builtin; refine wpList_append_own _ rfl _ _ 23 rfl w1.heap.size 9 i0 (.string ⟨#[]⟩) 1 16 Tryd.underlying23 HI.out HZ0.out HZ1.out HZ2.out rfl (by decide) _ _ _ rfl (World.ownsRow.alloc R4.out _) ⟨w4.heap.size, 0, none⟩ 1 1 [.string t'] rfl rfl ?c1 ?c2 ?c3 ?c4 ?c5 ?_)
  case c1 =>
    intro j u hj
    match j, hj with
    | 0, hj => simp at hj; subst hj; simp [Addr.add]
  case c2 => intro u hu; simp at hu; subst hu; rfl
  case c3 => unfold maxLen; simp
  case c4 => simp
  case c5 => simp; omega
  intro v5 w5 hownw5 hgw5 hnilw5
  clear hnilw5
  have sw5 := hgw5.size
  simp at sw5
  have Rw5 : Hid (StrRow w5 w1.heap.size v5 [s0, t, t']) := hownw5
  have Bw5 : Hid (Below w.heap.size w w5) := (B4.out.alloc (by omega) _).trans ((grownBelow (World.ownsRow.alloc R4.out _) hgw5 (by simp; omega)).mono (by omega))
  clear hownw5 hgw5 R4
  go_wp2_with fail
  rw [rounds_succ]
  go_wp2
  go_ret
  exact ⟨_, rfl, Rw5.out.mono (by omega), Bw5.out⟩

end Go.Proofs.YtddkpimmcmnogaaDoor
