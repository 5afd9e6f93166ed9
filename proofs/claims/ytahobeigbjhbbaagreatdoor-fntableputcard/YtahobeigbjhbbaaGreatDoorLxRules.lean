/-
  The statements' own words on rules: two lists are the same; a rule is in a list.
-/
import Derived.Test.YtahobeigbjhbbaaGreatDoorTabDropM
namespace Go.Proofs.YtahobeigbjhbbaaGreatDoor
open Go.ChangeShapes Go.WideShapes Go.ChangeAt Go.RowKit Go.Joins
set_option linter.unusedVariables false

set_option maxRecDepth 100000 in
set_option maxHeartbeats 2000000 in
theorem lxRules_same (w : World) (v v' : Value) (l : List R4) (h : Rls w w.heap.size v l) (h' : Rls w w.heap.size v' l) (hn : l.length ≤ 1048576) :
    Calls Tryz.prog 17 #[v, v'] w fun e w' => e = .returned (.bool true) ∧ Below w.heap.size w w' := by
  obtain ⟨a, cap, rfl, hc, hm, hh⟩ := h
  obtain ⟨a', cap', rfl, hc', hm', hh'⟩ := h'
  have HH := Lib.hid hh
  have HH' := Lib.hid hh'
  clear hh hh'
  unfold maxLen at hm hm'
  generalize hN : l.length = n at *
  go_enter Tryz.func17, Tryz.ntmps17
  go_wp2
  go_loopw [5] (fun i wr => ∃ k : Nat, k ≤ n ∧ i = .int .i64 k ∧ Below w.heap.size w wr) (fun i _ => n - (intOf i).toNat)
  case atStart => exact ⟨0, Nat.zero_le _, rfl, Below.refl _ _⟩
  case round =>
    obtain ⟨k, hk, rfl, hbel⟩ := hrel
    by_cases hlt : k < n
    · have hz : (k : Int) < (n : Int) := by omega
      rcases HH.out with h1 | ⟨b, off, rfl, hb, hcell⟩
      · rw [h1] at hN; simp at hN; omega
      rcases HH'.out with h1 | ⟨b', off', rfl, hb', hcell'⟩
      · rw [h1] at hN; simp at hN; omega
      obtain ⟨c0, c1, c2, c3⟩ := (hcell k hlt).below hbel hb
      obtain ⟨d0, d1, d2, d3⟩ := (hcell' k hlt).below hbel hb'
      clear hcell hcell'
      have HBL := Lib.hid hbel
      clear hbel
      generalize ruAt l k = x at *
      go_wp2_with fail
      go_quiet (fail)
      have bq : Below wr.heap.size wr (wr.drewN nq) := belDrewN (Below.refl _ _) _
      go_wp2
      go_roundw
      case rel => exact ⟨k + 1, by omega, by go_num, belStep HBL.out bq⟩
      case measure => simp [intOf]; omega
    · obtain rfl : k = n := by omega
      go_wp2
      go_ret
      exact ⟨rfl, hbel⟩

theorem mem_take_step {l : List R4} {k : Nat} (hk : k < l.length) {r : R4} : r ∈ l.take (k + 1) ↔ r ∈ l.take k ∨ ruAt l k = r := by
  rw [take_step l hk, List.mem_append, List.mem_singleton]
  exact ⟨fun h => h.imp id Eq.symm, fun h => h.imp id Eq.symm⟩

set_option maxRecDepth 100000 in
set_option maxHeartbeats 2000000 in
theorem lxHas_any (w : World) (v : Value) (l : List R4) (r : R4) (h : Rls w w.heap.size v l) (hn : l.length ≤ 1048576) (m : Bool) (hmm : m = true ↔ r ∈ l) :
    Calls Tryz.prog 20 #[v, .agg #[.int .i64 r.p, .string r.s, .int .i64 r.o, .int .i64 r.t]] w fun e w' => e = .returned (.bool m) ∧ Below w.heap.size w w' := by
  obtain ⟨a, cap, rfl, hc, hm, hh⟩ := h
  have hnz : l.length = 0 ∨ ∃ b off, a = some ⟨b, off, none⟩ ∧ b < w.heap.size ∧ Hid (∀ i, i < l.length → Four w b (off + i * 4) (ruAt l i)) := by
    rcases hh with h | ⟨b, off, h1, h2, h3⟩
    · exact .inl (by rw [h]; rfl)
    · exact .inr ⟨b, off, h1, h2, h3⟩
  clear hh
  unfold maxLen at hm
  have HY : Hid (r ∈ l → m = true) := fun e => hmm.2 e
  have HN : Hid (r ∉ l → m = false) := fun e => by
    show m = false
    cases m
    · rfl
    · exact absurd (hmm.1 rfl) e
  have HT : Hid (∀ k, k < l.length → ruAt l k = r → r ∈ l) := fun k hk e => by rw [← e]; exact ruAt_mem hk
  have HST : Hid (∀ k, k < l.length → r ∉ l.take k → ¬ ruAt l k = r → r ∉ l.take (k + 1)) := fun k hk h1 h2 e => by
    rcases (mem_take_step hk).1 e with e | e
    · exact h1 e
    · exact h2 e
  have HA : Hid (r ∉ l.take l.length → r ∉ l) := by
    show _ → _
    rw [List.take_length]
    exact id
  have HK0 := Lib.hid (newBlockM w (.cells #[.int .i64 r.p, .string r.s, .int .i64 r.o, .int .i64 r.t] 25))
  have HB0 := Lib.hid (below_alloc1 w (.cells #[.int .i64 r.p, .string r.s, .int .i64 r.o, .int .i64 r.t] 25))
  have hs0 : w.heap.size < (w.alloc (.cells #[.int .i64 r.p, .string r.s, .int .i64 r.o, .int .i64 r.t] 25)).heap.size := by simp
  clear hmm
  generalize hN : l.length = n at *
  go_enter Tryz.func20, Tryz.ntmps20
  go_wp2
  go_loopw [5] (fun i wr => ∃ k : Nat, k ≤ n ∧ i = .int .i64 k ∧ r ∉ l.take k ∧ wr.heap[w.heap.size]? = some (.cells #[.int .i64 r.p, .string r.s, .int .i64 r.o, .int .i64 r.t] 25) ∧ w.heap.size < wr.heap.size ∧ Below w.heap.size w wr) (fun i _ => n - (intOf i).toNat)
  case atStart => exact ⟨0, Nat.zero_le _, rfl, by simp, HK0.out, hs0, HB0.out⟩
  case round =>
    obtain ⟨k, hk, rfl, hno, hblk, hsz, hbel⟩ := hrel
    have HNO := Lib.hid hno
    have HBL := Lib.hid hbel
    have HK := Lib.hid hblk
    clear hno
    by_cases hlt : k < n
    · have hkz : (k : Int) < (n : Int) := by omega
      rcases hnz with h0 | ⟨b, off, rfl, hb, HC⟩
      · omega
      obtain ⟨q0, q1, q2, q3⟩ := (HC.out k hlt).below hbel hb
      obtain ⟨e0, e1, e2, e3⟩ := fourOf hblk
      simp only [Nat.zero_add] at e1 e2 e3
      have HTK := Lib.hid (HT.out k hlt)
      have HSK := Lib.hid (HST.out k hlt HNO.out)
      clear hblk hbel HC HK0 HB0
      generalize ruAt l k = y at *
      rcases diffR y r with rfl | ⟨hsm, hd⟩
      · obtain rfl := HY.out (HTK.out rfl)
        go_wp2_with fail
        go_quiet (fail)
        have bq : Below wr.heap.size wr (wr.drewN nq) := belDrewN (Below.refl _ _) _
        go_wp2
        go_ret
        exact ⟨rfl, belStep HBL.out bq⟩
      · have hne : ¬ y = r := fun e => by rw [sameR_iff.2 e] at hsm; cases hsm
        have HNN := Lib.hid (HSK.out hne)
        clear hne
        rcases hd with h1 | ⟨h1, h2⟩ | ⟨h1, h2, h3⟩ | ⟨h1, h2, h3, h4⟩
        all_goals
          go_wp2_with fail
          go_quiet (fail)
          have bq : Below wr.heap.size wr (wr.drewN nq) := belDrewN (Below.refl _ _) _
          have sq := bq.size
          have HK1 := Lib.hid ((bq.block _ hsz).trans HK.out)
          have HB1 := Lib.hid (belStep HBL.out bq)
          go_wp2
          go_roundw
          case rel => exact ⟨k + 1, by omega, by go_num, HNN.out, HK1.out, by omega, HB1.out⟩
          case measure => simp [intOf]; omega
    · obtain rfl : k = n := by omega
      obtain rfl := HN.out (HA.out HNO.out)
      go_wp2
      go_ret
      exact ⟨rfl, HBL.out⟩

end Go.Proofs.YtahobeigbjhbbaaGreatDoor
