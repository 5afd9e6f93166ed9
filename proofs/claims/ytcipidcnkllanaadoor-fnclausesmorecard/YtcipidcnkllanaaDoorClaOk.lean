/-
  Clauses: whether they are ok, the model's and the program's answer; the program's list of clauses whose conditions are read.
-/
import Derived.Test.YtcipidcnkllanaaDoorClaS
import Derived.Test.YtcipidcnkllanaaDoorPredB
namespace Go.Proofs.YtcipidcnkllanaaDoor
open Go.ChangeShapes Go.WideShapes Go.ChangeAt Go.RowKit Go.Joins
set_option linter.unusedVariables false

/-- The condition of a clause, if it has one. -/
def C3.cnd (x : C3) : Option Cnd := whole x.s.data.toList
def okC (x : C3) : Bool := x.cnd.isSome && (inB x.o 0 4 && inB x.t (-1) 3)
def clB (l : List C3) : Bool := l.all okC && decide (l.length ≤ 6)
theorem C3.short (x : C3) : x.s.data.toList.length ≤ 1048576 := by
  have : x.s.data.toList.length = x.s.size := Array.length_toList
  have := x.hs
  omega

set_option maxRecDepth 100000 in
set_option maxHeartbeats 4000000 in
theorem sClausesOk_any (w : World) (v : Value) (l : List C3) (h : Cls w w.heap.size v l) (hn : l.length ≤ 1048576) :
    Calls Tryd.prog 7 #[v] w fun e w' => e = .returned (.bool (clB l)) ∧ Below w.heap.size w w' := by
  obtain ⟨a, cap, rfl, hc, hm, hh⟩ := h
  have HH := Lib.hid hh
  have HALL : Hid (∀ k, k < l.length → okC (clAt l k) = false → clB l = false) := fun k hk hb => by
    unfold clB
    have : l.all okC = false := by
      rw [List.all_eq_false]
      exact ⟨clAt l k, by rw [clAt_lt hk]; exact List.getElem_mem hk, by simp [hb]⟩
    rw [this]
    rfl
  have HEND : Hid ((∀ k, k < l.length → okC (clAt l k) = true) → clB l = decide (l.length ≤ 6)) := fun hk => by
    unfold clB
    have : l.all okC = true := by
      rw [List.all_eq_true]
      intro x hx
      obtain ⟨i, hi, rfl⟩ := List.getElem_of_mem hx
      have := hk i hi
      rwa [clAt_lt hi] at this
    rw [this]
    rfl
  have HPO : Hid (∀ (x : C3) W, Calls Tryd.prog 17 #[.string x.s] W fun e w' => e = .returned (.bool x.cnd.isSome) ∧ Below W.heap.size W w') := fun x W => by
    have := sPredOk_any x.s.data.toList x.short W
    rwa [bs_list] at this
  clear hh
  unfold maxLen at hm
  have HGEN : Hid (∀ r : Bool, clB l = r → clB l = r) := fun _ h => h
  generalize hN : l.length = n at *
  have HN := Lib.hid hN
  clear hN
  go_enter Tryd.func7, Tryd.ntmps7
  go_wp2
  go_loopw [3] (fun i wr => ∃ k : Nat, k ≤ n ∧ i = .int .i64 (k : Int) ∧ (∀ j, j < k → okC (clAt l j) = true) ∧ Below w.heap.size w wr) (fun i _ => n - (intOf i).toNat)
  case atStart => exact ⟨0, Nat.zero_le _, rfl, fun j hj => absurd hj (Nat.not_lt_zero _), Below.refl _ _⟩
  case round =>
    obtain ⟨k, hk, rfl, hall, hbel⟩ := hrel
    have HA := Lib.hid hall
    have HBL := Lib.hid hbel
    clear hall hbel
    by_cases hlt : k < n
    · have hz : (k : Int) < (n : Int) := by omega
      have hw1 : IntKind.i64.wrap ((k : Int) + 1) = (k : Int) + 1 := by rw [IntKind.wrap_i64]; omega
      rcases HH.out with h1 | ⟨b, off, rfl, hb, hcell⟩
      · have := HN.out; rw [h1] at this; simp at this; omega
      have HT : Hid (∀ W, Below w.heap.size w W → Thr W b (off + k * 3) (clAt l k)) := fun W hW => (hcell k hlt).below hW hb
      have HNO := Lib.hid (HALL.out k hlt)
      have HYES : Hid (okC (clAt l k) = true → ∀ j, j < k + 1 → okC (clAt l j) = true) := fun ho j hj => by
        by_cases e : j = k
        · rw [e]; exact ho
        · exact HA.out j (by omega)
      have HOK : Hid (okC (clAt l k) = ((clAt l k).cnd.isSome && (inB (clAt l k).o 0 4 && inB (clAt l k).t (-1) 3))) := rfl
      have HPX := Lib.hid (fun W => HPO.out (clAt l k) W)
      clear hcell HA
      generalize hox : okC (clAt l k) = ox at *
      generalize clAt l k = x at *
      obtain ⟨d0, d1, d2⟩ := HT.out _ HBL.out
      generalize x.cnd.isSome = c0 at *
      have HIO := Lib.hid (fun W => l6In_any x.o 0 4 W)
      have HIT := Lib.hid (fun W => l6In_any x.t (-1) 3 W)
      generalize inB x.o 0 4 = c1 at *
      generalize inB x.t (-1) 3 = c2 at *
      go_wp2_with fail
      refine (HPX.out _).mono ?_
      rintro e w1 ⟨rfl, b1⟩
      have HB1 := Lib.hid (belStep HBL.out b1)
      obtain ⟨e0, e1, e2⟩ := HT.out _ HB1.out
      clear b1 d0 d1 d2 HBL
      cases c0
      · have hF := HNO.out (by rw [HOK.out]; rfl)
        go_wp2
        go_ret
        exact ⟨by first | (rw [hF]; done) | simp [hF], HB1.out⟩
      go_wp2_with fail
      refine (HIO.out _).mono ?_
      rintro e w' ⟨rfl, rfl⟩
      cases c1
      · have hF := HNO.out (by rw [HOK.out]; rfl)
        go_wp2
        go_ret
        exact ⟨by first | (rw [hF]; done) | simp [hF], HB1.out⟩
      go_wp2_with fail
      refine (HIT.out _).mono ?_
      rintro e w' ⟨rfl, rfl⟩
      cases c2
      · have hF := HNO.out (by rw [HOK.out]; rfl)
        go_wp2
        go_ret
        exact ⟨by first | (rw [hF]; done) | simp [hF], HB1.out⟩
      have HY := Lib.hid (HYES.out (by rw [HOK.out]; rfl))
      go_wp2
      go_roundw
      case rel => exact ⟨k + 1, by omega, by go_num, HY.out, HB1.out⟩
      case measure => simp [intOf]; omega
    · obtain rfl : k = n := by omega
      have hF := HEND.out HA.out
      go_wp2
      go_ret
      exact ⟨by rw [hF]; first | rfl | (simp; done) | (simp; omega), HBL.out⟩

end Go.Proofs.YtcipidcnkllanaaDoor
