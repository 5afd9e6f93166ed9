/-
  The texts that the statements draw: at every code.
-/
import Derived.Test.YtcipidcnkllanaaDoorPredDraw
namespace Go.Proofs.YtcipidcnkllanaaDoor
open Go.ChangeShapes Go.WideShapes Go.ChangeAt Go.RowKit Go.Joins
set_option linter.unusedVariables false

set_option maxRecDepth 100000 in
set_option maxHeartbeats 4000000 in
theorem l91Fine_any (w : World) (g B : Nat) (hr : RdOk w g B) (hB : B ≤ 1000000) :
    Calls Tryd.prog 23 #[.pointer (some ⟨g, 0, none⟩)] w (TextP 24 200 g B w) := by
  have hlt := hr.lt
  have HR := Lib.hid hr
  have H3 := Lib.hid (fun W B' hr' (h : B' ≤ 10000000) => l91Pred_any 3 (by omega) W g B' hr' h)
  have H2 := Lib.hid (fun W B' hr' (h : B' ≤ 10000000) => l91Pred_any 2 (by omega) W g B' hr' h)
  unfold TextP at H2 H3
  have m3 : mP 3 = 60 := rfl
  have m2 : mP 2 = 28 := rfl
  have n3 : nP 3 = 23 := rfl
  have n2 : nP 2 = 11 := rfl
  rw [m3, n3] at H3
  rw [m2, n2] at H2
  clear hr m3 m2 n3 n2
  go_enter Tryd.func23, Tryd.ntmps23
  go_wp2_with fail
  refine (H3.out _ _ HR.out (by omega)).mono ?_
  rintro e w1 ⟨s, hs, rfl, hr1, g1⟩
  have HR1 := Lib.hid hr1
  have G1 := Lib.hid g1
  have s1 := g1.size
  clear hr1 g1 H3 HR
  go_wp2
  go_loopw [3, 4] (fun o i wr => ∃ k : Nat, k ≤ 4 ∧ i = .int .i64 k ∧ (∃ s : ByteArray, s.size ≤ 23 ∧ o = .string s) ∧ RdOk wr g (B + 60 + 28 * k) ∧ w.grownBy wr (some g)) (fun _ i _ => 4 - (intOf i).toNat)
  case atStart => exact ⟨0, Nat.zero_le _, rfl, ⟨_, hs, rfl⟩, HR1.out, G1.out⟩
  case round =>
    obtain ⟨k, hk, rfl, ⟨t, ht, rfl⟩, hrd, hgr⟩ := hrel
    have HRD := Lib.hid hrd
    have HGR := Lib.hid hgr
    have s2 := hgr.size
    clear hrd hgr HR1 G1
    by_cases hlt4 : k < 4 ∧ 16 < t.size
    · obtain ⟨hk4, ht16⟩ := hlt4
      go_wp2_with fail
      refine (H2.out _ _ HRD.out (by omega)).mono ?_
      rintro e w3 ⟨u, hu, rfl, hr3, g3⟩
      have HR3 := Lib.hid (hr3.le (B' := B + 60 + 28 * (k + 1)) (by omega))
      have G3 := Lib.hid (gTrans HGR.out g3)
      clear hr3 g3
      go_wp2
      go_roundw
      case rel => exact ⟨k + 1, by omega, by go_num, ⟨_, by omega, rfl⟩, HR3.out, G3.out⟩
      case measure => simp [intOf]; omega
    · have EXIT : Hid (decide ((k : Int) < 4) = false ∨ ((k : Int) < 4 ∧ decide (16 < (t.size : Int)) = false)) := by
        show _ ∨ _
        by_cases h4 : k < 4
        · refine .inr ⟨by omega, ?_⟩
          simp
          omega
        · refine .inl ?_
          simp
          omega
      have HRE := Lib.hid (HRD.out.le (B' := B + 198) (by omega))
      rcases EXIT.out with he | ⟨h4, he⟩
      all_goals
        clear hlt4 EXIT H2 HRD
        go_wp2_with fail
        refine (pick_any _ _ _ _ HRE.out (by omega) (by omega)).mono ?_
        rintro e w3 ⟨v, v0, v1, rfl, hr3, g3⟩
        have HR3 := Lib.hid hr3
        have G3 := Lib.hid (gTrans HGR.out g3)
        have s3 := g3.size
        clear hr3 g3 HGR HRE
        by_cases hv : v = 0
        · subst hv
          have y1 : (⟨#[49]⟩ : ByteArray).size = 1 := rfl
          have n0 := newBlock w3 (.cells #[.string ⟨#[]⟩, .string ⟨#[115, 52]⟩, .string ⟨#[38, 49]⟩, .string (t ++ ⟨#[49]⟩), .string ⟨#[97]⟩] 9)
          have HRs := Lib.hid (HR3.out.alloc (.cells #[.string ⟨#[]⟩, .string ⟨#[115, 52]⟩, .string ⟨#[38, 49]⟩, .string (t ++ ⟨#[49]⟩), .string ⟨#[97]⟩] 9))
          have HC := Lib.hid (listCells (xs := [⟨#[]⟩, ⟨#[115, 52]⟩, ⟨#[38, 49]⟩, t ++ ⟨#[49]⟩, ⟨#[97]⟩]) (fun s => s.size ≤ 24) n0 (by
            intro x hx
            simp only [List.mem_cons, List.not_mem_nil, or_false] at hx
            rcases hx with rfl | rfl | rfl | rfl | rfl
            · decide
            · decide
            · decide
            · rw [ByteArray.size_append, y1]; omega
            · decide))
          have HO := Lib.hid (of_someP _ g (B + 198 + 1) w3.heap.size 5 (fun s => s.size ≤ 24) HRs.out (by omega) (by omega) (by omega) (by omega) (by simp) HC.out)
          clear n0 HC HRs
          go_wp2_with fail
          refine HO.out.mono ?_
          rintro e w4 ⟨u, hu, rfl, hr4, g4⟩
          have HR4 := Lib.hid hr4
          have G4 := Lib.hid (gTrans (gAlloc G3.out _) g4)
          clear hr4 g4 HO
          go_wp2
          go_ret
          exact ⟨u, hu, rfl, HR4.out.le (by omega), G4.out⟩
        · have e0 : (v == 0) = false := by simpa using hv
          go_wp2
          go_ret
          exact ⟨t, by omega, rfl, HR3.out.le (by omega), G3.out⟩

/-- A text, two texts, a text and a head, drawn from a code. -/
def FromP (w : World) (e : Ending) (w' : World) : Prop := ∃ s : ByteArray, s.size ≤ 26 ∧ e = .returned (.string s) ∧ Below w.heap.size w w'
def TwoFromP (w : World) (e : Ending) (w' : World) : Prop := ∃ s t : ByteArray, s.size ≤ 26 ∧ t.size ≤ 26 ∧ e = .returned (.tuple #[.string s, .string t]) ∧ Below w.heap.size w w'
def HeadFromP (w : World) (e : Ending) (w' : World) : Prop := ∃ (s : ByteArray) (x y z : Int), s.size ≤ 26 ∧ e = .returned (.tuple #[.string s, .agg #[.int .i64 x, .int .i64 y, .int .i64 z]]) ∧ Below w.heap.size w w'


end Go.Proofs.YtcipidcnkllanaaDoor
