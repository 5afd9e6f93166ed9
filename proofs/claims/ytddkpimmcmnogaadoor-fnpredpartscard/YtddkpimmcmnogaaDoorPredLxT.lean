/-
  Two slices of strings of calls' own are the same.
-/
import Derived.Test.YtddkpimmcmnogaaDoorPredLx
import Derived.Test.YtddkpimmcmnogaaDoorStrRow
namespace Go.Proofs.YtddkpimmcmnogaaDoor
open Go.ChangeShapes Go.WideShapes Go.ChangeAt Go.RowKit Go.Joins
set_option linter.unusedVariables false

set_option maxHeartbeats 1000000 in
theorem lxTexts_sameP (w : World) (base base' : Nat) (v v' : Value) (l : List ByteArray) (h : StrRow w base v l) (h' : StrRow w base' v' l) (hn : l.length ≤ 1048576) :
    Calls Tryd.prog 32 #[v, v'] w fun e w' => e = .returned (.bool true) ∧ Below w.heap.size w w' := by
  rcases h.form with ⟨rfl, rfl⟩ | ⟨g, cap, rfl, hb, hg, hc, hm, hcell, hfr⟩
  · rcases h'.form with ⟨rfl, -⟩ | ⟨g', cap', rfl, -, -, -, -, -, -⟩
    all_goals
      go_enter Tryd.func32, Tryd.ntmps32
      go_wp2
      go_loop [5] (fun i => i = .int .i64 0) (fun i => (intOf i).toNat)
      case atStart => rfl
      case round =>
        subst hrel
        go_wp2
        go_ret
        exact ⟨rfl, Below.refl _ _⟩
  · rcases h'.form with ⟨rfl, rfl⟩ | ⟨g', cap', rfl, hb', hg', hc', hm', hcell', hfr'⟩
    · go_enter Tryd.func32, Tryd.ntmps32
      go_wp2
      go_loop [5] (fun i => i = .int .i64 0) (fun i => (intOf i).toNat)
      case atStart => rfl
      case round =>
        subst hrel
        go_wp2
        go_ret
        exact ⟨rfl, Below.refl _ _⟩
    · have HC := Lib.hid hcell
      have HC' := Lib.hid hcell'
      clear hcell hcell' h h' hfr hfr'
      unfold maxLen at hm hm'
      generalize hN : l.length = n at *
      go_enter Tryd.func32, Tryd.ntmps32
      go_wp2
      go_loopw [5] (fun i wr => ∃ k : Nat, k ≤ n ∧ i = .int .i64 k ∧ Below w.heap.size w wr) (fun i _ => n - (intOf i).toNat)
      case atStart => exact ⟨0, Nat.zero_le _, rfl, Below.refl _ _⟩
      case round =>
        obtain ⟨k, hk, rfl, hbel⟩ := hrel
        by_cases hlt : k < n
        · have hz : (k : Int) < (n : Int) := by omega
          have c1 : wr.cell? ⟨g, k, none⟩ = some (.string (strAt l k)) := (belCell hbel _ _ hg).trans (HC.out k hlt)
          have c2 : wr.cell? ⟨g', k, none⟩ = some (.string (strAt l k)) := (belCell hbel _ _ hg').trans (HC'.out k hlt)
          generalize strAt l k = x at *
          go_wp2_with fail
          go_quiet (fail)
          go_wp2
          go_roundw
          case rel => exact ⟨k + 1, by omega, by go_num, ⟨hbel.os, hbel.tape, hbel.output, hbel.size, hbel.block⟩⟩
          case measure => simp [intOf]; omega
        · obtain rfl : k = n := by omega
          go_wp2
          go_ret
          exact ⟨rfl, hbel⟩

end Go.Proofs.YtddkpimmcmnogaaDoor
