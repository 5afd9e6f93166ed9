/-
  What the statements on the space of a drawn condition ask: the program's answers and the model's; plain facts on the canonical list of a condition's heads.
-/
import Derived.Test.YtddkpimmcmnogabDoorPredSpaceI
import Derived.Test.YtddkpimmcmnogabDoorSpaceHasLx
namespace Go.Proofs.YtddkpimmcmnogabDoor
open Go.ChangeShapes Go.WideShapes Go.ChangeAt Go.RowKit Go.Joins
set_option linter.unusedVariables false

/-- The bytes of a text. -/
def lB (s : ByteArray) : List UInt8 := s.data.toList
theorem lB_len (s : ByteArray) : (lB s).length = s.size := Array.length_toList
theorem lB_bs (l : List UInt8) : lB (bs l) = l := by simp [lB, bs]
theorem bs_lB (s : ByteArray) : bs (lB s) = s := bs_list s

theorem sOkP_at (s : ByteArray) (hs : s.size ≤ 1000) (w : World) :
    Calls Tryd.prog 9 #[.string s] w fun e w' => e = .returned (.bool (whole (lB s)).isSome) ∧ Below w.heap.size w w' := by
  have := sPredOk_any (lB s) (by rw [lB_len]; omega) w
  rwa [bs_lB] at this
theorem iHasP_at (s : ByteArray) (hs : s.size ≤ 1000) (x y z : Int) (ep : Addr) (w : World) (hE : w.cell? ⟨0, 0, none⟩ = some (errV ep)) :
    Calls Tryd.prog 12 #[.string s, .agg #[.int .i64 x, .int .i64 y, .int .i64 z]] w fun e w' => e = .returned (.bool (hasL (lB s) x y z)) ∧ Below w.heap.size w w' := by
  have := iPredHas_any (lB s) (by rw [lB_len]; omega) x y z ep w hE
  rwa [bs_lB] at this
theorem iSpace_at (s : ByteArray) (hs : s.size ≤ 1000) (ep : Addr) (w : World) (hE : w.cell? ⟨0, 0, none⟩ = some (errV ep)) :
    Calls Tryd.prog 6 #[.string s] w fun e w' => ∃ v, e = .returned v ∧ StrRow w' w.heap.size v (spaceT (lB s)) ∧ Below w.heap.size w w' := by
  have := iPredSpace_any (lB s) (by rw [lB_len]; omega) ep w hE
  rwa [bs_lB] at this
theorem sSpace_at (s : ByteArray) (hs : s.size ≤ 1000) (w : World) :
    Calls Tryd.prog 8 #[.string s] w fun e w' => ∃ v, e = .returned v ∧ StrRow w' w.heap.size v (spaceT (lB s)) ∧ Below w.heap.size w w' := by
  have := sPredSpace_any (lB s) (by rw [lB_len]; omega) w
  rwa [bs_lB] at this

theorem q6_fin : ∀ k : Fin 64, ofB (bitF (q6 k.val)) = (k.val : Int) := by decide +kernel
theorem in_ev (c : Cnd) {k : Nat} (hk : k < 64) : inSp (tidyT (evM c)) (q6 k) = evn c (k : Int) := by
  have h : tabF 6 (inSp (tidyT (evM c))) = tabF 6 (fun l => evn c (ofB (bitF l))) := (spL_tidy (evM_len c)).trans (evM_tab c)
  rw [tabF_inj 6 h (q6 k) rfl, q6_fin ⟨k, hk⟩]
theorem has_ev {c : Cnd} (hk : c.ok = true) (h16 : c.txt.length ≤ 16) {k : Nat} (hk64 : k < 64) : hasL c.txt ((k : Int) / 16 % 4) ((k : Int) / 4 % 4) ((k : Int) % 4) = evn c (k : Int) := by
  unfold hasL evn
  rw [whole_of hk h16]
  simp only
  rw [lx_ok, Bool.true_and, show (k : Int) / 16 % 4 = (k : Int) / 16 by omega]
theorem tidyR_tidy {m : List Bool} (hm : m.length = 64) : tidyR (tidyT m) = tidyT m := by
  unfold tidyR
  rw [okSp_tidy, cond_true, spL_tidy hm]

end Go.Proofs.YtddkpimmcmnogabDoor
