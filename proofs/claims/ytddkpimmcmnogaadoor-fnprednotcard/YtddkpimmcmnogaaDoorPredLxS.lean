/-
  What the statements on two drawn conditions ask of texts: the program's answers and the model's, at every text of at most 1000 bytes.
-/
import Derived.Test.YtddkpimmcmnogaaDoorPredLx
import Derived.Test.YtddkpimmcmnogaaDoorPredSameI
import Derived.Test.YtddkpimmcmnogaaDoorPredSpaceI
namespace Go.Proofs.YtddkpimmcmnogaaDoor
open Go.ChangeShapes Go.WideShapes Go.ChangeAt Go.RowKit Go.Joins
set_option linter.unusedVariables false

theorem iSame_at (s t : ByteArray) (hs : s.size ≤ 1000) (ht : t.size ≤ 1000) (ep : Addr) (w : World) (hE : w.cell? ⟨0, 0, none⟩ = some (errV ep)) :
    Calls Tryd.prog 26 #[.string s, .string t] w fun e w' => e = .returned (.bool (sameL (lB s) (lB t))) ∧ Below w.heap.size w w' := by
  have := iPredSame_any (lB s) (lB t) (by rw [lB_len]; omega) (by rw [lB_len]; omega) ep w hE
  rwa [bs_lB, bs_lB] at this
theorem sSame_at (s t : ByteArray) (hs : s.size ≤ 1000) (ht : t.size ≤ 1000) (w : World) :
    Calls Tryd.prog 25 #[.string s, .string t] w fun e w' => e = .returned (.bool (sameL (lB s) (lB t))) ∧ Below w.heap.size w w' := by
  have := sPredSame_any (lB s) (lB t) (by rw [lB_len]; omega) (by rw [lB_len]; omega) w
  rwa [bs_lB, bs_lB] at this

theorem iSpace_at (s : ByteArray) (hs : s.size ≤ 1000) (ep : Addr) (w : World) (hE : w.cell? ⟨0, 0, none⟩ = some (errV ep)) :
    Calls Tryd.prog 30 #[.string s] w fun e w' => ∃ v, e = .returned v ∧ StrRow w' w.heap.size v (spaceT (lB s)) ∧ Below w.heap.size w w' := by
  have := iPredSpace_any (lB s) (by rw [lB_len]; omega) ep w hE
  rwa [bs_lB] at this
theorem sSpace_at (s : ByteArray) (hs : s.size ≤ 1000) (w : World) :
    Calls Tryd.prog 29 #[.string s] w fun e w' => ∃ v, e = .returned v ∧ StrRow w' w.heap.size v (spaceT (lB s)) ∧ Below w.heap.size w w' := by
  have := sPredSpace_any (lB s) (by rw [lB_len]; omega) w
  rwa [bs_lB] at this

theorem sameL_txt {c c' : Cnd} (hk : c.ok = true) (hk' : c'.ok = true) (h : c.txt.length ≤ 16) (h' : c'.txt.length ≤ 16) : sameL c.txt c'.txt = (evM c == evM c') := by
  unfold sameL
  rw [whole_of hk h, whole_of hk' h']
theorem same_of {c c' : Cnd} (hk : c.ok = true) (hk' : c'.ok = true) (h : c.txt.length ≤ 16) (h' : c'.txt.length ≤ 16) (he : ∀ n, evn c n = evn c' n) : sameL c.txt c'.txt = true := by
  rw [sameL_txt hk hk' h h']
  exact (evM_same c c').2 fun n _ _ => he n

end Go.Proofs.YtddkpimmcmnogaaDoor
