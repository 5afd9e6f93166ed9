/-
  Chapter 3: what is returned is a space again; how the operations go together.
-/
import Derived.Test.YtndmedkkecikoaaSpaceLx
import Derived.Test.YtndmedkkecikoaaDrawSpace
namespace Go.Proofs.Ytndmedkkecikoaa
open Go.ChangeShapes Go.WideShapes Go.ChangeAt Go.RowKit Go.Joins
set_option linter.unusedVariables false

theorem opR_ok (f : Bool → Bool → Bool) {l l' : List ByteArray} (hk : okSp l = true) (hk' : okSp l' = true) : opR f l l' = tidyT (List.zipWith f (spL l) (spL l')) := by simp [opR, hk, hk']
theorem okSp_op (f : Bool → Bool → Bool) {l l' : List ByteArray} (hk : okSp l = true) (hk' : okSp l' = true) : okSp (opR f l l') = true := by rw [opR_ok f hk hk']; exact okSp_tidy _
theorem spL_op (f : Bool → Bool → Bool) {l l' : List ByteArray} (hk : okSp l = true) (hk' : okSp l' = true) : spL (opR f l l') = List.zipWith f (spL l) (spL l') := by rw [opR_ok f hk hk']; exact spL_tidy (zip64 _ _ _)
theorem tidy_all (m : List Bool) : ∀ s ∈ tidyT m, s.size = 6 := fun s hs => by
  obtain ⟨x, hx, rfl⟩ := List.mem_map.1 hs
  rw [show (sText x).size = x.length from by simp [sText, ByteArray.size], tidyB_len 6 m x hx]
theorem fit_op (f : Bool → Bool → Bool) (l l' : List ByteArray) : Fit6 (opR f l l') := by
  unfold opR
  cases okSp l && okSp l'
  · intro i hi; simp at hi
  · exact fit_tidy _
theorem fit_tidyR (l : List ByteArray) : Fit6 (tidyR l) := by
  unfold tidyR
  cases okSp l
  · intro i hi; simp at hi
  · exact fit_tidy _
/-- Three sets of the same length: by what holds of three bools. -/
theorem zip3 {p q : Bool → Bool → Bool → Bool} (h : ∀ x y z, p x y z = q x y z) (a b c : List Bool) (_ : a.length = b.length) (_ : b.length = c.length) :
    List.zipWith (fun xy z => p xy.1 xy.2 z) (List.zip a b) c = List.zipWith (fun xy z => q xy.1 xy.2 z) (List.zip a b) c := by
  obtain rfl : p = q := by funext x y z; exact h x y z
  rfl
theorem zipL (f g : Bool → Bool → Bool) : ∀ (a b c : List Bool), a.length = b.length → b.length = c.length → List.zipWith f (List.zipWith g a b) c = List.zipWith (fun xy z => f (g xy.1 xy.2) z) (List.zip a b) c
  | [], [], [], _, _ => rfl
  | x :: a, y :: b, z :: c, h1, h2 => by simp [zipL f g a b c (by simpa using h1) (by simpa using h2)]
theorem zipR (f g : Bool → Bool → Bool) : ∀ (a b c : List Bool), a.length = b.length → b.length = c.length → List.zipWith f a (List.zipWith g b c) = List.zipWith (fun xy z => f xy.1 (g xy.2 z)) (List.zip a b) c
  | [], [], [], _, _ => rfl
  | x :: a, y :: b, z :: c, h1, h2 => by simp [zipR f g a b c (by simpa using h1) (by simpa using h2)]
theorem zipD (f g k : Bool → Bool → Bool) : ∀ (a b c : List Bool), a.length = b.length → b.length = c.length → List.zipWith f (List.zipWith g a b) (List.zipWith k a c) = List.zipWith (fun xy z => f (g xy.1 xy.2) (k xy.1 z)) (List.zip a b) c
  | [], [], [], _, _ => rfl
  | x :: a, y :: b, z :: c, h1, h2 => by simp [zipD f g k a b c (by simpa using h1) (by simpa using h2)]

theorem sameT_refl (l : List ByteArray) : sameT l l = true := by simp [sameT]
/-- One operation, taken in two ways. -/
theorem op_three (f : Bool → Bool → Bool) (hf : ∀ x y z, f (f x y) z = f x (f y z)) {l l' c : List ByteArray} (hk : okSp l = true) (hk' : okSp l' = true) (hc : okSp c = true) : opR f (opR f l l') c = opR f l (opR f l' c) := by
  rw [opR_ok f (okSp_op f hk hk') hc, opR_ok f hk (okSp_op f hk' hc), spL_op f hk hk', spL_op f hk' hc, zipL _ _ _ _ _ (by rw [spL_len, spL_len]) (by rw [spL_len, spL_len]), zipR _ _ _ _ _ (by rw [spL_len, spL_len]) (by rw [spL_len, spL_len])]
  congr 1
  exact zip3 (p := fun x y z => f (f x y) z) (q := fun x y z => f x (f y z)) hf _ _ _ (by rw [spL_len, spL_len]) (by rw [spL_len, spL_len])
/-- One operation over another one. -/
theorem op_over (f g h k m : Bool → Bool → Bool) (hf : ∀ x y z, f x (g y z) = h (k x y) (m x z)) {l l' c : List ByteArray} (hk : okSp l = true) (hk' : okSp l' = true) (hc : okSp c = true) : opR f l (opR g l' c) = opR h (opR k l l') (opR m l c) := by
  rw [opR_ok f hk (okSp_op g hk' hc), opR_ok h (okSp_op k hk hk') (okSp_op m hk hc), spL_op g hk' hc, spL_op k hk hk', spL_op m hk hc, zipR _ _ _ _ _ (by rw [spL_len, spL_len]) (by rw [spL_len, spL_len]), zipD _ _ _ _ _ _ (by rw [spL_len, spL_len]) (by rw [spL_len, spL_len])]
  congr 1
  exact zip3 (p := fun x y z => f x (g y z)) (q := fun x y z => h (k x y) (m x z)) hf _ _ _ (by rw [spL_len, spL_len]) (by rw [spL_len, spL_len])

end Go.Proofs.Ytndmedkkecikoaa
