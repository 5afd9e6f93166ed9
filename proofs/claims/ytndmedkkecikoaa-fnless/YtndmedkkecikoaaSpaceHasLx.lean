/-
  Chapter 3: whether a head by its number is in a space; plain facts on the operations.
-/
import Derived.Test.YtndmedkkecikoaaSpaceAlg
import Derived.Test.YtndmedkkecikoaaWildF
namespace Go.Proofs.Ytndmedkkecikoaa
open Go.ChangeShapes Go.WideShapes Go.ChangeAt Go.RowKit Go.Joins
set_option linter.unusedVariables false

/-- The head of a number, as a value; its bits. -/
def lxV (n : Nat) : Value := .agg #[.int .i64 ((n : Int) / 16 % 4), .int .i64 ((n : Int) / 4 % 4), .int .i64 ((n : Int) % 4)]
def q6 (n : Nat) : List Bool := f6 (kb n)
theorem has_lx (n : Nat) (W : World) (v : Value) (l : List ByteArray) (hl : Strs W W.heap.size v l) (hs : Fit6 l) (hk : okSp l = true) :
    Calls Try.prog 16 #[v, lxV n] W fun e w' => e = .returned (.bool (inSp l (q6 n))) ∧ Below W.heap.size W w' := by
  have h := iSpaceHas_any W v l ((n : Int) / 16 % 4) ((n : Int) / 4 % 4) ((n : Int) % 4) hl hs
  rw [lx_ok, hk] at h
  exact h
theorem inSp_op (f : Bool → Bool → Bool) {l l' : List ByteArray} (hk : okSp l = true) (hk' : okSp l' = true) {q : List Bool} (hq : q.length = 6) : inSp (opR f l l') q = f (inSp l q) (inSp l' q) := by
  have h := spL_op f hk hk'
  unfold spL at h
  rw [tabF_zip] at h
  exact tabF_inj 6 h q hq
theorem op_comm (f : Bool → Bool → Bool) (hf : ∀ x y, f x y = f y x) {l l' : List ByteArray} (hk : okSp l = true) (hk' : okSp l' = true) : opR f l l' = opR f l' l := by
  rw [opR_ok f hk hk', opR_ok f hk' hk, List.zipWith_comm_of_comm hf]
theorem op_self (f : Bool → Bool → Bool) (h1 : f true true = true) (h0 : f false false = false) {l : List ByteArray} (hk : okSp l = true) : opR f l l = tidyR l := by
  rw [opR_ok f hk hk, zip_same f true h1 h0]
  simp [tidyR, hk]
theorem op_none {l : List ByteArray} (hk : okSp l = true) : opR (fun x y => x && !y) l l = [] := by
  rw [opR_ok _ hk hk, zip_same (fun x y => x && !y) false rfl rfl, spL_len]
  show tidyT (noL 6) = []
  rw [tidyT, tidyB_no]
  rfl
theorem op_nil (f : Bool → Bool → Bool) (h1 : f true false = true) (h0 : f false false = false) {l : List ByteArray} (hk : okSp l = true) : opR f l [] = tidyR l := by
  rw [opR_ok f hk (by decide), spL_nil]
  have := zip_no f true h1 h0 (spL l)
  rw [spL_len] at this
  show tidyT (List.zipWith f (spL l) (List.replicate (2 ^ 6) false)) = _
  rw [show (2 ^ 6 : Nat) = 64 from rfl, this]
  simp [tidyR, hk]
theorem allX_in (q : List Bool) : inSp [⟨#[120, 120, 120, 120, 120, 120]⟩] q = true := by
  have h : ∀ i, i < 6 → cf ⟨#[120, 120, 120, 120, 120, 120]⟩ i = false ∧ vf ⟨#[120, 120, 120, 120, 120, 120]⟩ i = false := by decide
  simp only [inSp, List.any_cons, List.any_nil, Bool.or_false]
  exact all6_iff.2 fun i hi => by rw [(h i hi).1, (h i hi).2]; simp
theorem op_all {l : List ByteArray} (hk : okSp l = true) : opR (fun x y => x && y) l [⟨#[120, 120, 120, 120, 120, 120]⟩] = tidyR l := by
  have hx : okSp [⟨#[120, 120, 120, 120, 120, 120]⟩] = true := by decide
  rw [opR_ok _ hk hx]
  have : List.zipWith (fun x y => x && y) (spL l) (spL [⟨#[120, 120, 120, 120, 120, 120]⟩]) = spL l := by
    unfold spL
    rw [tabF_zip]
    exact tabF_congr 6 fun q _ => by rw [allX_in]; simp
  rw [this]
  simp [tidyR, hk]

end Go.Proofs.Ytndmedkkecikoaa
