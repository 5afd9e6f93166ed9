/-
  The model's TableAt: the first rule that is of a head.
-/
import Derived.Test.YtjjhahhchimmlaaGreatDoorTabHandle
import Derived.Test.YtjjhahhchimmlaaGreatDoorTabSpec
namespace Go.Proofs.YtjjhahhchimmlaaGreatDoor
open Go.ChangeShapes Go.WideShapes Go.ChangeAt Go.RowKit Go.Joins
set_option linter.unusedVariables false

/-- The place of the first rule that is of a head. -/
def atI (a b c : Int) (l : List R4) : Int := match l.findIdx? (mR a b c) with | none => -1 | some i => i
theorem atI_none {a b c : Int} {l : List R4} (h : ∀ j, j < l.length → mR a b c (ruAt l j) = false) : atI a b c l = -1 := by
  have e : l.findIdx? (mR a b c) = none := by
    rw [List.findIdx?_eq_none_iff]
    intro r hr
    obtain ⟨j, hj, rfl⟩ := List.getElem_of_mem hr
    have := h j hj
    rw [ruAt_lt hj] at this
    simpa using this
  unfold atI
  rw [e]
theorem find_some {a b c : Int} {l : List R4} {k : Nat} (hk : k < l.length) (h : ∀ j, j < k → mR a b c (ruAt l j) = false) (hx : mR a b c (ruAt l k) = true) : l.findIdx? (mR a b c) = some k := by
  rw [List.findIdx?_eq_some_iff_getElem]
  refine ⟨hk, by rw [← ruAt_lt hk]; exact hx, fun j hj => ?_⟩
  have := h j hj
  rw [ruAt_lt (show j < l.length by omega)] at this
  rw [this]
  decide
theorem atI_some {a b c : Int} {l : List R4} {k : Nat} (hk : k < l.length) (h : ∀ j, j < k → mR a b c (ruAt l j) = false) (hx : mR a b c (ruAt l k) = true) : atI a b c l = k := by
  unfold atI
  rw [find_some hk h hx]
theorem mR_has {a b c : Int} (ho : okB a b c = true) {r : R4} (hr : okR r = true) : mR a b c r = hasM (cf r.s) (vf r.s) (hB a b c) := by
  have hs := (rOk_true hr).2.1
  unfold mR doB hasS
  rw [show rOk r.p r.s r.o r.t = true from hr, ho, hs]
  rfl

set_option maxRecDepth 100000 in
set_option maxHeartbeats 2000000 in
theorem l12At_any (w : World) (v : Value) (l : List R4) (h : Rls w w.heap.size v l) (hn : l.length ≤ 1048576) (hok : ∀ i, i < l.length → okR (ruAt l i) = true) (a b c : Int) (ho : okB a b c = true) :
    Calls Tryz.prog 64 #[v, .int .i64 (ofB (hB a b c))] w fun e w' => e = .returned (.int .i64 (atI a b c l)) ∧ Below w.heap.size w w' := by
  obtain ⟨d, cap, rfl, hc, hm, hh⟩ := h
  have hnz : l.length = 0 ∨ ∃ b off, d = some ⟨b, off, none⟩ ∧ b < w.heap.size ∧ Hid (∀ i, i < l.length → Four w b (off + i * 4) (ruAt l i)) := by
    rcases hh with h | ⟨b, off, h1, h2, h3⟩
    · exact .inl (by rw [h]; rfl)
    · exact .inr ⟨b, off, h1, h2, h3⟩
  clear hh
  have HNO : Hid ((∀ j, j < l.length → mR a b c (ruAt l j) = false) → atI a b c l = -1) := atI_none
  have HYES : Hid (∀ k, k < l.length → (∀ j, j < k → mR a b c (ruAt l j) = false) → mR a b c (ruAt l k) = true → atI a b c l = k) := fun k => atI_some
  have HH : Hid (∀ i, i < l.length → ∀ w, Calls Tryz.prog 74 #[.string (ruAt l i).s, .int .i64 (ofB (hB a b c))] w fun e w' => e = .returned (.bool (mR a b c (ruAt l i))) ∧ Below w.heap.size w w') := fun i hi w => by
    rw [mR_has ho (hok i hi)]
    exact l2Has_any _ (rOk_true (hok i hi)).2.1 _ w
  clear hok ho
  unfold maxLen at hm
  generalize hN : l.length = n at *
  generalize ofB (hB a b c) = num at *
  go_enter Tryz.func64, Tryz.ntmps64
  go_wp2
  go_loopw [5] (fun i wr => ∃ k : Nat, k ≤ n ∧ i = .int .i64 k ∧ (∀ j, j < k → mR a b c (ruAt l j) = false) ∧ Below w.heap.size w wr) (fun i _ => n - (intOf i).toNat)
  case atStart => exact ⟨0, Nat.zero_le _, rfl, fun j hj => absurd hj (Nat.not_lt_zero _), Below.refl _ _⟩
  case round =>
    obtain ⟨k, hk, rfl, hok, hbel⟩ := hrel
    have HOK := Lib.hid hok
    have HBL := Lib.hid hbel
    clear hok
    by_cases hlt : k < n
    · have hkz : (k : Int) < (n : Int) := by omega
      rcases hnz with h0 | ⟨b', off, rfl, hb, HC⟩
      · omega
      obtain ⟨c0, c1, c2, c3⟩ := (HC.out k hlt).below hbel hb
      have HX := Lib.hid (HH.out k hlt)
      have HT := Lib.hid (HYES.out k hlt HOK.out)
      have HNX : Hid (mR a b c (ruAt l k) = false → ∀ j, j < k + 1 → mR a b c (ruAt l j) = false) := fun hf j hj => by
        by_cases e : j = k
        · subst e; exact hf
        · exact HOK.out j (by omega)
      clear hbel
      generalize mR a b c (ruAt l k) = m at *
      generalize ruAt l k = x at *
      go_wp2_with fail
      refine (HX.out _).mono ?_
      rintro e w1 ⟨rfl, b1⟩
      cases m
      · go_wp2
        go_roundw
        case rel => exact ⟨k + 1, by omega, by go_num, HNX.out (by trivial), belStep HBL.out b1⟩
        case measure => simp [intOf]; omega
      · go_wp2
        go_ret
        exact ⟨by rw [HT.out (by trivial)]; rfl, belStep HBL.out b1⟩
    · obtain rfl : k = n := by omega
      go_wp2
      go_ret
      exact ⟨by rw [HNO.out HOK.out]; rfl, HBL.out⟩

theorem trio3 {w : World} {b : Nat} {x y z : Value} {t : TypeId} (h : w.heap[b]? = some (.cells #[x, y, z] t)) : w.cell? ⟨b, 0, none⟩ = some x ∧ w.cell? ⟨b, 1, none⟩ = some y ∧ w.cell? ⟨b, 2, none⟩ = some z := ⟨(cells3 h).1, (cells3 h).2.1, (cells3 h).2.2.1⟩
theorem tOk_at {l : List R4} (h : tOk l = true) : ∀ i, i < l.length → okR (ruAt l i) = true := by
  simp only [tOk, Bool.and_eq_true] at h
  exact fun i hi => (chain_at l h.2 i hi).1
theorem tOk_len {l : List R4} (h : tOk l = true) : l.length ≤ 48 := by
  simp only [tOk, Bool.and_eq_true, decide_eq_true_eq] at h
  exact h.1
/-- What TableAt returns. -/
def atT (a b c : Int) (l : List R4) : Int := bif tOk l && okB a b c then atI a b c l else -1
/-- The head and the port that come of a head. -/
def doI (a b c : Int) (l : List R4) : (Int × Int × Int) × Int := match l.findIdx? (mR a b c) with
  | none => ((a, b, c), 0)
  | some i => ((a, b, tagTo (ruAt l i).t c), (ruAt l i).o)
theorem hdV_eq (a b c : Int) (l : List R4) : hdV a b c l = .tuple #[.int .i64 (atI a b c l), .agg #[.int .i64 (doI a b c l).1.1, .int .i64 (doI a b c l).1.2.1, .int .i64 (doI a b c l).1.2.2], .int .i64 (doI a b c l).2] := by
  unfold hdV atI doI
  cases l.findIdx? (mR a b c) <;> rfl
/-- What TableDo returns. -/
def doT (a b c : Int) (l : List R4) : (Int × Int × Int) × Int := bif tOk l && okB a b c then doI a b c l else ((0, 0, 0), 0)

end Go.Proofs.YtjjhahhchimmlaaGreatDoor
