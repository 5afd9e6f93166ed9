/-
  The plain side of FnWay and FnWayOnce.
-/
import Derived.Test.YtbjndcfdcjpkmaaNetTwo
import Derived.Test.YtbjndcfdcjpkmaaNetNextJ
import Derived.Test.YtbjndcfdcjpkmaaNetWayI
namespace Go.Proofs.Ytbjndcfdcjpkmaa
open Go.ChangeShapes Go.WideShapes Go.ChangeAt Go.RowKit Go.Joins
set_option linter.unusedVariables false

theorem swB_parts {x : Int} (h : swB x = true) : 1 ≤ x ∧ x ≤ 4 := by
  unfold swB inB at h; simp at h; exact h
theorem swB_of {x : Int} (h1 : 1 ≤ x) (h4 : x ≤ 4) : swB x = true := by
  unfold swB inB; simp [h1, h4]
theorem farV_of {l : List K4} {x y : Int} (hn : netB l = true) (hx : swB x = true) (hy : swB y = true) : farV l x y = farS l y.toNat x.toNat := by
  obtain ⟨x1, x4⟩ := swB_parts hx
  obtain ⟨y1, y4⟩ := swB_parts hy
  unfold farV
  rw [hn, hx, hy]
  exact farS_symm (net_ok hn) (by omega) (by omega) (by omega) (by omega)
/-- The switches on a way, one behind the other. -/
def seqF (l : List K4) (t s : Nat) : Nat → Nat
  | 0 => s
  | j + 1 => stepF l t (seqF l t s j)
theorem seqF_shift (l : List K4) (t s : Nat) : ∀ j, seqF l t (stepF l t s) j = seqF l t s (j + 1)
  | 0 => rfl
  | j + 1 => by
    show stepF l t (seqF l t (stepF l t s) j) = stepF l t (seqF l t s (j + 1))
    rw [seqF_shift l t s j]
theorem seqF_add (l : List K4) (t s i : Nat) : ∀ j, seqF l t (seqF l t s i) j = seqF l t s (i + j)
  | 0 => rfl
  | j + 1 => by
    show stepF l t (seqF l t (seqF l t s i) j) = stepF l t (seqF l t s (i + j))
    rw [seqF_add l t s i j]
theorem restL_at (l : List K4) (t : Nat) : ∀ (n s j : Nat), j < n → (restL l t n s).getD j 0 = (seqF l t s (j + 1) : Int)
  | 0, s, j, h => by omega
  | n + 1, s, 0, h => rfl
  | n + 1, s, j + 1, h => by
    have e : (restL l t (n + 1) s).getD (j + 1) 0 = (restL l t n (stepF l t s)).getD j 0 := by simp [restL]
    rw [e, restL_at l t n (stepF l t s) j (by omega), seqF_shift]
theorem way_in (l : List K4) (t n s : Nat) : ∀ j, j ≤ n → inAt ((s : Int) :: restL l t n s) j = (seqF l t s j : Int)
  | 0, h => rfl
  | j + 1, h => by
    have e : inAt ((s : Int) :: restL l t n s) (j + 1) = (restL l t n s).getD j 0 := by simp [inAt]
    rw [e, restL_at l t n s j (by omega)]
theorem seq_ok {l : List K4} (hn : netB l = true) {s t n : Nat} (s1 : 1 ≤ s) (s4 : s ≤ 4) (t1 : 1 ≤ t) (t4 : t ≤ 4) (h : farS l t s = (n : Int)) :
    ∀ j, j ≤ n → 1 ≤ seqF l t s j ∧ seqF l t s j ≤ 4 ∧ farS l t (seqF l t s j) = ((n - j : Nat) : Int)
  | 0, _ => ⟨s1, s4, h⟩
  | j + 1, hj => by
    obtain ⟨i1, i4, i⟩ := seq_ok hn s1 s4 t1 t4 h j (by omega)
    obtain ⟨k, x, k1, k3, hk, hp, x1, x4, hf, hs⟩ := step_ok hn i1 i4 t1 t4 (n := n - j - 1) (by omega)
    show 1 ≤ stepF l t (seqF l t s j) ∧ _
    have e : seqF l t s (j + 1) = x := hs
    rw [hs, e]
    exact ⟨x1, x4, by rw [hf]; congr 1⟩
theorem seq_step {l : List K4} (hn : netB l = true) {s t n : Nat} (s1 : 1 ≤ s) (s4 : s ≤ 4) (t1 : 1 ≤ t) (t4 : t ≤ 4) (h : farS l t s = (n : Int)) {j : Nat} (hj : j < n) :
    ∃ k : Nat, 1 ≤ k ∧ nextF l (seqF l t s j) t = (k : Int) ∧ (peerF l (seqF l t s j) k).1 = (seqF l t s (j + 1) : Int) ∧ 1 ≤ seqF l t s (j + 1) := by
  obtain ⟨i1, i4, i⟩ := seq_ok hn s1 s4 t1 t4 h j (by omega)
  obtain ⟨k, x, k1, k3, hk, hp, x1, x4, hf, hs⟩ := step_ok hn i1 i4 t1 t4 (n := n - j - 1) (by omega)
  have e : seqF l t s (j + 1) = x := hs
  exact ⟨k, k1, hk, by rw [e]; exact hp, by omega⟩
theorem wayV_of {l : List K4} {x y : Int} (hn : netB l = true) (hx : swB x = true) (hy : swB y = true) {n : Nat} (h : farV l x y = (n : Int)) : wayV l x y = ((x.toNat : Nat) : Int) :: restL l y.toNat n x.toNat := by
  rw [farV_of hn hx hy] at h
  unfold wayV
  rw [hn, hx, hy, h]
  simp
theorem wayV_no {l : List K4} {x y : Int} (hn : netB l = true) (hx : swB x = true) (hy : swB y = true) (h : farV l x y < 0) : wayV l x y = [] := by
  rw [farV_of hn hx hy] at h
  unfold wayV
  rw [hn, hx, hy]
  simp [h]
/-- What FnWay asks, of the plain functions. -/
theorem way_law {l : List K4} {x y : Int} (hn : netB l = true) (hx : swB x = true) (hy : swB y = true) {n : Nat} (h : farV l x y = (n : Int)) :
    (wayV l x y).length = n + 1 ∧ n ≤ 3 ∧ inAt (wayV l x y) 0 = x ∧ inAt (wayV l x y) n = y ∧
      ∀ j, j < n → peerV l (inAt (wayV l x y) j) (nextV l (inAt (wayV l x y) j) y) = .tuple #[.int .i64 (inAt (wayV l x y) (j + 1)), .int .i64 (peerF l (inAt (wayV l x y) j) (nextV l (inAt (wayV l x y) j) y)).2, .bool true] := by
  obtain ⟨x1, x4⟩ := swB_parts hx
  obtain ⟨y1, y4⟩ := swB_parts hy
  have hw := wayV_of hn hx hy h
  have hd := h
  rw [farV_of hn hx hy] at hd
  have hxs : ((x.toNat : Nat) : Int) = x := by omega
  have hys : ((y.toNat : Nat) : Int) = y := by omega
  have hat : ∀ j, j ≤ n → inAt (wayV l x y) j = (seqF l y.toNat x.toNat j : Int) := fun j hj => by rw [hw]; exact way_in l y.toNat n x.toNat j hj
  have hr := (far_range hn (t := y.toNat) (v := x.toNat) (by omega) (by omega) (by omega) (by omega)).2
  refine ⟨by rw [hw]; simp [restL_len], by omega, by rw [hat 0 (by omega)]; exact hxs, ?_, fun j hj => ?_⟩
  · rw [hat n (Nat.le_refl _)]
    obtain ⟨i1, i4, i⟩ := seq_ok hn (s := x.toNat) (t := y.toNat) (by omega) (by omega) (by omega) (by omega) hd n (Nat.le_refl _)
    have := ((farS_dist (net_ok hn) (c := y.toNat) (by omega) (by omega)).zero _ i1 i4).1 (by rw [i]; simp)
    omega
  · rw [hat j (by omega), hat (j + 1) (by omega)]
    obtain ⟨i1, i4, i⟩ := seq_ok hn (s := x.toNat) (t := y.toNat) (by omega) (by omega) (by omega) (by omega) hd j (by omega)
    obtain ⟨k, k1, hk, hp, p1⟩ := seq_step hn (s := x.toNat) (t := y.toNat) (by omega) (by omega) (by omega) (by omega) hd hj
    have hsw : swB (seqF l y.toNat x.toNat j : Int) = true := swB_of (by omega) (by omega)
    have hnv : nextV l (seqF l y.toNat x.toNat j : Int) y = (k : Int) := by
      unfold nextV
      rw [hn, hsw, hy]
      simpa using hk
    rw [hnv]
    have hpos : decide ((peerF l (seqF l y.toNat x.toNat j : Int) (k : Int)).1 > 0) = true := by rw [hp]; simp; omega
    unfold peerV
    rw [hn, hpos, hp]
    rfl
/-- A way that is no empty one is of two switches of a net, so many links apart. -/
theorem way_some {l : List K4} {x y : Int} (h : (wayV l x y).length ≠ 0) : netB l = true ∧ swB x = true ∧ swB y = true ∧ ∃ n : Nat, farV l x y = (n : Int) := by
  cases hn : netB l
  · exact absurd (by unfold wayV; rw [hn]; rfl) h
  cases hx : swB x
  · exact absurd (by unfold wayV; rw [hn, hx]; rfl) h
  cases hy : swB y
  · exact absurd (by unfold wayV; rw [hn, hx, hy]; rfl) h
  refine ⟨rfl, rfl, rfl, (farV l x y).toNat, ?_⟩
  by_cases hneg : farV l x y < 0
  · exact absurd (by rw [wayV_no hn hx hy hneg]; rfl) h
  · omega
/-- What FnWayOnce asks, of the plain functions. -/
theorem way_once {l : List K4} {x y : Int} {N : Nat} (hN : (wayV l x y).length = N) (h0 : N ≠ 0) :
    N ≤ 4 ∧ ∀ j, j < N → (wayV l (inAt (wayV l x y) j) y).length = N - j ∧ ∀ k, k < N - j → inAt (wayV l (inAt (wayV l x y) j) y) k = inAt (wayV l x y) (j + k) ∧ (0 < k → inAt (wayV l x y) (j + k) ≠ inAt (wayV l x y) j) := by
  obtain ⟨hn, hx, hy, n, h⟩ := way_some (l := l) (x := x) (y := y) (by omega)
  obtain ⟨x1, x4⟩ := swB_parts hx
  obtain ⟨y1, y4⟩ := swB_parts hy
  obtain ⟨hl, h3, -⟩ := way_law hn hx hy h
  have hw := wayV_of hn hx hy h
  have hd := h
  rw [farV_of hn hx hy] at hd
  obtain rfl : N = n + 1 := by omega
  have hat : ∀ j, j ≤ n → inAt (wayV l x y) j = (seqF l y.toNat x.toNat j : Int) := fun j hj => by rw [hw]; exact way_in l y.toNat n x.toNat j hj
  refine ⟨by omega, fun j hj => ?_⟩
  obtain ⟨i1, i4, i⟩ := seq_ok hn (s := x.toNat) (t := y.toNat) (by omega) (by omega) (by omega) (by omega) hd j (by omega)
  have hsw : swB (seqF l y.toNat x.toNat j : Int) = true := swB_of (by omega) (by omega)
  have hf : farV l (seqF l y.toNat x.toNat j : Int) y = ((n - j : Nat) : Int) := by
    rw [farV_of hn hsw hy]; exact i
  have hw2 := wayV_of hn hsw hy hf
  rw [hat j (by omega), hw2]
  refine ⟨by simp [restL_len]; omega, fun k hk => ?_⟩
  rw [show (((seqF l y.toNat x.toNat j : Nat) : Int).toNat) = seqF l y.toNat x.toNat j from by simp, way_in _ _ _ _ k (by omega), hat (j + k) (by omega), seqF_add]
  refine ⟨rfl, fun k0 e => ?_⟩
  obtain ⟨-, -, i'⟩ := seq_ok hn (s := x.toNat) (t := y.toNat) (by omega) (by omega) (by omega) (by omega) hd (j + k) (by omega)
  have e' : seqF l y.toNat x.toNat (j + k) = seqF l y.toNat x.toNat j := by omega
  rw [e', i] at i'
  omega
theorem IntRow.shape {w : World} {base : Nat} {v : Value} {l : List Int} (h : IntRow w base v l) : ∃ a c, v = .slice a l.length c := by
  rcases h.form with ⟨rfl, rfl⟩ | ⟨g, cap, rfl, -⟩
  · exact ⟨_, _, rfl⟩
  · exact ⟨_, _, rfl⟩

end Go.Proofs.Ytbjndcfdcjpkmaa
