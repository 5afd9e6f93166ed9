/-
  What the model's search for the end of a condition returns: at every place of every text; and whether the model takes a text for a condition.
-/
import Derived.Test.YtddkpimmcmnogaaDoorPredMath
namespace Go.Proofs.YtddkpimmcmnogaaDoor
open Go.ChangeShapes Go.WideShapes Go.ChangeAt Go.RowKit Go.Joins
set_option linter.unusedVariables false

theorem byteIs {k : UInt8} {n : Nat} (hn : n < 256) (h : k ≠ UInt8.ofNat n) : ((k.toNat : Int) == (n : Int)) = false := by
  have : k.toNat ≠ n := fun e => h (by apply UInt8.toNat_inj.1; rw [e]; simp; omega)
  simp
  omega

set_option maxHeartbeats 400000 in
theorem end_out (s : ByteArray) (i : Int) (h : i < 0 ∨ (s.size : Int) ≤ i) (hi : i ≤ 4000000) (hi2 : -1 ≤ i) (hL : s.size ≤ 2000000) (w : World) :
    Calls Tryd.prog 38 #[.string s, .int .i64 i] w fun e w' => e = .returned (.int .i64 (-1)) ∧ Below w.heap.size w w' := by
  rcases h with h | h
  · have d1 : decide (i < 0) = true := by simpa using h
    go_enter Tryd.func38, Tryd.ntmps38
    go_wp2
    go_ret
    exact ⟨rfl, Below.refl _ _⟩
  · have d1 : decide (i < 0) = false := by simp; omega
    have d2 : decide ((s.size : Int) ≤ i) = true := by simpa using h
    go_enter Tryd.func38, Tryd.ntmps38
    go_wp2
    go_ret
    exact ⟨rfl, Below.refl _ _⟩

set_option maxHeartbeats 400000 in
theorem end_one (s : ByteArray) (k : Nat) (hk : k < s.size) (hL : s.size ≤ 2000000) (x : UInt8) (hb : s[k]'hk = x) (hx : x = 48 ∨ x = 49) (w : World) :
    Calls Tryd.prog 38 #[.string s, .int .i64 (k : Int)] w fun e w' => e = .returned (.int .i64 ((k : Int) + 1)) ∧ Below w.heap.size w w' := by
  rcases hx with rfl | rfl
  all_goals
    go_enter Tryd.func38, Tryd.ntmps38
    go_wp2
    go_ret
    exact ⟨rfl, Below.refl _ _⟩

set_option maxHeartbeats 1000000 in
theorem end_fld_yes (s : ByteArray) (k : Nat) (hk1 : k + 1 < s.size) (hk : k < s.size) (hL : s.size ≤ 2000000) (x d : UInt8) (hb : s[k]'hk = x) (hd : s[k + 1]'hk1 = d) (hx : isF x = true) (hD : isD d = true) (w : World) :
    Calls Tryd.prog 38 #[.string s, .int .i64 (k : Int)] w fun e w' => e = .returned (.int .i64 ((k : Int) + 2)) ∧ Below w.heap.size w w' := by
  obtain ⟨d0, d3⟩ := isD_cases hD
  clear hD
  rcases isF_cases hx with rfl | rfl | rfl
  all_goals
    clear hx
    go_enter Tryd.func38, Tryd.ntmps38
    go_wp2
    go_ret
    exact ⟨rfl, Below.refl _ _⟩

set_option maxHeartbeats 1000000 in
theorem end_fld_short (s : ByteArray) (k : Nat) (hk1 : s.size = k + 1) (hk : k < s.size) (hL : s.size ≤ 2000000) (x : UInt8) (hb : s[k]'hk = x) (hx : isF x = true) (w : World) :
    Calls Tryd.prog 38 #[.string s, .int .i64 (k : Int)] w fun e w' => e = .returned (.int .i64 (-1)) ∧ Below w.heap.size w w' := by
  have d1 : decide ((k : Int) + 1 < (s.size : Int)) = false := by simp; omega
  clear hk1
  rcases isF_cases hx with rfl | rfl | rfl
  all_goals
    clear hx
    go_enter Tryd.func38, Tryd.ntmps38
    go_wp2
    go_ret
    exact ⟨rfl, Below.refl _ _⟩

set_option maxHeartbeats 1000000 in
theorem end_fld_bad (s : ByteArray) (k : Nat) (hk1 : k + 1 < s.size) (hk : k < s.size) (hL : s.size ≤ 2000000) (x d : UInt8) (hb : s[k]'hk = x) (hd : s[k + 1]'hk1 = d) (hx : isF x = true) (hD : isD d = false) (w : World) :
    Calls Tryd.prog 38 #[.string s, .int .i64 (k : Int)] w fun e w' => e = .returned (.int .i64 (-1)) ∧ Below w.heap.size w w' := by
  have hD' : ¬ (48 ≤ d.toNat ∧ d.toNat ≤ 51) := fun h => by
    rw [show isD d = true from by simp [isD, h.1, h.2]] at hD
    cases hD
  clear hD
  by_cases h48 : 48 ≤ d.toNat
  · have h51 : decide ((d.toNat : Int) ≤ 51) = false := by simp; omega
    clear hD'
    rcases isF_cases hx with rfl | rfl | rfl
    all_goals
      clear hx
      go_enter Tryd.func38, Tryd.ntmps38
      go_wp2
      go_ret
      exact ⟨rfl, Below.refl _ _⟩
  · have h51 : decide (48 ≤ (d.toNat : Int)) = false := by simp; omega
    clear hD'
    rcases isF_cases hx with rfl | rfl | rfl
    all_goals
      clear hx
      go_enter Tryd.func38, Tryd.ntmps38
      go_wp2
      go_ret
      exact ⟨rfl, Below.refl _ _⟩

set_option maxHeartbeats 1000000 in
theorem end_neg (s : ByteArray) (k : Nat) (hk : k < s.size) (hL : s.size ≤ 2000000) (hb : s[k]'hk = 33) (V : Int) (hA : ∀ W : World, Calls Tryd.prog 38 #[.string s, .int .i64 ((k : Int) + 1)] W fun e w' => e = .returned (.int .i64 V) ∧ Below W.heap.size W w') (w : World) :
    Calls Tryd.prog 38 #[.string s, .int .i64 (k : Int)] w fun e w' => e = .returned (.int .i64 V) ∧ Below w.heap.size w w' := by
  have HA := Lib.hid hA
  clear hA
  go_enter Tryd.func38, Tryd.ntmps38
  go_wp2_with fail
  refine (HA.out _).mono ?_
  rintro e w1 ⟨rfl, b1⟩
  go_wp2
  go_ret
  exact ⟨rfl, b1⟩

set_option maxHeartbeats 1000000 in
theorem end_two (s : ByteArray) (k : Nat) (hk : k < s.size) (hL : s.size ≤ 2000000) (x : UInt8) (hb : s[k]'hk = x) (hx : isT x = true) (U V : Int) (hA : ∀ W : World, Calls Tryd.prog 38 #[.string s, .int .i64 ((k : Int) + 1)] W fun e w' => e = .returned (.int .i64 U) ∧ Below W.heap.size W w')
    (hB : ∀ W : World, Calls Tryd.prog 38 #[.string s, .int .i64 U] W fun e w' => e = .returned (.int .i64 V) ∧ Below W.heap.size W w') (w : World) :
    Calls Tryd.prog 38 #[.string s, .int .i64 (k : Int)] w fun e w' => e = .returned (.int .i64 V) ∧ Below w.heap.size w w' := by
  have HA := Lib.hid hA
  have HB := Lib.hid hB
  clear hA hB
  rcases isT_cases hx with rfl | rfl
  all_goals
    clear hx
    go_enter Tryd.func38, Tryd.ntmps38
    go_wp2_with fail
    refine (HA.out _).mono ?_
    rintro e w1 ⟨rfl, b1⟩
    go_wp2_with fail
    refine (HB.out _).mono ?_
    rintro e w2 ⟨rfl, b2⟩
    go_wp2
    go_ret
    exact ⟨rfl, belStep b1 b2⟩

set_option maxHeartbeats 1000000 in
theorem end_other (s : ByteArray) (k : Nat) (hk : k < s.size) (hL : s.size ≤ 2000000) (x : UInt8) (hb : s[k]'hk = x) (h0 : x ≠ 48) (h1 : x ≠ 49) (hF : isF x = false) (h3 : x ≠ 33) (hT : isT x = false) (w : World) :
    Calls Tryd.prog 38 #[.string s, .int .i64 (k : Int)] w fun e w' => e = .returned (.int .i64 (-1)) ∧ Below w.heap.size w w' := by
  have n0 : ((x.toNat : Int) == 48) = false := byteIs (n := 48) (by omega) h0
  have n1 : ((x.toNat : Int) == 49) = false := byteIs (n := 49) (by omega) h1
  have n2 : ((x.toNat : Int) == 115) = false := byteIs (n := 115) (by omega) (by rintro rfl; cases hF)
  have n3 : ((x.toNat : Int) == 100) = false := byteIs (n := 100) (by omega) (by rintro rfl; cases hF)
  have n4 : ((x.toNat : Int) == 116) = false := byteIs (n := 116) (by omega) (by rintro rfl; cases hF)
  have n5 : ((x.toNat : Int) == 33) = false := byteIs (n := 33) (by omega) h3
  have n6 : ((x.toNat : Int) == 38) = false := byteIs (n := 38) (by omega) (by rintro rfl; cases hT)
  have n7 : ((x.toNat : Int) == 124) = false := byteIs (n := 124) (by omega) (by rintro rfl; cases hT)
  clear h0 h1 hF h3 hT
  go_enter Tryd.func38, Tryd.ntmps38
  go_wp2
  go_ret
  exact ⟨rfl, Below.refl _ _⟩

theorem bs_at (p : List UInt8) (x : UInt8) (m : List UInt8) (h : p.length < (bs (p ++ x :: m)).size) : (bs (p ++ x :: m))[p.length]'h = x := by
  have e : (bs (p ++ x :: m))[p.length]'h = (p ++ x :: m)[p.length]'(by simp) := rfl
  rw [e]
  simp
theorem bs_at1 (p : List UInt8) (x d : UInt8) (m : List UInt8) (h : p.length + 1 < (bs (p ++ x :: d :: m)).size) : (bs (p ++ x :: d :: m))[p.length + 1]'h = d := by
  have e : (bs (p ++ x :: d :: m))[p.length + 1]'h = (p ++ x :: d :: m)[p.length + 1]'(by simp) := rfl
  rw [e, List.getElem_append_right (by omega)]
  simp

/-- Behind every condition is its end. -/
theorem end_yes : ∀ (c : Cnd) (hk : c.ok = true) (p r : List UInt8) (hl : p.length + (c.txt.length + r.length) ≤ 1048577) (w : World),
    Calls Tryd.prog 38 #[.string (bs (p ++ (c.txt ++ r))), .int .i64 (p.length : Int)] w fun e w' => e = .returned (.int .i64 ((p.length : Int) + (c.txt.length : Int))) ∧ Below w.heap.size w w'
  | .one b, hk, p, r, hl, w => by
    simp only [Cnd.txt, List.length_cons, List.length_nil, List.cons_append, List.nil_append] at hl ⊢
    refine end_one _ _ (by simp [bs_size]) (by rw [bs_size]; simp; omega) _ (bs_at p _ r _) ?_ w
    cases b
    · exact .inl rfl
    · exact .inr rfl
  | .fld k d, hk, p, r, hl, w => by
    simp [Cnd.ok] at hk
    simp only [Cnd.txt, List.length_cons, List.length_nil, List.cons_append, List.nil_append] at hl ⊢
    exact end_fld_yes _ _ (by simp [bs_size]) (by simp [bs_size]) (by rw [bs_size]; simp; omega) k d (bs_at p _ _ _) (bs_at1 p k d r _) hk.1 hk.2 w
  | .neg a, hk, p, r, hl, w => by
    simp only [Cnd.txt, List.length_cons, List.cons_append] at hl ⊢
    have h := end_neg (bs (p ++ 33 :: (a.txt ++ r))) p.length (by simp [bs_size]) (by rw [bs_size]; simp; omega) (bs_at p _ _ _) ((p.length : Int) + ((a.txt.length + 1 : Nat) : Int)) (fun W => ?_) w
    · exact h
    · have h := end_yes a hk (p ++ [33]) r (by simp; omega) W
      rw [show (p ++ ([33] : List UInt8)) ++ (a.txt ++ r) = p ++ 33 :: (a.txt ++ r) from by simp, show ((p ++ ([33] : List UInt8)).length : Int) = (p.length : Int) + 1 from by simp] at h
      refine h.mono ?_
      rintro e w1 ⟨rfl, b1⟩
      exact ⟨by congr 2; omega, b1⟩
  | .two k a b, hk, p, r, hl, w => by
    simp [Cnd.ok] at hk
    simp only [Cnd.txt, List.length_cons, List.cons_append, List.length_append] at hl ⊢
    rw [List.append_assoc]
    have h := end_two (bs (p ++ k :: (a.txt ++ (b.txt ++ r)))) p.length (by simp [bs_size]) (by rw [bs_size]; simp; omega) k (bs_at p _ _ _) hk.1 ((p.length : Int) + 1 + (a.txt.length : Int)) ((p.length : Int) + ((a.txt.length + b.txt.length + 1 : Nat) : Int)) (fun W => ?_) (fun W => ?_) w
    · exact h
    · have h := end_yes a hk.2.1 (p ++ [k]) (b.txt ++ r) (by simp; omega) W
      rw [show (p ++ [k]) ++ (a.txt ++ (b.txt ++ r)) = p ++ k :: (a.txt ++ (b.txt ++ r)) from by simp, show ((p ++ [k]).length : Int) = (p.length : Int) + 1 from by simp] at h
      exact h
    · have h := end_yes b hk.2.2 (p ++ k :: a.txt) r (by simp; omega) W
      rw [show (p ++ k :: a.txt) ++ (b.txt ++ r) = p ++ k :: (a.txt ++ (b.txt ++ r)) from by simp, show ((p ++ k :: a.txt).length : Int) = (p.length : Int) + 1 + (a.txt.length : Int) from by simp; omega] at h
      refine h.mono ?_
      rintro e w1 ⟨rfl, b1⟩
      exact ⟨by congr 2; omega, b1⟩

/-- Where none begins there is no end. -/
theorem end_no : ∀ (n : Nat) (l : List UInt8) (hn : l.length ≤ n) (h : rd l = none) (p : List UInt8) (hl : p.length + l.length ≤ 1048577) (w : World),
    Calls Tryd.prog 38 #[.string (bs (p ++ l)), .int .i64 (p.length : Int)] w fun e w' => e = .returned (.int .i64 (-1)) ∧ Below w.heap.size w w'
  | n, [], hn, h, p, hl, w => end_out _ _ (.inr (by rw [bs_size]; simp)) (by simp at hl; omega) (by omega) (by rw [bs_size]; simp at hl ⊢; omega) w
  | 0, k :: l, hn, h, p, hl, w => by simp at hn
  | n + 1, k :: l, hn, h, p, hl, w => by
    simp at hn hl
    have hz : p.length < (bs (p ++ k :: l)).size := by simp [bs_size]
    have hL : (bs (p ++ k :: l)).size ≤ 2000000 := by rw [bs_size]; simp; omega
    have e1 : (p ++ [k]) ++ l = p ++ k :: l := by simp
    have e2 : ((p ++ [k]).length : Int) = (p.length : Int) + 1 := by simp
    by_cases h0 : k = 48
    · exact (rd_one (.inl h0) h).elim
    by_cases h1 : k = 49
    · exact (rd_one (.inr h1) h).elim
    cases hF : isF k
    · by_cases h3 : k = 33
      · subst h3
        exact end_neg _ _ hz hL (bs_at p _ _ _) (-1) (fun W => by
          have h := end_no n l hn (rd_neg h) (p ++ [33]) (by simp; omega) W
          rw [e1, e2] at h
          exact h) w
      · cases hT : isT k
        · exact end_other _ _ hz hL k (bs_at p _ _ _) h0 h1 hF h3 hT w
        · rcases rd_two hT h with h2 | ⟨a, r, rfl, hka, h2⟩
          · exact end_two _ _ hz hL k (bs_at p _ _ _) hT (-1) (-1) (fun W => by
              have h := end_no n l hn h2 (p ++ [k]) (by simp; omega) W
              rw [e1, e2] at h
              exact h) (fun W => end_out _ _ (.inl (by omega)) (by omega) (by omega) hL W) w
          · simp at hl hn
            have hp := a.txt_pos
            exact end_two _ _ hz hL k (bs_at p _ _ _) hT ((p.length : Int) + 1 + (a.txt.length : Int)) (-1) (fun W => by
              have h := end_yes a hka (p ++ [k]) r (by simp; omega) W
              rw [e1, e2] at h
              exact h) (fun W => by
              have h := end_no n r (by omega) h2 (p ++ k :: a.txt) (by simp; omega) W
              rw [show (p ++ k :: a.txt) ++ r = p ++ k :: (a.txt ++ r) from by simp, show ((p ++ k :: a.txt).length : Int) = (p.length : Int) + 1 + (a.txt.length : Int) from by simp; omega] at h
              exact h) w
    · rcases rd_fld hF h with rfl | ⟨d, r, rfl, hd⟩
      · exact end_fld_short _ _ (by simp [bs_size]) hz hL k (bs_at p _ _ _) hF w
      · exact end_fld_bad _ _ (by simp [bs_size]) hz hL k d (bs_at p _ _ _) (bs_at1 p k d r _) hF hd w

end Go.Proofs.YtddkpimmcmnogaaDoor
