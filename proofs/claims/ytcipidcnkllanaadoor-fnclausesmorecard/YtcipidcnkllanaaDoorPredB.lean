/-
  PredEnd: What the model's search for the end of a condition returns: at every place of every text; and whether the model takes a text for a condition.
  PredOkAll: Whether a text is a condition: what the program answers, and what the model answers: the same, at every text.
  PredDeep: How deep a condition is: what the program answers.
  PredSpecA: What the model takes a condition apart into; how deep the model finds it; for which heads it holds by the model.
  PredSpecB: How deep the model finds a condition; for which heads it holds by the model.
  PredSpecC: For which heads a condition holds by the model, and by the program.
  PredHasAll: For which heads a text holds: by the model, and by the program.
-/
import Derived.Test.YtcipidcnkllanaaDoorPredA
import Derived.Laws.DeepStrings4
namespace Go.Proofs.YtcipidcnkllanaaDoor
open Go.ChangeShapes Go.WideShapes Go.ChangeAt Go.RowKit Go.Joins
set_option linter.unusedVariables false

theorem byteIs {k : UInt8} {n : Nat} (hn : n < 256) (h : k ≠ UInt8.ofNat n) : ((k.toNat : Int) == (n : Int)) = false := by
  have : k.toNat ≠ n := fun e => h (by apply UInt8.toNat_inj.1; rw [e]; simp; omega)
  simp
  omega

set_option maxHeartbeats 400000 in
theorem end_out (s : ByteArray) (i : Int) (h : i < 0 ∨ (s.size : Int) ≤ i) (hi : i ≤ 4000000) (hi2 : -1 ≤ i) (hL : s.size ≤ 2000000) (w : World) :
    Calls Tryd.prog 32 #[.string s, .int .i64 i] w fun e w' => e = .returned (.int .i64 (-1)) ∧ Below w.heap.size w w' := by
  rcases h with h | h
  · have d1 : decide (i < 0) = true := by simpa using h
    go_enter Tryd.func32, Tryd.ntmps32
    go_wp2
    go_ret
    exact ⟨rfl, Below.refl _ _⟩
  · have d1 : decide (i < 0) = false := by simp; omega
    have d2 : decide ((s.size : Int) ≤ i) = true := by simpa using h
    go_enter Tryd.func32, Tryd.ntmps32
    go_wp2
    go_ret
    exact ⟨rfl, Below.refl _ _⟩

set_option maxHeartbeats 400000 in
theorem end_one (s : ByteArray) (k : Nat) (hk : k < s.size) (hL : s.size ≤ 2000000) (x : UInt8) (hb : s[k]'hk = x) (hx : x = 48 ∨ x = 49) (w : World) :
    Calls Tryd.prog 32 #[.string s, .int .i64 (k : Int)] w fun e w' => e = .returned (.int .i64 ((k : Int) + 1)) ∧ Below w.heap.size w w' := by
  rcases hx with rfl | rfl
  all_goals
    go_enter Tryd.func32, Tryd.ntmps32
    go_wp2
    go_ret
    exact ⟨rfl, Below.refl _ _⟩

set_option maxHeartbeats 1000000 in
theorem end_fld_yes (s : ByteArray) (k : Nat) (hk1 : k + 1 < s.size) (hk : k < s.size) (hL : s.size ≤ 2000000) (x d : UInt8) (hb : s[k]'hk = x) (hd : s[k + 1]'hk1 = d) (hx : isF x = true) (hD : isD d = true) (w : World) :
    Calls Tryd.prog 32 #[.string s, .int .i64 (k : Int)] w fun e w' => e = .returned (.int .i64 ((k : Int) + 2)) ∧ Below w.heap.size w w' := by
  obtain ⟨d0, d3⟩ := isD_cases hD
  clear hD
  rcases isF_cases hx with rfl | rfl | rfl
  all_goals
    clear hx
    go_enter Tryd.func32, Tryd.ntmps32
    go_wp2
    go_ret
    exact ⟨rfl, Below.refl _ _⟩

set_option maxHeartbeats 1000000 in
theorem end_fld_short (s : ByteArray) (k : Nat) (hk1 : s.size = k + 1) (hk : k < s.size) (hL : s.size ≤ 2000000) (x : UInt8) (hb : s[k]'hk = x) (hx : isF x = true) (w : World) :
    Calls Tryd.prog 32 #[.string s, .int .i64 (k : Int)] w fun e w' => e = .returned (.int .i64 (-1)) ∧ Below w.heap.size w w' := by
  have d1 : decide ((k : Int) + 1 < (s.size : Int)) = false := by simp; omega
  clear hk1
  rcases isF_cases hx with rfl | rfl | rfl
  all_goals
    clear hx
    go_enter Tryd.func32, Tryd.ntmps32
    go_wp2
    go_ret
    exact ⟨rfl, Below.refl _ _⟩

set_option maxHeartbeats 1000000 in
theorem end_fld_bad (s : ByteArray) (k : Nat) (hk1 : k + 1 < s.size) (hk : k < s.size) (hL : s.size ≤ 2000000) (x d : UInt8) (hb : s[k]'hk = x) (hd : s[k + 1]'hk1 = d) (hx : isF x = true) (hD : isD d = false) (w : World) :
    Calls Tryd.prog 32 #[.string s, .int .i64 (k : Int)] w fun e w' => e = .returned (.int .i64 (-1)) ∧ Below w.heap.size w w' := by
  have hD' : ¬ (48 ≤ d.toNat ∧ d.toNat ≤ 51) := fun h => by
    rw [show isD d = true from by simp [isD, h.1, h.2]] at hD
    cases hD
  clear hD
  by_cases h48 : 48 ≤ d.toNat
  · have h51 : decide ((d.toNat : Int) ≤ 51) = false := by simp; omega
    clear hD'
    rcases isF_cases hx with rfl | rfl | rfl
    all_goals
      clear hx
      go_enter Tryd.func32, Tryd.ntmps32
      go_wp2
      go_ret
      exact ⟨rfl, Below.refl _ _⟩
  · have h51 : decide (48 ≤ (d.toNat : Int)) = false := by simp; omega
    clear hD'
    rcases isF_cases hx with rfl | rfl | rfl
    all_goals
      clear hx
      go_enter Tryd.func32, Tryd.ntmps32
      go_wp2
      go_ret
      exact ⟨rfl, Below.refl _ _⟩

set_option maxHeartbeats 1000000 in
theorem end_neg (s : ByteArray) (k : Nat) (hk : k < s.size) (hL : s.size ≤ 2000000) (hb : s[k]'hk = 33) (V : Int) (hA : ∀ W : World, Calls Tryd.prog 32 #[.string s, .int .i64 ((k : Int) + 1)] W fun e w' => e = .returned (.int .i64 V) ∧ Below W.heap.size W w') (w : World) :
    Calls Tryd.prog 32 #[.string s, .int .i64 (k : Int)] w fun e w' => e = .returned (.int .i64 V) ∧ Below w.heap.size w w' := by
  have HA := Lib.hid hA
  clear hA
  go_enter Tryd.func32, Tryd.ntmps32
  go_wp2_with fail
  refine (HA.out _).mono ?_
  rintro e w1 ⟨rfl, b1⟩
  go_wp2
  go_ret
  exact ⟨rfl, b1⟩

set_option maxHeartbeats 1000000 in
theorem end_two (s : ByteArray) (k : Nat) (hk : k < s.size) (hL : s.size ≤ 2000000) (x : UInt8) (hb : s[k]'hk = x) (hx : isT x = true) (U V : Int) (hA : ∀ W : World, Calls Tryd.prog 32 #[.string s, .int .i64 ((k : Int) + 1)] W fun e w' => e = .returned (.int .i64 U) ∧ Below W.heap.size W w')
    (hB : ∀ W : World, Calls Tryd.prog 32 #[.string s, .int .i64 U] W fun e w' => e = .returned (.int .i64 V) ∧ Below W.heap.size W w') (w : World) :
    Calls Tryd.prog 32 #[.string s, .int .i64 (k : Int)] w fun e w' => e = .returned (.int .i64 V) ∧ Below w.heap.size w w' := by
  have HA := Lib.hid hA
  have HB := Lib.hid hB
  clear hA hB
  rcases isT_cases hx with rfl | rfl
  all_goals
    clear hx
    go_enter Tryd.func32, Tryd.ntmps32
    go_wp2_with fail
    refine (HA.out _).mono ?_
    rintro e w1 ⟨rfl, b1⟩
    go_wp2_with fail
    refine (HB.out _).mono ?_
    rintro e w2 ⟨rfl, b2⟩
    go_wp2
    go_ret
    exact ⟨rfl, belStep b1 b2⟩

set_option maxHeartbeats 1000000 in
theorem end_other (s : ByteArray) (k : Nat) (hk : k < s.size) (hL : s.size ≤ 2000000) (x : UInt8) (hb : s[k]'hk = x) (h0 : x ≠ 48) (h1 : x ≠ 49) (hF : isF x = false) (h3 : x ≠ 33) (hT : isT x = false) (w : World) :
    Calls Tryd.prog 32 #[.string s, .int .i64 (k : Int)] w fun e w' => e = .returned (.int .i64 (-1)) ∧ Below w.heap.size w w' := by
  have n0 : ((x.toNat : Int) == 48) = false := byteIs (n := 48) (by omega) h0
  have n1 : ((x.toNat : Int) == 49) = false := byteIs (n := 49) (by omega) h1
  have n2 : ((x.toNat : Int) == 115) = false := byteIs (n := 115) (by omega) (by rintro rfl; cases hF)
  have n3 : ((x.toNat : Int) == 100) = false := byteIs (n := 100) (by omega) (by rintro rfl; cases hF)
  have n4 : ((x.toNat : Int) == 116) = false := byteIs (n := 116) (by omega) (by rintro rfl; cases hF)
  have n5 : ((x.toNat : Int) == 33) = false := byteIs (n := 33) (by omega) h3
  have n6 : ((x.toNat : Int) == 38) = false := byteIs (n := 38) (by omega) (by rintro rfl; cases hT)
  have n7 : ((x.toNat : Int) == 124) = false := byteIs (n := 124) (by omega) (by rintro rfl; cases hT)
  clear h0 h1 hF h3 hT
  go_enter Tryd.func32, Tryd.ntmps32
  go_wp2
  go_ret
  exact ⟨rfl, Below.refl _ _⟩

theorem bs_at (p : List UInt8) (x : UInt8) (m : List UInt8) (h : p.length < (bs (p ++ x :: m)).size) : (bs (p ++ x :: m))[p.length]'h = x := by
  have e : (bs (p ++ x :: m))[p.length]'h = (p ++ x :: m)[p.length]'(by simp) := rfl
  rw [e]
  simp
theorem bs_at1 (p : List UInt8) (x d : UInt8) (m : List UInt8) (h : p.length + 1 < (bs (p ++ x :: d :: m)).size) : (bs (p ++ x :: d :: m))[p.length + 1]'h = d := by
  have e : (bs (p ++ x :: d :: m))[p.length + 1]'h = (p ++ x :: d :: m)[p.length + 1]'(by simp) := rfl
  rw [e, List.getElem_append_right (by omega)]
  simp

/-- Behind every condition is its end. -/
theorem end_yes : ∀ (c : Cnd) (hk : c.ok = true) (p r : List UInt8) (hl : p.length + (c.txt.length + r.length) ≤ 1048577) (w : World),
    Calls Tryd.prog 32 #[.string (bs (p ++ (c.txt ++ r))), .int .i64 (p.length : Int)] w fun e w' => e = .returned (.int .i64 ((p.length : Int) + (c.txt.length : Int))) ∧ Below w.heap.size w w'
  | .one b, hk, p, r, hl, w => by
    simp only [Cnd.txt, List.length_cons, List.length_nil, List.cons_append, List.nil_append] at hl ⊢
    refine end_one _ _ (by simp [bs_size]) (by rw [bs_size]; simp; omega) _ (bs_at p _ r _) ?_ w
    cases b
    · exact .inl rfl
    · exact .inr rfl
  | .fld k d, hk, p, r, hl, w => by
    simp [Cnd.ok] at hk
    simp only [Cnd.txt, List.length_cons, List.length_nil, List.cons_append, List.nil_append] at hl ⊢
    exact end_fld_yes _ _ (by simp [bs_size]) (by simp [bs_size]) (by rw [bs_size]; simp; omega) k d (bs_at p _ _ _) (bs_at1 p k d r _) hk.1 hk.2 w
  | .neg a, hk, p, r, hl, w => by
    simp only [Cnd.txt, List.length_cons, List.cons_append] at hl ⊢
    have h := end_neg (bs (p ++ 33 :: (a.txt ++ r))) p.length (by simp [bs_size]) (by rw [bs_size]; simp; omega) (bs_at p _ _ _) ((p.length : Int) + ((a.txt.length + 1 : Nat) : Int)) (fun W => ?_) w
    · exact h
    · have h := end_yes a hk (p ++ [33]) r (by simp; omega) W
      rw [show (p ++ ([33] : List UInt8)) ++ (a.txt ++ r) = p ++ 33 :: (a.txt ++ r) from by simp, show ((p ++ ([33] : List UInt8)).length : Int) = (p.length : Int) + 1 from by simp] at h
      refine h.mono ?_
      rintro e w1 ⟨rfl, b1⟩
      exact ⟨by congr 2; omega, b1⟩
  | .two k a b, hk, p, r, hl, w => by
    simp [Cnd.ok] at hk
    simp only [Cnd.txt, List.length_cons, List.cons_append, List.length_append] at hl ⊢
    rw [List.append_assoc]
    have h := end_two (bs (p ++ k :: (a.txt ++ (b.txt ++ r)))) p.length (by simp [bs_size]) (by rw [bs_size]; simp; omega) k (bs_at p _ _ _) hk.1 ((p.length : Int) + 1 + (a.txt.length : Int)) ((p.length : Int) + ((a.txt.length + b.txt.length + 1 : Nat) : Int)) (fun W => ?_) (fun W => ?_) w
    · exact h
    · have h := end_yes a hk.2.1 (p ++ [k]) (b.txt ++ r) (by simp; omega) W
      rw [show (p ++ [k]) ++ (a.txt ++ (b.txt ++ r)) = p ++ k :: (a.txt ++ (b.txt ++ r)) from by simp, show ((p ++ [k]).length : Int) = (p.length : Int) + 1 from by simp] at h
      exact h
    · have h := end_yes b hk.2.2 (p ++ k :: a.txt) r (by simp; omega) W
      rw [show (p ++ k :: a.txt) ++ (b.txt ++ r) = p ++ k :: (a.txt ++ (b.txt ++ r)) from by simp, show ((p ++ k :: a.txt).length : Int) = (p.length : Int) + 1 + (a.txt.length : Int) from by simp; omega] at h
      refine h.mono ?_
      rintro e w1 ⟨rfl, b1⟩
      exact ⟨by congr 2; omega, b1⟩

/-- Where none begins there is no end. -/
theorem end_no : ∀ (n : Nat) (l : List UInt8) (hn : l.length ≤ n) (h : rd l = none) (p : List UInt8) (hl : p.length + l.length ≤ 1048577) (w : World),
    Calls Tryd.prog 32 #[.string (bs (p ++ l)), .int .i64 (p.length : Int)] w fun e w' => e = .returned (.int .i64 (-1)) ∧ Below w.heap.size w w'
  | n, [], hn, h, p, hl, w => end_out _ _ (.inr (by rw [bs_size]; simp)) (by simp at hl; omega) (by omega) (by rw [bs_size]; simp at hl ⊢; omega) w
  | 0, k :: l, hn, h, p, hl, w => by simp at hn
  | n + 1, k :: l, hn, h, p, hl, w => by
    simp at hn hl
    have hz : p.length < (bs (p ++ k :: l)).size := by simp [bs_size]
    have hL : (bs (p ++ k :: l)).size ≤ 2000000 := by rw [bs_size]; simp; omega
    have e1 : (p ++ [k]) ++ l = p ++ k :: l := by simp
    have e2 : ((p ++ [k]).length : Int) = (p.length : Int) + 1 := by simp
    by_cases h0 : k = 48
    · exact (rd_one (.inl h0) h).elim
    by_cases h1 : k = 49
    · exact (rd_one (.inr h1) h).elim
    cases hF : isF k
    · by_cases h3 : k = 33
      · subst h3
        exact end_neg _ _ hz hL (bs_at p _ _ _) (-1) (fun W => by
          have h := end_no n l hn (rd_neg h) (p ++ [33]) (by simp; omega) W
          rw [e1, e2] at h
          exact h) w
      · cases hT : isT k
        · exact end_other _ _ hz hL k (bs_at p _ _ _) h0 h1 hF h3 hT w
        · rcases rd_two hT h with h2 | ⟨a, r, rfl, hka, h2⟩
          · exact end_two _ _ hz hL k (bs_at p _ _ _) hT (-1) (-1) (fun W => by
              have h := end_no n l hn h2 (p ++ [k]) (by simp; omega) W
              rw [e1, e2] at h
              exact h) (fun W => end_out _ _ (.inl (by omega)) (by omega) (by omega) hL W) w
          · simp at hl hn
            have hp := a.txt_pos
            exact end_two _ _ hz hL k (bs_at p _ _ _) hT ((p.length : Int) + 1 + (a.txt.length : Int)) (-1) (fun W => by
              have h := end_yes a hka (p ++ [k]) r (by simp; omega) W
              rw [e1, e2] at h
              exact h) (fun W => by
              have h := end_no n r (by omega) h2 (p ++ k :: a.txt) (by simp; omega) W
              rw [show (p ++ k :: a.txt) ++ r = p ++ k :: (a.txt ++ r) from by simp, show ((p ++ k :: a.txt).length : Int) = (p.length : Int) + 1 + (a.txt.length : Int) from by simp; omega] at h
              exact h) w
    · rcases rd_fld hF h with rfl | ⟨d, r, rfl, hd⟩
      · exact end_fld_short _ _ (by simp [bs_size]) hz hL k (bs_at p _ _ _) hF w
      · exact end_fld_bad _ _ (by simp [bs_size]) hz hL k d (bs_at p _ _ _) (bs_at1 p k d r _) hF hd w

end Go.Proofs.YtcipidcnkllanaaDoor

namespace Go.Proofs.YtcipidcnkllanaaDoor
open Go.ChangeShapes Go.WideShapes Go.ChangeAt Go.RowKit Go.Joins
set_option linter.unusedVariables false

set_option maxHeartbeats 1000000 in
theorem sPredOk_gen (s : ByteArray) (hq : (s.toList == []) = false) (h16 : s.size ≤ 16) (V : Int) (hV : ∀ W : World, Calls Tryd.prog 32 #[.string s, .int .i64 0] W fun e w' => e = .returned (.int .i64 V) ∧ Below W.heap.size W w') (w : World) :
    Calls Tryd.prog 17 #[.string s] w fun e w' => e = .returned (.bool (V == (s.size : Int))) ∧ Below w.heap.size w w' := by
  have HV := Lib.hid hV
  clear hV
  go_enter Tryd.func17, Tryd.ntmps17
  go_wp2_with fail
  refine (HV.out _).mono ?_
  rintro e w1 ⟨rfl, b1⟩
  go_wp2
  go_ret
  exact ⟨rfl, b1⟩

set_option maxHeartbeats 1000000 in
theorem sPredOk_long (s : ByteArray) (hq : (s.toList == []) = false) (h16 : 16 < s.size) (hL : s.size ≤ 2000000) (w : World) :
    Calls Tryd.prog 17 #[.string s] w fun e w' => e = .returned (.bool false) ∧ Below w.heap.size w w' := by
  have d16 : decide ((s.size : Int) ≤ 16) = false := by simp; omega
  go_enter Tryd.func17, Tryd.ntmps17
  go_wp2
  go_ret
  exact ⟨rfl, Below.refl _ _⟩

set_option maxHeartbeats 1000000 in
theorem sPredOk_nil (s : ByteArray) (hq : (s.toList == []) = true) (w : World) :
    Calls Tryd.prog 17 #[.string s] w fun e w' => e = .returned (.bool false) ∧ Below w.heap.size w w' := by
  go_enter Tryd.func17, Tryd.ntmps17
  go_wp2
  go_ret
  exact ⟨rfl, Below.refl _ _⟩

theorem bs_some {l : List UInt8} (h : l ≠ []) : ((bs l).toList == []) = false := by
  rw [bs_toList]
  cases l with
  | nil => exact absurd rfl h
  | cons a b => rfl

theorem sPredOk_any (l : List UInt8) (hl : l.length ≤ 1048576) (w : World) :
    Calls Tryd.prog 17 #[.string (bs l)] w fun e w' => e = .returned (.bool (whole l).isSome) ∧ Below w.heap.size w w' := by
  cases hw : whole l with
  | some c =>
    obtain ⟨rfl, hk, h16⟩ := whole_some hw
    refine (sPredOk_gen (bs c.txt) (bs_some c.txt_ne) (by rw [bs_size]; exact h16) (c.txt.length : Int) (fun W => ?_) w).mono ?_
    · have h := end_yes c hk [] [] (by simp; omega) W
      simpa using h
    · rintro e w1 ⟨rfl, b1⟩
      exact ⟨by simp [bs_size], b1⟩
  | none =>
    rcases whole_none hw with h1 | ⟨h1, h2⟩ | ⟨h1, c, r, rfl, hk, hr⟩
    · exact sPredOk_long _ (bs_some (by rintro rfl; simp at h1)) (by rw [bs_size]; exact h1) (by rw [bs_size]; omega) w
    · by_cases hn : l = []
      · subst hn
        exact sPredOk_nil _ (by rw [bs_toList]; rfl) w
      · refine (sPredOk_gen (bs l) (bs_some hn) (by rw [bs_size]; exact h1) (-1) (fun W => ?_) w).mono ?_
        · exact end_no _ l (Nat.le_refl _) h2 [] (by simp; omega) W
        · rintro e w1 ⟨rfl, b1⟩
          refine ⟨?_, b1⟩
          rw [show ((-1 : Int) == ((bs l).size : Int)) = false from by first | (simp; done) | (simp; omega)]
          rfl
    · refine (sPredOk_gen (bs (c.txt ++ r)) (bs_some (by simp [c.txt_ne])) (by rw [bs_size]; exact h1) (c.txt.length : Int) (fun W => ?_) w).mono ?_
      · have h := end_yes c hk [] r (by simp at h1 ⊢; omega) W
        simpa using h
      · rintro e w1 ⟨rfl, b1⟩
        refine ⟨?_, b1⟩
        have : 1 ≤ r.length := by cases r with
          | nil => exact absurd rfl hr
          | cons a b => simp
        rw [show ((c.txt.length : Int) == ((bs (c.txt ++ r)).size : Int)) = false from by rw [bs_size]; simp; omega]
        rfl

end Go.Proofs.YtcipidcnkllanaaDoor

namespace Go.Proofs.YtcipidcnkllanaaDoor
open Go.ChangeShapes Go.WideShapes Go.ChangeAt Go.RowKit Go.Joins
set_option linter.unusedVariables false

/-- How deep a text is. -/
def deepL (l : List UInt8) : Int := match whole l with
  | some c => (c.deep : Int)
  | none => 0

end Go.Proofs.YtcipidcnkllanaaDoor

namespace Go.Proofs.YtcipidcnkllanaaDoor
open Go.ChangeShapes Go.WideShapes Go.ChangeAt Go.RowKit Go.Joins
set_option linter.unusedVariables false

/-- A slice of strings of a call's own, in a block of its own. -/
def Row (xs : List ByteArray) (w : World) (e : Ending) (w1 : World) : Prop := ∃ g : Nat, e = .returned (.slice (some ⟨g, 0, none⟩) xs.length xs.length) ∧ w.heap.size ≤ g ∧ g < w1.heap.size ∧ w1.heap[g]? = some (.cells (xs.map Value.string).toArray 9) ∧ Below w.heap.size w w1

set_option maxHeartbeats 1000000 in
theorem parts_none (s : ByteArray) (hs0 : 0 < s.size) (x : UInt8) (hb : s[0]'hs0 = x) (n33 : ((x.toNat : Int) == 33) = false) (n38 : ((x.toNat : Int) == 38) = false) (n124 : ((x.toNat : Int) == 124) = false) (w : World) :
    Calls Tryd.prog 38 #[.string s] w (Row [s] w) := by
  unfold Row
  go_enter Tryd.func38, Tryd.ntmps38
  go_wp2
  go_ret
  exact ⟨w.heap.size, rfl, Nat.le_refl _, by simp, heap_alloc_new w _, below_alloc1 _ _⟩

set_option maxHeartbeats 1000000 in
theorem parts_neg (s t : ByteArray) (hs0 : 0 < s.size) (hb : s[0]'hs0 = 33) (f1 : ∀ W : World, (Instr.slice 9 (.string s) (some (.int .i64 1)) none none).run Tryd.prog W = .ok (.string t) W) (w : World) :
    Calls Tryd.prog 38 #[.string s] w (Row [bs [33], t] w) := by
  unfold Row
  go_enter Tryd.func38, Tryd.ntmps38
  go_wp2
  go_ret
  exact ⟨w.heap.size, rfl, Nat.le_refl _, by simp, heap_alloc_new w _, below_alloc1 _ _⟩

set_option maxHeartbeats 1000000 in
theorem parts_two (s t0 t1 t2 : ByteArray) (hs0 : 0 < s.size) (x : UInt8) (hb : s[0]'hs0 = x) (hx : isT x = true) (E : Int) (hE : ∀ W : World, Calls Tryd.prog 32 #[.string s, .int .i64 1] W fun e w' => e = .returned (.int .i64 E) ∧ Below W.heap.size W w')
    (f0 : ∀ W : World, (Instr.slice 9 (.string s) none (some (.int .i64 1)) none).run Tryd.prog W = .ok (.string t0) W)
    (f1 : ∀ W : World, (Instr.slice 9 (.string s) (some (.int .i64 1)) (some (.int .i64 E)) none).run Tryd.prog W = .ok (.string t1) W)
    (f2 : ∀ W : World, (Instr.slice 9 (.string s) (some (.int .i64 E)) none none).run Tryd.prog W = .ok (.string t2) W) (w : World) :
    Calls Tryd.prog 38 #[.string s] w (Row [t0, t1, t2] w) := by
  unfold Row
  have HE := Lib.hid hE
  clear hE
  rcases isT_cases hx with rfl | rfl
  all_goals
    clear hx
    go_enter Tryd.func38, Tryd.ntmps38
    go_wp2_with fail
    refine (HE.out _).mono ?_
    rintro e w1 ⟨rfl, b1⟩
    go_wp2_with fail
    go_region
    go_wp2
    go_ret
    exact ⟨w1.heap.size, rfl, b1.size, by simp [World.drew], heap_alloc_new w1 _, (b1.alloc b1.size _).drew⟩

/-- The parts of a condition. -/
def Cnd.parts : Cnd → List (List UInt8)
  | .one b => [(Cnd.one b).txt]
  | .fld k d => [(Cnd.fld k d).txt]
  | .neg a => [[33], a.txt]
  | .two k a b => [[k], a.txt, b.txt]

theorem bs_first (x : UInt8) (m : List UInt8) (h : 0 < (bs (x :: m)).size) : (bs (x :: m))[0]'h = x := rfl

theorem sliceMid (p l m : List UInt8) (W : World) : (Instr.slice 9 (.string (bs (p ++ (l ++ m)))) (some (.int .i64 (p.length : Int))) (some (.int .i64 ((p.length : Int) + (l.length : Int)))) none).run Tryd.prog W = .ok (.string (bs l)) W := by
  rw [run_slice_string_if (P := Tryd.prog) W 9 _ .i64 .i64 _ _ Tryd.underlying9, bs_extract, bs_size]
  have e : ((p.length : Int) + (l.length : Int)).toNat = p.length + l.length := by omega
  rw [if_pos (by simp; omega), e, Int.toNat_natCast, show p.length + l.length = (p ++ l).length from by simp, ← List.append_assoc, List.take_left, List.drop_left, if_pos (by omega)]
theorem sliceFrom (p m : List UInt8) (W : World) : (Instr.slice 9 (.string (bs (p ++ m))) (some (.int .i64 (p.length : Int))) none none).run Tryd.prog W = .ok (.string (bs m)) W := by
  rw [run_slice_string_from_if (P := Tryd.prog) W 9 _ .i64 _ Tryd.underlying9, bs_extract, bs_size, if_pos (by simp; omega), List.take_length]
  simp

theorem parts_any (c : Cnd) (hk : c.ok = true) (hl : c.txt.length ≤ 1048576) (w : World) :
    Calls Tryd.prog 38 #[.string (bs c.txt)] w (Row (c.parts.map bs) w) := by
  cases c with
  | one b => cases b <;> exact parts_none _ (by simp [bs_size]) _ (bs_first _ _ _) rfl rfl rfl w
  | fld k d =>
    simp [Cnd.ok] at hk
    rcases isF_cases hk.1 with rfl | rfl | rfl <;> exact parts_none _ (by simp [bs_size]) _ (bs_first _ _ _) rfl rfl rfl w
  | neg a => exact parts_neg _ _ (by simp [bs_size]) (bs_first _ _ _) (slice1 33 a.txt) w
  | two k a b =>
    simp [Cnd.ok] at hk
    simp [Cnd.txt] at hl
    refine parts_two (bs (k :: (a.txt ++ b.txt))) (bs [k]) (bs a.txt) (bs b.txt) (by simp [bs_size]) k (bs_first _ _ _) hk.1 (1 + (a.txt.length : Int)) (fun W => ?_) (fun W => ?_) (fun W => ?_) (fun W => ?_) w
    · exact end_yes a hk.2.1 [k] b.txt (by simp; omega) W
    · exact sliceTo [k] (a.txt ++ b.txt) W
    · exact sliceMid [k] a.txt b.txt W
    · have h := sliceFrom (k :: a.txt) b.txt W
      rw [show ((k :: a.txt).length : Int) = 1 + (a.txt.length : Int) from by simp; omega] at h
      exact h

end Go.Proofs.YtcipidcnkllanaaDoor

namespace Go.Proofs.YtcipidcnkllanaaDoor
open Go.ChangeShapes Go.WideShapes Go.ChangeAt Go.RowKit Go.Joins
set_option linter.unusedVariables false

theorem rowCell {w1 : World} {g : Nat} {xs : List ByteArray} (h : w1.heap[g]? = some (.cells (xs.map Value.string).toArray 9)) (j : Nat) (s : ByteArray) (hj : xs[j]? = some s) : w1.cell? ⟨g, j, none⟩ = some (.string s) := by
  rw [cell_of_block h]
  simp [hj]

end Go.Proofs.YtcipidcnkllanaaDoor

namespace Go.Proofs.YtcipidcnkllanaaDoor
open Go.ChangeShapes Go.WideShapes Go.ChangeAt Go.RowKit Go.Joins
set_option linter.unusedVariables false

set_option maxHeartbeats 2000000 in
theorem shas_one (s : ByteArray) (b : Bool) (x y z : Int) (hs0 : 0 < s.size) (k : UInt8) (hb : s[0]'hs0 = k) (hk : k = 48 ∨ k = 49) (hq : (s.toList == [49]) = b) (hP : ∀ W : World, Calls Tryd.prog 38 #[.string s] W (Row [s] W)) (w : World) :
    Calls Tryd.prog 25 #[.string s, .agg #[.int .i64 x, .int .i64 y, .int .i64 z]] w fun e w' => e = .returned (.bool b) ∧ Below w.heap.size w w' := by
  have HP := Lib.hid hP
  clear hP
  rcases hk with rfl | rfl
  all_goals
    go_enter Tryd.func25, Tryd.ntmps25
    go_wp2_with fail
    refine (HP.out _).mono ?_
    rintro e w1 ⟨g, rfl, hg0, hg1, hblk, b1⟩
    have c0 := rowCell hblk 0 s rfl
    have B1 : Hid (Below w.heap.size w w1) := (below_alloc1 _ _).trans (b1.mono (by simp))
    clear hblk b1 HP
    simp only [List.length_cons, List.length_nil]
    go_wp2
    go_ret
    exact ⟨rfl, B1.out⟩

set_option maxHeartbeats 2000000 in
theorem shas_fld (s : ByteArray) (x y z : Int) (hs1 : 1 < s.size) (hs0 : 0 < s.size) (k d : UInt8) (hb : s[0]'hs0 = k) (hb1 : s[1]'hs1 = d) (hk : isF k = true) (hd : isD d = true) (hP : ∀ W : World, Calls Tryd.prog 38 #[.string s] W (Row [s] W)) (w : World) :
    Calls Tryd.prog 25 #[.string s, .agg #[.int .i64 x, .int .i64 y, .int .i64 z]] w fun e w' => e = .returned (.bool ((Cnd.fld k d).ev x y z)) ∧ Below w.heap.size w w' := by
  have HP := Lib.hid hP
  obtain ⟨d0, d3⟩ := isD_cases hd
  clear hP hd
  rcases isF_cases hk with rfl | rfl | rfl
  · rw [show (Cnd.fld 115 d).ev x y z = (x == ((d.toNat : Int) - 48)) from rfl]
    go_enter Tryd.func25, Tryd.ntmps25
    go_wp2_with fail
    refine (HP.out _).mono ?_
    rintro e w1 ⟨g, rfl, hg0, hg1, hblk, b1⟩
    have c0 := rowCell hblk 0 s rfl
    have h0 := belCell b1 w.heap.size 0 (by simp)
    have h1 := belCell b1 w.heap.size 1 (by simp)
    have h2 := belCell b1 w.heap.size 2 (by simp)
    simp at h0 h1 h2
    have B1 : Hid (Below w.heap.size w w1) := (below_alloc1 _ _).trans (b1.mono (by simp))
    clear hblk b1 HP
    simp only [List.length_cons, List.length_nil]
    go_wp2_with fail
    go_region
    all_goals
      go_wp2
      go_ret
      exact ⟨rfl, by repeat (first | exact B1.out | refine Below.drew ?_)⟩
  · rw [show (Cnd.fld 100 d).ev x y z = (y == ((d.toNat : Int) - 48)) from rfl]
    go_enter Tryd.func25, Tryd.ntmps25
    go_wp2_with fail
    refine (HP.out _).mono ?_
    rintro e w1 ⟨g, rfl, hg0, hg1, hblk, b1⟩
    have c0 := rowCell hblk 0 s rfl
    have h0 := belCell b1 w.heap.size 0 (by simp)
    have h1 := belCell b1 w.heap.size 1 (by simp)
    have h2 := belCell b1 w.heap.size 2 (by simp)
    simp at h0 h1 h2
    have B1 : Hid (Below w.heap.size w w1) := (below_alloc1 _ _).trans (b1.mono (by simp))
    clear hblk b1 HP
    simp only [List.length_cons, List.length_nil]
    go_wp2_with fail
    go_region
    all_goals
      go_wp2
      go_ret
      exact ⟨rfl, by repeat (first | exact B1.out | refine Below.drew ?_)⟩
  · rw [show (Cnd.fld 116 d).ev x y z = (z == ((d.toNat : Int) - 48)) from rfl]
    go_enter Tryd.func25, Tryd.ntmps25
    go_wp2_with fail
    refine (HP.out _).mono ?_
    rintro e w1 ⟨g, rfl, hg0, hg1, hblk, b1⟩
    have c0 := rowCell hblk 0 s rfl
    have h0 := belCell b1 w.heap.size 0 (by simp)
    have h1 := belCell b1 w.heap.size 1 (by simp)
    have h2 := belCell b1 w.heap.size 2 (by simp)
    simp at h0 h1 h2
    have B1 : Hid (Below w.heap.size w w1) := (below_alloc1 _ _).trans (b1.mono (by simp))
    clear hblk b1 HP
    simp only [List.length_cons, List.length_nil]
    go_wp2_with fail
    go_region
    all_goals
      go_wp2
      go_ret
      exact ⟨rfl, by repeat (first | exact B1.out | refine Below.drew ?_)⟩

set_option maxHeartbeats 2000000 in
theorem shas_neg (s t0 t : ByteArray) (v : Bool) (x y z : Int) (hs0 : 0 < t0.size) (hb : t0[0]'hs0 = 33) (hP : ∀ W : World, Calls Tryd.prog 38 #[.string s] W (Row [t0, t] W)) (hA : ∀ W : World, Calls Tryd.prog 25 #[.string t, .agg #[.int .i64 x, .int .i64 y, .int .i64 z]] W fun e w' => e = .returned (.bool v) ∧ Below W.heap.size W w') (w : World) :
    Calls Tryd.prog 25 #[.string s, .agg #[.int .i64 x, .int .i64 y, .int .i64 z]] w fun e w' => e = .returned (.bool (!v)) ∧ Below w.heap.size w w' := by
  have HP := Lib.hid hP
  have HA := Lib.hid hA
  clear hP hA
  go_enter Tryd.func25, Tryd.ntmps25
  go_wp2_with fail
  refine (HP.out _).mono ?_
  rintro e w1 ⟨g, rfl, hg0, hg1, hblk, b1⟩
  have c0 := rowCell hblk 0 t0 rfl
  have c1 := rowCell hblk 1 t rfl
  have h0 := belCell b1 w.heap.size 0 (by simp)
  have h1 := belCell b1 w.heap.size 1 (by simp)
  have h2 := belCell b1 w.heap.size 2 (by simp)
  simp at h0 h1 h2
  have B1 : Hid (Below w.heap.size w w1) := (below_alloc1 _ _).trans (b1.mono (by simp))
  clear hblk b1 HP
  simp only [List.length_cons, List.length_nil]
  go_wp2_with fail
  go_region_with (go_at_call 25; refine (HA.out _).mono ?_; rintro e w2 ⟨rfl, b2⟩)
  all_goals
    go_wp2
    go_ret
    exact ⟨rfl, B1.out.trans (((Below.refl _ _).drew.trans b2).mono B1.out.size)⟩

set_option maxHeartbeats 40000000 in
theorem shas_and (s t0 t t' : ByteArray) (v v' : Bool) (x y z : Int) (hs0 : 0 < t0.size) (hb : t0[0]'hs0 = 38) (hP : ∀ W : World, Calls Tryd.prog 38 #[.string s] W (Row [t0, t, t'] W)) (hA : ∀ W : World, Calls Tryd.prog 25 #[.string t, .agg #[.int .i64 x, .int .i64 y, .int .i64 z]] W fun e w' => e = .returned (.bool v) ∧ Below W.heap.size W w') (hA' : ∀ W : World, Calls Tryd.prog 25 #[.string t', .agg #[.int .i64 x, .int .i64 y, .int .i64 z]] W fun e w' => e = .returned (.bool v') ∧ Below W.heap.size W w') (w : World) :
    Calls Tryd.prog 25 #[.string s, .agg #[.int .i64 x, .int .i64 y, .int .i64 z]] w fun e w' => e = .returned (.bool (v && v')) ∧ Below w.heap.size w w' := by
  have HP := Lib.hid hP
  have HA := Lib.hid hA
  have HA' := Lib.hid hA'
  clear hP hA hA'
  cases v
  · go_enter Tryd.func25, Tryd.ntmps25
    go_wp2_with fail
    refine (HP.out _).mono ?_
    rintro e w1 ⟨g, rfl, hg0, hg1, hblk, b1⟩
    have c0 := rowCell hblk 0 t0 rfl
    have HCL : Hid (∀ W : World, Below w1.heap.size w1 W → W.cell? ⟨g, 1, none⟩ = some (.string t) ∧ W.cell? ⟨g, 2, none⟩ = some (.string t') ∧ W.cell? ⟨w.heap.size, 0, none⟩ = some (.int .i64 x) ∧ W.cell? ⟨w.heap.size, 1, none⟩ = some (.int .i64 y) ∧ W.cell? ⟨w.heap.size, 2, none⟩ = some (.int .i64 z)) := fun W hW =>
      ⟨cellLater (rowCell hblk 1 t rfl) hW, cellLater (rowCell hblk 2 t' rfl) hW, cellLater ((belCell b1 _ 0 (by simp)).trans (by simp)) hW, cellLater ((belCell b1 _ 1 (by simp)).trans (by simp)) hW, cellLater ((belCell b1 _ 2 (by simp)).trans (by simp)) hW⟩
    have B1 : Hid (Below w.heap.size w w1) := (below_alloc1 _ _).trans (b1.mono (by simp))
    have D0 : Hid (Below w1.heap.size w1 w1.drew) := (Below.refl _ _).drew
    clear hblk b1 HP
    simp only [List.length_cons, List.length_nil]
    go_wp2_with fail
    obtain ⟨c1, c2, h0, h1, h2⟩ := HCL.out _ D0.out
    first
    | go_region_with (go_at_call 25; refine (HA.out _).mono ?_; rintro e w2 ⟨rfl, b2⟩)
    | fail
    all_goals
      go_wp2
      go_ret
      exact ⟨rfl, B1.out.trans ((D0.out.trans (b2.mono D0.out.size)).mono B1.out.size)⟩
  · go_enter Tryd.func25, Tryd.ntmps25
    go_wp2_with fail
    refine (HP.out _).mono ?_
    rintro e w1 ⟨g, rfl, hg0, hg1, hblk, b1⟩
    have c0 := rowCell hblk 0 t0 rfl
    have HCL : Hid (∀ W : World, Below w1.heap.size w1 W → W.cell? ⟨g, 1, none⟩ = some (.string t) ∧ W.cell? ⟨g, 2, none⟩ = some (.string t') ∧ W.cell? ⟨w.heap.size, 0, none⟩ = some (.int .i64 x) ∧ W.cell? ⟨w.heap.size, 1, none⟩ = some (.int .i64 y) ∧ W.cell? ⟨w.heap.size, 2, none⟩ = some (.int .i64 z)) := fun W hW =>
      ⟨cellLater (rowCell hblk 1 t rfl) hW, cellLater (rowCell hblk 2 t' rfl) hW, cellLater ((belCell b1 _ 0 (by simp)).trans (by simp)) hW, cellLater ((belCell b1 _ 1 (by simp)).trans (by simp)) hW, cellLater ((belCell b1 _ 2 (by simp)).trans (by simp)) hW⟩
    have B1 : Hid (Below w.heap.size w w1) := (below_alloc1 _ _).trans (b1.mono (by simp))
    have D0 : Hid (Below w1.heap.size w1 w1.drew) := (Below.refl _ _).drew
    clear hblk b1 HP
    simp only [List.length_cons, List.length_nil]
    go_wp2_with fail
    go_region_held3 (fun W' => W'.cell? ⟨g, 1, none⟩ = some (.string t) ∧ W'.cell? ⟨g, 2, none⟩ = some (.string t') ∧ W'.cell? ⟨w.heap.size, 0, none⟩ = some (.int .i64 x) ∧ W'.cell? ⟨w.heap.size, 1, none⟩ = some (.int .i64 y) ∧ W'.cell? ⟨w.heap.size, 2, none⟩ = some (.int .i64 z))
        (first | exact HCL.out _ D0.out | exact HCL.out _ D2.out | exact HCL.out _ D1.out)
        (first
          | (go_at_call 25; ((with_reducible refine (HA.out _).mono ?_); rintro e w8 ⟨rfl, b8⟩; have D1 : Hid (Below w1.heap.size w1 w8) := D0.out.trans (b8.mono D0.out.size); clear b8))
          | (go_at_call 25; ((with_reducible refine (HA'.out _).mono ?_); rintro e w9 ⟨rfl, b9⟩; have D2 : Hid (Below w1.heap.size w1 w9) := D1.out.trans (b9.mono D1.out.size); clear b9)))
    go_wp2
    go_ret
    exact ⟨rfl, B1.out.trans (D2.out.mono B1.out.size)⟩

set_option maxHeartbeats 40000000 in
theorem shas_or (s t0 t t' : ByteArray) (v v' : Bool) (x y z : Int) (hs0 : 0 < t0.size) (hb : t0[0]'hs0 = 124) (hP : ∀ W : World, Calls Tryd.prog 38 #[.string s] W (Row [t0, t, t'] W)) (hA : ∀ W : World, Calls Tryd.prog 25 #[.string t, .agg #[.int .i64 x, .int .i64 y, .int .i64 z]] W fun e w' => e = .returned (.bool v) ∧ Below W.heap.size W w') (hA' : ∀ W : World, Calls Tryd.prog 25 #[.string t', .agg #[.int .i64 x, .int .i64 y, .int .i64 z]] W fun e w' => e = .returned (.bool v') ∧ Below W.heap.size W w') (w : World) :
    Calls Tryd.prog 25 #[.string s, .agg #[.int .i64 x, .int .i64 y, .int .i64 z]] w fun e w' => e = .returned (.bool (v || v')) ∧ Below w.heap.size w w' := by
  have HP := Lib.hid hP
  have HA := Lib.hid hA
  have HA' := Lib.hid hA'
  clear hP hA hA'
  cases v
  · go_enter Tryd.func25, Tryd.ntmps25
    go_wp2_with fail
    refine (HP.out _).mono ?_
    rintro e w1 ⟨g, rfl, hg0, hg1, hblk, b1⟩
    have c0 := rowCell hblk 0 t0 rfl
    have HCL : Hid (∀ W : World, Below w1.heap.size w1 W → W.cell? ⟨g, 1, none⟩ = some (.string t) ∧ W.cell? ⟨g, 2, none⟩ = some (.string t') ∧ W.cell? ⟨w.heap.size, 0, none⟩ = some (.int .i64 x) ∧ W.cell? ⟨w.heap.size, 1, none⟩ = some (.int .i64 y) ∧ W.cell? ⟨w.heap.size, 2, none⟩ = some (.int .i64 z)) := fun W hW =>
      ⟨cellLater (rowCell hblk 1 t rfl) hW, cellLater (rowCell hblk 2 t' rfl) hW, cellLater ((belCell b1 _ 0 (by simp)).trans (by simp)) hW, cellLater ((belCell b1 _ 1 (by simp)).trans (by simp)) hW, cellLater ((belCell b1 _ 2 (by simp)).trans (by simp)) hW⟩
    have B1 : Hid (Below w.heap.size w w1) := (below_alloc1 _ _).trans (b1.mono (by simp))
    have D0 : Hid (Below w1.heap.size w1 w1.drew) := (Below.refl _ _).drew
    clear hblk b1 HP
    simp only [List.length_cons, List.length_nil]
    go_wp2_with fail
    go_region_held3 (fun W' => W'.cell? ⟨g, 1, none⟩ = some (.string t) ∧ W'.cell? ⟨g, 2, none⟩ = some (.string t') ∧ W'.cell? ⟨w.heap.size, 0, none⟩ = some (.int .i64 x) ∧ W'.cell? ⟨w.heap.size, 1, none⟩ = some (.int .i64 y) ∧ W'.cell? ⟨w.heap.size, 2, none⟩ = some (.int .i64 z))
        (first | exact HCL.out _ D0.out | exact HCL.out _ D2.out | exact HCL.out _ D1.out)
        (first
          | (go_at_call 25; ((with_reducible refine (HA.out _).mono ?_); rintro e w8 ⟨rfl, b8⟩; have D1 : Hid (Below w1.heap.size w1 w8) := D0.out.trans (b8.mono D0.out.size); clear b8))
          | (go_at_call 25; ((with_reducible refine (HA'.out _).mono ?_); rintro e w9 ⟨rfl, b9⟩; have D2 : Hid (Below w1.heap.size w1 w9) := D1.out.trans (b9.mono D1.out.size); clear b9)))
    go_wp2
    go_ret
    exact ⟨rfl, B1.out.trans (D2.out.mono B1.out.size)⟩
  · go_enter Tryd.func25, Tryd.ntmps25
    go_wp2_with fail
    refine (HP.out _).mono ?_
    rintro e w1 ⟨g, rfl, hg0, hg1, hblk, b1⟩
    have c0 := rowCell hblk 0 t0 rfl
    have HCL : Hid (∀ W : World, Below w1.heap.size w1 W → W.cell? ⟨g, 1, none⟩ = some (.string t) ∧ W.cell? ⟨g, 2, none⟩ = some (.string t') ∧ W.cell? ⟨w.heap.size, 0, none⟩ = some (.int .i64 x) ∧ W.cell? ⟨w.heap.size, 1, none⟩ = some (.int .i64 y) ∧ W.cell? ⟨w.heap.size, 2, none⟩ = some (.int .i64 z)) := fun W hW =>
      ⟨cellLater (rowCell hblk 1 t rfl) hW, cellLater (rowCell hblk 2 t' rfl) hW, cellLater ((belCell b1 _ 0 (by simp)).trans (by simp)) hW, cellLater ((belCell b1 _ 1 (by simp)).trans (by simp)) hW, cellLater ((belCell b1 _ 2 (by simp)).trans (by simp)) hW⟩
    have B1 : Hid (Below w.heap.size w w1) := (below_alloc1 _ _).trans (b1.mono (by simp))
    have D0 : Hid (Below w1.heap.size w1 w1.drew) := (Below.refl _ _).drew
    clear hblk b1 HP
    simp only [List.length_cons, List.length_nil]
    go_wp2_with fail
    obtain ⟨c1, c2, h0, h1, h2⟩ := HCL.out _ D0.out
    first
    | go_region_with (go_at_call 25; refine (HA.out _).mono ?_; rintro e w2 ⟨rfl, b2⟩)
    | fail
    all_goals
      go_wp2
      go_ret
      exact ⟨rfl, B1.out.trans ((D0.out.trans (b2.mono D0.out.size)).mono B1.out.size)⟩

/-- For which heads, by the model. -/
theorem shas_any (x y z : Int) : ∀ (c : Cnd) (hk : c.ok = true) (hl : c.txt.length ≤ 1048576) (w : World),
    Calls Tryd.prog 25 #[.string (bs c.txt), .agg #[.int .i64 x, .int .i64 y, .int .i64 z]] w fun e w' => e = .returned (.bool (c.ev x y z)) ∧ Below w.heap.size w w'
  | .one b, hk, hl, w => by
    refine shas_one _ b x y z (by rw [bs_size]; exact Cnd.txt_pos _) (if b then 49 else 48) rfl ?_ ?_ (fun W => parts_any (.one b) hk hl W) w
    · cases b
      · exact .inl rfl
      · exact .inr rfl
    · rw [bs_toList]
      cases b <;> rfl
  | .fld k d, hk, hl, w => by
    have hk' := hk
    simp [Cnd.ok] at hk'
    exact shas_fld _ x y z (by rw [bs_size]; simp [Cnd.txt]) (by rw [bs_size]; exact Cnd.txt_pos _) k d rfl rfl hk'.1 hk'.2 (fun W => parts_any (.fld k d) hk hl W) w
  | .neg a, hk, hl, w => by
    have hl' := hl
    simp [Cnd.txt] at hl'
    exact shas_neg _ _ _ (a.ev x y z) x y z (by simp [bs_size]) rfl (fun W => parts_any (.neg a) hk hl W) (fun W => shas_any x y z a hk (by omega) W) w
  | .two k a b, hk, hl, w => by
    have hl' := hl
    simp [Cnd.txt] at hl'
    have hk' := hk
    simp [Cnd.ok] at hk'
    rcases isT_cases hk'.1 with rfl | rfl
    · exact shas_and _ _ _ _ (a.ev x y z) (b.ev x y z) x y z (by simp [bs_size]) rfl (fun W => parts_any (.two 38 a b) hk hl W) (fun W => shas_any x y z a hk'.2.1 (by omega) W) (fun W => shas_any x y z b hk'.2.2 (by omega) W) w
    · exact shas_or _ _ _ _ (a.ev x y z) (b.ev x y z) x y z (by simp [bs_size]) rfl (fun W => parts_any (.two 124 a b) hk hl W) (fun W => shas_any x y z a hk'.2.1 (by omega) W) (fun W => shas_any x y z b hk'.2.2 (by omega) W) w

end Go.Proofs.YtcipidcnkllanaaDoor

namespace Go.Proofs.YtcipidcnkllanaaDoor
open Go.ChangeShapes Go.WideShapes Go.ChangeAt Go.RowKit Go.Joins
set_option linter.unusedVariables false

/-- Whether a text holds for a head. -/
def hasL (l : List UInt8) (x y z : Int) : Bool := match whole l with
  | some c => okB x y z && c.ev x y z
  | none => false

theorem evn_ev (c : Cnd) {x y z : Int} (h : okB x y z = true) : evn c (16 * x + 4 * y + z) = c.ev x y z := by
  obtain ⟨⟨a0, a3⟩, ⟨b0, b3⟩, ⟨c0, c3⟩⟩ := okB_true h
  unfold evn
  rw [show (16 * x + 4 * y + z) / 16 = x from by omega, show (16 * x + 4 * y + z) / 4 % 4 = y from by omega, show (16 * x + 4 * y + z) % 4 = z from by omega]

set_option maxRecDepth 100000 in
set_option maxHeartbeats 2000000 in
theorem iPredHas_any (l : List UInt8) (hl : l.length ≤ 1048576) (x y z : Int) (ep : Addr) (w : World) (hE : w.cell? ⟨0, 0, none⟩ = some (errV ep)) :
    Calls Tryd.prog 9 #[.string (bs l), .agg #[.int .i64 x, .int .i64 y, .int .i64 z]] w fun e w' => e = .returned (.bool (hasL l x y z)) ∧ Below w.heap.size w w' := by
  have hg := World.block_lt_of_cell? _ _ hE
  have HE : Hid (∀ W : World, Below w.heap.size w W → W.cell? ⟨0, 0, none⟩ = some (.iface 103 (.pointer (some ep)))) := fun W hb => cellLater hE hb
  unfold hasL
  cases hw : whole l with
  | some c =>
    obtain ⟨rfl, hk, h16⟩ := whole_some hw
    have HC : Hid (∀ W : World, Below w.heap.size w W → Calls Tryd.prog 20 #[.string (bs c.txt)] W (Whole c W)) := fun W hb => readPred_yes c hk h16 ep W (cellLater hE hb)
    unfold Whole at HC
    simp only
    clear hE hw hl h16 hk
    generalize bs c.txt = s at *
    cases ho : okB x y z
    · have HB := Lib.hid (bitsOf_no x y z ho)
      clear ho
      go_enter Tryd.func9, Tryd.ntmps9
      go_wp2_with fail
      refine (HB.out _).mono ?_
      rintro e w1 ⟨rfl, b1⟩
      have B1 : Hid (Below w.heap.size w w1) := (below_alloc1 _ _).trans (b1.mono (by simp))
      have s1 := B1.out.size
      clear b1 HB
      go_wp2_with fail
      refine (HC.out _ B1.out).mono ?_
      rintro e w2 ⟨ad, n1, c1, k1, caps, rfl, hR, b2⟩
      have B2 := Lib.hid (belStep B1.out b2)
      clear hR b2 B1 HC
      go_wp2
      go_ret
      exact ⟨rfl, by repeat (first | exact B2.out | refine Below.drew ?_ | refine Below.alloc ?_ (by have := B2.out.size; omega) _)⟩
    · have HB := Lib.hid (bitsOf_yes x y z ho)
      have hn : 0 ≤ 16 * x + 4 * y + z ∧ 16 * x + 4 * y + z ≤ 63 := by
        obtain ⟨⟨a0, a3⟩, ⟨b0, b3⟩, ⟨c0, c3⟩⟩ := okB_true ho
        omega
      rw [Bool.true_and, ← evn_ev c ho]
      generalize 16 * x + 4 * y + z = n at *
      clear ho
      go_enter Tryd.func9, Tryd.ntmps9
      go_wp2_with fail
      refine (HB.out _).mono ?_
      rintro e w1 ⟨rfl, b1⟩
      have B1 : Hid (Below w.heap.size w w1) := (below_alloc1 _ _).trans (b1.mono (by simp))
      have s1 := B1.out.size
      clear b1 HB
      go_wp2_with fail
      refine (HC.out _ B1.out).mono ?_
      rintro e w2 ⟨ad, n1, c1, k1, caps, rfl, hR, b2⟩
      have s2 := b2.size
      have hE2 := HE.out _ (belStep B1.out b2)
      have hg2 : 0 < w2.heap.size := by omega
      have B2 := Lib.hid (belStep B1.out b2)
      obtain ⟨k', caps', hkk, he, hcl⟩ := hR.fn
      obtain ⟨rfl, rfl⟩ : k1 = k' ∧ caps = caps' := by cases hkk; exact ⟨rfl, rfl⟩
      have HF : Hid (∀ W : World, Below w2.heap.size w2 W → Calls Tryd.prog k1 (#[.int .u8 n] ++ caps) W fun e W' => e = .returned (.bool (evn c n)) ∧ Below W.heap.size W W') := fun W hb => hcl W (Ag.of hb (Nat.le_refl _)) n hn.1 hn.2
      clear hR b2 B1 HC hcl hkk
      go_wp2_with fail
      refine (is_nil _ _).mono ?_
      rintro e w3 ⟨rfl, rfl⟩
      go_wp2_with fail
      refine (HF.out _ (below_alloc1 _ _)).mono ?_
      rintro e w4 ⟨rfl, b4⟩
      go_wp2
      go_ret
      exact ⟨rfl, (B2.out.alloc B2.out.size _).trans (b4.mono (by have := B2.out.size; simp; omega))⟩
  | none =>
    have HC : Hid (∀ W : World, Below w.heap.size w W → Calls Tryd.prog 20 #[.string (bs l)] W (NoWhole ep W)) := fun W hb => readPred_no l hw hl ep W (cellLater hE hb)
    unfold NoWhole errV at HC
    clear hE hw hl
    generalize bs l = s at *
    cases ho : okB x y z
    · have HB := Lib.hid (bitsOf_no x y z ho)
      clear ho
      go_enter Tryd.func9, Tryd.ntmps9
      go_wp2_with fail
      refine (HB.out _).mono ?_
      rintro e w1 ⟨rfl, b1⟩
      have B1 : Hid (Below w.heap.size w w1) := (below_alloc1 _ _).trans (b1.mono (by simp))
      have s1 := B1.out.size
      clear b1 HB
      go_wp2_with fail
      refine (HC.out _ B1.out).mono ?_
      rintro e w2 ⟨rfl, b2⟩
      have B2 := Lib.hid (belStep B1.out b2)
      clear b2 B1 HC
      go_wp2
      go_ret
      exact ⟨rfl, by repeat (first | exact B2.out | refine Below.drew ?_ | refine Below.alloc ?_ (by have := B2.out.size; omega) _)⟩
    · have HB := Lib.hid (bitsOf_yes x y z ho)
      generalize 16 * x + 4 * y + z = n at *
      clear ho
      go_enter Tryd.func9, Tryd.ntmps9
      go_wp2_with fail
      refine (HB.out _).mono ?_
      rintro e w1 ⟨rfl, b1⟩
      have B1 : Hid (Below w.heap.size w w1) := (below_alloc1 _ _).trans (b1.mono (by simp))
      have s1 := B1.out.size
      clear b1 HB
      go_wp2_with fail
      refine (HC.out _ B1.out).mono ?_
      rintro e w2 ⟨rfl, b2⟩
      have s2 := b2.size
      have hE2 := HE.out _ (belStep B1.out b2)
      have hg2 : 0 < w2.heap.size := by omega
      have B2 := Lib.hid (belStep B1.out b2)
      clear b2 B1 HC
      go_wp2_with fail
      refine (is_same _ _).mono ?_
      rintro e w3 ⟨rfl, rfl⟩
      go_wp2
      go_ret
      exact ⟨rfl, by repeat (first | exact B2.out | refine Below.drew ?_ | refine Below.alloc ?_ (by have := B2.out.size; omega) _)⟩

end Go.Proofs.YtcipidcnkllanaaDoor
