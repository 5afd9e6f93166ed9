/-
  For which heads a condition holds by the model, and by the program.
-/
import Derived.Test.YtddkpimmcmnogaaDoorPredSpecB
namespace Go.Proofs.YtddkpimmcmnogaaDoor
open Go.ChangeShapes Go.WideShapes Go.ChangeAt Go.RowKit Go.Joins
set_option linter.unusedVariables false

set_option maxHeartbeats 2000000 in
theorem shas_one (s : ByteArray) (b : Bool) (x y z : Int) (hs0 : 0 < s.size) (k : UInt8) (hb : s[0]'hs0 = k) (hk : k = 48 ∨ k = 49) (hq : (s.toList == [49]) = b) (hP : ∀ W : World, Calls Tryd.prog 41 #[.string s] W (Row [s] W)) (w : World) :
    Calls Tryd.prog 44 #[.string s, .agg #[.int .i64 x, .int .i64 y, .int .i64 z]] w fun e w' => e = .returned (.bool b) ∧ Below w.heap.size w w' := by
  have HP := Lib.hid hP
  clear hP
  rcases hk with rfl | rfl
  all_goals
    go_enter Tryd.func44, Tryd.ntmps44
    go_wp2_with fail
    refine (HP.out _).mono ?_
    rintro e w1 ⟨g, rfl, hg0, hg1, hblk, b1⟩
    have c0 := rowCell hblk 0 s rfl
    have B1 : Hid (Below w.heap.size w w1) := (below_alloc1 _ _).trans (b1.mono (by simp))
    clear hblk b1 HP
    simp only [List.length_cons, List.length_nil]
    go_wp2
    go_ret
    exact ⟨rfl, B1.out⟩

set_option maxHeartbeats 2000000 in
theorem shas_fld (s : ByteArray) (x y z : Int) (hs1 : 1 < s.size) (hs0 : 0 < s.size) (k d : UInt8) (hb : s[0]'hs0 = k) (hb1 : s[1]'hs1 = d) (hk : isF k = true) (hd : isD d = true) (hP : ∀ W : World, Calls Tryd.prog 41 #[.string s] W (Row [s] W)) (w : World) :
    Calls Tryd.prog 44 #[.string s, .agg #[.int .i64 x, .int .i64 y, .int .i64 z]] w fun e w' => e = .returned (.bool ((Cnd.fld k d).ev x y z)) ∧ Below w.heap.size w w' := by
  have HP := Lib.hid hP
  obtain ⟨d0, d3⟩ := isD_cases hd
  clear hP hd
  rcases isF_cases hk with rfl | rfl | rfl
  · rw [show (Cnd.fld 115 d).ev x y z = (x == ((d.toNat : Int) - 48)) from rfl]
    go_enter Tryd.func44, Tryd.ntmps44
    go_wp2_with fail
    refine (HP.out _).mono ?_
    rintro e w1 ⟨g, rfl, hg0, hg1, hblk, b1⟩
    have c0 := rowCell hblk 0 s rfl
    have h0 := belCell b1 w.heap.size 0 (by simp)
    have h1 := belCell b1 w.heap.size 1 (by simp)
    have h2 := belCell b1 w.heap.size 2 (by simp)
    simp at h0 h1 h2
    have B1 : Hid (Below w.heap.size w w1) := (below_alloc1 _ _).trans (b1.mono (by simp))
    clear hblk b1 HP
    simp only [List.length_cons, List.length_nil]
    go_wp2_with fail
    go_region
    all_goals
      go_wp2
      go_ret
      exact ⟨rfl, by repeat (first | exact B1.out | refine Below.drew ?_)⟩
  · rw [show (Cnd.fld 100 d).ev x y z = (y == ((d.toNat : Int) - 48)) from rfl]
    go_enter Tryd.func44, Tryd.ntmps44
    go_wp2_with fail
    refine (HP.out _).mono ?_
    rintro e w1 ⟨g, rfl, hg0, hg1, hblk, b1⟩
    have c0 := rowCell hblk 0 s rfl
    have h0 := belCell b1 w.heap.size 0 (by simp)
    have h1 := belCell b1 w.heap.size 1 (by simp)
    have h2 := belCell b1 w.heap.size 2 (by simp)
    simp at h0 h1 h2
    have B1 : Hid (Below w.heap.size w w1) := (below_alloc1 _ _).trans (b1.mono (by simp))
    clear hblk b1 HP
    simp only [List.length_cons, List.length_nil]
    go_wp2_with fail
    go_region
    all_goals
      go_wp2
      go_ret
      exact ⟨rfl, by repeat (first | exact B1.out | refine Below.drew ?_)⟩
  · rw [show (Cnd.fld 116 d).ev x y z = (z == ((d.toNat : Int) - 48)) from rfl]
    go_enter Tryd.func44, Tryd.ntmps44
    go_wp2_with fail
    refine (HP.out _).mono ?_
    rintro e w1 ⟨g, rfl, hg0, hg1, hblk, b1⟩
    have c0 := rowCell hblk 0 s rfl
    have h0 := belCell b1 w.heap.size 0 (by simp)
    have h1 := belCell b1 w.heap.size 1 (by simp)
    have h2 := belCell b1 w.heap.size 2 (by simp)
    simp at h0 h1 h2
    have B1 : Hid (Below w.heap.size w w1) := (below_alloc1 _ _).trans (b1.mono (by simp))
    clear hblk b1 HP
    simp only [List.length_cons, List.length_nil]
    go_wp2_with fail
    go_region
    all_goals
      go_wp2
      go_ret
      exact ⟨rfl, by repeat (first | exact B1.out | refine Below.drew ?_)⟩

set_option maxHeartbeats 2000000 in
theorem shas_neg (s t0 t : ByteArray) (v : Bool) (x y z : Int) (hs0 : 0 < t0.size) (hb : t0[0]'hs0 = 33) (hP : ∀ W : World, Calls Tryd.prog 41 #[.string s] W (Row [t0, t] W)) (hA : ∀ W : World, Calls Tryd.prog 44 #[.string t, .agg #[.int .i64 x, .int .i64 y, .int .i64 z]] W fun e w' => e = .returned (.bool v) ∧ Below W.heap.size W w') (w : World) :
    Calls Tryd.prog 44 #[.string s, .agg #[.int .i64 x, .int .i64 y, .int .i64 z]] w fun e w' => e = .returned (.bool (!v)) ∧ Below w.heap.size w w' := by
  have HP := Lib.hid hP
  have HA := Lib.hid hA
  clear hP hA
  go_enter Tryd.func44, Tryd.ntmps44
  go_wp2_with fail
  refine (HP.out _).mono ?_
  rintro e w1 ⟨g, rfl, hg0, hg1, hblk, b1⟩
  have c0 := rowCell hblk 0 t0 rfl
  have c1 := rowCell hblk 1 t rfl
  have h0 := belCell b1 w.heap.size 0 (by simp)
  have h1 := belCell b1 w.heap.size 1 (by simp)
  have h2 := belCell b1 w.heap.size 2 (by simp)
  simp at h0 h1 h2
  have B1 : Hid (Below w.heap.size w w1) := (below_alloc1 _ _).trans (b1.mono (by simp))
  clear hblk b1 HP
  simp only [List.length_cons, List.length_nil]
  go_wp2_with fail
  go_region_with (go_at_call 44; refine (HA.out _).mono ?_; rintro e w2 ⟨rfl, b2⟩)
  all_goals
    go_wp2
    go_ret
    exact ⟨rfl, B1.out.trans (((Below.refl _ _).drew.trans b2).mono B1.out.size)⟩

set_option maxHeartbeats 40000000 in
theorem shas_and (s t0 t t' : ByteArray) (v v' : Bool) (x y z : Int) (hs0 : 0 < t0.size) (hb : t0[0]'hs0 = 38) (hP : ∀ W : World, Calls Tryd.prog 41 #[.string s] W (Row [t0, t, t'] W)) (hA : ∀ W : World, Calls Tryd.prog 44 #[.string t, .agg #[.int .i64 x, .int .i64 y, .int .i64 z]] W fun e w' => e = .returned (.bool v) ∧ Below W.heap.size W w') (hA' : ∀ W : World, Calls Tryd.prog 44 #[.string t', .agg #[.int .i64 x, .int .i64 y, .int .i64 z]] W fun e w' => e = .returned (.bool v') ∧ Below W.heap.size W w') (w : World) :
    Calls Tryd.prog 44 #[.string s, .agg #[.int .i64 x, .int .i64 y, .int .i64 z]] w fun e w' => e = .returned (.bool (v && v')) ∧ Below w.heap.size w w' := by
  have HP := Lib.hid hP
  have HA := Lib.hid hA
  have HA' := Lib.hid hA'
  clear hP hA hA'
  cases v
  · go_enter Tryd.func44, Tryd.ntmps44
    go_wp2_with fail
    refine (HP.out _).mono ?_
    rintro e w1 ⟨g, rfl, hg0, hg1, hblk, b1⟩
    have c0 := rowCell hblk 0 t0 rfl
    have HCL : Hid (∀ W : World, Below w1.heap.size w1 W → W.cell? ⟨g, 1, none⟩ = some (.string t) ∧ W.cell? ⟨g, 2, none⟩ = some (.string t') ∧ W.cell? ⟨w.heap.size, 0, none⟩ = some (.int .i64 x) ∧ W.cell? ⟨w.heap.size, 1, none⟩ = some (.int .i64 y) ∧ W.cell? ⟨w.heap.size, 2, none⟩ = some (.int .i64 z)) := fun W hW =>
      ⟨cellLater (rowCell hblk 1 t rfl) hW, cellLater (rowCell hblk 2 t' rfl) hW, cellLater ((belCell b1 _ 0 (by simp)).trans (by simp)) hW, cellLater ((belCell b1 _ 1 (by simp)).trans (by simp)) hW, cellLater ((belCell b1 _ 2 (by simp)).trans (by simp)) hW⟩
    have B1 : Hid (Below w.heap.size w w1) := (below_alloc1 _ _).trans (b1.mono (by simp))
    have D0 : Hid (Below w1.heap.size w1 w1.drew) := (Below.refl _ _).drew
    clear hblk b1 HP
    simp only [List.length_cons, List.length_nil]
    go_wp2_with fail
    obtain ⟨c1, c2, h0, h1, h2⟩ := HCL.out _ D0.out
    first
    | go_region_with (go_at_call 44; refine (HA.out _).mono ?_; rintro e w2 ⟨rfl, b2⟩)
    | fail
    all_goals
      go_wp2
      go_ret
      exact ⟨rfl, B1.out.trans ((D0.out.trans (b2.mono D0.out.size)).mono B1.out.size)⟩
  · go_enter Tryd.func44, Tryd.ntmps44
    go_wp2_with fail
    refine (HP.out _).mono ?_
    rintro e w1 ⟨g, rfl, hg0, hg1, hblk, b1⟩
    have c0 := rowCell hblk 0 t0 rfl
    have HCL : Hid (∀ W : World, Below w1.heap.size w1 W → W.cell? ⟨g, 1, none⟩ = some (.string t) ∧ W.cell? ⟨g, 2, none⟩ = some (.string t') ∧ W.cell? ⟨w.heap.size, 0, none⟩ = some (.int .i64 x) ∧ W.cell? ⟨w.heap.size, 1, none⟩ = some (.int .i64 y) ∧ W.cell? ⟨w.heap.size, 2, none⟩ = some (.int .i64 z)) := fun W hW =>
      ⟨cellLater (rowCell hblk 1 t rfl) hW, cellLater (rowCell hblk 2 t' rfl) hW, cellLater ((belCell b1 _ 0 (by simp)).trans (by simp)) hW, cellLater ((belCell b1 _ 1 (by simp)).trans (by simp)) hW, cellLater ((belCell b1 _ 2 (by simp)).trans (by simp)) hW⟩
    have B1 : Hid (Below w.heap.size w w1) := (below_alloc1 _ _).trans (b1.mono (by simp))
    have D0 : Hid (Below w1.heap.size w1 w1.drew) := (Below.refl _ _).drew
    clear hblk b1 HP
    simp only [List.length_cons, List.length_nil]
    go_wp2_with fail
    go_region_held3 (fun W' => W'.cell? ⟨g, 1, none⟩ = some (.string t) ∧ W'.cell? ⟨g, 2, none⟩ = some (.string t') ∧ W'.cell? ⟨w.heap.size, 0, none⟩ = some (.int .i64 x) ∧ W'.cell? ⟨w.heap.size, 1, none⟩ = some (.int .i64 y) ∧ W'.cell? ⟨w.heap.size, 2, none⟩ = some (.int .i64 z))
        (first | exact HCL.out _ D0.out | exact HCL.out _ D2.out | exact HCL.out _ D1.out)
        (first
          | (go_at_call 44; ((with_reducible refine (HA.out _).mono ?_); rintro e w8 ⟨rfl, b8⟩; have D1 : Hid (Below w1.heap.size w1 w8) := D0.out.trans (b8.mono D0.out.size); clear b8))
          | (go_at_call 44; ((with_reducible refine (HA'.out _).mono ?_); rintro e w9 ⟨rfl, b9⟩; have D2 : Hid (Below w1.heap.size w1 w9) := D1.out.trans (b9.mono D1.out.size); clear b9)))
    go_wp2
    go_ret
    exact ⟨rfl, B1.out.trans (D2.out.mono B1.out.size)⟩

set_option maxHeartbeats 40000000 in
theorem shas_or (s t0 t t' : ByteArray) (v v' : Bool) (x y z : Int) (hs0 : 0 < t0.size) (hb : t0[0]'hs0 = 124) (hP : ∀ W : World, Calls Tryd.prog 41 #[.string s] W (Row [t0, t, t'] W)) (hA : ∀ W : World, Calls Tryd.prog 44 #[.string t, .agg #[.int .i64 x, .int .i64 y, .int .i64 z]] W fun e w' => e = .returned (.bool v) ∧ Below W.heap.size W w') (hA' : ∀ W : World, Calls Tryd.prog 44 #[.string t', .agg #[.int .i64 x, .int .i64 y, .int .i64 z]] W fun e w' => e = .returned (.bool v') ∧ Below W.heap.size W w') (w : World) :
    Calls Tryd.prog 44 #[.string s, .agg #[.int .i64 x, .int .i64 y, .int .i64 z]] w fun e w' => e = .returned (.bool (v || v')) ∧ Below w.heap.size w w' := by
  have HP := Lib.hid hP
  have HA := Lib.hid hA
  have HA' := Lib.hid hA'
  clear hP hA hA'
  cases v
  · go_enter Tryd.func44, Tryd.ntmps44
    go_wp2_with fail
    refine (HP.out _).mono ?_
    rintro e w1 ⟨g, rfl, hg0, hg1, hblk, b1⟩
    have c0 := rowCell hblk 0 t0 rfl
    have HCL : Hid (∀ W : World, Below w1.heap.size w1 W → W.cell? ⟨g, 1, none⟩ = some (.string t) ∧ W.cell? ⟨g, 2, none⟩ = some (.string t') ∧ W.cell? ⟨w.heap.size, 0, none⟩ = some (.int .i64 x) ∧ W.cell? ⟨w.heap.size, 1, none⟩ = some (.int .i64 y) ∧ W.cell? ⟨w.heap.size, 2, none⟩ = some (.int .i64 z)) := fun W hW =>
      ⟨cellLater (rowCell hblk 1 t rfl) hW, cellLater (rowCell hblk 2 t' rfl) hW, cellLater ((belCell b1 _ 0 (by simp)).trans (by simp)) hW, cellLater ((belCell b1 _ 1 (by simp)).trans (by simp)) hW, cellLater ((belCell b1 _ 2 (by simp)).trans (by simp)) hW⟩
    have B1 : Hid (Below w.heap.size w w1) := (below_alloc1 _ _).trans (b1.mono (by simp))
    have D0 : Hid (Below w1.heap.size w1 w1.drew) := (Below.refl _ _).drew
    clear hblk b1 HP
    simp only [List.length_cons, List.length_nil]
    go_wp2_with fail
    go_region_held3 (fun W' => W'.cell? ⟨g, 1, none⟩ = some (.string t) ∧ W'.cell? ⟨g, 2, none⟩ = some (.string t') ∧ W'.cell? ⟨w.heap.size, 0, none⟩ = some (.int .i64 x) ∧ W'.cell? ⟨w.heap.size, 1, none⟩ = some (.int .i64 y) ∧ W'.cell? ⟨w.heap.size, 2, none⟩ = some (.int .i64 z))
        (first | exact HCL.out _ D0.out | exact HCL.out _ D2.out | exact HCL.out _ D1.out)
        (first
          | (go_at_call 44; ((with_reducible refine (HA.out _).mono ?_); rintro e w8 ⟨rfl, b8⟩; have D1 : Hid (Below w1.heap.size w1 w8) := D0.out.trans (b8.mono D0.out.size); clear b8))
          | (go_at_call 44; ((with_reducible refine (HA'.out _).mono ?_); rintro e w9 ⟨rfl, b9⟩; have D2 : Hid (Below w1.heap.size w1 w9) := D1.out.trans (b9.mono D1.out.size); clear b9)))
    go_wp2
    go_ret
    exact ⟨rfl, B1.out.trans (D2.out.mono B1.out.size)⟩
  · go_enter Tryd.func44, Tryd.ntmps44
    go_wp2_with fail
    refine (HP.out _).mono ?_
    rintro e w1 ⟨g, rfl, hg0, hg1, hblk, b1⟩
    have c0 := rowCell hblk 0 t0 rfl
    have HCL : Hid (∀ W : World, Below w1.heap.size w1 W → W.cell? ⟨g, 1, none⟩ = some (.string t) ∧ W.cell? ⟨g, 2, none⟩ = some (.string t') ∧ W.cell? ⟨w.heap.size, 0, none⟩ = some (.int .i64 x) ∧ W.cell? ⟨w.heap.size, 1, none⟩ = some (.int .i64 y) ∧ W.cell? ⟨w.heap.size, 2, none⟩ = some (.int .i64 z)) := fun W hW =>
      ⟨cellLater (rowCell hblk 1 t rfl) hW, cellLater (rowCell hblk 2 t' rfl) hW, cellLater ((belCell b1 _ 0 (by simp)).trans (by simp)) hW, cellLater ((belCell b1 _ 1 (by simp)).trans (by simp)) hW, cellLater ((belCell b1 _ 2 (by simp)).trans (by simp)) hW⟩
    have B1 : Hid (Below w.heap.size w w1) := (below_alloc1 _ _).trans (b1.mono (by simp))
    have D0 : Hid (Below w1.heap.size w1 w1.drew) := (Below.refl _ _).drew
    clear hblk b1 HP
    simp only [List.length_cons, List.length_nil]
    go_wp2_with fail
    obtain ⟨c1, c2, h0, h1, h2⟩ := HCL.out _ D0.out
    first
    | go_region_with (go_at_call 44; refine (HA.out _).mono ?_; rintro e w2 ⟨rfl, b2⟩)
    | fail
    all_goals
      go_wp2
      go_ret
      exact ⟨rfl, B1.out.trans ((D0.out.trans (b2.mono D0.out.size)).mono B1.out.size)⟩

/-- For which heads, by the model. -/
theorem shas_any (x y z : Int) : ∀ (c : Cnd) (hk : c.ok = true) (hl : c.txt.length ≤ 1048576) (w : World),
    Calls Tryd.prog 44 #[.string (bs c.txt), .agg #[.int .i64 x, .int .i64 y, .int .i64 z]] w fun e w' => e = .returned (.bool (c.ev x y z)) ∧ Below w.heap.size w w'
  | .one b, hk, hl, w => by
    refine shas_one _ b x y z (by rw [bs_size]; exact Cnd.txt_pos _) (if b then 49 else 48) rfl ?_ ?_ (fun W => parts_any (.one b) hk hl W) w
    · cases b
      · exact .inl rfl
      · exact .inr rfl
    · rw [bs_toList]
      cases b <;> rfl
  | .fld k d, hk, hl, w => by
    have hk' := hk
    simp [Cnd.ok] at hk'
    exact shas_fld _ x y z (by rw [bs_size]; simp [Cnd.txt]) (by rw [bs_size]; exact Cnd.txt_pos _) k d rfl rfl hk'.1 hk'.2 (fun W => parts_any (.fld k d) hk hl W) w
  | .neg a, hk, hl, w => by
    have hl' := hl
    simp [Cnd.txt] at hl'
    exact shas_neg _ _ _ (a.ev x y z) x y z (by simp [bs_size]) rfl (fun W => parts_any (.neg a) hk hl W) (fun W => shas_any x y z a hk (by omega) W) w
  | .two k a b, hk, hl, w => by
    have hl' := hl
    simp [Cnd.txt] at hl'
    have hk' := hk
    simp [Cnd.ok] at hk'
    rcases isT_cases hk'.1 with rfl | rfl
    · exact shas_and _ _ _ _ (a.ev x y z) (b.ev x y z) x y z (by simp [bs_size]) rfl (fun W => parts_any (.two 38 a b) hk hl W) (fun W => shas_any x y z a hk'.2.1 (by omega) W) (fun W => shas_any x y z b hk'.2.2 (by omega) W) w
    · exact shas_or _ _ _ _ (a.ev x y z) (b.ev x y z) x y z (by simp [bs_size]) rfl (fun W => parts_any (.two 124 a b) hk hl W) (fun W => shas_any x y z a hk'.2.1 (by omega) W) (fun W => shas_any x y z b hk'.2.2 (by omega) W) w

end Go.Proofs.YtddkpimmcmnogaaDoor
