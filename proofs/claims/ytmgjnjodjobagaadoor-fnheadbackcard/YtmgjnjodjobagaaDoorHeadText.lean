/-
  What the model's text of a number below ten, and of a head, is.
-/
import Derived.Test.YtmgjnjodjobagaaDoorHeadMore
import Derived.Deep.RegionHeld3
namespace Go.Proofs.YtmgjnjodjobagaaDoor
open Go.ChangeShapes Go.WideShapes Go.ChangeAt Go.RowKit Go.Joins
set_option linter.unusedVariables false

/-- The text of a number below ten. -/
def digB (n : Int) : ByteArray := ⟨#[UInt8.ofNat (48 + n).toNat]⟩
theorem digB_size (n : Int) : (digB n).size = 1 := rfl

theorem convert_one (w : World) (x : Int) (h0 : 0 ≤ x) (h1 : x ≤ 255) :
    (convert 22 9 (.slice (some ⟨w.heap.size, 0, none⟩) 1 1)).run Tryd.prog (w.alloc (.cells #[.int .u8 x] 5)) = .ok (.string ⟨#[UInt8.ofNat x.toNat]⟩) (w.alloc (.cells #[.int .u8 x] 5)) := by
  have := run_convert_bytes_back (P := Tryd.prog) (w.alloc (.cells #[.int .u8 x] 5)) 22 9 5 ⟨w.heap.size, 0, none⟩ 1 [UInt8.ofNat x.toNat] Tryd.underlying22 Tryd.underlying5 Tryd.underlying9 (by
    intro j hj
    simp at hj
    subst hj
    simp [Addr.add, go_sem]
    omega)
  simpa using this

set_option maxHeartbeats 400000 in
theorem l6Dec_digit (n : Int) (h0 : 0 ≤ n) (h9 : n ≤ 9) (w : World) :
    Calls Tryd.prog 23 #[.int .i64 n] w fun e w' => e = .returned (.string (digB n)) ∧ Below w.heap.size w w' := by
  have hx : ¬ n < -9223372036854775807 := by omega
  have hc := convert_one w (48 + n) (by omega) (by omega)
  go_enter Tryd.func23, Tryd.ntmps23
  go_wp2
  go_ret
  exact ⟨rfl, below_alloc1 _ _⟩

/-- The text of a head. -/
def textB (a b c : Int) : ByteArray := digB a ++ ⟨#[46]⟩ ++ digB b ++ ⟨#[46]⟩ ++ digB c

set_option maxHeartbeats 1000000 in
theorem sHeadText_no (a b c : Int) (hk : okB a b c = false) (w : World) :
    Calls Tryd.prog 9 #[.agg #[.int .i64 a, .int .i64 b, .int .i64 c]] w fun e w' => e = .returned (.string ⟨#[]⟩) ∧ Below w.heap.size w w' := by
  go_enter Tryd.func9, Tryd.ntmps9
  go_wp2_with (go_at_call 17; refine (sHeadOk_any _ _ _ _).mono ?_; rintro e w1 ⟨rfl, hb⟩)
  go_ret
  exact ⟨rfl, (below_alloc1 _ _).trans (hb.mono (by simp))⟩

set_option maxHeartbeats 1000000 in
theorem sHeadText_yes (a b c : Int) (hk : okB a b c = true) (w : World) :
    Calls Tryd.prog 9 #[.agg #[.int .i64 a, .int .i64 b, .int .i64 c]] w fun e w' => e = .returned (.string (textB a b c)) ∧ Below w.heap.size w w' := by
  obtain ⟨⟨ha0, ha3⟩, ⟨hb0, hb3⟩, ⟨hc0, hc3⟩⟩ := okB_true hk
  go_enter Tryd.func9, Tryd.ntmps9
  go_wp2_with (go_at_call 17; refine (sHeadOk_any _ _ _ _).mono ?_; rintro e w1 ⟨rfl, hb⟩)
  have P1 := Lib.hid (belCell hb)
  have s1 := hb.size
  simp at s1
  have BW : Hid (Below w.heap.size w w1) := (below_alloc1 _ _).trans (hb.mono (by simp))
  have HS : Hid (∀ w' : World, Below w1.heap.size w1 w' → (w'.cell? ⟨w.heap.size, 0, none⟩ = some (.int .i64 a) ∧ w'.cell? ⟨w.heap.size, 1, none⟩ = some (.int .i64 b) ∧ w'.cell? ⟨w.heap.size, 2, none⟩ = some (.int .i64 c) ∧ Below w1.heap.size w1 w')) := by
    intro w' hq
    have hc := belCell hq
    refine ⟨?_, ?_, ?_, hq⟩ <;> (rw [hc _ _ (by omega), P1.out _ _ (by simp)]; simp [go_sem])
  clear P1 hb
  have d1 := digB_size a
  have d2 := digB_size b
  have d3 := digB_size c
  go_region_held3 (fun w' => w'.cell? ⟨w.heap.size, 0, none⟩ = some (.int .i64 a) ∧ w'.cell? ⟨w.heap.size, 1, none⟩ = some (.int .i64 b) ∧ w'.cell? ⟨w.heap.size, 2, none⟩ = some (.int .i64 c) ∧ Below w1.heap.size w1 w')
    (first | exact HS.out _ ((Below.refl _ _).drew) | (go_split_ands; exact HS.out _ (belStep (by assumption) hq)))
    (first
      | (go_at_call 23; ((with_reducible refine (l6Dec_digit _ ?_ ?_ _).mono ?_); omega; omega; rintro e wq ⟨rfl, hq⟩)))
  go_wp2
  go_ret
  go_split_ands
  exact ⟨rfl, BW.out.trans (Below.mono (show Below w1.heap.size w1 wq by assumption) BW.out.size)⟩

/-! ### Reading a head -/

theorem byteSub (b : UInt8) : wrap64 (wrap64 (b.toNat : Int) - 48) = (b.toNat : Int) - 48 := by
  have := b.toNat_lt
  unfold wrap64
  omega
theorem digB_byte (b : UInt8) : digB ((b.toNat : Int) - 48) = ⟨#[b]⟩ := by
  unfold digB
  have e : (48 + ((b.toNat : Int) - 48)).toNat = b.toNat := by omega
  rw [e]
  simp
theorem textB_bytes (b0 b2 b4 : UInt8) : textB ((b0.toNat : Int) - 48) ((b2.toNat : Int) - 48) ((b4.toNat : Int) - 48) = ⟨#[b0, 46, b2, 46, b4]⟩ := by
  unfold textB
  rw [digB_byte, digB_byte, digB_byte]
  rfl
theorem text_same (b0 b1 b2 b3 b4 : UInt8) : ((textB ((b0.toNat : Int) - 48) ((b2.toNat : Int) - 48) ((b4.toNat : Int) - 48)).toList == [b0, b1, b2, b3, b4]) = ((b1 == 46) && (b3 == 46)) := by
  rw [textB_bytes, ByteArray.toList_eq, Bool.eq_iff_iff]
  simp
  constructor
  · rintro ⟨h1, h2⟩; exact ⟨h1.symm, h2.symm⟩
  · rintro ⟨h1, h2⟩; exact ⟨h1.symm, h2.symm⟩

/-- What a text of five bytes reads as: a head, and whether it is one. -/
def ReadAs (b0 b1 b2 b3 b4 : UInt8) (w : World) (e : Ending) (w' : World) : Prop :=
  (if (b1 == 46) && ((b3 == 46) && okB ((b0.toNat : Int) - 48) ((b2.toNat : Int) - 48) ((b4.toNat : Int) - 48)) then
    e = .returned (.tuple #[.agg #[.int .i64 ((b0.toNat : Int) - 48), .int .i64 ((b2.toNat : Int) - 48), .int .i64 ((b4.toNat : Int) - 48)], .bool true])
  else e = .returned (.tuple #[.agg #[.int .i64 0, .int .i64 0, .int .i64 0], .bool false])) ∧ Below w.heap.size w w'
theorem readAs_yes {b0 b1 b2 b3 b4 : UInt8} {w : World} (w' : World) (h1 : (b1 == 46) = true) (h3 : (b3 == 46) = true) (hk : okB ((b0.toNat : Int) - 48) ((b2.toNat : Int) - 48) ((b4.toNat : Int) - 48) = true) (hb : Below w.heap.size w w') :
    ReadAs b0 b1 b2 b3 b4 w (.returned (.tuple #[.agg #[.int .i64 ((b0.toNat : Int) - 48), .int .i64 ((b2.toNat : Int) - 48), .int .i64 ((b4.toNat : Int) - 48)], .bool true])) w' := by
  refine ⟨?_, hb⟩
  rw [h1, h3, hk]
  rfl
theorem readAs_no {b0 b1 b2 b3 b4 : UInt8} {w : World} (w' : World) (h : ((b1 == 46) && ((b3 == 46) && okB ((b0.toNat : Int) - 48) ((b2.toNat : Int) - 48) ((b4.toNat : Int) - 48))) = false) (hb : Below w.heap.size w w') :
    ReadAs b0 b1 b2 b3 b4 w (.returned (.tuple #[.agg #[.int .i64 0, .int .i64 0, .int .i64 0], .bool false])) w' := by
  refine ⟨?_, hb⟩
  rw [h]
  rfl

set_option maxHeartbeats 1000000 in
theorem sHeadRead_short (s : ByteArray) (hs : s.size ≠ 5) (hm : s.size ≤ 1048576) (w : World) :
    Calls Tryd.prog 15 #[.string s] w fun e w' => e = .returned (.tuple #[.agg #[.int .i64 0, .int .i64 0, .int .i64 0], .bool false]) ∧ Below w.heap.size w w' := by
  have h5 : ((s.size : Int) != 5) = true := by simp; omega
  go_enter Tryd.func15, Tryd.ntmps15
  go_wp2
  exact bodyPost_ret (v := .tuple #[.agg #[.int .i64 0, .int .i64 0, .int .i64 0], .bool false]) (by simp [results, Tryd.results15, go_sem]) rfl ⟨rfl, below_alloc1 _ _⟩

set_option maxHeartbeats 1000000 in
theorem iHeadRead_short (s : ByteArray) (hs : s.size ≠ 5) (hm : s.size ≤ 1048576) (w : World) :
    Calls Tryd.prog 10 #[.string s] w fun e w' => e = .returned (.tuple #[.agg #[.int .i64 0, .int .i64 0, .int .i64 0], .bool false]) ∧ Below w.heap.size w w' := by
  have h5 : ((s.size : Int) != 5) = true := by simp; omega
  go_enter Tryd.func10, Tryd.ntmps10
  go_wp2
  exact bodyPost_ret (v := .tuple #[.agg #[.int .i64 0, .int .i64 0, .int .i64 0], .bool false]) (by simp [results, Tryd.results10, go_sem]) rfl ⟨rfl, below_alloc1 _ _⟩

theorem twoHeads' {w w1 W : World} {t u : TypeId} {a b c d e f : Value} (hW : W = ((w.alloc (.cells #[a, b, c] t)).alloc (.cells #[d, e, f] u)).drew) (hb : Below W.heap.size W w1) :
    (w1.cell? ⟨w.heap.size, 0, none⟩ = some a ∧ w1.cell? ⟨w.heap.size, 1, none⟩ = some b ∧ w1.cell? ⟨w.heap.size, 2, none⟩ = some c ∧
    w1.cell? ⟨w.heap.size + 1, 0, none⟩ = some d ∧ w1.cell? ⟨w.heap.size + 1, 1, none⟩ = some e ∧ w1.cell? ⟨w.heap.size + 1, 2, none⟩ = some f) ∧ (∀ o, w1.frozen? ⟨w.heap.size, o, none⟩ = false) ∧ Below w.heap.size w w1 := by
  subst hW
  have hb' : Below ((w.alloc (.cells #[a, b, c] t)).alloc (.cells #[d, e, f] u)).heap.size ((w.alloc (.cells #[a, b, c] t)).alloc (.cells #[d, e, f] u)) w1 := ⟨hb.os, hb.tape, hb.output, hb.size, hb.block⟩
  refine ⟨twoHeads hb', fun o => ?_, (below_alloc2 _ _ _).trans (hb'.mono (by simp; omega))⟩
  have := belFrozen hb' w.heap.size o (by simp; omega)
  rw [this]
  simp [go_sem]

set_option maxHeartbeats 1000000 in
theorem sHeadRead_five (b0 b1 b2 b3 b4 : UInt8) (w : World) :
    Calls Tryd.prog 15 #[.string ⟨#[b0, b1, b2, b3, b4]⟩] w (ReadAs b0 b1 b2 b3 b4 w) := by
  go_enter Tryd.func15, Tryd.ntmps15
  go_wp2
  go_region
  have e0 : wrap64 (wrap64 (((⟨#[b0, b1, b2, b3, b4]⟩ : ByteArray)[0]'(by show _ < 5; omega)).toNat : Int) - 48) = (b0.toNat : Int) - 48 := byteSub b0
  have e2 : wrap64 (wrap64 (((⟨#[b0, b1, b2, b3, b4]⟩ : ByteArray)[2]'(by show _ < 5; omega)).toNat : Int) - 48) = (b2.toNat : Int) - 48 := byteSub b2
  have e4 : wrap64 (wrap64 (((⟨#[b0, b1, b2, b3, b4]⟩ : ByteArray)[4]'(by show _ < 5; omega)).toNat : Int) - 48) = (b4.toNat : Int) - 48 := byteSub b4
  rw [e0, e2, e4]
  clear e0 e2 e4
  have ts := text_same b0 b1 b2 b3 b4
  have en : ((⟨#[]⟩ : ByteArray).toList == (⟨#[b0, b1, b2, b3, b4]⟩ : ByteArray).toList) = false := by rw [ByteArray.toList_eq, ByteArray.toList_eq]; rfl
  have RY := Lib.hid (@readAs_yes b0 b1 b2 b3 b4 w)
  have RN := Lib.hid (@readAs_no b0 b1 b2 b3 b4 w)
  cases hk : okB ((b0.toNat : Int) - 48) ((b2.toNat : Int) - 48) ((b4.toNat : Int) - 48)
  · generalize hx : (b0.toNat : Int) - 48 = x at *
    generalize hy : (b2.toNat : Int) - 48 = y at *
    generalize hz : (b4.toNat : Int) - 48 = z at *
    clear ts hx hy hz
    generalize hW : ((w.alloc (.cells #[.int .i64 0, .int .i64 0, .int .i64 0] 24)).alloc (.cells #[.int .i64 x, .int .i64 y, .int .i64 z] 24)).drew = W
    have T := Lib.hid (fun w1 => twoHeads' (w1 := w1) hW.symm)
    obtain ⟨⟨i0, i1, i2, i3, i4, i5⟩, i6, i7⟩ := T.out W (Below.refl _ _)
    clear hW
    go_wp2_with (go_at_call 9; refine (sHeadText_no _ _ _ hk _).mono ?_; rintro e w1 ⟨rfl, hb⟩; obtain ⟨⟨j0, j1, j2, j3, j4, j5⟩, j6, j7⟩ := T.out w1 hb)
    exact bodyPost_ret (v := .tuple #[.agg #[.int .i64 0, .int .i64 0, .int .i64 0], .bool false]) (by simp [results, Tryd.results15, go_sem, j0, j1, j2]) rfl
      (RN.out _ (by rw [hk]; simp) (by repeat (first | exact j7 | refine Below.setCell ?_ (by simp) _)))
  · cases h1 : (b1 == 46) <;> cases h3 : (b3 == 46) <;> rw [h1, h3] at ts <;> simp only [Bool.and_true, Bool.and_false] at ts
    all_goals
      generalize hx : (b0.toNat : Int) - 48 = x at *
      generalize hy : (b2.toNat : Int) - 48 = y at *
      generalize hz : (b4.toNat : Int) - 48 = z at *
      clear hx hy hz en
      generalize hW : ((w.alloc (.cells #[.int .i64 0, .int .i64 0, .int .i64 0] 24)).alloc (.cells #[.int .i64 x, .int .i64 y, .int .i64 z] 24)).drew = W
      have T := Lib.hid (fun w1 => twoHeads' (w1 := w1) hW.symm)
      obtain ⟨⟨i0, i1, i2, i3, i4, i5⟩, i6, i7⟩ := T.out W (Below.refl _ _)
      clear hW
      go_wp2_with (go_at_call 9; refine (sHeadText_yes _ _ _ hk _).mono ?_; rintro e w1 ⟨rfl, hb⟩; obtain ⟨⟨j0, j1, j2, j3, j4, j5⟩, j6, j7⟩ := T.out w1 hb)
    · exact bodyPost_ret (v := .tuple #[.agg #[.int .i64 0, .int .i64 0, .int .i64 0], .bool false]) (by simp [results, Tryd.results15, go_sem, j0, j1, j2]) rfl
        (RN.out _ (by rw [h1, h3]; simp) (by repeat (first | exact j7 | refine Below.setCell ?_ (by simp) _)))
    · exact bodyPost_ret (v := .tuple #[.agg #[.int .i64 0, .int .i64 0, .int .i64 0], .bool false]) (by simp [results, Tryd.results15, go_sem, j0, j1, j2]) rfl
        (RN.out _ (by rw [h1, h3]; simp) (by repeat (first | exact j7 | refine Below.setCell ?_ (by simp) _)))
    · exact bodyPost_ret (v := .tuple #[.agg #[.int .i64 0, .int .i64 0, .int .i64 0], .bool false]) (by simp [results, Tryd.results15, go_sem, j0, j1, j2]) rfl
        (RN.out _ (by rw [h1, h3]; simp) (by repeat (first | exact j7 | refine Below.setCell ?_ (by simp) _)))
    · exact bodyPost_ret (v := .tuple #[.agg #[.int .i64 x, .int .i64 y, .int .i64 z], .bool true]) (by simp [results, Tryd.results15, go_sem, j0, j1, j2]) rfl
        (RY.out _ h1 h3 hk (by repeat (first | exact j7 | refine Below.setCell ?_ (by simp) _)))

set_option maxHeartbeats 1000000 in
theorem iHeadRead_points (b0 b1 b2 b3 b4 : UInt8) (h : (b1 == 46) = false ∨ (b3 == 46) = false) (w : World) :
    Calls Tryd.prog 10 #[.string ⟨#[b0, b1, b2, b3, b4]⟩] w (ReadAs b0 b1 b2 b3 b4 w) := by
  have RN := Lib.hid (fun w' => @readAs_no b0 b1 b2 b3 b4 w w')
  have hr : Hid (((b1 == 46) && ((b3 == 46) && okB ((b0.toNat : Int) - 48) ((b2.toNat : Int) - 48) ((b4.toNat : Int) - 48))) = false) := by
    show _ = false
    rcases h with h | h <;> simp [h]
  cases h1 : (b1 == 46)
  · have e1 : ((((⟨#[b0, b1, b2, b3, b4]⟩ : ByteArray)[1]'(by show _ < 5; omega)).toNat : Int) != 46) = true := by
      show ((b1.toNat : Int) != 46) = true
      have : b1 ≠ 46 := by simpa using h1
      have : b1.toNat ≠ 46 := fun e => this (by apply UInt8.toNat_inj.1; simpa using e)
      simp; omega
    clear h
    go_enter Tryd.func10, Tryd.ntmps10
    go_wp2
    exact bodyPost_ret (v := .tuple #[.agg #[.int .i64 0, .int .i64 0, .int .i64 0], .bool false]) (by simp [results, Tryd.results10, go_sem]) rfl (RN.out _ hr.out (below_alloc1 _ _))
  · have h3 : (b3 == 46) = false := by simpa [h1] using h
    have e1 : ((((⟨#[b0, b1, b2, b3, b4]⟩ : ByteArray)[1]'(by show _ < 5; omega)).toNat : Int) != 46) = false := by
      show ((b1.toNat : Int) != 46) = false
      have : b1 = 46 := by simpa using h1
      subst this
      rfl
    have e3 : ((((⟨#[b0, b1, b2, b3, b4]⟩ : ByteArray)[3]'(by show _ < 5; omega)).toNat : Int) != 46) = true := by
      show ((b3.toNat : Int) != 46) = true
      have : b3 ≠ 46 := by simpa using h3
      have : b3.toNat ≠ 46 := fun e => this (by apply UInt8.toNat_inj.1; simpa using e)
      simp; omega
    clear h
    go_enter Tryd.func10, Tryd.ntmps10
    go_wp2
    exact bodyPost_ret (v := .tuple #[.agg #[.int .i64 0, .int .i64 0, .int .i64 0], .bool false]) (by simp [results, Tryd.results10, go_sem]) rfl (RN.out _ hr.out (below_alloc1 _ _))

set_option maxHeartbeats 1000000 in
theorem iHeadRead_dotted (b0 b2 b4 : UInt8) (w : World) :
    Calls Tryd.prog 10 #[.string ⟨#[b0, 46, b2, 46, b4]⟩] w (ReadAs b0 46 b2 46 b4 w) := by
  have RY := Lib.hid (fun w' => @readAs_yes b0 46 b2 46 b4 w w' rfl rfl)
  have RN := Lib.hid (fun w' => @readAs_no b0 46 b2 46 b4 w w')
  have e1 : ((((⟨#[b0, 46, b2, 46, b4]⟩ : ByteArray)[1]'(by show _ < 5; omega)).toNat : Int) != 46) = false := rfl
  have e3 : ((((⟨#[b0, 46, b2, 46, b4]⟩ : ByteArray)[3]'(by show _ < 5; omega)).toNat : Int) != 46) = false := rfl
  go_enter Tryd.func10, Tryd.ntmps10
  go_wp2
  clear e1 e3
  go_region
  have e0 : wrap64 (wrap64 (((⟨#[b0, 46, b2, 46, b4]⟩ : ByteArray)[0]'(by show _ < 5; omega)).toNat : Int) - 48) = (b0.toNat : Int) - 48 := byteSub b0
  have e2 : wrap64 (wrap64 (((⟨#[b0, 46, b2, 46, b4]⟩ : ByteArray)[2]'(by show _ < 5; omega)).toNat : Int) - 48) = (b2.toNat : Int) - 48 := byteSub b2
  have e4 : wrap64 (wrap64 (((⟨#[b0, 46, b2, 46, b4]⟩ : ByteArray)[4]'(by show _ < 5; omega)).toNat : Int) - 48) = (b4.toNat : Int) - 48 := byteSub b4
  rw [e0, e2, e4]
  clear e0 e2 e4
  cases hk : okB ((b0.toNat : Int) - 48) ((b2.toNat : Int) - 48) ((b4.toNat : Int) - 48)
  all_goals
    generalize hx : (b0.toNat : Int) - 48 = x at *
    generalize hy : (b2.toNat : Int) - 48 = y at *
    generalize hz : (b4.toNat : Int) - 48 = z at *
    clear hx hy hz
    generalize hW : ((w.alloc (.cells #[.int .i64 0, .int .i64 0, .int .i64 0] 24)).alloc (.cells #[.int .i64 x, .int .i64 y, .int .i64 z] 24)).drew = W
    have T := Lib.hid (fun w1 => twoHeads' (w1 := w1) hW.symm)
    obtain ⟨⟨i0, i1, i2, i3, i4, i5⟩, i6, i7⟩ := T.out W (Below.refl _ _)
    clear hW
    go_wp2_with (go_at_call 13; refine (iHeadOk_any _ _ _ _).mono ?_; rintro e w1 ⟨rfl, hb⟩; obtain ⟨⟨j0, j1, j2, j3, j4, j5⟩, j6, j7⟩ := T.out w1 hb)
  · exact bodyPost_ret (v := .tuple #[.agg #[.int .i64 0, .int .i64 0, .int .i64 0], .bool false]) (by simp [results, Tryd.results10, go_sem, j0, j1, j2]) rfl
      (RN.out _ (by rw [hk]; simp) (by repeat (first | exact j7 | refine Below.setCell ?_ (by simp) _)))
  · exact bodyPost_ret (v := .tuple #[.agg #[.int .i64 x, .int .i64 y, .int .i64 z], .bool true]) (by simp [results, Tryd.results10, go_sem, j0, j1, j2]) rfl
      (RY.out _ hk (by repeat (first | exact j7 | refine Below.setCell ?_ (by simp) _)))

theorem iHeadRead_five (b0 b1 b2 b3 b4 : UInt8) (w : World) :
    Calls Tryd.prog 10 #[.string ⟨#[b0, b1, b2, b3, b4]⟩] w (ReadAs b0 b1 b2 b3 b4 w) := by
  by_cases h1 : b1 = 46
  · by_cases h3 : b3 = 46
    · subst h1 h3
      exact iHeadRead_dotted b0 b2 b4 w
    · exact iHeadRead_points b0 b1 b2 b3 b4 (.inr (by simpa using h3)) w
  · exact iHeadRead_points b0 b1 b2 b3 b4 (.inl (by simpa using h1)) w

/-- A string of five bytes, written out. -/
theorem five_bytes {s : ByteArray} (h : s.size = 5) : ∃ b0 b1 b2 b3 b4 : UInt8, s = ⟨#[b0, b1, b2, b3, b4]⟩ := by
  obtain ⟨⟨l⟩⟩ := s
  match l, h with
  | [b0, b1, b2, b3, b4], _ => exact ⟨b0, b1, b2, b3, b4, rfl⟩

/-- One answer for both: at every text some head and some bool. -/
theorem headRead_both (s : ByteArray) (hm : s.size ≤ 1048576) : ∃ (x y z : Int) (k : Bool),
    (∀ W : World, Calls Tryd.prog 15 #[.string s] W fun e w' => e = .returned (.tuple #[.agg #[.int .i64 x, .int .i64 y, .int .i64 z], .bool k]) ∧ Below W.heap.size W w') ∧
    (∀ W : World, Calls Tryd.prog 10 #[.string s] W fun e w' => e = .returned (.tuple #[.agg #[.int .i64 x, .int .i64 y, .int .i64 z], .bool k]) ∧ Below W.heap.size W w') := by
  by_cases h : s.size = 5
  · obtain ⟨b0, b1, b2, b3, b4, rfl⟩ := five_bytes h
    cases hk : (b1 == 46) && ((b3 == 46) && okB ((b0.toNat : Int) - 48) ((b2.toNat : Int) - 48) ((b4.toNat : Int) - 48))
    · refine ⟨0, 0, 0, false, fun W => (sHeadRead_five b0 b1 b2 b3 b4 W).mono fun e w' h => ?_, fun W => (iHeadRead_five b0 b1 b2 b3 b4 W).mono fun e w' h => ?_⟩ <;>
      · unfold ReadAs at h
        rw [hk] at h
        exact h
    · refine ⟨(b0.toNat : Int) - 48, (b2.toNat : Int) - 48, (b4.toNat : Int) - 48, true, fun W => (sHeadRead_five b0 b1 b2 b3 b4 W).mono fun e w' h => ?_, fun W => (iHeadRead_five b0 b1 b2 b3 b4 W).mono fun e w' h => ?_⟩ <;>
      · unfold ReadAs at h
        rw [hk] at h
        exact h
  · exact ⟨0, 0, 0, false, sHeadRead_short s h hm, iHeadRead_short s h hm⟩

theorem textB_list (a b c : Int) : (textB a b c).toList = [UInt8.ofNat (48 + a).toNat, 46, UInt8.ofNat (48 + b).toNat, 46, UInt8.ofNat (48 + c).toNat] := by
  rw [ByteArray.toList_eq]; rfl

theorem textB_eq (a b c : Int) : textB a b c = ⟨#[UInt8.ofNat (48 + a).toNat, 46, UInt8.ofNat (48 + b).toNat, 46, UInt8.ofNat (48 + c).toNat]⟩ := rfl

theorem byte_back {a : Int} (h0 : 0 ≤ a) (h3 : a ≤ 3) : ((UInt8.ofNat (48 + a).toNat).toNat : Int) - 48 = a := by
  simp
  omega

/-- The text of a head is read back. -/
theorem iHeadRead_text (a b c : Int) (hk : okB a b c = true) (w : World) :
    Calls Tryd.prog 10 #[.string (textB a b c)] w fun e w' => e = .returned (.tuple #[.agg #[.int .i64 a, .int .i64 b, .int .i64 c], .bool true]) ∧ Below w.heap.size w w' := by
  obtain ⟨⟨ha0, ha3⟩, ⟨hb0, hb3⟩, ⟨hc0, hc3⟩⟩ := okB_true hk
  rw [textB_eq]
  refine (iHeadRead_five _ 46 _ 46 _ w).mono ?_
  intro e w' h
  unfold ReadAs at h
  rw [byte_back ha0 ha3, byte_back hb0 hb3, byte_back hc0 hc3, hk] at h
  exact h

end Go.Proofs.YtmgjnjodjobagaaDoor
