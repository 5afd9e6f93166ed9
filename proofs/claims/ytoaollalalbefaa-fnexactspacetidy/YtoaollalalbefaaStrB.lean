/-
  Slices of strings that a call has made: what the statements' own helpers do with them (compare two, write marks into one, look whether the marks are there).
  Slices of strings that a call is handed: where they lie, what the statements' own helpers do with them (their sizes, a copy, whether two are the same).
  Slices of strings: the statements' own copy; whether two are the same, in general.
-/
import Derived.Test.YtoaollalalbefaaHeadB
import Derived.Deep.Onto
import Derived.Deep.RegionHeld3
import Derived.OwnWalk
import Derived.Deep.QuietTactic
import Derived.BigQuiet
import Derived.SliceStrings
import Derived.Laws.OwnMore

namespace Go.Proofs.Ytoaollalalbefaa
open Go.ChangeShapes Go.WideShapes Go.ChangeAt Go.RowKit Go.Joins
set_option linter.unusedVariables false

/-- A value is a slice of its own with these strings; its block is numbered from base on. -/
def StrRow (w : World) (base : Nat) (v : Value) (l : List ByteArray) : Prop := w.ownsRow base 9 1 v l.length (l.map Value.string)
/-- The string at a place of a list. -/
def strAt (l : List ByteArray) (j : Nat) : ByteArray := l.getD j ⟨#[]⟩
/-- Its form: nil, or a block. -/
theorem StrRow.form {w : World} {base : Nat} {v : Value} {l : List ByteArray} (h : StrRow w base v l) :
    (v = .slice none 0 0 ∧ l = []) ∨ ∃ g cap, v = .slice (some ⟨g, 0, none⟩) l.length cap ∧ base ≤ g ∧ g < w.heap.size ∧ l.length ≤ cap ∧ cap ≤ maxLen ∧ (∀ j, j < l.length → w.cell? ⟨g, j, none⟩ = some (.string (strAt l j))) ∧ ∀ j, w.frozen? ⟨g, j, none⟩ = false := by
  have h0 := h
  obtain ⟨hl, h1 | ⟨g, cap, cur, rfl, hb, hg, hc, hm, hs, ht⟩⟩ := h
  · exact .inl ⟨h1.1, List.eq_nil_of_length_eq_zero h1.2⟩
  · refine .inr ⟨g, cap, rfl, hb, (World.ownsRow.lt h0 g rfl).2, hc, hm, fun j hj => ?_, fun j => World.ownsRow.frozenAt h0 j⟩
    rw [World.ownsRow.cellAt h0 j (by omega)]
    simp [hj, strAt]
theorem StrRow.below {w w' : World} {base : Nat} {v : Value} {l : List ByteArray} (h : StrRow w base v l) (hb : Below w.heap.size w w') : StrRow w' base v l :=
  World.ownsRow.kept h (row := none) ⟨hb.os, hb.tape, hb.output, hb.size, fun k hk _ => hb.block k hk⟩ (by cases v.ownBlock <;> simp)
theorem StrRow.mono {w : World} {base base' : Nat} {v : Value} {l : List ByteArray} (h : StrRow w base v l) (hb : base' ≤ base) : StrRow w base' v l := World.ownsRow.mono h hb
/-- One that lies below what has turned. -/
theorem StrRow.under {w w' : World} {base n : Nat} {v : Value} {l : List ByteArray} (h : StrRow w base v l) (hb : Below n w w') (hv : ∀ k, v.ownBlock = some k → k < n) : StrRow w' base v l := by
  obtain ⟨hl, h1 | ⟨g, cap, cur, rfl, hb0, hg, hc⟩⟩ := h
  · exact ⟨hl, .inl h1⟩
  · exact ⟨hl, .inr ⟨g, cap, cur, rfl, hb0, (hb.block g (hv g rfl)).trans hg, hc⟩⟩

/-! ### Two are the same -/

set_option maxHeartbeats 4000000 in
theorem eqStringS_same (w : World) (base base' : Nat) (v v' : Value) (l : List ByteArray) (h : StrRow w base v l) (h' : StrRow w base' v' l) (hn : l.length ≤ 1048576) :
    Calls Try.prog 14 #[v, v'] w fun e w' => e = .returned (.bool true) ∧ Below w.heap.size w w' := by
  rcases h.form with ⟨rfl, rfl⟩ | ⟨g, cap, rfl, hb, hg, hc, hm, hcell, hfr⟩
  · rcases h'.form with ⟨rfl, -⟩ | ⟨g', cap', rfl, -, -, -, -, -, -⟩
    all_goals
      go_enter Try.func14, Try.ntmps14
      go_wp2
      go_loop [5] (fun i => i = .int .i64 0) (fun i => (intOf i).toNat)
      case atStart => rfl
      case round =>
        subst hrel
        go_wp2
        go_ret
        exact ⟨rfl, Below.refl _ _⟩
  · rcases h'.form with ⟨rfl, rfl⟩ | ⟨g', cap', rfl, hb', hg', hc', hm', hcell', hfr'⟩
    · go_enter Try.func14, Try.ntmps14
      go_wp2
      go_loop [5] (fun i => i = .int .i64 0) (fun i => (intOf i).toNat)
      case atStart => rfl
      case round =>
        subst hrel
        go_wp2
        go_ret
        exact ⟨rfl, Below.refl _ _⟩
    · have HC := Lib.hid hcell
      have HC' := Lib.hid hcell'
      clear hcell hcell' h h' hfr hfr'
      unfold maxLen at hm hm'
      generalize hN : l.length = n at *
      go_enter Try.func14, Try.ntmps14
      go_wp2
      go_loopw [5] (fun i wr => ∃ k : Nat, k ≤ n ∧ i = .int .i64 k ∧ Below w.heap.size w wr) (fun i _ => n - (intOf i).toNat)
      case atStart => exact ⟨0, Nat.zero_le _, rfl, Below.refl _ _⟩
      case round =>
        obtain ⟨k, hk, rfl, hbel⟩ := hrel
        by_cases hlt : k < n
        · have hz : (k : Int) < (n : Int) := by omega
          have c1 : wr.cell? ⟨g, k, none⟩ = some (.string (strAt l k)) := (belCell hbel _ _ hg).trans (HC.out k hlt)
          have c2 : wr.cell? ⟨g', k, none⟩ = some (.string (strAt l k)) := (belCell hbel _ _ hg').trans (HC'.out k hlt)
          generalize strAt l k = x at *
          go_wp2_with fail
          go_quiet (fail)
          go_wp2
          go_roundw
          case rel => exact ⟨k + 1, by omega, by go_num, ⟨hbel.os, hbel.tape, hbel.output, hbel.size, hbel.block⟩⟩
          case measure => simp [intOf]; omega
        · obtain rfl : k = n := by omega
          go_wp2
          go_ret
          exact ⟨rfl, hbel⟩

/-! ### Marks -/

def digF : Nat → Nat → ByteArray → ByteArray
  | 0, _, acc => acc
  | f + 1, n, acc => if n = 0 then acc else digF f (n / 10) (⟨#[48 + UInt8.ofNat (n % 10)]⟩ ++ acc)
theorem digF_zero (f : Nat) (acc : ByteArray) : digF f 0 acc = acc := by cases f <;> simp [digF]
theorem digF_step {f n : Nat} (acc : ByteArray) (hn : 0 < n) (hf : n ≤ f) : digF f n acc = digF (f - 1) (n / 10) (⟨#[48 + UInt8.ofNat (n % 10)]⟩ ++ acc) := by
  cases f with
  | zero => omega
  | succ f => simp only [digF]; rw [if_neg (by omega)]; rfl
/-- The mark of a number. -/
def markB (n : Nat) : ByteArray := ⟨#[109]⟩ ++ digF n n ⟨#[]⟩

set_option maxRecDepth 100000 in
set_option maxHeartbeats 2000000 in
theorem markText_at (n : Nat) (h1 : 1 ≤ n) (h2 : n ≤ 8000000) (w : World) :
    Calls Try.prog 36 #[.int .i64 n] w fun e w' => e = .returned (.string (markB n)) ∧ Below w.heap.size w w' := by
  have hp : ¬ (n : Int) ≤ 0 := by omega
  have hs1 : ∀ c : UInt8, (⟨#[c]⟩ : ByteArray).size = 1 := fun _ => rfl
  go_enter Try.func36, Try.ntmps36
  go_wp2
  go_loopw [0, 3] (fun x o wr => ∃ (m f : Nat) (acc : ByteArray), x = .int .i64 m ∧ o = .string acc ∧ m ≤ f ∧ acc.size + m ≤ n ∧ digF f m acc = digF n n ⟨#[]⟩ ∧ Below w.heap.size w wr) (fun x _ _ => (intOf x).toNat)
  case atStart => exact ⟨n, n, ⟨#[]⟩, rfl, rfl, Nat.le_refl _, by show 0 + n ≤ n; omega, rfl, Below.refl _ _⟩
  case round =>
    obtain ⟨m, f, acc, rfl, rfl, hmf, hsz, hd, hbel⟩ := hrel
    have HD := Lib.hid hd
    clear hd
    by_cases hm : 0 < m
    · have m0 : (0 : Int) ≤ (m : Int) := Int.natCast_nonneg _
      have hcv := convert_one wr (48 + (m : Int) % 10) (by omega) (by omega)
      rw [show (48 + (m : Int) % 10).toNat = 48 + m % 10 from by omega] at hcv
      have HS := Lib.hid (digF_step acc hm hmf)
      go_wp2
      go_roundw
      case rel => exact ⟨m / 10, f - 1, _, rfl, rfl, by omega, by rw [ByteArray.size_append, hs1]; omega, by rw [← HS.out]; exact HD.out, hbel.alloc hbel.size _⟩
      case measure => simp [intOf]; omega
    · obtain rfl : m = 0 := by omega
      have he : acc = digF n n ⟨#[]⟩ := by rw [← HD.out, digF_zero]
      subst he
      have hsz' : (digF n n ⟨#[]⟩).size ≤ n := by omega
      go_wp2
      go_ret
      exact ⟨rfl, hbel⟩

/-- The marks from a number on. -/
def marks (k : Nat) : Nat → List ByteArray | 0 => [] | n + 1 => marks k n ++ [markB (k + n)]
theorem marks_len (k : Nat) : ∀ n, (marks k n).length = n
  | 0 => rfl
  | n + 1 => by simp [marks, marks_len k n]
theorem marks_at (k : Nat) : ∀ {n j : Nat}, j < n → strAt (marks k n) j = markB (k + j)
  | 0, j, h => by omega
  | n + 1, j, h => by
    simp only [marks, strAt, List.getD_eq_getElem?_getD]
    by_cases e : j < n
    · rw [List.getElem?_append_left (by rw [marks_len]; exact e), ← List.getD_eq_getElem?_getD]
      exact marks_at k e
    · obtain rfl : j = n := by omega
      rw [List.getElem?_append_right (by rw [marks_len]; omega), marks_len]
      simp

/-- One string of a row is exchanged. -/
theorem StrRow.put {w : World} {base g cap j n : Nat} {x : ByteArray} {l m : List ByteArray} (h : StrRow w base (.slice (some ⟨g, 0, none⟩) n cap) l) (hn : l.length = n) (hm : m = l.set j x) :
    StrRow (w.setCell ⟨g, j, none⟩ (.string x)) base (.slice (some ⟨g, 0, none⟩) n cap) m := by
  subst hm hn
  have := (World.ownsRow.stored h j (.string x)).1
  unfold StrRow
  simpa [List.map_set] using this
theorem StrRow.cells {w : World} {base g cap n : Nat} {l : List ByteArray} (h : StrRow w base (.slice (some ⟨g, 0, none⟩) n cap) l) (hn : l.length = n) : (∀ j, j < n → w.cell? ⟨g, j, none⟩ = some (.string (strAt l j))) ∧ (∀ j, w.frozen? ⟨g, j, none⟩ = false) ∧ g < w.heap.size := by
  subst hn
  refine ⟨fun j hj => ?_, fun j => World.ownsRow.frozenAt h j, (World.ownsRow.lt h g rfl).2⟩
  rw [World.ownsRow.cellAt h j (by omega)]
  simp [hj, strAt]
def mixed (k : Nat) (l : List ByteArray) (j : Nat) : List ByteArray := marks k j ++ l.drop j
theorem mixed_len (k : Nat) (l : List ByteArray) {j : Nat} (h : j ≤ l.length) : (mixed k l j).length = l.length := by simp [mixed, marks_len]; omega
theorem mixed_zero (k : Nat) (l : List ByteArray) : mixed k l 0 = l := rfl
theorem mixed_all (k : Nat) (l : List ByteArray) : mixed k l l.length = marks k l.length := by simp [mixed]
theorem mixed_step (k : Nat) (l : List ByteArray) {j : Nat} (h : j < l.length) : mixed k l (j + 1) = (mixed k l j).set j (markB (k + j)) := by
  unfold mixed
  rw [List.set_append_right _ _ (by rw [marks_len]; exact Nat.le_refl _), marks_len, Nat.sub_self]
  have : l.drop j = (l[j]'h) :: l.drop (j + 1) := List.drop_eq_getElem_cons h
  rw [this, List.set_cons_zero, marks, List.append_assoc]
  rfl

set_option maxHeartbeats 2000000 in
theorem markStringS_at (w : World) (base k : Nat) (v : Value) (l : List ByteArray) (h : StrRow w base v l) (hk1 : 1 ≤ k) (hk : k + l.length ≤ 8000000) (hs : base ≤ w.heap.size) :
    Calls Try.prog 15 #[v, .int .i64 k] w fun e w' => e = .returned (.int .i64 ((k + l.length : Nat) : Int)) ∧ StrRow w' base v (marks k l.length) ∧ Below base w w' := by
  rcases h.form with ⟨rfl, rfl⟩ | ⟨g, cap, rfl, hb, hg, hc, hm, hcell, hfr⟩
  · go_enter Try.func15, Try.ntmps15
    go_wp2
    go_loop [1, 5] (fun x i => x = .int .i64 k ∧ i = .int .i64 0) (fun _ i => (intOf i).toNat)
    case atStart => exact ⟨rfl, rfl⟩
    case round =>
      obtain ⟨rfl, rfl⟩ := hrel
      go_wp2
      go_ret
      exact ⟨rfl, World.ownsRow_nil _ _ _ _, Below.refl _ _⟩
  · have HR := Lib.hid h
    clear hcell h hfr
    unfold maxLen at hm
    have HL := Lib.hid (fun j (hj : j ≤ l.length) => mixed_len k l hj)
    have HM := Lib.hid (fun j (hj : j < l.length) => mixed_step k l hj)
    have HA := Lib.hid (mixed_all k l)
    have HZ := Lib.hid (mixed_zero k l)
    generalize l.length = n at *
    go_enter Try.func15, Try.ntmps15
    go_wp2
    go_loopw [1, 5] (fun x i wr => ∃ j : Nat, j ≤ n ∧ i = .int .i64 j ∧ x = .int .i64 ((k + j : Nat) : Int) ∧ StrRow wr base (.slice (some ⟨g, 0, none⟩) n cap) (mixed k l j) ∧ base ≤ wr.heap.size ∧ Below base w wr) (fun _ i _ => n - (intOf i).toNat)
    case atStart => exact ⟨0, Nat.zero_le _, rfl, rfl, HR.out, hs, Below.refl _ _⟩
    case round =>
      obtain ⟨j, hj, rfl, rfl, hrow, hsz, hbel⟩ := hrel
      by_cases hlt : j < n
      · have hz : (j : Int) < (n : Int) := by omega
        have HRW := Lib.hid hrow
        clear hrow
        go_wp2_with fail
        refine (markText_at _ (by omega) (by omega) _).mono ?_
        rintro e w1 ⟨rfl, b1⟩
        have s1 := b1.size
        have HR1 := Lib.hid (HRW.out.below b1)
        obtain ⟨hc1, hf1, hg1⟩ := HR1.out.cells (HL.out j hj)
        have c1 := hc1 j hlt
        clear hc1
        go_wp2
        go_roundw
        case rel => exact ⟨j + 1, by omega, by go_num, by go_num, HR1.out.put (HL.out j hj) (HM.out j hlt), by simp [World.setCell]; omega, (hbel.trans (b1.mono hsz)).setCell (by exact hb) _⟩
        case measure => simp [intOf]; omega
      · obtain rfl : j = n := by omega
        go_wp2
        go_ret
        exact ⟨rfl, by rw [← HA.out]; exact hrow, hbel⟩

set_option maxHeartbeats 2000000 in
theorem heldStringS_at (w : World) (base k n : Nat) (v : Value) (h : StrRow w base v (marks k n)) (hk1 : 1 ≤ k) (hk : k + n ≤ 8000000) :
    Calls Try.prog 16 #[v, .int .i64 k] w fun e w' => e = .returned (.int .i64 ((k + n : Nat) : Int)) ∧ Below w.heap.size w w' := by
  rcases h.form with ⟨rfl, hnil⟩ | ⟨g, cap, rfl, hb, hg, hc, hm, hcell, hfr⟩
  · obtain rfl : n = 0 := by rw [← marks_len k n, hnil]; rfl
    go_enter Try.func16, Try.ntmps16
    go_wp2
    go_loop [1, 5] (fun x i => x = .int .i64 k ∧ i = .int .i64 0) (fun _ i => (intOf i).toNat)
    case atStart => exact ⟨rfl, rfl⟩
    case round =>
      obtain ⟨rfl, rfl⟩ := hrel
      go_wp2
      go_ret
      exact ⟨rfl, Below.refl _ _⟩
  · rw [marks_len] at *
    have HC : Hid (∀ j, j < n → w.cell? ⟨g, j, none⟩ = some (.string (markB (k + j)))) := fun j hj => by rw [hcell j hj, marks_at k hj]
    clear hcell h hfr
    unfold maxLen at hm
    go_enter Try.func16, Try.ntmps16
    go_wp2
    go_loopw [1, 5] (fun x i wr => ∃ j : Nat, j ≤ n ∧ i = .int .i64 j ∧ x = .int .i64 ((k + j : Nat) : Int) ∧ Below w.heap.size w wr) (fun _ i _ => n - (intOf i).toNat)
    case atStart => exact ⟨0, Nat.zero_le _, rfl, rfl, Below.refl _ _⟩
    case round =>
      obtain ⟨j, hj, rfl, rfl, hbel⟩ := hrel
      by_cases hlt : j < n
      · have hz : (j : Int) < (n : Int) := by omega
        have HS : Hid (∀ w' : World, Below w.heap.size w w' → (w'.cell? ⟨g, j, none⟩ = some (.string (markB (k + j))) ∧ Below w.heap.size w w')) := fun w' hb => ⟨(belCell hb _ _ hg).trans (HC.out j hlt), hb⟩
        have HB := Lib.hid hbel
        clear hbel
        have HT := Lib.hid (markText_at (k + j) (by omega) (by omega))
        rw [Int.natCast_add] at HT
        generalize markB (k + j) = mk at *
        go_wp2_with fail
        go_region_held3 (fun w' => w'.cell? ⟨g, j, none⟩ = some (.string mk) ∧ Below w.heap.size w w')
          (first | exact HS.out _ HB.out.drew | (go_split_ands; exact HS.out _ (belStep (by assumption) hq)))
          (first | (go_at_call 36; ((with_reducible refine (HT.out _).mono ?_); rintro e wq ⟨rfl, hq⟩)))
        go_split_ands
        go_wp2
        go_roundw
        case rel => exact ⟨j + 1, by omega, by go_num, by go_num, by assumption⟩
        case measure => simp [intOf]; omega
      · obtain rfl : j = n := by omega
        go_wp2
        go_ret
        exact ⟨rfl, hbel⟩

end Go.Proofs.Ytoaollalalbefaa

namespace Go.Proofs.Ytoaollalalbefaa
open Go.ChangeShapes Go.WideShapes Go.ChangeAt Go.RowKit Go.Joins
set_option linter.unusedVariables false

/-- A value is a slice with these strings, in a block below g (or it has none). -/
def Strs (w : World) (g : Nat) (v : Value) (l : List ByteArray) : Prop :=
  ∃ (a : Option Addr) (cap : Nat), v = .slice a l.length cap ∧ l.length ≤ cap ∧ cap ≤ maxLen ∧
    (l = [] ∨ ∃ b off, a = some ⟨b, off, none⟩ ∧ b < g ∧ ∀ i, i < l.length → w.cell? ⟨b, off + i, none⟩ = some (.string (strAt l i)))
theorem Strs.below {w w' : World} {g n : Nat} {v : Value} {l : List ByteArray} (h : Strs w g v l) (hb : Below n w w') (hg : g ≤ n) : Strs w' g v l := by
  obtain ⟨a, cap, hv, hc, hm, h | ⟨b, off, ha, hbg, hcell⟩⟩ := h
  · exact ⟨a, cap, hv, hc, hm, .inl h⟩
  · exact ⟨a, cap, hv, hc, hm, .inr ⟨b, off, ha, hbg, fun i hi => (hb.cell (p := ⟨b, off + i, none⟩) (Nat.lt_of_lt_of_le hbg hg)).trans (hcell i hi)⟩⟩
theorem Strs.mono {w : World} {g g' : Nat} {v : Value} {l : List ByteArray} (h : Strs w g v l) (hg : g ≤ g') : Strs w g' v l := by
  obtain ⟨a, cap, hv, hc, hm, h | ⟨b, off, ha, hbg, hcell⟩⟩ := h
  · exact ⟨a, cap, hv, hc, hm, .inl h⟩
  · exact ⟨a, cap, hv, hc, hm, .inr ⟨b, off, ha, Nat.lt_of_lt_of_le hbg hg, hcell⟩⟩
theorem StrRow.strs {w : World} {base : Nat} {v : Value} {l : List ByteArray} (h : StrRow w base v l) : Strs w w.heap.size v l := by
  rcases h.form with ⟨rfl, rfl⟩ | ⟨g, cap, rfl, hb, hg, hc, hm, hcell, hfr⟩
  · exact ⟨none, 0, rfl, Nat.le_refl _, by unfold maxLen; omega, .inl rfl⟩
  · exact ⟨_, cap, rfl, hc, hm, .inr ⟨g, 0, rfl, hg, fun i hi => by rw [Nat.zero_add]; exact hcell i hi⟩⟩
theorem Strs.nil (w : World) (g : Nat) : Strs w g (.slice none 0 0) [] := ⟨none, 0, rfl, Nat.le_refl _, by unfold maxLen; omega, .inl rfl⟩

/-- One that came in. -/
theorem strs_of {H : Type} {enc : TypeId × Value → H} {w : World} {v : Value} {d : DataW H} {ps : List MemPlace}
    (h : DataW.Trod enc Try.prog w 0 (fun _ => true) true 22 v d ps) (hv : ∃ a len cap, v = .slice a len cap) : ∃ l, Strs w w.heap.size v l ∧ ∀ s ∈ l, s.size ≤ maxLen := by
  obtain ⟨a, len, cap, rfl⟩ := hv
  obtain ⟨fuel, hf⟩ := h
  rcases open_strings Try.underlying22 Try.underlying9 (by kernel_rfl) hf with ⟨hcs, _⟩ | ⟨x, l, c, zs, hcs, _, hl, hm, hz, _, hcell, hwz⟩
  · simp [Value.cells] at hcs
    obtain ⟨rfl, rfl, rfl⟩ := hcs
    exact ⟨[], Strs.nil _ _, by simp⟩
  · simp [Value.cells] at hcs
    obtain ⟨rfl, rfl, rfl⟩ := hcs
    have hzl : zs.length = cap := by simpa using hz
    have hl' : (zs.take len).length = len := by simp; omega
    refine ⟨zs.take len, ⟨some x, cap, by rw [hl'], by omega, hm, ?_⟩, fun s hs => hwz s (List.mem_of_mem_take hs)⟩
    by_cases h0 : len = 0
    · exact .inl (by simp [h0])
    right
    obtain ⟨b, off, spot⟩ := x
    have h1 := hcell 0 (by omega)
    have hsp : spot = none := by
      cases spot with
      | none => rfl
      | some s =>
        simp [Addr.add, World.cell?] at h1
        split at h1 <;> simp at h1
    subst hsp
    refine ⟨b, off, rfl, ?_, fun i hi => ?_⟩
    · have := hcell 0 (by omega)
      simp [Addr.add, World.cell?] at this
      cases hb : w.heap[b]? with
      | none => rw [hb] at this; simp at this
      | some o => exact (Array.getElem?_eq_some_iff.1 hb).1
    · rw [hl'] at hi
      have hc := hcell i (by omega)
      have e1 : (Addr.add ⟨b, off, none⟩ i) = ⟨b, off + i, none⟩ := by
        unfold Addr.add
        split
        · rename_i hh; subst hh; rfl
        · rfl
      rw [e1] at hc
      rw [hc, strAt, List.getD_eq_getElem?_getD, List.getD_eq_getElem?_getD, List.getElem?_take_of_lt hi]
      rfl

/-- No more than so many, none of them longer. -/
def Small (n : Nat) (l : List ByteArray) : Prop := l.length ≤ n ∧ ∀ i, i < l.length → (strAt l i).size ≤ n

set_option maxHeartbeats 2000000 in
theorem szStringS_any (w : World) (v : Value) (l : List ByteArray) (n : Nat) (h : Strs w w.heap.size v l) (hs : ∀ i, i < l.length → (strAt l i).size ≤ maxLen) (hn : n ≤ 1048576) :
    Calls Try.prog 10 #[v, .int .i64 n] w fun e w' => (e = .returned (.int .i64 (-1)) ∨ ∃ r : Nat, e = .returned (.int .i64 r) ∧ r ≤ n ∧ Small n l) ∧ Below w.heap.size w w' := by
  obtain ⟨a, cap, rfl, hc, hm, hh⟩ := h
  have HS := Lib.hid hs
  have HH := Lib.hid hh
  clear hs hh
  unfold maxLen at hm HS
  generalize hN : l.length = m at *
  by_cases h0 : n < m
  · have hz : (n : Int) - (m : Int) < 0 := by omega
    go_enter Try.func10, Try.ntmps10
    go_wp2
    go_ret
    exact ⟨.inl rfl, Below.refl _ _⟩
  · have hz : ¬ (n : Int) - (m : Int) < 0 := by omega
    go_enter Try.func10, Try.ntmps10
    go_wp2
    go_loopw [1, 5] (fun x i wr => ∃ k q : Nat, k ≤ m ∧ q ≤ n ∧ i = .int .i64 k ∧ x = .int .i64 q ∧ (∀ j, j < k → (strAt l j).size ≤ n) ∧ Below w.heap.size w wr) (fun _ i _ => m - (intOf i).toNat)
    case atStart => exact ⟨0, n - m, Nat.zero_le _, by omega, rfl, by simp only [Value.int.injEq, true_and]; omega, fun j hj => absurd hj (Nat.not_lt_zero _), Below.refl _ _⟩
    case round =>
      obtain ⟨k, q, hk, hq, rfl, rfl, hsm, hbel⟩ := hrel
      have HSM := Lib.hid hsm
      clear hsm
      by_cases hlt : k < m
      · have hkz : (k : Int) < (m : Int) := by omega
        rcases HH.out with h1 | ⟨b, off, rfl, hb, hcell⟩
        · rw [h1] at hN; simp at hN; omega
        have c1 : wr.cell? ⟨b, off + k, none⟩ = some (.string (strAt l k)) := (belCell hbel _ _ hb).trans (hcell k hlt)
        have hsz := HS.out k hlt
        clear hcell
        have hkk : (strAt l k).size ≤ q ∨ q < (strAt l k).size := by omega
        have HX : Hid (∀ j, j < k + 1 → (strAt l k).size ≤ q → (strAt l j).size ≤ n) := fun j hj hle => by
          by_cases e : j = k
          · subst e; omega
          · exact HSM.out j (by omega)
        generalize strAt l k = s at *
        rcases hkk with hle | hgt
        · have h3 : ¬ (q : Int) - (s.size : Int) < 0 := by omega
          go_wp2
          go_roundw
          case rel => exact ⟨k + 1, q - s.size, by omega, by omega, by go_num, by simp only [Value.int.injEq, true_and]; omega, fun j hj => HX.out j hj hle, hbel⟩
          case measure => simp [intOf]; omega
        · have h3 : (q : Int) - (s.size : Int) < 0 := by omega
          go_wp2
          go_ret
          exact ⟨.inl rfl, hbel⟩
      · obtain rfl : k = m := by omega
        go_wp2
        go_ret
        exact ⟨.inr ⟨q, rfl, hq, by rw [hN]; omega, fun i hi => HSM.out i (by omega)⟩, hbel⟩

theorem szStringS_big (w : World) (v : Value) (l : List ByteArray) (h : Strs w w.heap.size v l) (hs : ∀ s ∈ l, s.size ≤ maxLen) :
    Calls Try.prog 10 #[v, .int .i64 1048576] w fun e w' => (e = .returned (.int .i64 (-1)) ∨ ∃ r : Nat, e = .returned (.int .i64 r) ∧ r ≤ 1048576 ∧ Small 1048576 l) ∧ Below w.heap.size w w' :=
  szStringS_any w v l 1048576 h (fun i hi => hs _ (by rw [strAt, List.getD_eq_getElem?_getD, List.getElem?_eq_getElem hi]; exact List.getElem_mem hi)) (Nat.le_refl _)

end Go.Proofs.Ytoaollalalbefaa

namespace Go.Proofs.Ytoaollalalbefaa
open Go.ChangeShapes Go.WideShapes Go.ChangeAt Go.RowKit Go.Joins
set_option linter.unusedVariables false

theorem made_one (z : Value) (n : Nat) : (madeCells #[z] n).toList = List.replicate n z := by
  simp only [madeCells, Array.toList_map, Array.toList_range]
  apply List.ext_getElem
  · simp
  · intro i h1 h2
    simp [Nat.mod_one]
theorem infoS : (Try.prog.info? 9).map (fun i => (i.zero, i.size, i.bytes)) = some (some (.string ⟨#[]⟩), 1, 16) := by kernel_rfl

/-- The first k of a list, and nothing behind them. -/
def fill (l : List ByteArray) (k : Nat) : List ByteArray := l.take k ++ List.replicate (l.length - k) ⟨#[]⟩
theorem fill_len (l : List ByteArray) {k : Nat} (hk : k ≤ l.length) : (fill l k).length = l.length := by simp [fill]; omega
theorem fill_zero (l : List ByteArray) : fill l 0 = List.replicate l.length ⟨#[]⟩ := by simp [fill]
theorem fill_all (l : List ByteArray) : fill l l.length = l := by simp [fill]
theorem fill_step (l : List ByteArray) {k : Nat} (hk : k < l.length) : fill l (k + 1) = (fill l k).set k (strAt l k) := by
  have ht : (l.take k).length = k := by simp; omega
  have e : l.take (k + 1) = l.take k ++ [strAt l k] := by
    rw [List.take_add_one, List.getElem?_eq_getElem hk, strAt, List.getD_eq_getElem?_getD, List.getElem?_eq_getElem hk]
    rfl
  unfold fill
  rw [List.set_append_right _ _ (by omega), ht, Nat.sub_self]
  obtain ⟨n, hn⟩ : ∃ n, l.length - k = n + 1 := ⟨l.length - k - 1, by omega⟩
  rw [hn, List.replicate_succ, List.set_cons_zero, e, show l.length - (k + 1) = n from by omega, List.append_assoc]
  rfl

set_option maxRecDepth 100000 in
set_option maxHeartbeats 2000000 in
theorem toStringS_any (w : World) (v : Value) (l : List ByteArray) (h : Strs w w.heap.size v l) (hn : l.length ≤ 1048576) :
    Calls Try.prog 12 #[v] w fun e w' => ∃ u, e = .returned u ∧ StrRow w' w.heap.size u l ∧ Below w.heap.size w w' := by
  obtain ⟨a, cap, rfl, hc, hm, hh⟩ := h
  obtain ⟨i0, hi, hz0, hz1, hz2⟩ := info_parts infoS
  have HI := Lib.hid hi
  have HZ0 := Lib.hid hz0
  have HZ1 := Lib.hid hz1
  have HZ2 := Lib.hid hz2
  clear hi hz0 hz1 hz2
  have HZ : Hid (fill l 0 = List.replicate l.length ⟨#[]⟩) := fill_zero l
  have HA : Hid (fill l l.length = l) := fill_all l
  have HL : Hid (∀ k, k ≤ l.length → (fill l k).length = l.length) := fun k hk => fill_len l hk
  have HST : Hid (∀ k, k < l.length → fill l (k + 1) = (fill l k).set k (strAt l k)) := fun k hk => fill_step l hk
  have hnz : l.length = 0 ∨ ∃ b off, a = some ⟨b, off, none⟩ ∧ b < w.heap.size ∧ Hid (∀ i, i < l.length → w.cell? ⟨b, off + i, none⟩ = some (.string (strAt l i))) := by
    rcases hh with h | ⟨b, off, h1, h2, h3⟩
    · exact .inl (by rw [h]; rfl)
    · exact .inr ⟨b, off, h1, h2, h3⟩
  clear hh
  unfold maxLen at hm
  generalize hN : l.length = n at *
  go_enter Try.func12, Try.ntmps12
  go_wp2_with (at_make; refine wpList_make_full _ rfl _ _ 22 rfl w.heap.size 9 i0 (.string ⟨#[]⟩) 1 Try.underlying22 HI.out HZ0.out HZ1.out .i64 .i64 _ _ n rfl rfl rfl rfl ?b2 ?b3 (Nat.le_refl _) ?_)
  case b2 => rw [HZ2.out]; omega
  case b3 => unfold maxLen; omega
  intro w1 hown hg1
  have HB1 : Hid (Below w.heap.size w w1) := ⟨hg1.os, hg1.tape, hg1.output, hg1.size, fun k hk => hg1.block k hk (by simp)⟩
  have HR1 : Hid (StrRow w1 w.heap.size (.slice (some ⟨w.heap.size, 0, none⟩) n n) (fill l 0)) := by
    show w1.ownsRow _ _ _ _ _ _
    have := hown
    rw [made_one] at this
    rw [HZ.out, List.length_replicate, List.map_replicate]
    exact this
  clear hown hg1
  go_wp2
  go_loopw [4] (fun i wr => ∃ k : Nat, k ≤ n ∧ i = .int .i64 k ∧ StrRow wr w.heap.size (.slice (some ⟨w.heap.size, 0, none⟩) n n) (fill l k) ∧ Below w.heap.size w wr) (fun i _ => n - (intOf i).toNat)
  case atStart => exact ⟨0, Nat.zero_le _, rfl, HR1.out, HB1.out⟩
  case round =>
    obtain ⟨k, hk, rfl, hrow, hbel⟩ := hrel
    have HR := Lib.hid hrow
    by_cases hlt : k < n
    · have hkz : (k : Int) < (n : Int) := by omega
      rcases hnz with h0 | ⟨b, off, rfl, hb, HC⟩
      · omega
      have c1 : wr.cell? ⟨b, off + k, none⟩ = some (.string (strAt l k)) := (belCell hbel _ _ hb).trans (HC.out k hlt)
      obtain ⟨hc1, hf1, hgl⟩ := hrow.cells (HL.out k hk)
      have c2 := hc1 k hlt
      clear hc1 hrow
      have HS := Lib.hid (HST.out k hlt)
      generalize strAt l k = x at *
      generalize strAt (fill l k) k = y at *
      go_wp2
      go_roundw
      case rel => exact ⟨k + 1, by omega, by go_num, HR.out.put (HL.out k hk) HS.out, hbel.setCell (by exact Nat.le_refl _) _⟩
      case measure => simp [intOf]; omega
    · obtain rfl : k = n := by omega
      go_wp2
      go_ret
      exact ⟨_, rfl, by have := HR.out; rw [HA.out] at this; exact this, hbel⟩

theorem strs_max {l : List ByteArray} {n : Nat} (h : ∀ s ∈ l, s.size ≤ n) : ∀ i, i < l.length → (strAt l i).size ≤ n := fun i hi => h _ (by rw [strAt, List.getD_eq_getElem?_getD, List.getElem?_eq_getElem hi]; exact List.getElem_mem hi)
/-- Two slices of strings, whatever they hold. -/
theorem beqL_step {l l' : List ByteArray} (hl : l.length = l'.length) (h : ∀ j, j < l.length → strAt l j = strAt l' j) : l = l' := by
  apply List.ext_getElem hl
  intro i h1 h2
  have := h i h1
  rwa [strAt, strAt, List.getD_eq_getElem?_getD, List.getD_eq_getElem?_getD, List.getElem?_eq_getElem h1, List.getElem?_eq_getElem h2] at this

end Go.Proofs.Ytoaollalalbefaa
