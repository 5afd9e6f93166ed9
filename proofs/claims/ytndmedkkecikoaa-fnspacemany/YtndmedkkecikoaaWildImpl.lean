/-
  What the program's functions of chapter 2 return, at every text and every head (WildLess apart).
-/
import Derived.Test.YtndmedkkecikoaaWildB
namespace Go.Proofs.Ytndmedkkecikoaa
open Go.ChangeShapes Go.WideShapes Go.ChangeAt Go.RowKit Go.Joins
set_option linter.unusedVariables false

/-- The bits of a head. -/
def hB (a b c : Int) (i : Nat) : Bool := match i with
  | 0 => decide (2 ≤ a) | 1 => a % 2 == 1 | 2 => decide (2 ≤ b) | 3 => b % 2 == 1 | 4 => decide (2 ≤ c) | _ => c % 2 == 1
theorem num_ofB {a b c : Int} (h : okB a b c = true) : 16 * a + 4 * b + c = ofB (hB a b c) := by
  obtain ⟨⟨ha0, ha3⟩, ⟨hb0, hb3⟩, ⟨hc0, hc3⟩⟩ := okB_true h
  rcases four ha0 ha3 with rfl | rfl | rfl | rfl <;> rcases four hb0 hb3 with rfl | rfl | rfl | rfl <;> rcases four hc0 hc3 with rfl | rfl | rfl | rfl <;> decide

def hasS (s : ByteArray) (a b c : Int) : Bool := okB a b c && (okS s && hasM (cf s) (vf s) (hB a b c))
def meetS (a b : ByteArray) : Bool := okS a && (okS b && meetB (cf a) (vf a) (cf b) (vf b))
def andS (a b : ByteArray) : ByteArray := bif meetS a b then txt (fun i => cf a i || cf b i) (fun i => vf a i || vf b i) else ⟨#[]⟩
def inS (a b : ByteArray) : Bool := okS a && (okS b && inM (cf a) (vf a) (cf b) (vf b))
def manyS (s : ByteArray) : Int := bif okS s then manyB (cf s) else 0
def ofS (a b c : Int) : ByteArray := bif okB a b c then txt (fun _ => true) (hB a b c) else ⟨#[]⟩

set_option maxHeartbeats 400000 in
theorem iWildHas_any (s : ByteArray) (hm : s.size ≤ 1048576) (a b c : Int) (w : World) :
    Calls Try.prog 20 #[.string s, .agg #[.int .i64 a, .int .i64 b, .int .i64 c]] w fun e w' => e = .returned (.bool (hasS s a b c)) ∧ Below w.heap.size w w' := by
  cases ho : okB a b c
  · rw [show hasS s a b c = false from by unfold hasS; rw [ho]; rfl]
    go_enter Try.func20, Try.ntmps20
    go_wp2_with (go_at_call 54; refine (bitsOf_no _ _ _ ho _).mono ?_; rintro e w1 ⟨rfl, b1⟩)
    go_ret
    exact ⟨rfl, (below_alloc1 _ _).trans (b1.mono (by simp))⟩
  · have hn := num_ofB ho
    cases hk : okS s
    · rw [show hasS s a b c = false from by unfold hasS; rw [ho, hk]; rfl]
      have hme := methNone_has
      go_enter Try.func20, Try.ntmps20
      go_wp2_with (first
        | (go_at_call 54; refine (bitsOf_yes _ _ _ ho _).mono ?_; rintro e w1 ⟨rfl, b1⟩)
        | (go_at_call 61; refine (readWild_no _ hk hm _).mono ?_; rintro e w2 ⟨rfl, b2⟩)
        | (go_at_call 137; refine (hasNone_any _ _).mono ?_; rintro e w3 ⟨rfl, b3⟩))
      go_ret
      exact ⟨rfl, (below_alloc1 _ _).trans ((belStep b1 (belStep b2 b3)).mono (by simp))⟩
    · rw [show hasS s a b c = hasM (cf s) (vf s) (hB a b c) from by unfold hasS; rw [ho, hk]; rfl]
      have hme := meth_has
      clear hn
      go_enter Try.func20, Try.ntmps20
      go_wp2_with (first
        | (go_at_call 54; refine (bitsOf_yes _ _ _ ho _).mono ?_; rintro e w1 ⟨rfl, b1⟩; rw [num_ofB ho])
        | (go_at_call 61; refine (readWild_yes _ hk _).mono ?_; rintro e w2 ⟨rfl, b2⟩)
        | (go_at_call 135; refine (has_any _ _ _ _).mono ?_; rintro e w3 ⟨rfl, b3⟩))
      go_ret
      exact ⟨rfl, (below_alloc1 _ _).trans ((belStep b1 (belStep b2 b3)).mono (by simp))⟩

set_option maxHeartbeats 400000 in
theorem iWildMany_any (s : ByteArray) (hm : s.size ≤ 1048576) (w : World) :
    Calls Try.prog 42 #[.string s] w fun e w' => e = .returned (.int .i64 (manyS s)) ∧ Below w.heap.size w w' := by
  cases hk : okS s
  · rw [show manyS s = 0 from by unfold manyS; rw [hk]; rfl]
    have hme := methNone_many
    go_enter Try.func42, Try.ntmps42
    go_wp2_with (first
      | (go_at_call 61; refine (readWild_no _ hk hm _).mono ?_; rintro e w1 ⟨rfl, b1⟩)
      | (go_at_call 138; refine (manyNone_any _).mono ?_; rintro e w2 ⟨rfl, b2⟩))
    go_ret
    exact ⟨rfl, belStep b1 b2⟩
  · rw [show manyS s = manyB (cf s) from by unfold manyS; rw [hk]; rfl]
    have hme := meth_many
    go_enter Try.func42, Try.ntmps42
    go_wp2_with (first
      | (go_at_call 61; refine (readWild_yes _ hk _).mono ?_; rintro e w1 ⟨rfl, b1⟩)
      | (go_at_call 88; refine (many_any _ _ _).mono ?_; rintro e w2 ⟨rfl, b2⟩))
    go_ret
    exact ⟨rfl, belStep b1 b2⟩

theorem ofB_all : ofB (fun _ => true) = 63 := by decide

/-! ### What two have in common -/

theorem enterF {f : FuncId} {fn : Func} (hf : Try.prog.funcs[f]? = some fn) (hname : (fn.name == "runtime.NumGoroutine") = false) (hb : fn.body.isSome = true) (args : Array Value) (w : World) :
    (callFunc f args).run Try.prog w = .ok (.enter f args) w := by
  have h1 : fn.name ≠ "runtime.NumGoroutine" := by simpa using hname
  obtain ⟨c, hc⟩ := Option.isSome_iff_exists.1 hb
  simp [callFunc, hf, h1, hc]
theorem enter_and (args : Array Value) (W : World) : (callFunc 134 args).run Try.prog W = .ok (.enter 134 args) W :=
  enterF Try.func134 (by kernel_rfl) (by kernel_rfl) args W
theorem enterNone_and (args : Array Value) (W : World) : (callFunc 136 args).run Try.prog W = .ok (.enter 136 args) W :=
  enterF Try.func136 (by kernel_rfl) (by kernel_rfl) args W
theorem enter_text (args : Array Value) (W : World) : (callFunc 73 args).run Try.prog W = .ok (.enter 73 args) W :=
  enterF Try.func73 (by kernel_rfl) (by kernel_rfl) args W
theorem enterNone_text (args : Array Value) (W : World) : (callFunc 139 args).run Try.prog W = .ok (.enter 139 args) W :=
  enterF Try.func139 (by kernel_rfl) (by kernel_rfl) args W

set_option maxRecDepth 100000 in
set_option maxHeartbeats 1000000 in
theorem iWildAnd_gen (a b : ByteArray) (T1 T3 F F3 : Nat) (v1 V2 v3 : Value) (x y : Int) (out : ByteArray) (k : Bool)
    (hA : ∀ W : World, Calls Try.prog 61 #[.string a] W fun e w' => e = .returned (.iface T1 v1) ∧ Below W.heap.size W w')
    (hB : ∀ W : World, Calls Try.prog 61 #[.string b] W fun e w' => e = .returned V2 ∧ Below W.heap.size W w')
    (hm : ∀ W : World, (method 269 T1 v1 "loop.example/crossbuck/impl.and").run Try.prog W = .ok (F, v1) W)
    (hna : ∀ W : World, (nilAhead 269 T1 v1 "loop.example/crossbuck/impl.and").run Try.prog W = .ok (some false) W)
    (hand : ∀ W : World, Calls Try.prog F #[v1, V2] W fun e w' => e = .returned (.iface T3 v3) ∧ Below W.heap.size W w')
    (hcF : ∀ (args : Array Value) (W : World), (callFunc F args).run Try.prog W = .ok (.enter F args) W)
    (hcF3 : ∀ (args : Array Value) (W : World), (callFunc F3 args).run Try.prog W = .ok (.enter F3 args) W)
    (hmask : ∀ W : World, Calls Try.prog 76 #[.iface T3 v3] W fun e w' => e = .returned (.tuple #[.agg #[.int .u8 x, .int .u8 y], .bool k]) ∧ Below W.heap.size W w')
    (hm3 : ∀ W : World, (method 269 T3 v3 "loop.example/crossbuck/impl.text").run Try.prog W = .ok (F3, v3) W)
    (htext : ∀ W : World, Calls Try.prog F3 #[v3] W fun e w' => e = .returned (.string out) ∧ Below W.heap.size W w') (w : World) :
    Calls Try.prog 49 #[.string a, .string b] w fun e w' => e = .returned (.tuple #[.string out, .bool k]) ∧ Below w.heap.size w w' := by
  have HA := Lib.hid hA
  have HB := Lib.hid hB
  have HN := Lib.hid hand
  have HM := Lib.hid hmask
  have HT := Lib.hid htext
  clear hA hB hand hmask htext
  have HS : Hid (∀ w1 w2 : World, Below w.heap.size w w1 → Below w1.heap.size w1 w2 → Below w.heap.size w w2) := fun w1 w2 h k => belStep h k
  go_enter Try.func49, Try.ntmps49
  go_wp2_with fail
  go_region_held3 (fun w' => Below w.heap.size w w') (first | assumption | exact (Below.refl _ _).drew | exact HS.out _ _ (by assumption) hq)
    (first
      | (go_at_call 61; ((with_reducible refine (HA.out _).mono ?_); rintro e wq ⟨rfl, hq⟩))
      | (go_at_call 61; ((with_reducible refine (HB.out _).mono ?_); rintro e wq ⟨rfl, hq⟩))
      | ((with_reducible refine (HN.out _).mono ?_); rintro e wq ⟨rfl, hq⟩))
  all_goals
    go_wp2_with fail
    refine (HM.out _).mono ?_
    rintro e w2 ⟨rfl, b2⟩
    go_wp2_with fail
    refine (HT.out _).mono ?_
    rintro e w3 ⟨rfl, b3⟩
    go_wp2
    go_ret2
    exact ⟨rfl, (belStep (HS.out _ _ (by assumption) b2) (belStep (below_alloc1 _ _) b3))⟩

theorem iWildAnd_any (a b : ByteArray) (ha : a.size ≤ 1048576) (hb : b.size ≤ 1048576) (w : World) :
    Calls Try.prog 49 #[.string a, .string b] w fun e w' => e = .returned (.tuple #[.string (andS a b), .bool (meetS a b)]) ∧ Below w.heap.size w w' := by
  cases hka : okS a
  · have e1 : meetS a b = false := by unfold meetS; rw [hka]; rfl
    have e2 : andS a b = ⟨#[]⟩ := by unfold andS; rw [e1]; rfl
    rw [e1, e2]
    cases hkb : okS b
    · exact iWildAnd_gen a b _ _ _ _ _ _ _ _ _ _ _ (readWild_no a hka ha) (readWild_no b hkb hb) methNone_and aheadNone_and (andNone_any _) enterNone_and enterNone_text masksOf_no methNone_text textNone_any w
    · exact iWildAnd_gen a b _ _ _ _ _ _ _ _ _ _ _ (readWild_no a hka ha) (readWild_yes b hkb) methNone_and aheadNone_and (andNone_any _) enterNone_and enterNone_text masksOf_no methNone_text textNone_any w
  · cases hkb : okS b
    · have e1 : meetS a b = false := by unfold meetS; rw [hka, hkb]; rfl
      have e2 : andS a b = ⟨#[]⟩ := by unfold andS; rw [e1]; rfl
      rw [e1, e2]
      exact iWildAnd_gen a b _ _ _ _ _ _ _ _ _ _ _ (readWild_yes a hka) (readWild_no b hkb hb) (meth_and _ _) (ahead_and _ _) (and_no _ _) enter_and enterNone_text masksOf_no methNone_text textNone_any w
    · cases hm : meetB (cf a) (vf a) (cf b) (vf b)
      · have e1 : meetS a b = false := by unfold meetS; rw [hka, hkb, hm]; rfl
        have e2 : andS a b = ⟨#[]⟩ := by unfold andS; rw [e1]; rfl
        rw [e1, e2]
        exact iWildAnd_gen a b _ _ _ _ _ _ _ _ _ _ _ (readWild_yes a hka) (readWild_yes b hkb) (meth_and _ _) (ahead_and _ _) (and_apart _ _ _ _ hm) enter_and enterNone_text masksOf_no methNone_text textNone_any w
      · have e1 : meetS a b = true := by unfold meetS; rw [hka, hkb, hm]; rfl
        have e2 : andS a b = txt (fun i => cf a i || cf b i) (fun i => vf a i || vf b i) := by unfold andS; rw [e1]; rfl
        rw [e1, e2]
        exact iWildAnd_gen a b _ _ _ _ _ _ _ _ _ _ _ (readWild_yes a hka) (readWild_yes b hkb) (meth_and _ _) (ahead_and _ _) (and_meet _ _ _ _ hm) enter_and enter_text (masksOf_yes _ _) (meth_text _ _) (text_any _ _) w

/-! ### One in another -/

/-- Two masks of the call's own are stored into. -/
theorem belFour {w w4 : World} {n : Nat} (h : Below n w w4) (hn : n ≤ w4.heap.size) (a b c d : Value) (o : Obj) :
    Below n w (((((w4.setCell ⟨n, 0, none⟩ a).setCell ⟨n, 1, none⟩ b).setCell ⟨n + 1, 0, none⟩ c).setCell ⟨n + 1, 1, none⟩ d).alloc o).drew :=
  (((((h.setCell (Nat.le_refl _) _).setCell (Nat.le_refl _) _).setCell (Nat.le_succ _) _).setCell (Nat.le_succ _) _).alloc (by simpa using hn) _).drew

set_option maxHeartbeats 2000000 in
theorem readMasks_gen (a b : ByteArray) (V1 V2 : Value) (x y x' y' : Int) (k k' : Bool)
    (hA : ∀ W : World, Calls Try.prog 61 #[.string a] W fun e w' => e = .returned V1 ∧ Below W.heap.size W w')
    (hMA : ∀ W : World, Calls Try.prog 76 #[V1] W fun e w' => e = .returned (.tuple #[.agg #[.int .u8 x, .int .u8 y], .bool k]) ∧ Below W.heap.size W w')
    (hB : ∀ W : World, Calls Try.prog 61 #[.string b] W fun e w' => e = .returned V2 ∧ Below W.heap.size W w')
    (hMB : ∀ W : World, Calls Try.prog 76 #[V2] W fun e w' => e = .returned (.tuple #[.agg #[.int .u8 x', .int .u8 y'], .bool k']) ∧ Below W.heap.size W w') (w : World) :
    Calls Try.prog 71 #[.string a, .string b] w fun e w' => e = .returned (.tuple #[.agg #[.int .u8 x, .int .u8 y], .agg #[.int .u8 x', .int .u8 y'], .bool (k && k')]) ∧ Below w.heap.size w w' := by
  have HA := Lib.hid hA
  have HB := Lib.hid hB
  have HMA := Lib.hid hMA
  have HMB := Lib.hid hMB
  clear hA hB hMA hMB
  go_enter Try.func71, Try.ntmps71
  go_wp2_with fail
  refine (HA.out _).mono ?_
  rintro e w1 ⟨rfl, b1⟩
  have s1 := b1.size
  simp at s1
  go_wp2_with fail
  refine (HMA.out _).mono ?_
  rintro e w2 ⟨rfl, b2⟩
  have s2 := b2.size
  go_wp2_with fail
  refine (HB.out _).mono ?_
  rintro e w3 ⟨rfl, b3⟩
  have s3 := b3.size
  simp at s3
  go_wp2_with fail
  refine (HMB.out _).mono ?_
  rintro e w4 ⟨rfl, b4⟩
  have s4 := b4.size
  have r0 : Hid (w4.heap[w.heap.size]? = some (.cells #[.int .u8 0, .int .u8 0] 87)) :=
    (b4.block _ (by omega)).trans ((b3.block _ (by simp; omega)).trans ((Below.heap_alloc _ _ _ (by omega)).trans ((b2.block _ (by omega)).trans ((b1.block _ (by simp; omega)).trans ((Below.heap_alloc _ _ _ (by simp)).trans (newBlockM w _))))))
  have r1 : Hid (w4.heap[w.heap.size + 1]? = some (.cells #[.int .u8 0, .int .u8 0] 87)) :=
    (b4.block _ (by omega)).trans ((b3.block _ (by simp; omega)).trans ((Below.heap_alloc _ _ _ (by omega)).trans ((b2.block _ (by omega)).trans ((b1.block _ (by simp)).trans (by have := newBlockM (w.alloc (.cells #[.int .u8 0, .int .u8 0] 87)) (.cells #[.int .u8 0, .int .u8 0] 87); simpa using this)))))
  have q1 : Hid (w4.heap[w2.heap.size]? = some (.cells #[.int .u8 x, .int .u8 y] 87)) :=
    (b4.block _ (by omega)).trans ((b3.block _ (by simp)).trans (newBlockM _ _))
  have B4 : Hid (Below w.heap.size w w4) := (below_alloc2 _ _ _).trans ((b1.mono (by simp; omega)).trans ((b2.mono (by omega)).trans ((((Below.refl _ _).alloc (by omega) _).trans (b3.mono (by simp; omega))).trans (b4.mono (by omega)))))
  clear b1 b2 b3 b4
  go_wp2_with fail
  obtain ⟨ra, rb, rf⟩ := duoCells r0.out
  obtain ⟨rc, rd, rg⟩ := duoCells r1.out
  obtain ⟨qa, qb, qf⟩ := duoCells q1.out
  have z0 : w.heap.size < w4.heap.size := by omega
  have z1 : w.heap.size + 1 < w4.heap.size := by omega
  have z2 : w2.heap.size < w4.heap.size := by omega
  have n0 : w.heap.size ≠ w2.heap.size := by omega
  have n1 : w.heap.size + 1 ≠ w2.heap.size := by omega
  have n2 : w.heap.size ≠ w4.heap.size := by omega
  have n3 : w.heap.size + 1 ≠ w4.heap.size := by omega
  have n4 : w2.heap.size ≠ w4.heap.size := by omega
  clear r0 r1 q1
  cases k
  all_goals
    go_region
    go_wp2
  · exact bodyPost_ret (v := .tuple #[.agg #[.int .u8 x, .int .u8 y], .agg #[.int .u8 x', .int .u8 y'], .bool false]) (by simp [results, Try.results71, go_sem, ra, rb, rc, rd, z0, z1]) rfl
      ⟨rfl, belFour B4.out (by omega) _ _ _ _ _⟩
  · exact bodyPost_ret (v := .tuple #[.agg #[.int .u8 x, .int .u8 y], .agg #[.int .u8 x', .int .u8 y'], .bool k']) (by simp [results, Try.results71, go_sem, ra, rb, rc, rd, z0, z1]) rfl
      ⟨rfl, belFour B4.out (by omega) _ _ _ _ _⟩

theorem readMasks_no (a b : ByteArray) (ha : a.size ≤ 1048576) (hb : b.size ≤ 1048576) (hk : (okS a && okS b) = false) : ∃ x y x' y' : Int, ∀ w : World,
    Calls Try.prog 71 #[.string a, .string b] w fun e w' => e = .returned (.tuple #[.agg #[.int .u8 x, .int .u8 y], .agg #[.int .u8 x', .int .u8 y'], .bool false]) ∧ Below w.heap.size w w' := by
  cases hka : okS a
  · cases hkb : okS b
    · exact ⟨_, _, _, _, readMasks_gen a b _ _ _ _ _ _ _ _ (readWild_no a hka ha) masksOf_no (readWild_no b hkb hb) masksOf_no⟩
    · exact ⟨_, _, _, _, readMasks_gen a b _ _ _ _ _ _ _ _ (readWild_no a hka ha) masksOf_no (readWild_yes b hkb) (masksOf_yes _ _)⟩
  · cases hkb : okS b
    · exact ⟨_, _, _, _, readMasks_gen a b _ _ _ _ _ _ _ _ (readWild_yes a hka) (masksOf_yes _ _) (readWild_no b hkb hb) masksOf_no⟩
    · rw [hka, hkb] at hk
      cases hk
theorem readMasks_yes (a b : ByteArray) (hka : okS a = true) (hkb : okS b = true) (w : World) :
    Calls Try.prog 71 #[.string a, .string b] w fun e w' => e = .returned (.tuple #[.agg #[.int .u8 (ofB (cf a)), .int .u8 (ofB (vf a))], .agg #[.int .u8 (ofB (cf b)), .int .u8 (ofB (vf b))], .bool true]) ∧ Below w.heap.size w w' :=
  readMasks_gen a b _ _ _ _ _ _ _ _ (readWild_yes a hka) (masksOf_yes _ _) (readWild_yes b hkb) (masksOf_yes _ _) w

set_option maxHeartbeats 1000000 in
theorem iWildIn_any (a b : ByteArray) (ha : a.size ≤ 1048576) (hb : b.size ≤ 1048576) (w : World) :
    Calls Try.prog 50 #[.string a, .string b] w fun e w' => e = .returned (.bool (inS a b)) ∧ Below w.heap.size w w' := by
  cases hk : okS a && okS b
  · rw [show inS a b = false from by unfold inS; cases h1 : okS a <;> cases h2 : okS b <;> simp_all]
    obtain ⟨x, y, x', y', hr⟩ := readMasks_no a b ha hb hk
    have HR := Lib.hid hr
    clear hr
    go_enter Try.func50, Try.ntmps50
    go_wp2_with (go_at_call 71; refine (HR.out _).mono ?_; rintro e w1 ⟨rfl, b1⟩)
    go_ret
    exact ⟨rfl, (b1.alloc b1.size _).alloc (by have := b1.size; simp; omega) _⟩
  · obtain ⟨hka, hkb⟩ : okS a = true ∧ okS b = true := by simpa using hk
    rw [show inS a b = inM (cf a) (vf a) (cf b) (vf b) from by unfold inS; rw [hka, hkb]; rfl]
    clear hk
    go_enter Try.func50, Try.ntmps50
    go_wp2_with (first
      | (go_at_call 71; refine (readMasks_yes a b hka hkb _).mono ?_; rintro e w1 ⟨rfl, b1⟩)
      | (go_at_call 77; refine (in_any _ _ _ _ _).mono ?_; rintro e w2 ⟨rfl, b2⟩))
    go_ret
    exact ⟨rfl, belStep ((b1.alloc b1.size _).alloc (by have := b1.size; simp; omega) _) b2⟩

end Go.Proofs.Ytndmedkkecikoaa
