/-
  The functions of conditions that are made of others; what the program's reading of a field and of a constant returns.
-/
import Derived.Test.YtddkpimmcmnogaaDoorPredRep
namespace Go.Proofs.YtddkpimmcmnogaaDoor
open Go.ChangeShapes Go.WideShapes Go.ChangeAt Go.RowKit Go.Joins
set_option linter.unusedVariables false

set_option maxHeartbeats 1000000 in
theorem negFn_any (x : Bool) (n : Int) (p r k cap : Nat) (caps : Array Value) (w : World) (hp : w.cell? ⟨p, 0, none⟩ = some (.slice (some ⟨r, 0, none⟩) 1 cap))
    (c2 : w.cell? ⟨r, 2, none⟩ = some (.func (.func k) #[] caps))
    (he : ∀ (args : Array Value) (W : World), (callFunc k args).run Tryd.prog W = .ok (.enter k args) W)
    (hc : ∀ W : World, Below w.heap.size w W → Calls Tryd.prog k (#[.int .u8 n] ++ caps) W fun e W' => e = .returned (.bool x) ∧ Below W.heap.size W W') :
    Calls Tryd.prog 90 #[.int .u8 n, .pointer (some ⟨p, 0, none⟩)] w fun e w' => e = .returned (.bool (!x)) ∧ Below w.heap.size w w' := by
  have HC := Lib.hid hc
  clear hc
  go_enter Tryd.func90, Tryd.ntmps90
  go_wp2_with fail
  refine (HC.out _ (Below.refl _ _)).mono ?_
  rintro e w1 ⟨rfl, b1⟩
  go_wp2
  go_ret
  exact ⟨rfl, b1⟩

theorem negFn_ok (a : Cnd) (base p r cap : Nat) (y2 : Value) (w : World) (hlp : base ≤ p) (hlr : base ≤ r) (hp : w.cell? ⟨p, 0, none⟩ = some (.slice (some ⟨r, 0, none⟩) 1 cap)) (c2 : w.cell? ⟨r, 2, none⟩ = some y2) (hf : FnOk w base y2 (evn a)) :
    FnOk w base (.func (.func 90) #[] #[.pointer (some ⟨p, 0, none⟩)]) (evn (.neg a)) := by
  obtain ⟨k, caps, rfl, he, hc⟩ := hf
  exact ⟨_, _, rfl, enterP Tryd.func90 (by kernel_rfl) (by kernel_rfl), fun W hW n h0 h1 =>
    negFn_any (evn a n) n p r k cap caps W (cellAg hp hlp hW) (cellAg c2 hlr hW) he fun W' hb => hc W' (hW.trans (Ag.of hb (Nat.le_refl _))) n h0 h1⟩

set_option maxHeartbeats 2000000 in
theorem andFn_any (x y : Bool) (n : Int) (p r k j cap : Nat) (caps daps : Array Value) (w : World) (hp : w.cell? ⟨p, 0, none⟩ = some (.slice (some ⟨r, 0, none⟩) 2 cap))
    (c2 : w.cell? ⟨r, 2, none⟩ = some (.func (.func k) #[] caps)) (d2 : w.cell? ⟨r, 5, none⟩ = some (.func (.func j) #[] daps))
    (he : ∀ (args : Array Value) (W : World), (callFunc k args).run Tryd.prog W = .ok (.enter k args) W)
    (hd : ∀ (args : Array Value) (W : World), (callFunc j args).run Tryd.prog W = .ok (.enter j args) W)
    (hc : ∀ W : World, Below w.heap.size w W → Calls Tryd.prog k (#[.int .u8 n] ++ caps) W fun e W' => e = .returned (.bool x) ∧ Below W.heap.size W W')
    (hc' : ∀ W : World, Below w.heap.size w W → Calls Tryd.prog j (#[.int .u8 n] ++ daps) W fun e W' => e = .returned (.bool y) ∧ Below W.heap.size W W') :
    Calls Tryd.prog 91 #[.int .u8 n, .pointer (some ⟨p, 0, none⟩)] w fun e w' => e = .returned (.bool (x && y)) ∧ Below w.heap.size w w' := by
  have HC := Lib.hid hc
  have HD := Lib.hid hc'
  clear hc hc'
  have pl := World.block_lt_of_cell? _ _ hp
  have rl := World.block_lt_of_cell? _ _ c2
  cases x
  · go_enter Tryd.func91, Tryd.ntmps91
    go_wp2_with fail
    refine (HC.out _ (Below.refl _ _)).mono ?_
    rintro e w1 ⟨rfl, b1⟩
    go_wp2
    go_ret
    exact ⟨rfl, b1⟩
  · go_enter Tryd.func91, Tryd.ntmps91
    go_wp2_with fail
    refine (HC.out _ (Below.refl _ _)).mono ?_
    rintro e w1 ⟨rfl, b1⟩
    have kp := (belCell b1 p 0 pl).trans hp
    have kr := (belCell b1 r 5 rl).trans d2
    have hm := Lib.hid (HD.out w1 b1)
    clear HD HC hp c2 d2
    go_wp2_with fail
    refine hm.out.mono ?_
    rintro e w2 ⟨rfl, b2⟩
    go_wp2
    go_ret
    exact ⟨rfl, belStep b1 b2⟩

set_option maxHeartbeats 2000000 in
theorem orFn_any (x y : Bool) (n : Int) (p r k j cap : Nat) (caps daps : Array Value) (w : World) (hp : w.cell? ⟨p, 0, none⟩ = some (.slice (some ⟨r, 0, none⟩) 2 cap))
    (c2 : w.cell? ⟨r, 2, none⟩ = some (.func (.func k) #[] caps)) (d2 : w.cell? ⟨r, 5, none⟩ = some (.func (.func j) #[] daps))
    (he : ∀ (args : Array Value) (W : World), (callFunc k args).run Tryd.prog W = .ok (.enter k args) W)
    (hd : ∀ (args : Array Value) (W : World), (callFunc j args).run Tryd.prog W = .ok (.enter j args) W)
    (hc : ∀ W : World, Below w.heap.size w W → Calls Tryd.prog k (#[.int .u8 n] ++ caps) W fun e W' => e = .returned (.bool x) ∧ Below W.heap.size W W')
    (hc' : ∀ W : World, Below w.heap.size w W → Calls Tryd.prog j (#[.int .u8 n] ++ daps) W fun e W' => e = .returned (.bool y) ∧ Below W.heap.size W W') :
    Calls Tryd.prog 92 #[.int .u8 n, .pointer (some ⟨p, 0, none⟩)] w fun e w' => e = .returned (.bool (x || y)) ∧ Below w.heap.size w w' := by
  have HC := Lib.hid hc
  have HD := Lib.hid hc'
  clear hc hc'
  have pl := World.block_lt_of_cell? _ _ hp
  have rl := World.block_lt_of_cell? _ _ c2
  cases x
  · go_enter Tryd.func92, Tryd.ntmps92
    go_wp2_with fail
    refine (HC.out _ (Below.refl _ _)).mono ?_
    rintro e w1 ⟨rfl, b1⟩
    have kp := (belCell b1 p 0 pl).trans hp
    have kr := (belCell b1 r 5 rl).trans d2
    have hm := Lib.hid (HD.out w1 b1)
    clear HD HC hp c2 d2
    go_wp2_with fail
    refine hm.out.mono ?_
    rintro e w2 ⟨rfl, b2⟩
    go_wp2
    go_ret
    exact ⟨rfl, belStep b1 b2⟩
  · go_enter Tryd.func92, Tryd.ntmps92
    go_wp2_with fail
    refine (HC.out _ (Below.refl _ _)).mono ?_
    rintro e w1 ⟨rfl, b1⟩
    go_wp2
    go_ret
    exact ⟨rfl, b1⟩

theorem twoFn_ok (k : UInt8) (hk : isT k = true) (a b : Cnd) (base p r cap : Nat) (y2 z2 : Value) (w : World) (hlp : base ≤ p) (hlr : base ≤ r) (hp : w.cell? ⟨p, 0, none⟩ = some (.slice (some ⟨r, 0, none⟩) 2 cap)) (c2 : w.cell? ⟨r, 2, none⟩ = some y2) (d2 : w.cell? ⟨r, 5, none⟩ = some z2) (hf : FnOk w base y2 (evn a)) (hg : FnOk w base z2 (evn b)) :
    FnOk w base (.func (.func (if k = 38 then 91 else 92)) #[] #[.pointer (some ⟨p, 0, none⟩)]) (evn (.two k a b)) := by
  obtain ⟨k1, caps, rfl, he, hc⟩ := hf
  obtain ⟨k2, daps, rfl, he2, hc2⟩ := hg
  rcases isT_cases hk with rfl | rfl
  · exact ⟨_, _, rfl, enterP Tryd.func91 (by kernel_rfl) (by kernel_rfl), fun W hW n h0 h1 =>
      andFn_any (evn a n) (evn b n) n p r k1 k2 cap caps daps W (cellAg hp hlp hW) (cellAg c2 hlr hW) (cellAg d2 hlr hW) he he2 (fun W' hb => hc W' (hW.trans (Ag.of hb (Nat.le_refl _))) n h0 h1) fun W' hb => hc2 W' (hW.trans (Ag.of hb (Nat.le_refl _))) n h0 h1⟩
  · exact ⟨_, _, rfl, enterP Tryd.func92 (by kernel_rfl) (by kernel_rfl), fun W hW n h0 h1 =>
      orFn_any (evn a n) (evn b n) n p r k1 k2 cap caps daps W (cellAg hp hlp hW) (cellAg c2 hlr hW) (cellAg d2 hlr hW) he he2 (fun W' hb => hc W' (hW.trans (Ag.of hb (Nat.le_refl _))) n h0 h1) fun W' hb => hc2 W' (hW.trans (Ag.of hb (Nat.le_refl _))) n h0 h1⟩

/-- What a reading leaves: the condition, and what comes behind it. -/
def Read (c : Cnd) (r : List UInt8) (w : World) (e : Ending) (w' : World) : Prop :=
  ∃ x0 x1 x2, e = .returned (.tuple #[.agg #[x0, x1, x2], .string (bs r), .nilIface]) ∧ CRep w' w.heap.size c x0 x1 x2 ∧ Below w.heap.size w w'

set_option maxHeartbeats 400000 in
theorem constantPred_any (b : Bool) (w : World) :
    Calls Tryd.prog 75 #[.string (bs (Cnd.one b).txt)] w fun e w' => ∃ x0 x1 x2, e = .returned (.agg #[x0, x1, x2]) ∧ CRep w' w.heap.size (.one b) x0 x1 x2 ∧ Below w.heap.size w w' := by
  have hmf := makeF
  have hq : ((bs (Cnd.one b).txt).toList == [49]) = b := by rw [bs_toList]; cases b <;> rfl
  obtain ⟨s, hs⟩ : ∃ s, s = bs (Cnd.one b).txt := ⟨_, rfl⟩
  have HS := Lib.hid hs
  rw [← hs] at hq ⊢
  clear hs
  go_enter Tryd.func75, Tryd.ntmps75
  go_wp2
  refine bodyPost_ret (v := .agg #[.string s, .slice none 0 0, .func (.func 86) #[] #[.pointer (some ⟨w.heap.size + 1, 0, none⟩)]]) (by simp [results, Tryd.results75, go_sem]) rfl ?_
  exact ⟨_, _, _, rfl, ⟨by rw [HS.out], rfl, constFn_ok b _ _ _ (by omega) (by simp [go_sem])⟩, below_alloc2 _ _ _⟩

end Go.Proofs.YtddkpimmcmnogaaDoor
