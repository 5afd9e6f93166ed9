/-
  Chapter 3, the program: the texts of a set; how many heads it has.
-/
import Derived.Test.YtddkpimmcmnogabSpaceLoop
import Derived.RangeFuncNested
import Derived.Shelf.RegionOpen
namespace Go.Proofs.Ytddkpimmcmnogab
open Go.ChangeShapes Go.WideShapes Go.ChangeAt Go.RowKit Go.Joins
open Go.Shelf
set_option linter.unusedVariables false
attribute [local go_sem] Oper.semAt_some

theorem masks_any (p : Option Addr) (w : World) :
    Calls Try.prog 41 #[.pointer p] w fun e w' => e = .returned (.func (.func 49) #[] #[.pointer (some ⟨w.heap.size, 0, none⟩)]) ∧ w' = w.alloc (.cells #[.pointer p] 42) := by
  have hmf : ∀ (fn : Fn) (first cap : Array Value) (w : World), (Instr.makeFunc fn first cap).run Try.prog w = .ok (.func fn first cap) w := fun _ _ _ _ => rfl
  go_enter Try.func41, Try.ntmps41
  go_wp2
  go_ret
  exact ⟨rfl, rfl⟩

/-- A round that stores into one box of the caller's, behind calls that leave what was there. -/
theorem round_set {W w2 : World} {n B LB : Nat} {t : TypeId} {v : Value} (v' : Value) (hv : Boxed W B t v) (ht : t ≠ 67) (hb : Below W.heap.size W w2) (hn : n ≤ B) (hB : B < LB) :
    KeepsFrom LB W (w2.setCell ⟨B, 0, none⟩ v') ∧ KpM n W (w2.setCell ⟨B, 0, none⟩ v') ∧ Boxed (w2.setCell ⟨B, 0, none⟩ v') B t v' ∧ Below n W (w2.setCell ⟨B, 0, none⟩ v') := by
  have hv2 : Boxed w2 B t v := (hb.block B hv.lt).trans hv
  have hg : W.grownBy (w2.setCell ⟨B, 0, none⟩ v') (some B) := sTrans (sOf _ hb) ⟨rfl, rfl, rfl, by simp [World.setCell], fun k hk hne => Below.heap_setCell _ _ _ _ (fun e => hne (by rw [e]))⟩
  have hbn : Below n W (w2.setCell ⟨B, 0, none⟩ v') := sBel hg hn (Nat.le_trans hn (Nat.le_of_lt hv.lt))
  refine ⟨KeepsFrom.of_grownBy hg (fun j e => by cases e; exact hB), ⟨hbn, fun k cs hk => ?_⟩, hv2.set v', hbn⟩
  refine (hg.block k (Array.getElem?_eq_some_iff.1 hk).1 ?_).trans hk
  intro e
  cases e
  rw [show W.heap[B]? = _ from hv] at hk
  cases hk
  exact ht rfl

/-- How many heads the patterns have that came. -/
def sumL6 (l : List (List UInt8)) : Int := (l.map fun x => manyB (cL x)).sum
theorem sumL6_snoc (l : List (List UInt8)) (x : List UInt8) : sumL6 (l ++ [x]) = sumL6 l + manyB (cL x) := by simp [sumL6]
theorem manyB_le (c : Nat → Bool) : 0 ≤ manyB c ∧ manyB c ≤ 64 := by
  unfold manyB
  have h : ∀ n, n ≤ 6 → (0 : Int) ≤ 2 ^ (6 - n) ∧ (2 : Int) ^ (6 - n) ≤ 64 := by decide
  exact h _ (cnt6_le _ _ _ _ _ _)
theorem sumL6_bound : ∀ (l : List (List UInt8)), 0 ≤ sumL6 l ∧ sumL6 l ≤ 64 * l.length
  | [] => by simp [sumL6]
  | x :: l => by
    have h1 := sumL6_bound l
    have h2 := manyB_le (cL x)
    unfold sumL6 at *
    simp only [List.map_cons, List.sum_cons, List.length_cons]
    omega

set_option maxRecDepth 100000 in
set_option maxHeartbeats 4000000 in
theorem many_node (w : World) (b e : Nat) (E : List Nd) (p : Option Addr) (m : List Bool) (hd : Dg w b e E) (hr : Rep E e 6 p m) :
    Calls Try.prog 67 #[.pointer p] w fun ex w' => ex = .returned (.int .i64 (sumL6 (tidyB 6 m))) ∧ Below w.heap.size w w' := by
  have hlen := tidyB_many 6 m
  refine (callsIn_wide (n := 5)).1 ?_
  refine callsIn_of_wp_marks Try.func67 rfl trivial ?_ rfl
  simp only [Try.ntmps67, List.size_toArray, List.length_cons, List.length_nil, Nat.reduceAdd, Nat.reduceSub, Array.replicate_succ, Array.replicate_zero, List.push_toArray, List.append_toArray, List.nil_append, List.cons_append]
  gi_wp2_with (refine ⟨trivial, ?_⟩; gi_at_call 41; refine (callsIn_wide.2 (masks_any _ _)).mono ?_; rintro ex w' ⟨rfl, rfl⟩)
  have hB0 : Below w.heap.size w ((w.alloc (.cells #[.int .i64 0] 3)).alloc (.cells #[.pointer p] 42)) := below_alloc2 _ _ _
  have bS := Boxed.new w 3 (.int .i64 0)
  have bN := Boxed.new (w.alloc (.cells #[.int .i64 0] 3)) 42 (.pointer p)
  rw [World.size_alloc] at bN
  have hsz : ((w.alloc (.cells #[.int .i64 0] 3)).alloc (.cells #[.pointer p] 42)).heap.size = w.heap.size + 2 := by simp
  refine loop_all (gf := 49) (lb := #[.pointer (some ⟨w.heap.size + 1, 0, none⟩)]) w.heap.size (by rw [hsz]; omega) rfl rfl (enters_of Try.func49 (by kernel_rfl) rfl) (tidyB 6 m)
    (fun l J W hW hJ hY h0 => masks1_any J w.heap.size l b e (w.heap.size + 1) E p m W hJ hY (hd.to.below (hB0.trans (hW.mono (by rw [hsz]; omega)))) (Nat.le_trans hB0.size hW.size) hr h0 ((hW.cell (p := ⟨w.heap.size + 1, 0, none⟩) (by rw [hsz]; simp)).trans bN.cell))
    (fun pre W => Boxed W w.heap.size 3 (.int .i64 (sumL6 pre)) ∧ Below w.heap.size w W)
    (OwnFrom.and (Own.from (boxed_own _ _ _) _) (ownFrom_below (Nat.le_refl _) (by rw [hsz]; omega)))
    ⟨bS.alloc _, hB0⟩
    (fun x Bx => { tmps := #[.pointer p, undef, .int .i64 0, .pointer (some ⟨w.heap.size, 0, none⟩), .pointer (some ⟨Bx, 0, none⟩), .pointer p, .func (.func 49) #[] #[.pointer (some ⟨w.heap.size + 1, 0, none⟩)], mkA x, undef, undef, undef, undef, undef], defers := [] }) ?assign ?body ?done
  case assign =>
    intro l k x W K hK
    unfold mkA at *
    gi_wp2
    exact hK
  case body =>
    rintro l k pre x Bx W ⟨hv, hB⟩ hlt hBx hbx
    have hc := hv.cell
    have hf := hv.frozen
    have K2 := duoCells hbx
    have hmx : Try.prog.follows .mixedOrders = true := by kernel_rfl
    obtain ⟨d0, d1, d2⟩ := K2
    have HB := Lib.hid hB
    have HV := Lib.hid hv
    have hs0 := sumL6_bound pre
    have hs1 := manyB_le (cL x)
    have hs2 := sumL6_snoc pre x
    have hvl := hv.lt
    have hbl := (Array.getElem?_eq_some_iff.1 hbx).1
    have HS2 := Lib.hid hs2
    have hw64 : wrap64 (sumL6 pre + manyB (cL x)) = sumL6 pre + manyB (cL x) := by unfold wrap64; omega
    have hw65 : IntKind.i64.wrap (sumL6 pre + manyB (cL x)) = sumL6 pre + manyB (cL x) := by rw [IntKind.wrap_i64]; omega
    clear hs2 hbx hB hv
    generalize sumL6 pre = sp at *
    gi_wp2
    gi_region_with_o (refine ⟨trivial, (fun h => by cases h), ?_⟩; gi_at_call 68; refine (CallsIn.inRound l (callsIn_wide.2 (many_any _ _ _))).mono ?_; rintro ex w2 ⟨rfl, b2⟩; have hc2 : w2.cell? ⟨w.heap.size, 0, none⟩ = some (.int .i64 sp) := (belCell b2 _ _ hvl).trans hc; have hf2 : w2.frozen? ⟨w.heap.size, 0, none⟩ = false := (World.frozen?_of_block (w := W) (b2.block _ hvl)).trans hf; have B2 : Hid (Below W.heap.size W w2) := ((Below.refl _ _).drew).trans b2; clear b2)
    all_goals gi_wp2
    all_goals
      have HE := round_set (n := w.heap.size) (LB := w.heap.size + 2) (.int .i64 (sp + manyB (cL x))) HV.out (by decide) B2.out (Nat.le_refl _) (by omega)
      exact ⟨HE.1, HE.2.1, by rw [HS2.out]; exact HE.2.2.1, HB.out.trans HE.2.2.2⟩
  case done =>
    rintro D W hD ⟨hv, hB⟩ hK
    have hc := hv.cell
    gi_wp2
    refine ⟨by simp, .inl ⟨_, _, rfl, run_takeDeferred hK, ?_⟩⟩
    exact ⟨_, results_tmp rfl _ _ _, rfl, hB.trans (belowK_b (w := w) (Nat.le_refl _) W D _ _ (by rw [hsz] at hD; omega) hK rfl rfl)⟩

end Go.Proofs.Ytddkpimmcmnogab
