/-
  A loop over an iterator whose body never leaves it; the program's texts and many of a set.
-/
import Derived.Test.YtddkpimmcmnogabSpaceVisit
namespace Go.Proofs.Ytddkpimmcmnogab
open Go.ChangeShapes Go.WideShapes Go.ChangeAt Go.RowKit Go.Joins
open Go.Shelf
set_option linter.unusedVariables false
attribute [local go_sem] Oper.semAt_some

/-- A block that is no cells is exchanged: masks and what lies below stay. -/
theorem KpM.put {n : Nat} {W : World} {k : Nat} {o : Obj} (o' : Obj) (hn : n ≤ k) (ho : W.heap[k]? = some o) (hc : o.isCells = false) : KpM n W (W.putObj k o') := by
  have hlt := (Array.getElem?_eq_some_iff.1 ho).1
  refine ⟨(Below.refl n W).grown (grownBy_putObj' W k o') (by omega) (fun j e => by cases e; exact hn), fun j cs hj => ?_⟩
  by_cases e : j = k
  · subst e
    rw [ho] at hj
    cases hj
    simp [Obj.isCells] at hc
  · exact (World.putObj_heap_other e).trans hj

/-- The record of a loop that stands ready. -/
def recOf (fn : FuncId) (a : Act) (ps : Array Tmp) (assign body : Code) (d : Nat) : Loop := { state := .ready, pending := none, fn := fn, tmps := a.tmps, params := ps, assign := assign, body := body, defers := d }

set_option maxHeartbeats 1000000 in
/-- 'for x := range seq', where seq hands over the signs of xs and the body never leaves: one round for each; a round's variable lies in a block of its own. -/
theorem loop_all {n : Nat} {g : Operand} {ps : Array Tmp} {assign body : Code} {Q : Exit → Act → World → Prop} {a : Act} {w : World} {gf : Nat} {lb : Array Value} (n₀ : Nat) (hn₀ : n₀ ≤ w.heap.size) (hps : ps.size = 1)
    (hg : a.eval g = .func (.func gf) #[] lb) (eg : ∀ args W, (callFunc gf args).run Try.prog W = .ok (.enter gf args) W) (xs : List (List UInt8))
    (hseq : ∀ (l : Nat) (J : List (List UInt8) → World → Prop) (W : World), Below w.heap.size w W → (∀ s A B, J s A → Below A.heap.size A B → J s B) →
      (∀ k pre x W1, J pre W1 → pre.length < xs.length → YieldAt Fence.wide k Try.prog l #[mkA x] W1 fun ex W' => ex = .returned (.bool true) ∧ J (pre ++ [x]) W' ∧ KpM n₀ W1 W') → J [] W →
      Calls Try.prog gf (#[.func (.yield l) #[] #[]] ++ lb) W fun ex W' => (∃ v, ex = .returned v) ∧ J xs W')
    (I : List (List UInt8) → World → Prop) (hI : OwnFrom w.heap.size I) (h0 : I [] w) (a₁ : List UInt8 → Nat → Act)
    (hassign : ∀ (l k : Nat) (x : List UInt8) (W : World) (K : Act → World → Prop), K (a₁ x W.heap.size) (W.alloc (.cells #[.int .u8 (ofB (cL x)), .int .u8 (ofB (vL x))] 67)) →
      assign.wpIn (Fence.wide.inRound l) k Try.prog (Exit.then K (fun _ _ _ => False)) { tmps := (ps.zip #[mkA x]).foldl (fun t (p, v) => t.setIfInBounds p v) a.tmps, defers := [] } W)
    (hbody : ∀ (l k : Nat) (pre : List (List UInt8)) (x : List UInt8) (Bx : Nat) (W : World), I pre W → pre.length < xs.length → w.heap.size ≤ Bx → W.heap[Bx]? = some (.cells #[.int .u8 (ofB (cL x)), .int .u8 (ofB (vL x))] 67) →
      body.wpIn (Fence.wide.inRound l) k Try.prog (fun ex _ W' => ex = .normal ∧ KeepsFrom w.heap.size W W' ∧ KpM n₀ W W' ∧ I (pre ++ [x]) W') (a₁ x Bx) W)
    (hdone : ∀ (D : Nat) (W : World), w.heap.size ≤ D → I xs W → W.heap[D]? = some (.deferred (some [])) → Q .normal { a with defers := { target := .collected D, args := #[] } :: a.defers } W) :
    (Code.rangeFunc g ps assign body).wpIn Fence.wide n Try.prog Q a w := by
  refine wpIn_rangeFunc fun fn hfn => ?_
  -- the two blocks that the statement lays
  obtain ⟨W1, hW1⟩ : ∃ W1, (w.alloc (.deferred (some []))).alloc (.loop (recOf fn a ps assign body w.heap.size)) = W1 := ⟨_, rfl⟩
  have hb1 : Below w.heap.size w W1 := by rw [← hW1]; exact below_alloc2 _ _ _
  have hrec : W1.heap[w.heap.size + 1]? = some (.loop (recOf fn a ps assign body w.heap.size)) := by
    rw [← hW1]
    have := newBlockM (w.alloc (.deferred (some []))) (.loop (recOf fn a ps assign body w.heap.size))
    simpa using this
  have hdef : W1.heap[w.heap.size]? = some (.deferred (some [])) := by
    rw [← hW1]
    exact (Below.heap_alloc _ _ _ (by simp)).trans (newBlockM w _)
  have hI1 : I [] W1 := by rw [← hW1]; exact hI.alloc _ (hI.alloc _ h0)
  refine ⟨w.heap.size + 1, [{ target := .collected w.heap.size, args := #[] }], W1, { target := .fn (.func gf) lb, args := #[.func (.yield (w.heap.size + 1)) #[] #[]] }, W1, gf, #[.func (.yield (w.heap.size + 1)) #[] #[]] ++ lb, W1, ?_, ?_, fun _ _ => trivial, ?_, (fun h => by cases h), callsIn_wide.2 ?_⟩
  · rw [← hW1]; exact run_enterLoop_outer _ _ _ _ _
  · simp only [resolve, hg]
    simp [go_sem]
  · simp [invoke, go_sem, eg]
  -- the patterns come, one by one
  refine (hseq (w.heap.size + 1) (fun pre W => I pre W ∧ W.heap[w.heap.size + 1]? = some (.loop (recOf fn a ps assign body w.heap.size)) ∧ W.heap[w.heap.size]? = some (.deferred (some [])) ∧ w.heap.size ≤ W.heap.size) W1 hb1 ?_ ?_ ⟨hI1, hrec, hdef, hb1.size⟩).mono ?_
  · rintro s A B ⟨i1, i2, i3, i4⟩ hAB
    exact ⟨hI s A B none i1 (sOf none hAB) (fun r e => by cases e), (hAB.block _ (Array.getElem?_eq_some_iff.1 i2).1).trans i2, (hAB.block _ (Array.getElem?_eq_some_iff.1 i3).1).trans i3, Nat.le_trans i4 hAB.size⟩
  · rintro k pre x W ⟨i1, i2, i3, i4⟩ hlen
    have hlt := (Array.getElem?_eq_some_iff.1 i2).1
    have hlt0 := (Array.getElem?_eq_some_iff.1 i3).1
    refine ⟨fn, _, assign, body, run_yield i2 (by rw [show (recOf fn a ps assign body w.heap.size).params = ps from rfl, hps]; rfl), roundIn_of_wpIn hfn (hassign _ _ x W _ ?_)⟩
    -- the variable's block is laid; the record is busy
    have hA := below_alloc1 W (.cells #[.int .u8 (ofB (cL x)), .int .u8 (ofB (vL x))] 67)
    have j2 := (hA.block _ hlt).trans i2
    have j3 := (hA.block _ hlt0).trans i3
    refine ⟨_, run_beginRound j2 rfl, ?_⟩
    have kA : KpM n₀ W (W.alloc (.cells #[.int .u8 (ofB (cL x)), .int .u8 (ofB (vL x))] 67)) := KpM.of hA (by omega)
    generalize hWA : (W.alloc (.cells #[.int .u8 (ofB (cL x)), .int .u8 (ofB (vL x))] 67)) = WA at *
    have hbx : WA.heap[W.heap.size]? = some (.cells #[.int .u8 (ofB (cL x)), .int .u8 (ofB (vL x))] 67) := by rw [← hWA]; exact newBlockM W _
    have iA : I pre WA := by rw [← hWA]; exact hI.alloc _ i1
    have hltA := (Array.getElem?_eq_some_iff.1 j2).1
    obtain ⟨rb, hrb⟩ : ∃ rb, ({ recOf fn a ps assign body w.heap.size with state := .busy } : Loop) = rb := ⟨_, rfl⟩
    rw [hrb]
    have kB := KpM.put (.loop rb) (n := n₀) (by omega) j2 rfl
    have iB : I pre (WA.putObj (w.heap.size + 1) (.loop rb)) := hI.putObj _ iA (by omega) j2 rfl
    have bB : (WA.putObj (w.heap.size + 1) (.loop rb)).heap[W.heap.size]? = some (.cells #[.int .u8 (ofB (cL x)), .int .u8 (ofB (vL x))] 67) := (World.putObj_heap_other (by omega)).trans hbx
    have rB : (WA.putObj (w.heap.size + 1) (.loop rb)).heap[w.heap.size + 1]? = some (.loop rb) := World.putObj_heap_same hltA
    have dB : (WA.putObj (w.heap.size + 1) (.loop rb)).heap[w.heap.size]? = some (.deferred (some [])) := (World.putObj_heap_other (by omega)).trans j3
    have sB : (WA.putObj (w.heap.size + 1) (.loop rb)).heap.size = WA.heap.size := by simp [World.putObj]
    refine wpIn_mono (hbody _ _ pre x W.heap.size _ iB hlen i4 bB) ?_
    rintro ex a3 W3 ⟨rfl, q1, q2, q3⟩
    have r3 := q1.same _ _ (by omega) rB rfl
    have d3 := q1.same _ _ (Nat.le_refl _) dB rfl
    have s3 := (Array.getElem?_eq_some_iff.1 r3).1
    have hend := run_endRound (P := Try.prog) none r3
    have hback : ({ rb with state := if (none : Option Code).isNone then .ready else .done, pending := none } : Loop) = recOf fn a ps assign body w.heap.size := by rw [← hrb]; rfl
    rw [hback] at hend
    refine ⟨_, _, hend, rfl, ⟨hI.putObj _ q3 (by omega) r3 rfl, World.putObj_heap_same s3, (World.putObj_heap_other (by omega)).trans d3, by simp [World.putObj]; omega⟩, ?_⟩
    exact (kA.trans (kB.trans q2)).trans (KpM.put _ (by omega) r3 rfl)
  · rintro ex W2 ⟨⟨v, rfl⟩, i1, i2, i3, i4⟩
    refine ⟨none, _, run_endLoop i2 (by simp [recOf]), ?_⟩
    exact hdone _ _ (Nat.le_refl _) (hI.putObj _ i1 (by omega) i2 rfl) ((World.putObj_heap_other (by omega)).trans i3)

end Go.Proofs.Ytddkpimmcmnogab
