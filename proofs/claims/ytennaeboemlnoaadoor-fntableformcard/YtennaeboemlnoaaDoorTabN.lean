/-
  The program's list in memory, by the places of its nodes: two nodes are never one; a node is put behind another one; a node is taken out.
  The program's search in a list: the node behind which a rule stands, or would stand.
  The program's put into a list.
  The program's drop out of a list.
-/
import Derived.Test.YtennaeboemlnoaaDoorTabL

namespace Go.Proofs.YtennaeboemlnoaaDoor
open Go.ChangeShapes Go.WideShapes Go.ChangeAt Go.RowKit Go.Joins
set_option linter.unusedVariables false

/-- The pointer to node number k of n. -/
def ptrAt (n : Nat) (f : Nat → Nat) (k : Nat) : Option Addr := if k < n then some ⟨f k, 0, none⟩ else none
/-- The nodes of a list, by their blocks. -/
def Nodes (w : World) (g : Nat) (l : List R4) (f : Nat → Nat) : Prop := ∀ i, i < l.length → g ≤ f i ∧ w.heap[f i]? = some (nodeO (ruAt l i) (ptrAt l.length f (i + 1)))

theorem ll_nodes {w : World} {g : Nat} : ∀ {l : List R4} {p : Option Addr}, LL w g p l → ∃ f, p = ptrAt l.length f 0 ∧ Nodes w g l f
  | [], p, h => ⟨fun _ => 0, h, fun i hi => absurd hi (Nat.not_lt_zero _)⟩
  | r :: rs, p, ⟨b, q, hp, hg, hb, hr⟩ => by
    obtain ⟨f, hq, hn⟩ := ll_nodes hr
    refine ⟨fun i => if i = 0 then b else f (i - 1), by simpa [ptrAt] using hp, fun i hi => ?_⟩
    cases i with
    | zero =>
      refine ⟨hg, ?_⟩
      have e : ptrAt (r :: rs).length (fun i => if i = 0 then b else f (i - 1)) (0 + 1) = q := by
        rw [hq]
        simp [ptrAt]
      rw [e]
      exact hb
    | succ i =>
      have hi' : i < rs.length := by simpa using hi
      obtain ⟨h1, h2⟩ := hn i hi'
      refine ⟨by simpa using h1, ?_⟩
      have e : ptrAt (r :: rs).length (fun i => if i = 0 then b else f (i - 1)) (i + 1 + 1) = ptrAt rs.length f (i + 1) := by simp [ptrAt]
      rw [e]
      exact h2
theorem nodes_ll {w : World} {g : Nat} : ∀ {l : List R4} {f : Nat → Nat}, Nodes w g l f → LL w g (ptrAt l.length f 0) l
  | [], f, _ => rfl
  | r :: rs, f, hn => by
    obtain ⟨h1, h2⟩ := hn 0 (Nat.succ_pos _)
    have ih : LL w g (ptrAt rs.length (fun i => f (i + 1)) 0) rs := nodes_ll (fun i hi => by
      obtain ⟨k1, k2⟩ := hn (i + 1) (by simpa using hi)
      refine ⟨k1, ?_⟩
      have e : ptrAt rs.length (fun i => f (i + 1)) (i + 1) = ptrAt (r :: rs).length f (i + 1 + 1) := by simp [ptrAt]
      rw [e]
      exact k2)
    refine ⟨f 0, ptrAt (r :: rs).length f 1, by simp [ptrAt], h1, h2, ?_⟩
    have e : ptrAt (r :: rs).length f 1 = ptrAt rs.length (fun i => f (i + 1)) 0 := by simp [ptrAt]
    rw [e]
    exact ih
theorem node_inj {r r' : R4} {q q' : Option Addr} (h : nodeO r q = nodeO r' q') : r = r' ∧ q = q' := by
  obtain ⟨p, s, o, t, hs⟩ := r
  obtain ⟨p', s', o', t', hs'⟩ := r'
  have h1 := h
  simp [nodeO] at h1
  obtain ⟨rfl, rfl, rfl, rfl, rfl⟩ := h1
  exact ⟨rfl, rfl⟩
/-- A pointer leads to one list. -/
theorem ll_one {w : World} {g : Nat} : ∀ {l l' : List R4} {p : Option Addr}, LL w g p l → LL w g p l' → l = l'
  | [], [], _, _, _ => rfl
  | [], r :: rs, p, h, ⟨b, q, hp, _⟩ => by rw [show p = none from h] at hp; cases hp
  | r :: rs, [], p, ⟨b, q, hp, _⟩, h => by rw [show p = none from h] at hp; cases hp
  | r :: rs, r' :: rs', p, ⟨b, q, hp, _, hb, hr⟩, ⟨b', q', hp', _, hb', hr'⟩ => by
    rw [hp] at hp'
    cases hp'
    rw [hb] at hb'
    obtain ⟨rfl, rfl⟩ := node_inj (Option.some.inj hb')
    rw [ll_one hr hr']
theorem nodes_drop {w : World} {g : Nat} {l : List R4} {f : Nat → Nat} (hn : Nodes w g l f) (k : Nat) (hk : k ≤ l.length) : LL w g (ptrAt l.length f k) (l.drop k) := by
  have hl : (l.drop k).length = l.length - k := List.length_drop
  have h : Nodes w g (l.drop k) (fun i => f (i + k)) := fun i hi => by
    have hik : i + k < l.length := by omega
    obtain ⟨h1, h2⟩ := hn (i + k) hik
    refine ⟨h1, ?_⟩
    have e1 : ruAt (l.drop k) i = ruAt l (i + k) := by
      rw [ruAt_lt hi, ruAt_lt hik]
      simp [Nat.add_comm]
    have e2 : ptrAt (l.drop k).length (fun i => f (i + k)) (i + 1) = ptrAt l.length f (i + k + 1) := by
      unfold ptrAt
      dsimp only
      rw [hl, show i + 1 + k = i + k + 1 from by omega]
      by_cases hc : i + k + 1 < l.length
      · rw [if_pos hc, if_pos (by omega)]
      · rw [if_neg hc, if_neg (by omega)]
    rw [e1, e2]
    exact h2
  have := nodes_ll h
  have e : ptrAt (l.drop k).length (fun i => f (i + k)) 0 = ptrAt l.length f k := by
    unfold ptrAt
    dsimp only
    rw [hl, Nat.zero_add]
    by_cases hc : k < l.length
    · rw [if_pos hc, if_pos (by omega)]
    · rw [if_neg hc, if_neg (by omega)]
  rw [e] at this
  exact this
/-- Two nodes are never one. -/
theorem nodes_apart {w : World} {g : Nat} {l : List R4} {f : Nat → Nat} (hn : Nodes w g l f) {i j : Nat} (hi : i < l.length) (hj : j < l.length) (he : f i = f j) : i = j := by
  have h1 := nodes_drop hn i (by omega)
  have h2 := nodes_drop hn j (by omega)
  have e : ptrAt l.length f i = ptrAt l.length f j := by simp [ptrAt, hi, hj, he]
  rw [e] at h1
  have := congrArg List.length (ll_one h1 h2)
  simp at this
  omega
/-- The block of the node behind which number k stands: the root ahead of all. -/
def prevAt (g : Nat) (f : Nat → Nat) (k : Nat) : Nat := if k = 0 then g else f (k - 1)
/-- The root and the nodes. -/
def Root (w : World) (g : Nat) (l : List R4) (f : Nat → Nat) : Prop := w.heap[g]? = some (nodeO zR (ptrAt l.length f 0)) ∧ Nodes w (g + 1) l f
theorem lr_root {w : World} {g : Nat} {l : List R4} (h : LR w g l) : ∃ f, Root w g l f := by
  obtain ⟨q, h1, h2⟩ := h
  obtain ⟨f, rfl, hn⟩ := ll_nodes h2
  exact ⟨f, h1, hn⟩
theorem root_lr {w : World} {g : Nat} {l : List R4} {f : Nat → Nat} (h : Root w g l f) : LR w g l := ⟨_, h.1, nodes_ll h.2⟩
/-- What lies at the node behind which number k stands. -/
theorem root_prev {w : World} {g : Nat} {l : List R4} {f : Nat → Nat} (h : Root w g l f) {k : Nat} (hk : k ≤ l.length) : ∃ x, w.heap[prevAt g f k]? = some (nodeO x (ptrAt l.length f k)) := by
  unfold prevAt
  by_cases h0 : k = 0
  · subst h0
    exact ⟨zR, h.1⟩
  · rw [if_neg h0]
    have := (h.2 (k - 1) (by omega)).2
    rw [show k - 1 + 1 = k from by omega] at this
    exact ⟨_, this⟩

/-- A rule is put at place k. -/
def insR (l : List R4) (k : Nat) (r : R4) : List R4 := l.take k ++ r :: l.drop k
theorem insR_len (l : List R4) (k : Nat) (r : R4) (hk : k ≤ l.length) : (insR l k r).length = l.length + 1 := by simp [insR]; omega
theorem insR_at (l : List R4) {k : Nat} (r : R4) (hk : k ≤ l.length) {i : Nat} (hi : i < l.length + 1) : ruAt (insR l k r) i = if i < k then ruAt l i else if i = k then r else ruAt l (i - 1) := by
  have ht : (l.take k).length = k := by simp; omega
  unfold ruAt insR
  rw [List.getD_eq_getElem?_getD]
  by_cases h1 : i < k
  · rw [if_pos h1, List.getElem?_append_left (by omega), List.getElem?_take_of_lt h1, List.getD_eq_getElem?_getD]
  · rw [if_neg h1, List.getElem?_append_right (by omega), ht]
    by_cases h2 : i = k
    · subst h2
      simp
    · rw [if_neg h2]
      obtain ⟨j, hj⟩ : ∃ j, i - k = j + 1 := ⟨i - k - 1, by omega⟩
      rw [hj, List.getElem?_cons_succ, List.getElem?_drop, List.getD_eq_getElem?_getD, show k + j = i - 1 from by omega]
/-- A node with a rule is laid behind the node behind which number k stands. -/
theorem root_ins {w w' : World} {g : Nat} {l : List R4} {f : Nat → Nat} (h : Root w g l f) {k : Nat} (hk : k ≤ l.length) {x r : R4} {nb : Nat} (hx : w.heap[prevAt g f k]? = some (nodeO x (ptrAt l.length f k))) (hnb : w.heap.size ≤ nb)
    (h1 : w'.heap[prevAt g f k]? = some (nodeO x (some ⟨nb, 0, none⟩))) (h2 : w'.heap[nb]? = some (nodeO r (ptrAt l.length f k))) (h3 : ∀ b y z, b ≠ prevAt g f k → w.heap[b]? = some (nodeO y z) → w'.heap[b]? = some (nodeO y z)) : LR w' g (insR l k r) := by
  have hlt : ∀ i, i < l.length → f i < w.heap.size := fun i hi => (Array.getElem?_eq_some_iff.1 (h.2 i hi).2).1
  have hgs : g < w.heap.size := (Array.getElem?_eq_some_iff.1 h.1).1
  have hgf : ∀ i, i < l.length → f i ≠ g := fun i hi e => by have := (h.2 i hi).1; omega
  have hlen := insR_len l k r hk
  refine root_lr (f := fun i => if i < k then f i else if i = k then nb else f (i - 1)) ⟨?_, fun i hi => ?_⟩
  · by_cases h0 : k = 0
    · subst h0
      have e : prevAt g f 0 = g := rfl
      rw [e] at hx h1
      rw [h.1] at hx
      obtain ⟨rfl, -⟩ := node_inj (Option.some.inj hx)
      rw [h1, hlen]
      simp [ptrAt]
    · have hne : g ≠ prevAt g f k := by
        unfold prevAt
        rw [if_neg h0]
        exact fun e => hgf (k - 1) (by omega) e.symm
      rw [h3 g _ _ hne h.1, hlen]
      have : 0 < l.length := by omega
      simp [ptrAt, this, show 0 < k from by omega]
  · rw [hlen] at hi
    have hat := insR_at l r hk hi
    have hpt : ptrAt (insR l k r).length (fun i => if i < k then f i else if i = k then nb else f (i - 1)) (i + 1) = if i + 1 < k then some ⟨f (i + 1), 0, none⟩ else if i + 1 = k then some ⟨nb, 0, none⟩ else ptrAt l.length f i := by
      unfold ptrAt
      rw [hlen]
      by_cases c1 : i + 1 < k
      · simp [c1]; omega
      · by_cases c2 : i + 1 = k
        · simp [c2]; omega
        · have c3 : ¬ k = i + 1 := fun e => c2 e.symm
          by_cases c4 : i < l.length
          · simp [c1, c2, c4]
          · simp [c1, c2, c4]
    rw [hat, hpt]
    by_cases c1 : i < k
    · have hil : i < l.length := by omega
      simp only [if_pos c1]
      refine ⟨(h.2 i hil).1, ?_⟩
      by_cases c2 : i + 1 = k
      · have hp : prevAt g f k = f i := by unfold prevAt; rw [if_neg (by omega), show k - 1 = i from by omega]
        rw [hp] at hx h1
        rw [(h.2 i hil).2] at hx
        obtain ⟨hxr, -⟩ := node_inj (Option.some.inj hx)
        rw [hxr, h1, if_neg (by omega), if_pos c2]
      · have hne : f i ≠ prevAt g f k := by
          unfold prevAt
          rw [if_neg (by omega)]
          exact fun e => by have := nodes_apart h.2 hil (show k - 1 < l.length by omega) e; omega
        rw [h3 _ _ _ hne (h.2 i hil).2, if_pos (by omega)]
        simp [ptrAt, show i + 1 < l.length from by omega]
    · by_cases c2 : i = k
      · subst c2
        simp only [Nat.lt_irrefl, if_false, if_true]
        refine ⟨by omega, ?_⟩
        rw [h2, if_neg (by omega), if_neg (by omega)]
      · simp only [if_neg c1, if_neg c2]
        have hil : i - 1 < l.length := by omega
        refine ⟨(h.2 (i - 1) hil).1, ?_⟩
        have hne : f (i - 1) ≠ prevAt g f k := by
          unfold prevAt
          by_cases h0 : k = 0
          · rw [if_pos h0]; exact hgf _ hil
          · rw [if_neg h0]
            exact fun e => by have := nodes_apart h.2 hil (show k - 1 < l.length by omega) e; omega
        have := h3 _ _ _ hne (h.2 (i - 1) hil).2
        rw [show i - 1 + 1 = i from by omega] at this
        rw [this, if_neg (by omega), if_neg (by omega)]

end Go.Proofs.YtennaeboemlnoaaDoor

namespace Go.Proofs.YtennaeboemlnoaaDoor
open Go.ChangeShapes Go.WideShapes Go.ChangeAt Go.RowKit Go.Joins
set_option linter.unusedVariables false

theorem Root.below {w w' : World} {g : Nat} {l : List R4} {f : Nat → Nat} (h : Root w g l f) (hb : Below w.heap.size w w') : Root w' g l f :=
  ⟨(hb.block g (Array.getElem?_eq_some_iff.1 h.1).1).trans h.1, fun i hi => ⟨(h.2 i hi).1, (hb.block _ (Array.getElem?_eq_some_iff.1 (h.2 i hi).2).1).trans (h.2 i hi).2⟩⟩
/-- Where a rule stands: behind k rules of a list. -/
def Stand (l : List R4) (r : R4) (k : Nat) : Prop := k ≤ l.length ∧ (∀ j, j < k → cmR (ruAt l j) r < 0) ∧ (k < l.length → 0 ≤ cmR (ruAt l k) r)

theorem prev_inj {w : World} {g : Nat} {l : List R4} {f : Nat → Nat} (h : Root w g l f) {i j : Nat} (hi : i ≤ l.length) (hj : j ≤ l.length) (he : prevAt g f i = prevAt g f j) : i = j := by
  unfold prevAt at he
  by_cases h0 : i = 0
  · by_cases h1 : j = 0
    · omega
    · rw [if_pos h0, if_neg h1] at he
      have := (h.2 (j - 1) (by omega)).1
      omega
  · by_cases h1 : j = 0
    · rw [if_neg h0, if_pos h1] at he
      have := (h.2 (i - 1) (by omega)).1
      omega
    · rw [if_neg h0, if_neg h1] at he
      have := nodes_apart h.2 (show i - 1 < l.length by omega) (show j - 1 < l.length by omega) he
      omega
def blkOf : Value → Nat | .pointer (some a) => a.block | _ => 0
/-- How many rules are left behind a node. -/
def leftN (g : Nat) (f : Nat → Nat) (n : Nat) (p : Value) : Nat := n - (List.range (n + 1)).findIdx (fun k => prevAt g f k == blkOf p)
theorem leftN_eq {w : World} {g : Nat} {l : List R4} {f : Nat → Nat} (h : Root w g l f) {k : Nat} (hk : k ≤ l.length) : leftN g f l.length (.pointer (some ⟨prevAt g f k, 0, none⟩)) = l.length - k := by
  unfold leftN
  have : (List.range (l.length + 1)).findIdx (fun k' => prevAt g f k' == blkOf (.pointer (some ⟨prevAt g f k, 0, none⟩))) = k := by
    rw [List.findIdx_eq (by simp; omega)]
    refine ⟨by simp [blkOf], fun j hj => ?_⟩
    simp only [List.getElem_range, blkOf]
    rw [beq_eq_false_iff_ne]
    exact fun e => by have := prev_inj h (show j ≤ l.length by omega) hk e; omega
  rw [this]

end Go.Proofs.YtennaeboemlnoaaDoor

namespace Go.Proofs.YtennaeboemlnoaaDoor
open Go.ChangeShapes Go.WideShapes Go.ChangeAt Go.RowKit Go.Joins
set_option linter.unusedVariables false

theorem prev_ge {w : World} {g : Nat} {l : List R4} {f : Nat → Nat} (h : Root w g l f) {k : Nat} (hk : k ≤ l.length) : g ≤ prevAt g f k := by
  unfold prevAt
  by_cases h0 : k = 0
  · rw [if_pos h0]; exact Nat.le_refl _
  · rw [if_neg h0]
    have := (h.2 (k - 1) (by omega)).1
    omega

/-- What is no node stays as it was. -/
def NK (w w' : World) : Prop := ∀ (b : Nat) (o : Obj), w.heap[b]? = some o → (∀ x q, o ≠ nodeO x q) → w'.heap[b]? = some o
theorem NK.bel {w w1 : World} (hb : Below w.heap.size w w1) : NK w w1 := fun k o hk _ => (hb.block k (Array.getElem?_eq_some_iff.1 hk).1).trans hk
theorem NK.put {w w1 : World} (hb : Below w.heap.size w w1) {b : Nat} {x : R4} {q : Option Addr} (hx : w1.heap[b]? = some (nodeO x q)) (v : Value) : NK w (w1.setCell ⟨b, 4, none⟩ v) := fun k o hk ho => by
  have h1 := (hb.block k (Array.getElem?_eq_some_iff.1 hk).1).trans hk
  refine (heap_setCell_other w1 _ k _ (fun e => ho x q ?_)).trans h1
  simp only at e
  rw [e] at h1
  exact Option.some.inj (h1.symm.trans hx)
theorem NK.alloc {w w1 : World} (h : NK w w1) (o' : Obj) : NK w (w1.alloc o') := fun k o hk ho => (Below.heap_alloc w1 o' k (Array.getElem?_eq_some_iff.1 (h k o hk ho)).1).trans (h k o hk ho)

end Go.Proofs.YtennaeboemlnoaaDoor

namespace Go.Proofs.YtennaeboemlnoaaDoor
open Go.ChangeShapes Go.WideShapes Go.ChangeAt Go.RowKit Go.Joins
set_option linter.unusedVariables false

/-- The rule at place k is taken out. -/
def delR (l : List R4) (k : Nat) : List R4 := l.take k ++ l.drop (k + 1)
theorem delR_len (l : List R4) {k : Nat} (hk : k < l.length) : (delR l k).length = l.length - 1 := by simp [delR]; omega
theorem delR_at (l : List R4) {k : Nat} (hk : k < l.length) {i : Nat} : ruAt (delR l k) i = if i < k then ruAt l i else ruAt l (i + 1) := by
  have ht : (l.take k).length = k := by simp; omega
  unfold ruAt delR
  rw [List.getD_eq_getElem?_getD]
  by_cases h1 : i < k
  · rw [if_pos h1, List.getElem?_append_left (by omega), List.getElem?_take_of_lt h1, List.getD_eq_getElem?_getD]
  · rw [if_neg h1, List.getElem?_append_right (by omega), ht, List.getElem?_drop, List.getD_eq_getElem?_getD, show k + 1 + (i - k) = i + 1 from by omega]
/-- The node ahead of number k leads past it. -/
theorem root_del {w w' : World} {g : Nat} {l : List R4} {f : Nat → Nat} (h : Root w g l f) {k : Nat} (hk : k < l.length) {x : R4} (hx : w.heap[prevAt g f k]? = some (nodeO x (ptrAt l.length f k)))
    (h1 : w'.heap[prevAt g f k]? = some (nodeO x (ptrAt l.length f (k + 1)))) (h3 : ∀ b y z, b ≠ prevAt g f k → w.heap[b]? = some (nodeO y z) → w'.heap[b]? = some (nodeO y z)) : LR w' g (delR l k) := by
  have hgf : ∀ i, i < l.length → f i ≠ g := fun i hi e => by have := (h.2 i hi).1; omega
  have hlen := delR_len l hk
  refine root_lr (f := fun i => if i < k then f i else f (i + 1)) ⟨?_, fun i hi => ?_⟩
  · by_cases h0 : k = 0
    · subst h0
      have e : prevAt g f 0 = g := rfl
      rw [e] at hx h1
      rw [h.1] at hx
      obtain ⟨rfl, -⟩ := node_inj (Option.some.inj hx)
      rw [h1, hlen]
      unfold ptrAt
      by_cases c : 1 < l.length
      · have c' : 0 < l.length - 1 := by omega
        simp [c, c']
      · have c' : ¬ 0 < l.length - 1 := by omega
        rw [if_neg c, if_neg c']
    · have hne : g ≠ prevAt g f k := by
        unfold prevAt
        rw [if_neg h0]
        exact fun e => hgf (k - 1) (by omega) e.symm
      rw [h3 g _ _ hne h.1, hlen]
      simp [ptrAt, show 0 < l.length from by omega, show 0 < l.length - 1 from by omega, show 0 < k from by omega]
  · rw [hlen] at hi
    have hpt : ptrAt (delR l k).length (fun i => if i < k then f i else f (i + 1)) (i + 1) = if i + 1 < k then some ⟨f (i + 1), 0, none⟩ else ptrAt l.length f (i + 1 + 1) := by
      unfold ptrAt
      rw [hlen]
      by_cases c1 : i + 1 < k
      · have c5 : i + 1 < l.length - 1 := by omega
        simp [c1, c5]
      · by_cases c4 : i + 1 + 1 < l.length
        · have c5 : i + 1 < l.length - 1 := by omega
          simp [c1, c4, c5]
        · have c5 : ¬ i + 1 < l.length - 1 := by omega
          simp [c1, c4, c5]
    rw [delR_at l hk, hpt]
    by_cases c1 : i < k
    · have hil : i < l.length := by omega
      simp only [if_pos c1]
      refine ⟨(h.2 i hil).1, ?_⟩
      by_cases c2 : i + 1 = k
      · have hp : prevAt g f k = f i := by unfold prevAt; rw [if_neg (by omega), show k - 1 = i from by omega]
        rw [hp] at hx h1
        rw [(h.2 i hil).2] at hx
        obtain ⟨hxr, -⟩ := node_inj (Option.some.inj hx)
        rw [hxr, h1, if_neg (by omega), c2]
      · have hne : f i ≠ prevAt g f k := by
          unfold prevAt
          rw [if_neg (by omega)]
          exact fun e => by have := nodes_apart h.2 hil (show k - 1 < l.length by omega) e; omega
        rw [h3 _ _ _ hne (h.2 i hil).2, if_pos (by omega)]
        simp [ptrAt, show i + 1 < l.length from by omega]
    · simp only [if_neg c1]
      have hil : i + 1 < l.length := by omega
      refine ⟨(h.2 (i + 1) hil).1, ?_⟩
      have hne : f (i + 1) ≠ prevAt g f k := by
        unfold prevAt
        by_cases h0 : k = 0
        · rw [if_pos h0]; exact hgf _ hil
        · rw [if_neg h0]
          exact fun e => by have := nodes_apart h.2 hil (show k - 1 < l.length by omega) e; omega
      rw [h3 _ _ _ hne (h.2 (i + 1) hil).2, if_neg (by omega)]

end Go.Proofs.YtennaeboemlnoaaDoor
