/-
  Chapter 3, the program's nodes: a node is made once for its parts; the set of a pattern; what is kept of two sets.
-/
import Derived.Test.YtddkpimmcmnogabSpaceMap
import Derived.Test.YtddkpimmcmnogabWildMask
import Derived.Deep.RegionHeld3
namespace Go.Proofs.Ytddkpimmcmnogab
open Go.ChangeShapes Go.WideShapes Go.ChangeAt Go.RowKit Go.Joins
set_option linter.unusedVariables false

theorem sTrans {a b c : World} {row : Option Nat} (h : a.grownBy b row) (k : b.grownBy c row) : a.grownBy c row :=
  ⟨k.os.trans h.os, k.tape.trans h.tape, k.output.trans h.output, Nat.le_trans h.size k.size, fun i hi hne => (k.block i (Nat.lt_of_lt_of_le hi h.size) hne).trans (h.block i hi hne)⟩
theorem sCell {a w : World} {g : Nat} (h : a.grownBy w (some g)) {b : Nat} (o : Nat) (hb : b < a.heap.size) (hne : b ≠ g) : w.cell? ⟨b, o, none⟩ = a.cell? ⟨b, o, none⟩ :=
  World.cell?_of_block (w := a) (h.block b hb (by intro e; cases e; exact hne rfl))
theorem sBel {a w : World} {g N : Nat} (h : a.grownBy w (some g)) (hN : N ≤ g) (hs : N ≤ a.heap.size) : Below N a w :=
  ⟨h.os, h.tape, h.output, h.size, fun k hk => h.block k (by omega) (by intro e; cases e; omega)⟩
theorem sOf {a w : World} (g : Option Nat) (h : Below a.heap.size a w) : a.grownBy w g := ⟨h.os, h.tape, h.output, h.size, fun k hk _ => h.block k hk⟩
theorem Dg.drew {w : World} {b e : Nat} {E : List Nd} (h : Dg w b e E) : Dg w.drew b e E := ⟨h.last, h.map, h.node, h.uniq⟩

def dV (b e : Nat) : Value := .agg #[.map (some b), .pointer (some (adr e))]
/-- What a call on a diagram leaves: a pointer that is the set m; the nodes that were there are there. -/
def Good (w w' : World) (b e : Nat) (E : List Nd) (h : Nat) (p : Option Addr) (m : List Bool) : Prop :=
  ∃ E', (∀ x, x ∈ E → x ∈ E') ∧ Dg w' b e E' ∧ Rep E' e h p m ∧ w.grownBy w' (some b)

set_option maxRecDepth 100000 in
set_option maxHeartbeats 2000000 in
theorem node_go (w : World) (b e h : Nat) (E : List Nd) (z o : Option Addr) (m0 m1 : List Bool) (hd : Dg w b e E) (h0 : Rep E e h z m0) (h1 : Rep E e h o m1) (hn : z ≠ none ∨ o ≠ none) :
    Calls Try.prog 48 #[.agg #[.map (some b), .pointer (some ⟨e, 0, none⟩)], .pointer z, .pointer o] w fun ex w' => ∃ p, ex = .returned (.pointer p) ∧ Good w w' b e E (h + 1) p (m0 ++ m1) := by
  have HN := Lib.hid hn
  have hdW : Dg ((w.alloc (.cells #[.map (some b), .pointer (some ⟨e, 0, none⟩)] 46)).alloc (.cells #[.pointer z, .pointer o] 78)) b e E := (hd.alloc _).alloc _
  have hsz : (w.alloc (.cells #[.map (some b), .pointer (some ⟨e, 0, none⟩)] 46)).heap.size = w.heap.size + 1 := by simp
  have hgW : w.grownBy ((w.alloc (.cells #[.map (some b), .pointer (some ⟨e, 0, none⟩)] 46)).alloc (.cells #[.pointer z, .pointer o] 78)) (some b) := sTrans (World.grownBy_alloc _ _ _) (World.grownBy_alloc _ _ _)
  have hk : ((w.alloc (.cells #[.map (some b), .pointer (some ⟨e, 0, none⟩)] 46)).alloc (.cells #[.pointer z, .pointer o] 78)).heap[w.heap.size + 1]? = some (.cells #[.pointer z, .pointer o] 78) := by
    have := newBlockM (w.alloc (.cells #[.map (some b), .pointer (some ⟨e, 0, none⟩)] 46)) (.cells #[.pointer z, .pointer o] 78)
    rw [hsz] at this
    exact this
  have hnew : ∀ z' o', (z', o', w.heap.size + 1) ∉ E := fun z' o' hm => by
    have := (Array.getElem?_eq_some_iff.1 (hd.node _ _ _ hm).1).1
    omega
  obtain ⟨p, ok, hrun, hh⟩ := hdW.look h0.vp h1.vp
  have HG := Lib.hid hgW
  have HD := Lib.hid hdW
  have H0 := Lib.hid h0
  have H1 := Lib.hid h1
  rcases hh with ⟨rfl, k, rfl, hkE⟩ | ⟨rfl, rfl, hno⟩
  · have HK := Lib.hid hkE
    unfold keyV at hrun
    clear hd hgW hdW h0 h1 hsz hk hnew hkE
    cases z <;> cases o
    · simp at hn
    all_goals
      clear hn
      go_enter Try.func48, Try.ntmps48
      go_wp2
      go_ret
      exact ⟨some (adr k), rfl, E, fun x hx => hx, HD.out, ⟨_, _, k, m0, m1, rfl, HK.out, HN.out, rfl, H0.out, H1.out⟩, HG.out⟩
  · obtain ⟨w', hput, hd', hg'⟩ := hdW.put h0.vp h1.vp hno hk hnew
    have HD' := Lib.hid hd'
    have HG' := Lib.hid hg'
    unfold keyV at hrun
    unfold keyV adr at hput
    clear hd hgW hdW h0 h1 hsz hk hnew hno hd' hg'
    cases z <;> cases o
    · simp at hn
    all_goals
      clear hn
      go_enter Try.func48, Try.ntmps48
      go_wp2
      go_ret
      exact ⟨some (adr (w.heap.size + 1)), rfl, _, fun x hx => List.mem_append_left _ hx, HD'.out, ⟨_, _, w.heap.size + 1, m0, m1, rfl, List.mem_append_right _ (List.mem_singleton.2 rfl), HN.out, rfl, H0.out.mono (fun x hx => List.mem_append_left _ hx), H1.out.mono (fun x hx => List.mem_append_left _ hx)⟩, sTrans HG.out HG'.out⟩

set_option maxHeartbeats 2000000 in
theorem node_any (w : World) (b e h : Nat) (E : List Nd) (z o : Option Addr) (m0 m1 : List Bool) (hd : Dg w b e E) (h0 : Rep E e h z m0) (h1 : Rep E e h o m1) :
    Calls Try.prog 48 #[.agg #[.map (some b), .pointer (some ⟨e, 0, none⟩)], .pointer z, .pointer o] w fun ex w' => ∃ p, ex = .returned (.pointer p) ∧ Good w w' b e E (h + 1) p (m0 ++ m1) := by
  by_cases hn : z = none ∧ o = none
  · obtain ⟨rfl, rfl⟩ := hn
    have HD := Lib.hid hd
    have H0 := Lib.hid h0
    have H1 := Lib.hid h1
    clear hd h0 h1
    go_enter Try.func48, Try.ntmps48
    go_wp2
    go_ret
    exact ⟨none, rfl, E, fun x hx => hx, HD.out.alloc _, Rep.none_iff.2 (by rw [Rep.none_iff.1 H0.out, Rep.none_iff.1 H1.out, noL_succ]), World.grownBy_alloc _ _ _⟩
  · exact node_go w b e h E z o m0 m1 hd h0 h1 (by
      by_cases hz : z = none
      · exact .inr fun ho => hn ⟨hz, ho⟩
      · exact .inl hz)

theorem keptNode_any (w : World) (p : Option Addr) (k : Bool) :
    Calls Try.prog 47 #[.pointer p, .bool k] w fun ex w' => ex = .returned (.pointer (bif k then p else none)) ∧ w' = w := by
  cases k <;>
  · go_enter Try.func47, Try.ntmps47
    go_wp2
    go_ret
    exact ⟨rfl, rfl⟩

/-- Where nothing is to be put together. -/
theorem kept_same {E : List Nd} {e h : Nat} {p : Option Addr} {m : List Bool} (f t s : Bool) (hr : Rep E e h p m) : Rep E e h (bif t then p else none) (List.zipWith (keepF f t s) m m) := by
  rw [zip_same (keepF f t s) t rfl rfl m, hr.len]
  cases t
  · exact Rep.none_iff.2 rfl
  · exact hr
theorem kept_first {E : List Nd} {e h : Nat} {p : Option Addr} {m m' : List Bool} (f t s : Bool) (hr : Rep E e h p m) (hq : Rep E e h none m') : Rep E e h (bif f then p else none) (List.zipWith (keepF f t s) m m') := by
  have := zip_no (keepF f t s) f rfl rfl m
  rw [hr.len] at this
  rw [Rep.none_iff.1 hq]
  unfold noL
  rw [this]
  cases f
  · exact Rep.none_iff.2 rfl
  · exact hr
theorem kept_second {E : List Nd} {e h : Nat} {p : Option Addr} {m m' : List Bool} (f t s : Bool) (hr : Rep E e h p m') (hq : Rep E e h none m) : Rep E e h (bif s then p else none) (List.zipWith (keepF f t s) m m') := by
  have := no_zip (keepF f t s) s rfl rfl m'
  rw [hr.len] at this
  rw [Rep.none_iff.1 hq]
  unfold noL
  rw [this]
  cases s
  · exact Rep.none_iff.2 rfl
  · exact hr

set_option maxRecDepth 100000 in
set_option maxHeartbeats 4000000 in
theorem combine_plain (b e h : Nat) (f t s : Bool) (E : List Nd) (p q : Option Addr) (m m' : List Bool) (w : World) (hd : Dg w b e E) (hp : Rep E e h p m) (hq : Rep E e h q m') (hc : p = q ∨ q = none ∨ p = none) :
    Calls Try.prog 39 #[.agg #[.map (some b), .pointer (some ⟨e, 0, none⟩)], .pointer p, .pointer q, .agg #[.bool f, .bool t, .bool s]] w fun ex w' => ∃ r, ex = .returned (.pointer r) ∧ Good w w' b e E h r (List.zipWith (keepF f t s) m m') := by
  have hdW : Dg ((w.alloc (.cells #[.map (some b), .pointer (some ⟨e, 0, none⟩)] 46)).alloc (.cells #[.bool f, .bool t, .bool s] 83)) b e E := (hd.alloc _).alloc _
  have hgW : w.grownBy ((w.alloc (.cells #[.map (some b), .pointer (some ⟨e, 0, none⟩)] 46)).alloc (.cells #[.bool f, .bool t, .bool s] 83)) (some b) := sTrans (World.grownBy_alloc _ _ _) (World.grownBy_alloc _ _ _)
  have heq := eql_ptr _ (hdW.pk hp.vp) (hdW.pk hq.vp)
  have HG := Lib.hid hgW
  have HD := Lib.hid hdW
  by_cases hpq : p = q
  · subst hpq
    obtain rfl := hp.same_set hd.uniq hq
    have HR := Lib.hid (kept_same f t s hp)
    simp only [decide_true] at heq
    clear hd hp hq hdW hgW hc
    go_enter Try.func39, Try.ntmps39
    go_wp2_with (go_at_call 47; refine (keptNode_any _ _ _).mono ?_; rintro ex wq ⟨rfl, rfl⟩)
    go_ret
    exact ⟨_, rfl, E, fun x hx => hx, HD.out, HR.out, HG.out⟩
  · simp only [hpq, decide_false] at heq
    cases q with
    | none =>
      have HR := Lib.hid (kept_first f t s hp hq)
      clear hd hp hq hdW hgW hc hpq
      go_enter Try.func39, Try.ntmps39
      go_wp2_with (go_at_call 47; refine (keptNode_any _ _ _).mono ?_; rintro ex wq ⟨rfl, rfl⟩)
      go_ret
      exact ⟨_, rfl, E, fun x hx => hx, HD.out, HR.out, HG.out⟩
    | some q =>
      cases p with
      | some p => simp [hpq] at hc
      | none =>
        have HR := Lib.hid (kept_second f t s hq hp)
        clear hd hp hq hdW hgW hc hpq
        go_enter Try.func39, Try.ntmps39
        go_wp2_with (go_at_call 47; refine (keptNode_any _ _ _).mono ?_; rintro ex wq ⟨rfl, rfl⟩)
        go_ret
        exact ⟨_, rfl, E, fun x hx => hx, HD.out, HR.out, HG.out⟩

end Go.Proofs.Ytddkpimmcmnogab
