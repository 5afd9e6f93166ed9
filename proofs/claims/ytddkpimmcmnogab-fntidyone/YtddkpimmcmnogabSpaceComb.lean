/-
  Chapter 3, the program: what is kept of two sets, node by node.
-/
import Derived.Test.YtddkpimmcmnogabSpaceNode
namespace Go.Proofs.Ytddkpimmcmnogab
open Go.ChangeShapes Go.WideShapes Go.ChangeAt Go.RowKit Go.Joins
set_option linter.unusedVariables false

theorem Dg.cells {w : World} {b e : Nat} {E : List Nd} (h : Dg w b e E) {z o : Option Addr} {k : Nat} (hk : (z, o, k) ∈ E) :
    w.cell? ⟨k, 0, none⟩ = some (.pointer z) ∧ w.cell? ⟨k, 1, none⟩ = some (.pointer o) ∧ k < w.heap.size ∧ k ≠ b := by
  have hn := (h.node z o k hk).1
  have := duoCells hn
  exact ⟨this.1, this.2.1, (Array.getElem?_eq_some_iff.1 hn).1, h.ne_b hn⟩
theorem trioCells {w : World} {b : Nat} {x y z : Value} {t : TypeId} (h : w.heap[b]? = some (.cells #[x, y, z] t)) : w.cell? ⟨b, 0, none⟩ = some x ∧ w.cell? ⟨b, 1, none⟩ = some y ∧ w.cell? ⟨b, 2, none⟩ = some z := by
  simp [World.cell?, h]

set_option maxRecDepth 100000 in
set_option maxHeartbeats 4000000 in
theorem combine_deep (b e h : Nat) (f t s : Bool) (ih : ∀ (E : List Nd) (p q : Option Addr) (m m' : List Bool) (w : World), Dg w b e E → Rep E e h p m → Rep E e h q m' →
      Calls Try.prog 39 #[.agg #[.map (some b), .pointer (some ⟨e, 0, none⟩)], .pointer p, .pointer q, .agg #[.bool f, .bool t, .bool s]] w fun ex w' => ∃ r, ex = .returned (.pointer r) ∧ Good w w' b e E h r (List.zipWith (keepF f t s) m m'))
    (E : List Nd) (a a' : Nat) (m m' : List Bool) (w : World) (hd : Dg w b e E) (hp : Rep E e (h + 1) (some (adr a)) m) (hq : Rep E e (h + 1) (some (adr a')) m') (hne : a ≠ a') :
    Calls Try.prog 39 #[.agg #[.map (some b), .pointer (some ⟨e, 0, none⟩)], .pointer (some ⟨a, 0, none⟩), .pointer (some ⟨a', 0, none⟩), .agg #[.bool f, .bool t, .bool s]] w fun ex w' => ∃ r, ex = .returned (.pointer r) ∧ Good w w' b e E (h + 1) r (List.zipWith (keepF f t s) m m') := by
  have hdW : Dg ((w.alloc (.cells #[.map (some b), .pointer (some ⟨e, 0, none⟩)] 46)).alloc (.cells #[.bool f, .bool t, .bool s] 83)) b e E := (hd.alloc _).alloc _
  have hgW : w.grownBy ((w.alloc (.cells #[.map (some b), .pointer (some ⟨e, 0, none⟩)] 46)).alloc (.cells #[.bool f, .bool t, .bool s] 83)) (some b) := sTrans (World.grownBy_alloc _ _ _) (World.grownBy_alloc _ _ _)
  have heq := eql_ptr _ (hdW.pk hp.vp) (hdW.pk hq.vp)
  have hnn : ¬ (some (adr a) = some (adr a')) := by
    intro e
    simp only [adr, Option.some.injEq, Addr.mk.injEq, and_true] at e
    exact hne e
  simp only [hnn, decide_false] at heq
  unfold adr at heq
  obtain ⟨z, o, m0, m1, hk, hn, rfl, h0, h1⟩ := hp.parts
  obtain ⟨z', o', m0', m1', hk', hn', rfl, h0', h1'⟩ := hq.parts
  have C := hdW.cells hk
  have C' := hdW.cells hk'
  have hbn : b < w.heap.size := hd.lt_b
  have K1 : ((w.alloc (.cells #[.map (some b), .pointer (some ⟨e, 0, none⟩)] 46)).alloc (.cells #[.bool f, .bool t, .bool s] 83)).heap[w.heap.size]? = some (.cells #[.map (some b), .pointer (some ⟨e, 0, none⟩)] 46) :=
    (Below.heap_alloc _ _ _ (by simp)).trans (newBlockM w _)
  have K2 : ((w.alloc (.cells #[.map (some b), .pointer (some ⟨e, 0, none⟩)] 46)).alloc (.cells #[.bool f, .bool t, .bool s] 83)).heap[w.heap.size + 1]? = some (.cells #[.bool f, .bool t, .bool s] 83) := by
    have := newBlockM (w.alloc (.cells #[.map (some b), .pointer (some ⟨e, 0, none⟩)] 46)) (.cells #[.bool f, .bool t, .bool s] 83)
    simpa using this
  have D1 := duoCells K1
  have D2 := trioCells K2
  have sz : ((w.alloc (.cells #[.map (some b), .pointer (some ⟨e, 0, none⟩)] 46)).alloc (.cells #[.bool f, .bool t, .bool s] 83)).heap.size = w.heap.size + 2 := by simp
  have HA : Hid (∀ W' : World, World.grownBy ((w.alloc (.cells #[.map (some b), .pointer (some ⟨e, 0, none⟩)] 46)).alloc (.cells #[.bool f, .bool t, .bool s] 83)) W' (some b) →
      W'.cell? ⟨a, 0, none⟩ = some (.pointer z) ∧ W'.cell? ⟨a, 1, none⟩ = some (.pointer o) ∧ W'.cell? ⟨a', 0, none⟩ = some (.pointer z') ∧ W'.cell? ⟨a', 1, none⟩ = some (.pointer o') ∧
      W'.cell? ⟨w.heap.size, 0, none⟩ = some (.map (some b)) ∧ W'.cell? ⟨w.heap.size, 1, none⟩ = some (.pointer (some ⟨e, 0, none⟩)) ∧
      W'.cell? ⟨w.heap.size + 1, 0, none⟩ = some (.bool f) ∧ W'.cell? ⟨w.heap.size + 1, 1, none⟩ = some (.bool t) ∧ W'.cell? ⟨w.heap.size + 1, 2, none⟩ = some (.bool s)) := fun W' hg =>
    ⟨(sCell hg 0 C.2.2.1 C.2.2.2).trans C.1, (sCell hg 1 C.2.2.1 C.2.2.2).trans C.2.1, (sCell hg 0 C'.2.2.1 C'.2.2.2).trans C'.1, (sCell hg 1 C'.2.2.1 C'.2.2.2).trans C'.2.1,
      (sCell hg 0 (by omega) (by omega)).trans D1.1, (sCell hg 1 (by omega) (by omega)).trans D1.2.1,
      (sCell hg 0 (by omega) (by omega)).trans D2.1, (sCell hg 1 (by omega) (by omega)).trans D2.2.1, (sCell hg 2 (by omega) (by omega)).trans D2.2.2⟩
  have HC0 : Hid (∀ W, Dg W b e E → Calls Try.prog 39 #[.agg #[.map (some b), .pointer (some ⟨e, 0, none⟩)], .pointer z, .pointer z', .agg #[.bool f, .bool t, .bool s]] W fun ex w' => ∃ r, ex = .returned (.pointer r) ∧ Good W w' b e E h r (List.zipWith (keepF f t s) m0 m0')) := fun W hW => ih E z z' m0 m0' W hW h0 h0'
  have HC1 : Hid (∀ W E1, (∀ x, x ∈ E → x ∈ E1) → Dg W b e E1 → Calls Try.prog 39 #[.agg #[.map (some b), .pointer (some ⟨e, 0, none⟩)], .pointer o, .pointer o', .agg #[.bool f, .bool t, .bool s]] W fun ex w' => ∃ r, ex = .returned (.pointer r) ∧ Good W w' b e E1 h r (List.zipWith (keepF f t s) m1 m1')) := fun W E1 hs hW => ih E1 o o' m1 m1' W hW (h1.mono hs) (h1'.mono hs)
  have HDW := Lib.hid hdW.drew
  have HG := Lib.hid hgW
  have HZ : Hid (List.zipWith (keepF f t s) (m0 ++ m1) (m0' ++ m1') = List.zipWith (keepF f t s) m0 m0' ++ List.zipWith (keepF f t s) m1 m1') := zipWith_app (by rw [h0.len, h0'.len])
  clear hd hp hq hdW hgW hne hnn hk hn h0 h1 hk' hn' h0' h1' C C' hbn K1 K2 D1 D2 sz ih
  go_enter Try.func39, Try.ntmps39
  go_wp2_with fail
  clear heq
  generalize ((w.alloc (.cells #[.map (some b), .pointer (some ⟨e, 0, none⟩)] 46)).alloc (.cells #[.bool f, .bool t, .bool s] 83)) = W at *
  go_region_held3 (fun W' => W'.cell? ⟨a, 0, none⟩ = some (.pointer z) ∧ W'.cell? ⟨a, 1, none⟩ = some (.pointer o) ∧ W'.cell? ⟨a', 0, none⟩ = some (.pointer z') ∧ W'.cell? ⟨a', 1, none⟩ = some (.pointer o') ∧
      W'.cell? ⟨w.heap.size, 0, none⟩ = some (.map (some b)) ∧ W'.cell? ⟨w.heap.size, 1, none⟩ = some (.pointer (some ⟨e, 0, none⟩)) ∧
      W'.cell? ⟨w.heap.size + 1, 0, none⟩ = some (.bool f) ∧ W'.cell? ⟨w.heap.size + 1, 1, none⟩ = some (.bool t) ∧ W'.cell? ⟨w.heap.size + 1, 2, none⟩ = some (.bool s))
    (first | exact HA.out _ (sOf _ (Below.refl _ W).drew) | exact HA.out _ G3.out | exact HA.out _ G2.out | exact HA.out _ G1.out)
    (first
      | (go_at_call 39; ((with_reducible refine (HC0.out _ HDW.out).mono ?_); rintro ex w1 ⟨r0, rfl, E1, s1, d1, R1, g1⟩; have S1 := Lib.hid s1; have DD1 := Lib.hid d1; have RR1 := Lib.hid R1; have G1 : Hid (World.grownBy W w1 (some b)) := sTrans (sOf _ (Below.refl _ W).drew) g1; clear s1 d1 R1 g1))
      | (go_at_call 39; ((with_reducible refine (HC1.out _ _ S1.out DD1.out).mono ?_); rintro ex w2 ⟨r1, rfl, E2, s2, d2, R2, g2⟩; have S2 := Lib.hid s2; have DD2 := Lib.hid d2; have RR2 := Lib.hid R2; have G2 : Hid (World.grownBy W w2 (some b)) := sTrans G1.out g2; clear s2 d2 R2 g2))
      | (go_at_call 48; ((with_reducible refine (node_any _ _ _ _ _ _ _ _ _ DD2.out (RR1.out.mono S2.out) RR2.out).mono ?_); rintro ex w3 ⟨r2, rfl, E3, s3, d3, R3, g3⟩; have S3 := Lib.hid s3; have DD3 := Lib.hid d3; have RR3 := Lib.hid R3; have G3 : Hid (World.grownBy W w3 (some b)) := sTrans G2.out g3; clear s3 d3 R3 g3)))
  go_wp2
  go_ret
  exact ⟨_, rfl, E3, fun x hx => S3.out x (S2.out x (S1.out x hx)), DD3.out, by rw [HZ.out]; exact RR3.out, sTrans HG.out G3.out⟩

theorem combine_any (b e : Nat) (f t s : Bool) : ∀ (h : Nat) (E : List Nd) (p q : Option Addr) (m m' : List Bool) (w : World), Dg w b e E → Rep E e h p m → Rep E e h q m' →
      Calls Try.prog 39 #[.agg #[.map (some b), .pointer (some ⟨e, 0, none⟩)], .pointer p, .pointer q, .agg #[.bool f, .bool t, .bool s]] w fun ex w' => ∃ r, ex = .returned (.pointer r) ∧ Good w w' b e E h r (List.zipWith (keepF f t s) m m')
  | h, E, p, none, m, m', w, hd, hp, hq => combine_plain b e h f t s E p none m m' w hd hp hq (.inr (.inl rfl))
  | h, E, none, some q, m, m', w, hd, hp, hq => combine_plain b e h f t s E none (some q) m m' w hd hp hq (.inr (.inr rfl))
  | 0, E, some p, some q, m, m', w, hd, hp, hq => combine_plain b e 0 f t s E (some p) (some q) m m' w hd hp hq (.inl (by rw [hp.1, hq.1]))
  | h + 1, E, some p, some q, m, m', w, hd, hp, hq => by
    obtain ⟨a, rfl⟩ := hp.adr_of
    obtain ⟨a', rfl⟩ := hq.adr_of
    by_cases hne : a = a'
    · subst hne
      exact combine_plain b e (h + 1) f t s E _ _ m m' w hd hp hq (.inl rfl)
    · exact combine_deep b e h f t s (fun E p q m m' w hd hp hq => combine_any b e f t s h E p q m m' w hd hp hq) E a a' m m' w hd hp hq hne

end Go.Proofs.Ytddkpimmcmnogab
