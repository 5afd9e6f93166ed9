/-
  Walks: the map of the packets that were there, with where on the way.
  Walks: the program's loop.
-/
import Derived.Test.YtjjhahhchimmlaaGreatDoorWalkRd
import Derived.Maps.OwnOps
import Derived.Maps.OwnSet
import Derived.Maps.Views
import Derived.DeepKeys4
import Derived.Carry

namespace Go.Proofs.YtjjhahhchimmlaaGreatDoor
open Go.ChangeShapes Go.WideShapes Go.ChangeAt Go.RowKit Go.Joins Go.Maps
set_option linter.unusedVariables false

theorem spotLaw : Keyed Tryz.prog 32 := Keyed.of_law (deep_law_laid laidOut (m := 3) (by omega) (of_decide_eq_true (by kernel_rfl)) (by kernel_rfl) (by kernel_rfl))
theorem zeroI (w : World) : (zeroValue 3).run Tryz.prog w = .ok (.int .i64 0) w   := by kernel_rfl
/-- A packet at a switch can be a key. -/
theorem pk_key {s : Pk} (hs : s.ok) : ∃ kl, keyOf Tryz.prog 32 s.v = some kl := by
  obtain ⟨⟨j, hj, hx, -⟩, ho⟩ := sp_true hs
  obtain ⟨⟨a0, a3⟩, ⟨b0, b3⟩, ⟨c0, c3⟩⟩ := okB_true ho
  obtain ⟨x, a, b, c⟩ := s
  dsimp only at *
  have hx' : x = 1 ∨ x = 2 ∨ x = 3 ∨ x = 4 := by omega
  have ha' : a = 0 ∨ a = 1 ∨ a = 2 ∨ a = 3 := by omega
  have hb' : b = 0 ∨ b = 1 ∨ b = 2 ∨ b = 3 := by omega
  have hc' : c = 0 ∨ c = 1 ∨ c = 2 ∨ c = 3 := by omega
  clear a0 a3 b0 b3 c0 c3 hx hs ho
  suffices h : (keyOf Tryz.prog 32 (.agg #[.int .i64 x, .int .i64 a, .int .i64 b, .int .i64 c])).isSome = true from Option.isSome_iff_exists.1 h
  rcases hx' with rfl | rfl | rfl | rfl <;> rcases ha' with rfl | rfl | rfl | rfl <;> rcases hb' with rfl | rfl | rfl | rfl <;> rcases hc' with rfl | rfl | rfl | rfl <;> kernel_rfl
theorem pk_inj {s u : Pk} (h : s.v = u.v) : s = u := by
  obtain ⟨x, a, b, c⟩ := s
  obtain ⟨x', a', b', c'⟩ := u
  simp [Pk.v] at h
  obtain ⟨rfl, rfl, rfl, rfl⟩ := h
  rfl
/-- Block b is the map of the first packets of F, each with its number. -/
def Vm (w : World) (b : Nat) (F : Nat → Pk) (k : Nat) : Prop :=
  ∃ D : DataW Nat, w.ownsMap Tryz.prog 32 (plainElem Tryz.prog 3) b k D ∧ (∀ i, i < k → ∀ l, keyOf Tryz.prog 32 (F i).v = some l → D.atKey l (.lit (.int .i64 0)) = .lit (.int .i64 i) ∧ Maps.has D l = true) ∧ (∀ l, Maps.has D l = true → ∃ i, i < k ∧ keyOf Tryz.prog 32 (F i).v = some l)
theorem Vm.new (w : World) (F : Nat → Pk) : Vm (w.alloc (.map #[] 0)) w.heap.size F 0 :=
  ⟨.map [], World.ownsMap_made w Tryz.prog 32 _, fun i hi => absurd hi (Nat.not_lt_zero _), fun l hl => by simp [Maps.has] at hl⟩
theorem Vm.lt {w : World} {b k : Nat} {F : Nat → Pk} (h : Vm w b F k) : b < w.heap.size := by
  obtain ⟨D, h1, -⟩ := h
  exact h1.lt
theorem Vm.kept {w w' : World} {b k : Nat} {F : Nat → Pk} {row : Option Nat} (h : Vm w b F k) (hg : w.grownBy w' row) (hne : some b ≠ row) : Vm w' b F k := by
  obtain ⟨D, h1, h2, h3⟩ := h
  exact ⟨D, h1.kept hg hne, h2, h3⟩
theorem Vm.below {w w' : World} {b k : Nat} {F : Nat → Pk} (h : Vm w b F k) (hb : Below w.heap.size w w') : Vm w' b F k :=
  h.kept (row := none) ⟨hb.os, hb.tape, hb.output, hb.size, fun k hk _ => hb.block k hk⟩ (by simp)
theorem Vm.setCell {w : World} {b k : Nat} {F : Nat → Pk} (h : Vm w b F k) {a : Addr} (ha : b ≠ a.block) (u : Value) : Vm (w.setCell a u) b F k := by
  obtain ⟨D, h1, h2, h3⟩ := h
  exact ⟨D, h1.setCell ha u, h2, h3⟩

/-- What a round of follow keeps: the packet's block, the result's, the map, the way. -/
structure FoA (w W : World) (x : Pk) (F : Nat → Pk) (k kk : Nat) (r : Value) : Prop where
  sb : W.heap[w.heap.size]? = some (.cells #[.int .i64 x.x, .int .i64 x.a, .int .i64 x.b, .int .i64 x.c] 32)
  rb : W.heap[w.heap.size + 1]? = some (.cells #[.int .i64 0, .int .i64 0, .int .i64 0, .int .i64 0] 32)
  vm : Vm W (w.heap.size + 2) F k
  row : PkRow W (w.heap.size + 3) r ((List.range kk).map F)
  bel : Below w.heap.size w W
theorem FoA.ne {w W : World} {x : Pk} {F : Nat → Pk} {k kk : Nat} {r : Value} (h : FoA w W x F k kk r) : ∀ q, r.ownBlock = some q → w.heap.size + 2 < q := fun q hq => (h.row.lt q hq).1
theorem FoA.big {w W : World} {x : Pk} {F : Nat → Pk} {k kk : Nat} {r : Value} (h : FoA w W x F k kk r) : w.heap.size + 2 < W.heap.size := h.vm.lt
theorem FoA.below {w W W' : World} {x : Pk} {F : Nat → Pk} {k kk : Nat} {r : Value} (h : FoA w W x F k kk r) (hb : Below W.heap.size W W') : FoA w W' x F k kk r :=
  ⟨(hb.block _ (by have := h.big; omega)).trans h.sb, (hb.block _ (by have := h.big; omega)).trans h.rb, h.vm.below hb, h.row.below hb, belStep h.bel hb⟩
theorem FoA.put {w W W' : World} {x : Pk} {F : Nat → Pk} {k kk : Nat} {r : Value} (h : FoA w W x F k kk r) (hg : W.grownBy W' (some (w.heap.size + 2))) {k' : Nat} (hv : Vm W' (w.heap.size + 2) F k') : FoA w W' x F k' kk r :=
  ⟨(hg.block _ (by have := h.big; omega) (by simp)).trans h.sb, (hg.block _ (by have := h.big; omega) (by simp)).trans h.rb, hv,
    World.ownsRow.kept h.row hg (by
      cases hq : r.ownBlock with
      | none => exact .inl rfl
      | some q => exact .inr (fun e => by have := h.ne q hq; injection e with e; omega)),
    h.bel.trans ⟨hg.os, hg.tape, hg.output, hg.size, fun j hj => hg.block j (by have := h.big; omega) (fun e => by injection e with e; omega)⟩⟩
theorem FoA.app {w W W' : World} {x : Pk} {F : Nat → Pk} {k kk : Nat} {r r' : Value} (h : FoA w W x F k kk r) (hr : PkRow W' (w.heap.size + 3) r' ((List.range kk).map F ++ [F kk])) (hg : W.grownBy W' r.ownBlock) : FoA w W' x F k (kk + 1) r' :=
  ⟨(hg.block _ (by have := h.big; omega) (fun e => by have := h.ne _ e.symm; omega)).trans h.sb, (hg.block _ (by have := h.big; omega) (fun e => by have := h.ne _ e.symm; omega)).trans h.rb,
    h.vm.kept hg (fun e => by have := h.ne _ e.symm; omega), by rw [List.range_succ, List.map_append]; exact hr,
    h.bel.trans ((h.row.mono (Nat.le_add_right _ 3)).belRow hg h.bel.size)⟩
theorem FoA.set {w W : World} {x : Pk} {F : Nat → Pk} {k kk : Nat} {r : Value} (h : FoA w W x F k kk r) (y : Pk) :
    FoA w ((((W.setCell ⟨w.heap.size, 0, none⟩ (.int .i64 y.x)).setCell ⟨w.heap.size, 1, none⟩ (.int .i64 y.a)).setCell ⟨w.heap.size, 2, none⟩ (.int .i64 y.b)).setCell ⟨w.heap.size, 3, none⟩ (.int .i64 y.c)) y F k kk r where
  sb := by
    have := block_setCell (block_setCell (block_setCell (block_setCell h.sb (i := 0) (.int .i64 y.x)) (i := 1) (.int .i64 y.a)) (i := 2) (.int .i64 y.b)) (i := 3) (.int .i64 y.c)
    simpa using this
  rb := by
    refine (Below.heap_setCell _ _ _ _ (by simp)).trans ((Below.heap_setCell _ _ _ _ (by simp)).trans ((Below.heap_setCell _ _ _ _ (by simp)).trans ((Below.heap_setCell _ _ _ _ (by simp)).trans h.rb)))
  vm := (((h.vm.setCell (by simp) _).setCell (by simp) _).setCell (by simp) _).setCell (by simp) _
  row := by
    have hn : ∀ q, r.ownBlock = some q → q ≠ w.heap.size := fun q hq => by have := h.ne q hq; omega
    exact pkOff (pkOff (pkOff (pkOff h.row hn) hn) hn) hn
  bel := (((h.bel.setCell (p := ⟨w.heap.size, 0, none⟩) (Nat.le_refl _) _).setCell (p := ⟨w.heap.size, 1, none⟩) (Nat.le_refl _) _).setCell (p := ⟨w.heap.size, 2, none⟩) (Nat.le_refl _) _).setCell (p := ⟨w.heap.size, 3, none⟩) (Nat.le_refl _) _
/-- The answer's block is written. -/
theorem pkRes {w W : World} {b : Nat} {r : Value} {l : List Pk} (hrb : W.heap[b + 1]? = some (.cells #[.int .i64 0, .int .i64 0, .int .i64 0, .int .i64 0] 32)) (hr : PkRow W (b + 3) r l) (hb : Below b w W) (hw : b ≤ w.heap.size) (y : Pk) :
    ((((W.setCell ⟨b + 1, 0, none⟩ (.int .i64 y.x)).setCell ⟨b + 1, 1, none⟩ (.int .i64 y.a)).setCell ⟨b + 1, 2, none⟩ (.int .i64 y.b)).setCell ⟨b + 1, 3, none⟩ (.int .i64 y.c)).heap[b + 1]? = some (.cells #[.int .i64 y.x, .int .i64 y.a, .int .i64 y.b, .int .i64 y.c] 32) ∧
    PkRow ((((W.setCell ⟨b + 1, 0, none⟩ (.int .i64 y.x)).setCell ⟨b + 1, 1, none⟩ (.int .i64 y.a)).setCell ⟨b + 1, 2, none⟩ (.int .i64 y.b)).setCell ⟨b + 1, 3, none⟩ (.int .i64 y.c)) b r l ∧ Below b w ((((W.setCell ⟨b + 1, 0, none⟩ (.int .i64 y.x)).setCell ⟨b + 1, 1, none⟩ (.int .i64 y.a)).setCell ⟨b + 1, 2, none⟩ (.int .i64 y.b)).setCell ⟨b + 1, 3, none⟩ (.int .i64 y.c)) := by
  have hn : ∀ q, r.ownBlock = some q → q ≠ b + 1 := fun q hq => by have := (hr.lt q hq).1; omega
  refine ⟨?_, (pkOff (pkOff (pkOff (pkOff hr hn) hn) hn) hn).mono (Nat.le_add_right _ 3), (((hb.setCell (p := ⟨b + 1, 0, none⟩) (Nat.le_succ _) _).setCell (p := ⟨b + 1, 1, none⟩) (Nat.le_succ _) _).setCell (p := ⟨b + 1, 2, none⟩) (Nat.le_succ _) _).setCell (p := ⟨b + 1, 3, none⟩) (Nat.le_succ _) _⟩
  have := block_setCell (block_setCell (block_setCell (block_setCell hrb (i := 0) (.int .i64 y.x)) (i := 1) (.int .i64 y.a)) (i := 2) (.int .i64 y.b)) (i := 3) (.int .i64 y.c)
  simpa using this
/-- A packet that is not there is put. -/
theorem Vm.more {w w' : World} {b k : Nat} {F : Nat → Pk} {D : DataW Nat} {kl : Lit} (h1 : w.ownsMap Tryz.prog 32 (plainElem Tryz.prog 3) b k D)
    (h2 : ∀ i, i < k → ∀ l, keyOf Tryz.prog 32 (F i).v = some l → D.atKey l (.lit (.int .i64 0)) = .lit (.int .i64 i) ∧ Maps.has D l = true) (h3 : ∀ l, Maps.has D l = true → ∃ i, i < k ∧ keyOf Tryz.prog 32 (F i).v = some l)
    (hk : keyOf Tryz.prog 32 (F k).v = some kl) (hno : Maps.has D kl = false) (h : w'.ownsMap Tryz.prog 32 (plainElem Tryz.prog 3) b (k + 1) (D.put kl (.lit (.int .i64 k)))) : Vm w' b F (k + 1) := by
  have hkey : WideAt.IsKeyLit kl := spotLaw.key hk
  refine ⟨_, h, fun i hi l hl => ?_, fun l hl => ?_⟩
  · by_cases hik : i = k
    · subst hik
      obtain rfl : kl = l := Option.some.inj (hk.symm.trans hl)
      exact ⟨atKey_put_same h1.isMap hkey _ _, has_put_same h1.isMap hkey _⟩
    · have hne : l ≠ kl := fun e => by
        subst e
        have := (h2 i (by omega) _ hl).2
        rw [hno] at this
        cases this
      rw [atKey_put_other hne, has_put_other hne]
      exact h2 i (by omega) l hl
  · by_cases hne : l = kl
    · subst hne
      exact ⟨k, Nat.lt_succ_self _, hk⟩
    · rw [has_put_other hne] at hl
      obtain ⟨i, hi, h⟩ := h3 l hl
      exact ⟨i, by omega, h⟩

end Go.Proofs.YtjjhahhchimmlaaGreatDoor

namespace Go.Proofs.YtjjhahhchimmlaaGreatDoor
open Go.ChangeShapes Go.WideShapes Go.ChangeAt Go.RowKit Go.Joins Go.Maps
set_option linter.unusedVariables false

/-- What a walk is when it has gone on so far. -/
structure FoR (l : List K4) (L : List (List R4)) (s : Pk) (F : Nat → Pk) : Prop where
  zero : F 0 = s
  succ : ∀ m, F (m + 1) = (stP l L (F m)).1
  all : (∀ i, i < 16 → (stP l L (F i)).2 = 1) → wkL l L 16 s = ((List.range 16).map F, F 16, 4)
  part : ∀ k, k < 16 → (∀ i, i < k → (stP l L (F i)).2 = 1) → (stP l L (F k)).2 ≠ 1 → wkL l L 16 s = ((List.range (k + 1)).map F, (stP l L (F k)).1, (stP l L (F k)).2)
  round : ∀ i k, i < k → (∀ j, j < k → (stP l L (F j)).2 = 1) → F i = F k → (∀ m, i ≤ m → F (m + (k - i)) = F m) ∧ ∀ m, (stP l L (F m)).2 = 1
theorem foR (l : List K4) (L : List (List R4)) (s : Pk) : ∃ F, FoR l L s F := by
  refine ⟨fun i => itP l L i s, rfl, fun m => it_succ l L m s, fun h => wk_all l L 16 s h, fun k hk h hn => ?_, fun i k hik h he => ⟨it_round hik he.symm, it_on hik he.symm h⟩⟩
  have e : 16 = k + ((15 - k) + 1) := by omega
  rw [e, wk_part l L _ k s h, wkL, if_neg hn, List.range_succ, List.map_append]
  rfl

set_option maxRecDepth 100000 in
set_option maxHeartbeats 8000000 in
theorem follow_any (w : World) (g : Nat) (l : List K4) (L : List (List R4)) (s : Pk) (hs : s.ok)
    (hst : ∀ (W : World) (u : Pk), Below w.heap.size w W → u.ok → Calls Tryz.prog 35 #[.pointer (some ⟨g, 0, none⟩), .agg #[.int .i64 u.x, .int .i64 u.a, .int .i64 u.b, .int .i64 u.c]] W fun e w' => e = .returned (.tuple #[(stP l L u).1.v, .int .i64 (stP l L u).2]) ∧ Below W.heap.size W w')
    (hok : ∀ u : Pk, u.ok → (stP l L u).2 = 1 → (stP l L u).1.ok) :
    Calls Tryz.prog 40 #[.func (.func 35) #[.pointer (some ⟨g, 0, none⟩)] #[], .agg #[.int .i64 s.x, .int .i64 s.a, .int .i64 s.b, .int .i64 s.c]] w fun e w' => ∃ r, e = .returned (.tuple #[r, (wkL l L 16 s).2.1.v, .int .i64 (wkL l L 16 s).2.2]) ∧ PkRow w' w.heap.size r (wkL l L 16 s).1 ∧ Below w.heap.size w w' := by
  obtain ⟨F, fo⟩ := foR l L s
  have HFR := Lib.hid fo
  have HST := Lib.hid hst
  have HOK := Lib.hid hok
  have HS0 : Hid (s.ok) := hs
  have hF0 := fo.zero
  clear hst hok hs fo
  unfold Pk.v at HST ⊢
  generalize hR : wkL l L 16 s = R
  have HR := Lib.hid hR
  clear hR
  have HT : Hid (FoA w (((w.alloc (.cells #[.int .i64 s.x, .int .i64 s.a, .int .i64 s.b, .int .i64 s.c] 32)).alloc (.cells #[.int .i64 0, .int .i64 0, .int .i64 0, .int .i64 0] 32)).alloc (.map #[] 0)) s F 0 0 (.slice none 0 0)) := by
    have hb2 := below_alloc2 w (.cells #[.int .i64 s.x, .int .i64 s.a, .int .i64 s.b, .int .i64 s.c] 32) (.cells #[.int .i64 0, .int .i64 0, .int .i64 0, .int .i64 0] 32)
    have h2 := twoBlocks (Below.refl _ ((w.alloc (.cells #[.int .i64 s.x, .int .i64 s.a, .int .i64 s.b, .int .i64 s.c] 32)).alloc (.cells #[.int .i64 0, .int .i64 0, .int .i64 0, .int .i64 0] 32)))
    have hz : ((w.alloc (.cells #[.int .i64 s.x, .int .i64 s.a, .int .i64 s.b, .int .i64 s.c] 32)).alloc (.cells #[.int .i64 0, .int .i64 0, .int .i64 0, .int .i64 0] 32)).heap.size = w.heap.size + 2 := by simp
    generalize ((w.alloc (.cells #[.int .i64 s.x, .int .i64 s.a, .int .i64 s.b, .int .i64 s.c] 32)).alloc (.cells #[.int .i64 0, .int .i64 0, .int .i64 0, .int .i64 0] 32)) = W at *
    have hA := below_alloc1 W (.map #[] 0)
    have hv := Vm.new W F
    rw [hz] at hv
    exact ⟨(hA.block _ (by omega)).trans h2.1, (hA.block _ (by omega)).trans h2.2.1, hv, World.ownsRow_nil _ _ _ _, belStep hb2 hA⟩
  have hmm := @run_makeMap Tryz.prog
  go_enter Tryz.func40, Tryz.ntmps40
  go_wp2_with fail
  generalize (((w.alloc (.cells #[.int .i64 s.x, .int .i64 s.a, .int .i64 s.b, .int .i64 s.c] 32)).alloc (.cells #[.int .i64 0, .int .i64 0, .int .i64 0, .int .i64 0] 32)).alloc (.map #[] 0)) = W0 at *
  go_loopw [8] (fun r wr => ∃ k : Nat, k ≤ 16 ∧ FoA w wr (F k) F k k r ∧ (∀ i, i < k → (stP l L (F i)).2 = 1) ∧ (F k).ok) (fun r _ => 16 - (match r with | .slice _ k _ => k | _ => 0))
  case atStart => exact ⟨0, Nat.zero_le _, by rw [hF0]; exact HT.out, fun i hi => absurd hi (Nat.not_lt_zero _), by rw [hF0]; exact HS0.out⟩
  case round =>
    clear HT HS0 hF0
    obtain ⟨k, hk, hfo, hon, hsok⟩ := hrel
    have HFO := Lib.hid hfo
    have HON := Lib.hid hon
    have HSK : Hid ((F k).ok) := hsok
    obtain ⟨a, c, hv⟩ := hfo.row.shape
    have hlen : ((List.range k).map F).length = k := by simp
    rw [hlen] at hv
    subst hv
    obtain ⟨x0, x1, x2, x3, xf⟩ := quad4 hfo.sb
    obtain ⟨r0, r1, r2, r3, rf⟩ := quad4 hfo.rb
    have g3 := hfo.big
    have g2 : w.heap.size + 1 < wr.heap.size := by omega
    have g1 : w.heap.size < wr.heap.size := by omega
    have hbs := hfo.bel.size
    by_cases hlt : k < 16
    · have hz : (k : Int) < 16 := by omega
      obtain ⟨kl, hkl⟩ := pk_key hsok
      unfold Pk.v at hkl
      obtain ⟨D, o1, o2, o3⟩ := hfo.vm
      have HO2 := Lib.hid o2
      have HO3 := Lib.hid o3
      have HKL := Lib.hid hkl
      have HO1 := Lib.hid o1
      clear hfo hon hsok o1 o2 o3 hkl
      cases hh : Maps.has D kl
      · have HH := Lib.hid hh
        have HWF : Hid ((Lit.int .i64 (k : Int)).wf = true) := (by decide : ∀ j : Fin 16, (Lit.int .i64 (j.val : Int)).wf = true) ⟨k, hlt⟩
        have hpl : ((List.range k).map F).length ≤ 1000 := by rw [hlen]; omega
        clear hh
        go_wp2_with (first
          | (at_lookup; refine wpList_lookup_own_ok_int _ rfl _ _ 110 rfl 32 3 .i64 spotLaw Tryz.underlying110 Tryz.underlying3 (zeroI _) (w.heap.size + 2) k D rfl HO1.out _ _ rfl HKL.out ?_; intro c hat hwc; rw [HH.out]; clear hat hwc)
          | (at_mapUpdate; refine wpList_mapUpdate_own _ rfl _ _ _ 110 rfl 32 3 spotLaw Tryz.underlying110 _ (w.heap.size + 2) k D rfl HO1.out (by unfold maxLen; omega) _ _ kl rfl rfl HKL.out (.lit (.int .i64 k)) [] (plainElem_int Tryz.underlying3 HWF.out) ?_; intro w1 hown1 hg1; have F1 := Lib.hid (HFO.out.put hg1 (Vm.more HO1.out HO2.out HO3.out HKL.out HH.out hown1)); clear hown1 hg1 x0 x1 x2 x3 xf r0 r1 r2 r3 rf g1 g2 g3; obtain ⟨x0, x1, x2, x3, xf⟩ := quad4 F1.out.sb; have g3 := F1.out.big; have g1 : w.heap.size < w1.heap.size := Nat.lt_of_le_of_lt (Nat.le_add_right _ 2) g3; clear HO1 HO2 HO3 HKL HH HWF HFO)
          | (at_builtin; refine app_pk rfl _ _ rfl (w.heap.size + 3) _ ((List.range k).map F) rfl (F1.out.row.below (below_alloc1 _ _)) _ (F k) rfl (pkNew _ (F k)) hpl (by simp; omega) ?_; rintro v' w3 hrow3 hg3 ho3; have F3 := Lib.hid ((F1.out.below (below_alloc1 w1 _)).app hrow3 hg3); clear hrow3 hg3 ho3 x0 x1 x2 x3 xf g1 g3 F1; obtain ⟨x0, x1, x2, x3, xf⟩ := quad4 F3.out.sb; have g3 := F3.out.big; have g1 : w.heap.size < w3.heap.size := Nat.lt_of_le_of_lt (Nat.le_add_right _ 2) g3))
        obtain ⟨t, how, hp⟩ : ∃ t how, stP l L (F k) = (t, how) := ⟨_, _, rfl⟩
        have HC := HST.out w3 (F k) F3.out.bel HSK.out
        have hs1 := HFR.out.succ k
        rw [hp] at HC hs1
        refine HC.mono ?_
        rintro e w4 ⟨rfl, b4⟩
        have F4 := Lib.hid (F3.out.below b4)
        have HP := Lib.hid hp
        have HS1 := Lib.hid hs1
        clear HC hp hs1 b4 x0 x1 x2 x3 xf g1 g3 F3
        obtain ⟨a', c', hv'⟩ := F4.out.row.shape
        have hl1 : ((List.range (k + 1)).map F).length = k + 1 := by simp
        rw [hl1] at hv'
        subst hv'
        obtain ⟨x0, x1, x2, x3, xf⟩ := quad4 F4.out.sb
        obtain ⟨r0, r1, r2, r3, rf⟩ := quad4 F4.out.rb
        have g3 := F4.out.big
        have g2 : w.heap.size + 1 < w4.heap.size := by omega
        have g1 : w.heap.size < w4.heap.size := by omega
        dsimp only
        by_cases hw : how = 1
        · subst hw
          have F5 := Lib.hid (F4.out.set t)
          have hn : (F (k + 1)).ok := by rw [HS1.out]; exact (by have := HOK.out _ HSK.out (by rw [HP.out]); rwa [HP.out] at this)
          have HNO : Hid ((F (k + 1)).ok) := hn
          have HON1 : Hid (∀ i, i < k + 1 → (stP l L (F i)).2 = 1) := fun i hi => by
            by_cases e : i = k
            · subst e; rw [HP.out]
            · exact HON.out i (by omega)
          clear hn F4
          go_wp2
          go_roundw
          case rel =>
            refine ⟨k + 1, by omega, ?_, HON1.out, HNO.out⟩
            rw [HS1.out]
            exact F5.out.below (below_alloc1 _ _)
          case measure => simp; omega
        · have hn : (how != 1) = true := by simp [hw]
          have HE : Hid (R = ((List.range (k + 1)).map F, t, how)) := by
            show _ = _
            have := HFR.out.part k hlt HON.out (by rw [HP.out]; exact hw)
            rw [HP.out] at this
            exact HR.out.symm.trans this
          clear hw
          go_wp2
          go_region_with (fail)
          all_goals
            go_wp2
            obtain ⟨ht, hr, hb⟩ := pkRes (b := w.heap.size) F4.out.rb F4.out.row F4.out.bel (Nat.le_refl _) t
            generalize ((((w4.setCell ⟨w.heap.size + 1, 0, none⟩ (.int .i64 t.x)).setCell ⟨w.heap.size + 1, 1, none⟩ (.int .i64 t.a)).setCell ⟨w.heap.size + 1, 2, none⟩ (.int .i64 t.b)).setCell ⟨w.heap.size + 1, 3, none⟩ (.int .i64 t.c)) = W at ht hr hb ⊢
            have hA := (below_alloc1 W (.cells #[.int .i64 t.x, .int .i64 t.a, .int .i64 t.b, .int .i64 t.c] 32)).drew
            have ht' := (hA.block _ (Array.getElem?_eq_some_iff.1 ht).1).trans ht
            have hr' := hr.below hA
            have hb' := hb.trans (hA.mono hb.size)
            obtain ⟨y0, y1, y2, y3, -⟩ := quad4 ht'
            clear ht hr hb hA ht'
            generalize (W.alloc (.cells #[.int .i64 t.x, .int .i64 t.a, .int .i64 t.b, .int .i64 t.c] 32)).drew = E at *
            exact bodyPost_ret (v := .tuple #[.slice a' (k + 1) c', .agg #[.int .i64 t.x, .int .i64 t.a, .int .i64 t.b, .int .i64 t.c], .int .i64 how]) (by simp [results, Tryz.results40, go_sem, y0, y1, y2, y3]) rfl ⟨_, by rw [HE.out], by rw [HE.out]; exact hr', hb'⟩
      · obtain ⟨i, hi, hik⟩ := HO3.out kl hh
        have hFi : F i = F k := pk_inj (spotLaw.inj hik HKL.out)
        have HAT := Lib.hid (HO2.out i hi kl hik).1
        have HRD := Lib.hid (HFR.out.round i k hi HON.out hFi)
        have HH := Lib.hid hh
        have HE : Hid (R = ((List.range 16).map F, F 16, 4)) := HR.out.symm.trans (HFR.out.all fun i _ => HRD.out.2 i)
        clear hh hik hFi
        go_wp2_with (first
          | (at_lookup; refine wpList_lookup_own_ok_int _ rfl _ _ 110 rfl 32 3 .i64 spotLaw Tryz.underlying110 Tryz.underlying3 (zeroI _) (w.heap.size + 2) k D rfl HO1.out _ _ rfl HKL.out ?_; intro c hat hwc; rw [HH.out]; obtain rfl : c = (i : Int) := (by have := hat.symm.trans HAT.out; injection this with this; injection this); clear hat hwc))
        have HG := goRound_any wr (w.heap.size + 3) _ F k i HFO.out.row (by omega) hi hk HRD.out.1
        unfold Pk.v at HG
        refine HG.mono ?_
        rintro e w1 ⟨q, rfl, hq, b1⟩
        have hrb : w1.heap[w.heap.size + 1]? = _ := (b1.block _ (by omega)).trans HFO.out.rb
        obtain ⟨z0, z1, z2, z3, zf⟩ := quad4 hrb
        have HQ := Lib.hid (pkRes (b := w.heap.size) hrb hq (HFO.out.bel.trans (b1.mono (by omega))) (Nat.le_refl _) (F 16))
        clear HG hq b1 hrb x0 x1 x2 x3 xf r0 r1 r2 r3 rf HFO
        go_wp2
        obtain ⟨ht, hr, hb⟩ := HQ.out
        clear HQ z0 z1 z2 z3 zf
        generalize ((((w1.setCell ⟨w.heap.size + 1, 0, none⟩ (.int .i64 (F 16).x)).setCell ⟨w.heap.size + 1, 1, none⟩ (.int .i64 (F 16).a)).setCell ⟨w.heap.size + 1, 2, none⟩ (.int .i64 (F 16).b)).setCell ⟨w.heap.size + 1, 3, none⟩ (.int .i64 (F 16).c)) = W at ht hr hb ⊢
        obtain ⟨y0, y1, y2, y3, -⟩ := quad4 ht
        clear ht
        exact bodyPost_ret (v := .tuple #[q, .agg #[.int .i64 (F 16).x, .int .i64 (F 16).a, .int .i64 (F 16).b, .int .i64 (F 16).c], .int .i64 4]) (by simp [results, Tryz.results40, go_sem, y0, y1, y2, y3]) rfl ⟨_, by rw [HE.out], by rw [HE.out]; exact hr, hb⟩
    · obtain rfl : k = 16 := by omega
      have HE : Hid (R = ((List.range 16).map F, F 16, 4)) := HR.out.symm.trans (HFR.out.all hon)
      have HRS := Lib.hid (pkRes (b := w.heap.size) hfo.rb hfo.row hfo.bel (Nat.le_refl _) (F 16))
      clear hfo hon hsok
      go_wp2
      go_region_with (fail)
      all_goals
        go_wp2
        obtain ⟨ht, hr, hb⟩ := HRS.out
        clear HRS
        generalize ((((wr.setCell ⟨w.heap.size + 1, 0, none⟩ (.int .i64 (F 16).x)).setCell ⟨w.heap.size + 1, 1, none⟩ (.int .i64 (F 16).a)).setCell ⟨w.heap.size + 1, 2, none⟩ (.int .i64 (F 16).b)).setCell ⟨w.heap.size + 1, 3, none⟩ (.int .i64 (F 16).c)) = W at ht hr hb ⊢
        have hA := (Below.refl W.heap.size W).drew
        have ht' := (hA.block _ (Array.getElem?_eq_some_iff.1 ht).1).trans ht
        have hr' := hr.below hA
        have hb' := hb.trans (hA.mono hb.size)
        obtain ⟨y0, y1, y2, y3, -⟩ := quad4 ht'
        clear ht hr hb hA ht'
        generalize W.drew = E at *
        exact bodyPost_ret (v := .tuple #[.slice a 16 c, .agg #[.int .i64 (F 16).x, .int .i64 (F 16).a, .int .i64 (F 16).b, .int .i64 (F 16).c], .int .i64 4]) (by simp [results, Tryz.results40, go_sem, y0, y1, y2, y3]) rfl ⟨_, by rw [HE.out], by rw [HE.out]; exact hr', hb'⟩

end Go.Proofs.YtjjhahhchimmlaaGreatDoor
