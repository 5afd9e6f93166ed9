/-
  Chapter 3's draws: a space from a reader of codes; two of them.
-/
import Derived.Test.YtndmedkkecikoaaSpaceSp
import Derived.Test.YtndmedkkecikoaaDrawWild
namespace Go.Proofs.Ytndmedkkecikoaa
open Go.ChangeShapes Go.WideShapes Go.ChangeAt Go.RowKit Go.Joins
set_option linter.unusedVariables false

/-- Short texts, not many. -/
def Short (l : List ByteArray) : Prop := l.length ≤ 66 ∧ ∀ s ∈ l, s.size ≤ 8
theorem Short.fit {l : List ByteArray} (h : Short l) : ∀ i, i < l.length → (strAt l i).size ≤ 1048576 := strs_max fun s hs => Nat.le_trans (h.2 s hs) (by omega)
def lenOf : Value → Nat
  | .slice _ n _ => n
  | _ => 0
/-- A space is drawn by the reader at block g. -/
def SpaceDrawn (g B : Nat) (w : World) (e : Ending) (w' : World) : Prop :=
  ∃ (v : Value) (l : List ByteArray), e = .returned v ∧ Short l ∧ StrRow w' w.heap.size v l ∧ RdOk w' g (B + 100) ∧ w.grownBy w' (some g)

theorem StrRow.apart2 {w wr w2 : World} {g : Nat} {v : Value} {l : List ByteArray} (h : StrRow wr w.heap.size v l) (hg : wr.grownBy w2 (some g)) (hlt : g < w.heap.size) : StrRow w2 w.heap.size v l :=
  World.ownsRow.kept h hg (by
    cases hv : v.ownBlock with
    | none => exact .inl rfl
    | some k => exact .inr (fun e => by have := (World.ownsRow.lt h k hv).1; injection e with e; omega))
/-- Behind an append of one text. -/
theorem appended {w w1 w2 : World} {g B : Nat} {o v' : Value} {l : List ByteArray} {t : ByteArray} {tmp : Obj} (hg : g < w.heap.size) (hgr : w.grownBy w1 (some g)) (hrow : StrRow w1 w.heap.size o l) (hr : RdOk w1 g B)
    (hown : w2.ownsRow w.heap.size 9 1 v' (l.length + 1) (l.map Value.string ++ [.string t])) (hg2 : (w1.alloc tmp).grownBy w2 o.ownBlock) :
    StrRow w2 w.heap.size v' (l ++ [t]) ∧ RdOk w2 g B ∧ w.grownBy w2 (some g) := by
  have hs := hgr.size
  have hb : Below w.heap.size (w1.alloc tmp) w2 := grownBelow (World.ownsRow.alloc hrow tmp) hg2 (by simp; omega)
  refine ⟨?_, (hr.alloc tmp).below hb hg, gBelow (gAlloc hgr tmp) hb (Nat.le_refl _)⟩
  show w2.ownsRow _ _ _ _ _ _
  rw [List.length_append, List.map_append]
  exact hown

set_option maxRecDepth 100000 in
set_option maxHeartbeats 4000000 in
theorem l91Space_any (w : World) (g B : Nat) (hr : RdOk w g B) (hB : B ≤ 10000000) :
    Calls Try.prog 52 #[.pointer (some ⟨g, 0, none⟩)] w (SpaceDrawn g B w) := by
  have hlt := hr.lt
  obtain ⟨i0, hi, hz0, hz1, hz2⟩ := info_parts infoStr
  have HI := Lib.hid hi
  have HQ0 := Lib.hid hz0
  have HQ1 := Lib.hid hz1
  have HQ2 := Lib.hid hz2
  clear hi hz0 hz1 hz2
  have HR : Hid (RdOk (w.alloc (.cells #[] 9)) g B) := hr.alloc _
  have HE : Hid (StrRow (w.alloc (.cells #[] 9)) w.heap.size (.slice (some ⟨w.heap.size, 0, none⟩) 0 0) []) := World.ownsRow_made w #[] 0 (Nat.le_refl _) (Nat.zero_le _) rfl
  clear hr
  go_enter Try.func52, Try.ntmps52
  go_wp2_with fail
  refine (pick_any _ _ _ _ HR.out (by omega) (by omega)).mono ?_
  rintro e w1 ⟨v, v0, v1, rfl, hr1, g1⟩
  obtain ⟨n, rfl⟩ : ∃ n : Nat, v = (n : Int) := ⟨v.toNat, by omega⟩
  have hn4 : n ≤ 4 := by omega
  have HR1 := Lib.hid hr1
  have G1 : Hid (w.grownBy w1 (some g)) := gTrans (gAlloc (gRefl _ _) _) g1
  have HE1 : Hid (StrRow w1 w.heap.size (.slice (some ⟨w.heap.size, 0, none⟩) 0 0) []) := HE.out.apart2 g1 hlt
  clear hr1 g1 HR HE v0 v1
  go_wp2
  go_loopw [3, 4] (fun o i wr => ∃ (l : List ByteArray) (k : Nat), i = .int .i64 k ∧ l.length + k ≤ 4 ∧ (∀ s ∈ l, s.size ≤ 8) ∧ StrRow wr w.heap.size o l ∧ RdOk wr g (B + 1 + 8 * l.length) ∧ w.grownBy wr (some g)) (fun _ i _ => (intOf i).toNat)
  case atStart => exact ⟨[], n, rfl, by simp; omega, by simp, HE1.out, HR1.out, G1.out⟩
  case round =>
    clear HE1 HR1 G1
    obtain ⟨l, k, rfl, hlk, hsm, hrow, hrd, hgr⟩ := hrel
    have HSM := Lib.hid hsm
    have HRW := Lib.hid hrow
    have HRD := Lib.hid hrd
    have HGR := Lib.hid hgr
    have s0 := hgr.size
    clear hsm hrow hrd hgr
    by_cases hk0 : 0 < k
    · have hkz : (0 : Int) < (k : Int) := by omega
      go_wp2_with fail
      refine (l91Wild_any _ _ _ HRD.out (by omega)).mono ?_
      rintro e w2 ⟨t, ht, rfl, hr2, g2⟩
      have HR2 := Lib.hid hr2
      have s2 := g2.size
      have G2 : Hid (w.grownBy w2 (some g)) := gTrans HGR.out g2
      have HW2 : Hid (StrRow w2 w.heap.size u3 l) := HRW.out.apart2 g2 hlt
      clear hr2 g2
      go_wp2_with (at_builtin; refine wpList_append_own _ rfl _ _ 23 rfl w.heap.size 9 i0 (.string ⟨#[]⟩) 1 16 Try.underlying23 HI.out HQ0.out HQ1.out HQ2.out rfl (by decide) _ _ _ rfl (World.ownsRow.alloc HW2.out _) ⟨w2.heap.size, 0, none⟩ 1 1 [.string t] rfl rfl ?c1 ?c2 ?c3 ?c4 ?c5 ?_)
      case c1 =>
        intro j u hj
        match j, hj with
        | 0, hj => simp at hj; subst hj; simp [Addr.add]
      case c2 => intro u hu; simp at hu; subst hu; rfl
      case c3 => unfold maxLen; omega
      case c4 => omega
      case c5 => simp; omega
      intro v' w3 hown3 hg3 _
      obtain ⟨q1, q2, q3⟩ := appended hlt G2.out HW2.out HR2.out hown3 hg3
      have Q1 := Lib.hid q1
      have Q2 := Lib.hid q2
      have Q3 := Lib.hid q3
      clear q1 q2 q3 hown3 hg3
      go_wp2
      go_roundw
      case rel =>
        refine ⟨l ++ [t], k - 1, by simp only [Value.int.injEq, true_and]; omega, by simp; omega, fun s hs => ?_, Q1.out, Q2.out.le (by simp; omega), Q3.out⟩
        rcases List.mem_append.1 hs with h | h
        · exact HSM.out s h
        · simp at h; subst h; omega
      case measure => simp [intOf]; omega
    · obtain rfl : k = 0 := by omega
      go_wp2_with fail
      refine (pick_any _ _ _ _ HRD.out (by omega) (by omega)).mono ?_
      rintro e w2 ⟨v, v0, v1, rfl, hr2, g2⟩
      have HR2 := Lib.hid (hr2.le (B' := B + 100) (by omega))
      have s2 := g2.size
      have G2 : Hid (w.grownBy w2 (some g)) := gTrans HGR.out g2
      have HW2 : Hid (StrRow w2 w.heap.size u3 l) := HRW.out.apart2 g2 hlt
      clear hr2 g2 HRW HRD HGR
      by_cases hv : v = 0
      · subst hv
        go_wp2
        go_loopw [3] (fun o wr => ∃ (l : List ByteArray) (a : Option Addr) (cap : Nat), o = .slice a l.length cap ∧ l.length ≤ 65 ∧ (∀ s ∈ l, s.size ≤ 8) ∧ StrRow wr w.heap.size o l ∧ RdOk wr g (B + 100) ∧ w.grownBy wr (some g)) (fun o _ => 65 - lenOf o)
        case atStart =>
          obtain ⟨a, cap, hv, -⟩ := HW2.out.at
          exact ⟨l, a, cap, hv, by omega, HSM.out, HW2.out, HR2.out, G2.out⟩
        case round =>
          clear HW2 HR2 G2 HSM hlk
          obtain ⟨l, a, cap, rfl, hl65, hsm, hrow, hrd, hgr⟩ := hrel
          have HSM := Lib.hid hsm
          have HRW := Lib.hid hrow
          have HRD := Lib.hid hrd
          have HGR := Lib.hid hgr
          have s0 := hgr.size
          clear hsm hrow hrd hgr
          by_cases h64 : l.length ≤ 64
          · have hz : (l.length : Int) ≤ 64 := by omega
            go_wp2_with (at_builtin; refine wpList_append_own _ rfl _ _ 23 rfl w.heap.size 9 i0 (.string ⟨#[]⟩) 1 16 Try.underlying23 HI.out HQ0.out HQ1.out HQ2.out rfl (by decide) _ _ _ rfl (World.ownsRow.alloc HRW.out _) ⟨wr.heap.size, 0, none⟩ 1 1 [.string ⟨#[48, 120, 49, 120, 48, 120]⟩] rfl rfl ?c1 ?c2 ?c3 ?c4 ?c5 ?_)
            case c1 =>
              intro j u hj
              match j, hj with
              | 0, hj => simp at hj; subst hj; simp [Addr.add]
            case c2 => intro u hu; simp at hu; subst hu; rfl
            case c3 => unfold maxLen; omega
            case c4 => omega
            case c5 => simp; omega
            intro v' w3 hown3 hg3 _
            obtain ⟨q1, q2, q3⟩ := appended hlt HGR.out HRW.out HRD.out hown3 hg3
            obtain ⟨a', cap', hv', -⟩ := q1.at
            subst hv'
            have Q1 := Lib.hid q1
            have Q2 := Lib.hid q2
            have Q3 := Lib.hid q3
            clear q1 q2 q3 hown3 hg3
            go_wp2
            go_roundw
            case rel =>
              refine ⟨l ++ [⟨#[48, 120, 49, 120, 48, 120]⟩], a', cap', rfl, by simp; omega, fun s hs => ?_, Q1.out, Q2.out, Q3.out⟩
              rcases List.mem_append.1 hs with h | h
              · exact HSM.out s h
              · simp at h; subst h; decide
            case measure => simp [lenOf]; omega
          · have hz : ¬ (l.length : Int) ≤ 64 := by omega
            go_wp2
            go_ret
            exact ⟨_, l, rfl, ⟨by omega, HSM.out⟩, HRW.out, HRD.out, HGR.out⟩
      · have e0 : (v == 0) = false := by simpa using hv
        go_wp2
        go_ret
        exact ⟨_, l, rfl, ⟨by omega, HSM.out⟩, HW2.out, HR2.out, G2.out⟩

/-- Spaces are drawn from a code. -/
def SpaceFrom (w : World) (e : Ending) (w' : World) : Prop := ∃ v l, e = .returned v ∧ Short l ∧ Strs w' w'.heap.size v l ∧ Below w.heap.size w w'
def SpacesFrom (w : World) (e : Ending) (w' : World) : Prop := ∃ v l v' l', e = .returned (.tuple #[v, v']) ∧ Short l ∧ Short l' ∧ Strs w' w'.heap.size v l ∧ Strs w' w'.heap.size v' l' ∧ Below w.heap.size w w'

set_option maxRecDepth 100000 in
set_option maxHeartbeats 2000000 in
theorem drawSpaceOr_any (w : World) (a : Option Addr) (len cap : Nat) (hb : BytesIn w w.heap.size a len cap) :
    Calls Try.prog 29 #[.slice a len cap] w (SpacesFrom w) := by
  have HB := Lib.hid hb
  clear hb
  go_enter Try.func29, Try.ntmps29
  go_wp2_with fail
  refine (open_any _ _ _ _ HB.out).mono ?_
  rintro e w1 ⟨rfl, hr, b1⟩
  have HR := Lib.hid hr
  have s1 := hr.lt
  have z1 := b1.size
  clear hr
  go_wp2_with fail
  refine (l91Space_any _ _ _ HR.out (by omega)).mono ?_
  rintro e w2 ⟨v, l, rfl, hsh, hrow, hr2, g2⟩
  have HSH := Lib.hid hsh
  have HW2 := Lib.hid hrow
  have HR2 := Lib.hid hr2
  have G2 := Lib.hid g2
  have s2 := g2.size
  clear hsh hrow hr2 g2
  go_wp2_with fail
  refine (l91Space_any _ _ _ HR2.out (by omega)).mono ?_
  rintro e w3 ⟨v', l', rfl, hsh', hrow', hr3, g3⟩
  have s3 := g3.size
  have HSH' := Lib.hid hsh'
  have HX : Hid (Strs w3 w3.heap.size v l) := (HW2.out.apart2 (w := w1) g3 s1).strs
  have HX' : Hid (Strs w3 w3.heap.size v' l') := hrow'.strs
  have B3 : Hid (Below w.heap.size w w3) := b1.trans ((gBel (gTrans G2.out g3) (Nat.le_refl _) z1).mono (Nat.le_refl _))
  clear hsh' hrow' hr3 g3 b1
  go_wp2
  go_ret2
  exact ⟨v, l, v', l', rfl, HSH.out, HSH'.out, HX.out, HX'.out, B3.out⟩

set_option maxHeartbeats 1000000 in
theorem drawSpaceAnd_any (w : World) (a : Option Addr) (len cap : Nat) (hb : BytesIn w w.heap.size a len cap) :
    Calls Try.prog 32 #[.slice a len cap] w (SpacesFrom w) := by
  have HB := Lib.hid hb
  clear hb
  go_enter Try.func32, Try.ntmps32
  go_wp2_with fail
  refine (drawSpaceOr_any _ _ _ _ HB.out).mono ?_
  rintro e w1 ⟨v, l, v', l', rfl, hh⟩
  have HH := Lib.hid hh
  clear hh
  go_wp2
  go_ret2
  exact ⟨v, l, v', l', rfl, HH.out⟩

set_option maxHeartbeats 1000000 in
theorem drawSpaceLess_any (w : World) (a : Option Addr) (len cap : Nat) (hb : BytesIn w w.heap.size a len cap) :
    Calls Try.prog 35 #[.slice a len cap] w (SpacesFrom w) := by
  have HB := Lib.hid hb
  clear hb
  go_enter Try.func35, Try.ntmps35
  go_wp2_with fail
  refine (drawSpaceOr_any _ _ _ _ HB.out).mono ?_
  rintro e w1 ⟨v, l, v', l', rfl, hh⟩
  have HH := Lib.hid hh
  clear hh
  go_wp2
  go_ret2
  exact ⟨v, l, v', l', rfl, HH.out⟩

set_option maxHeartbeats 1000000 in
theorem drawSpaceTidy_any (w : World) (a : Option Addr) (len cap : Nat) (hb : BytesIn w w.heap.size a len cap) :
    Calls Try.prog 21 #[.slice a len cap] w (SpaceFrom w) := by
  have HB := Lib.hid hb
  clear hb
  go_enter Try.func21, Try.ntmps21
  go_wp2_with fail
  refine (open_any _ _ _ _ HB.out).mono ?_
  rintro e w1 ⟨rfl, hr, b1⟩
  have HR := Lib.hid hr
  have s1 := hr.lt
  have z1 := b1.size
  clear hr
  go_wp2_with fail
  refine (l91Space_any _ _ _ HR.out (by omega)).mono ?_
  rintro e w2 ⟨v, l, rfl, hsh, hrow, hr2, g2⟩
  have HSH := Lib.hid hsh
  have HW2 : Hid (Strs w2 w2.heap.size v l) := hrow.strs
  have B2 : Hid (Below w.heap.size w w2) := b1.trans ((gBel g2 (Nat.le_refl _) z1).mono (Nat.le_refl _))
  clear hsh hrow hr2 g2 b1
  go_wp2
  go_ret
  exact ⟨v, l, rfl, HSH.out, HW2.out, B2.out⟩

end Go.Proofs.Ytndmedkkecikoaa
