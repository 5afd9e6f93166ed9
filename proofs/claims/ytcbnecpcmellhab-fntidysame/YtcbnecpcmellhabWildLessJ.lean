/-
  What the program's WildLess returns: a slice of its own, with the texts of what is left.
-/
import Derived.Test.YtcbnecpcmellhabWildLessI
import Derived.Test.YtcbnecpcmellhabStrRow
namespace Go.Proofs.Ytcbnecpcmellhab
open Go.ChangeShapes Go.WideShapes Go.ChangeAt Go.RowKit Go.Joins
set_option linter.unusedVariables false

def pAt (ps : List ((Nat → Bool) × (Nat → Bool))) (k : Nat) : (Nat → Bool) × (Nat → Bool) := ps.getD k (fun _ => false, fun _ => false)
theorem flatM_get : ∀ (ps : List ((Nat → Bool) × (Nat → Bool))) (k : Nat), k < ps.length → (flatM ps)[k * 2]? = some (.int .u8 (ofB (pAt ps k).1)) ∧ (flatM ps)[k * 2 + 1]? = some (.int .u8 (ofB (pAt ps k).2))
  | [], k, h => by simp at h
  | p :: ps, 0, _ => ⟨rfl, rfl⟩
  | p :: ps, k + 1, h => by
    have := flatM_get ps k (by simpa using h)
    have e : flatM (p :: ps) = .int .u8 (ofB p.1) :: .int .u8 (ofB p.2) :: flatM ps := rfl
    rw [e, show (k + 1) * 2 = k * 2 + 1 + 1 from by omega]
    exact this
def textsOf (ps : List ((Nat → Bool) × (Nat → Bool))) : List ByteArray := ps.map fun p => txt p.1 p.2
theorem take_texts (ps : List ((Nat → Bool) × (Nat → Bool))) {k : Nat} (h : k < ps.length) : textsOf (ps.take (k + 1)) = textsOf (ps.take k) ++ [txt (pAt ps k).1 (pAt ps k).2] := by
  unfold textsOf pAt
  rw [List.take_succ_eq_append_getElem h, List.map_append]
  simp [h]

set_option maxRecDepth 100000 in
set_option maxHeartbeats 4000000 in
theorem iWildLess_go (a b : ByteArray) (ps : List ((Nat → Bool) × (Nat → Bool))) (hka : okS a = true) (hkb : okS b = true) (hn : ps.length ≤ 6)
    (hless : ∀ W : World, Calls Try.prog 58 #[.agg #[.int .u8 (ofB (cf a)), .int .u8 (ofB (vf a))], .agg #[.int .u8 (ofB (cf b)), .int .u8 (ofB (vf b))]] W fun e w' => ∃ v, e = .returned v ∧ w'.ownsRow W.heap.size 77 2 v ps.length (flatM ps) ∧ Below W.heap.size W w') (w : World) :
    Calls Try.prog 33 #[.string a, .string b] w fun e w' => ∃ v, e = .returned v ∧ StrRow w' w.heap.size v (textsOf ps) ∧ Below w.heap.size w w' := by
  have HL := Lib.hid hless
  have HR := Lib.hid (readMasks_yes a b hka hkb)
  obtain ⟨i0, hi, hz0, hz1, hz2⟩ := info_parts infoStr
  have HI := Lib.hid hi
  have HZ0 := Lib.hid hz0
  have HZ1 := Lib.hid hz1
  have HZ2 := Lib.hid hz2
  clear hless hka hkb hi hz0 hz1 hz2
  generalize ofB (cf a) = x at *
  generalize ofB (vf a) = y at *
  generalize ofB (cf b) = x' at *
  generalize ofB (vf b) = y' at *
  go_enter Try.func33, Try.ntmps33
  go_wp2_with fail
  refine (HR.out _).mono ?_
  rintro e w1 ⟨rfl, b1⟩
  have s1 := b1.size
  go_wp2_with fail
  refine (HL.out _).mono ?_
  rintro e w3 ⟨v, rfl, hv, b3⟩
  have s3 := b3.size
  simp at s3
  have B3 : Hid (Below w.heap.size w w3) := ((b1.alloc s1 _).alloc (by simp; omega) _).trans (b3.mono (by simp; omega))
  have hv0 := hv
  obtain ⟨hl, hv1 | ⟨g, cap, cur, hve, hgb, hgc, hcap, hcm, hcs, hct⟩⟩ := hv
  · obtain ⟨rfl, hl0⟩ := hv1
    obtain rfl : ps = [] := List.eq_nil_of_length_eq_zero hl0
    clear hv0 b3 b1
    go_wp2
    go_loop [8, 24] (fun o i => o = .slice none 0 0 ∧ i = .int .i64 0) (fun _ i => (intOf i).toNat)
    case atStart => exact ⟨rfl, rfl⟩
    case round =>
      obtain ⟨rfl, rfl⟩ := hrel
      go_wp2
      go_ret
      exact ⟨_, rfl, World.ownsRow_nil _ _ _ _, B3.out⟩
  · subst hve
    have HC : Hid (∀ k, k < ps.length → w3.cell? ⟨g, k * 2, none⟩ = some (.int .u8 (ofB (pAt ps k).1)) ∧ w3.cell? ⟨g, k * 2 + 1, none⟩ = some (.int .u8 (ofB (pAt ps k).2))) := fun k hk => by
      have := flatM_get ps k hk
      exact ⟨(World.ownsRow.cellAt hv0 _ (by omega)).trans this.1, (World.ownsRow.cellAt hv0 _ (by omega)).trans this.2⟩
    have hgl : g < w3.heap.size := (World.ownsRow.lt hv0 g rfl).2
    have HTK := Lib.hid (fun k (hk : k < ps.length) => take_texts ps hk)
    have HE : Hid (textsOf (ps.take ps.length) = textsOf ps) := by show _ = _; rw [List.take_length]
    have HTL : Hid (∀ k, k ≤ ps.length → (textsOf (ps.take k)).length = k) := fun k hk => by simp [textsOf]; omega
    clear hv0 b3 b1 hct hcs hgc hl
    unfold maxLen at hcm
    generalize ps.length = n at *
    go_wp2
    go_loopw [8, 24] (fun o i wr => ∃ k : Nat, k ≤ n ∧ i = .int .i64 k ∧ wr.ownsRow w3.heap.size 9 1 o k ((textsOf (ps.take k)).map Value.string) ∧ Below w3.heap.size w3 wr) (fun _ i _ => n - (intOf i).toNat)
    case atStart => exact ⟨0, Nat.zero_le _, rfl, World.ownsRow_nil _ _ _ _, Below.refl _ _⟩
    case round =>
      obtain ⟨k, hk, rfl, hown, hbel⟩ := hrel
      have HO := Lib.hid hown
      clear hown
      have s4 := hbel.size
      by_cases hlt : k < n
      · have hz : (k : Int) < (n : Int) := by omega
        have hcc := belCell hbel
        have c0 : wr.cell? ⟨g, k * 2, none⟩ = some (.int .u8 (ofB (pAt ps k).1)) := (hcc _ _ hgl).trans (HC.out k hlt).1
        have c1 : wr.cell? ⟨g, k * 2 + 1, none⟩ = some (.int .u8 (ofB (pAt ps k).2)) := (hcc _ _ hgl).trans (HC.out k hlt).2
        clear hcc
        go_wp2_with fail
        refine (text_any _ _ _).mono ?_
        rintro e w4 ⟨rfl, b4⟩
        have s5 := b4.size
        simp at s5
        have HO4 : Hid (w4.ownsRow w3.heap.size 9 1 u8 k ((textsOf (ps.take k)).map Value.string)) := ownsBelow (HO.out.alloc _) b4
        have B4 : Hid (Below w3.heap.size w3 w4) := (hbel.alloc s4 _).trans (b4.mono (by simp; omega))
        have hst := HTK.out k hlt
        generalize txt (pAt ps k).1 (pAt ps k).2 = t at *
        have HST := Lib.hid hst
        clear hst b4 hbel HO c0 c1
        go_wp2_with (at_builtin; refine wpList_append_own _ rfl _ _ 23 rfl w3.heap.size 9 i0 (.string ⟨#[]⟩) 1 16 Try.underlying23 HI.out HZ0.out HZ1.out HZ2.out rfl (by decide) _ _ _ rfl (HO4.out.alloc _) ⟨w4.heap.size, 0, none⟩ 1 1 [.string t] rfl rfl ?c1 ?c2 ?c3 ?c4 ?c5 ?_)
        case c1 =>
          intro j u hj
          match j, hj with
          | 0, hj => simp at hj; subst hj; simp [Addr.add]
        case c2 => intro u hu; simp at hu; subst hu; rfl
        case c3 => unfold maxLen; omega
        case c4 => omega
        case c5 => simp; omega
        intro v' w5 hown5 hg5 _
        have B5 : Hid (Below w3.heap.size w3 w5) := (B4.out.alloc (by omega) _).trans (grownBelow (HO4.out.alloc _) hg5 (by simp; omega))
        have HO5 : Hid (w5.ownsRow w3.heap.size 9 1 v' (k + 1) ((textsOf (ps.take (k + 1))).map Value.string)) := by
          show w5.ownsRow _ _ _ _ _ _
          rw [HST.out, List.map_append]
          exact hown5
        clear hown5 hg5 HO4 B4
        go_wp2
        go_roundw
        case rel => exact ⟨k + 1, by omega, by go_num, HO5.out, B5.out⟩
        case measure => simp [intOf]; omega
      · obtain rfl : k = n := by omega
        go_wp2
        go_ret
        refine ⟨_, rfl, ?_, B3.out.trans (hbel.mono B3.out.size)⟩
        have h := HO.out
        rw [HE.out] at h
        unfold StrRow
        rw [show (textsOf ps).length = k from by rw [← HE.out]; exact HTL.out k (Nat.le_refl _)]
        exact World.ownsRow.mono h B3.out.size

/-- What is left of one pattern without another one. -/
def lessL (a b : ByteArray) : List ByteArray :=
  bif okS a && okS b then (bif meetS a b then textsOf (piecesTo (cf a) (vf a) (cf b) (vf b) 6) else [a]) else []
theorem vfcf {s : ByteArray} (i : Nat) (h : vf s i = true) : cf s i = true := by
  unfold vf at h
  unfold cf
  rw [beq_iff_eq] at h
  rw [h]
  rfl

set_option maxHeartbeats 1000000 in
theorem iWildLess_any (a b : ByteArray) (ha : a.size ≤ 1048576) (hb : b.size ≤ 1048576) (w : World) :
    Calls Try.prog 33 #[.string a, .string b] w fun e w' => ∃ v, e = .returned v ∧ StrRow w' w.heap.size v (lessL a b) ∧ Below w.heap.size w w' := by
  cases hk : okS a && okS b
  · rw [show lessL a b = [] from by unfold lessL; rw [hk]; rfl]
    obtain ⟨x, y, x', y', hr⟩ := readMasks_no a b ha hb hk
    have HR := Lib.hid hr
    clear hr
    go_enter Try.func33, Try.ntmps33
    go_wp2_with (go_at_call 57; refine (HR.out _).mono ?_; rintro e w1 ⟨rfl, b1⟩)
    go_ret
    exact ⟨_, rfl, World.ownsRow_nil _ _ _ _, (b1.alloc b1.size _).alloc (by have := b1.size; simp; omega) _⟩
  · obtain ⟨hka, hkb⟩ : okS a = true ∧ okS b = true := by simpa using hk
    have e0 : meetS a b = meetB (cf a) (vf a) (cf b) (vf b) := by unfold meetS; rw [hka, hkb]; rfl
    cases hm : meetB (cf a) (vf a) (cf b) (vf b)
    · have el : lessL a b = textsOf [(cf a, vf a)] := by
        unfold lessL
        rw [hk, e0, hm]
        show [a] = [txt (cf a) (vf a)]
        rw [txt_back hka]
      rw [el]
      exact iWildLess_go a b [(cf a, vf a)] hka hkb (by show 1 ≤ 6; omega) (less_apart _ _ _ _ hm) w
    · have el : lessL a b = textsOf (piecesTo (cf a) (vf a) (cf b) (vf b) 6) := by
        unfold lessL
        rw [hk, e0, hm]
        rfl
      rw [el]
      exact iWildLess_go a b _ hka hkb (pieces_len _ _ _ _ _) (less_meet _ _ _ _ hm (fun i h => vfcf i h) (fun i h => vfcf i h)) w
theorem lessL_len (a b : ByteArray) : (lessL a b).length ≤ 6 := by
  unfold lessL
  cases okS a && okS b
  · exact Nat.zero_le _
  · cases meetS a b
    · show 1 ≤ 6
      omega
    · show (textsOf _).length ≤ 6
      unfold textsOf
      rw [List.length_map]
      exact pieces_len _ _ _ _ _

end Go.Proofs.Ytcbnecpcmellhab
