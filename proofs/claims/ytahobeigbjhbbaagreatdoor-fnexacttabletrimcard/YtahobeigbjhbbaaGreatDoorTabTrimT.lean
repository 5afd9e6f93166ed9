/-
  The program's TableTrim.
-/
import Derived.Test.YtahobeigbjhbbaaGreatDoorTabAreaT
import Derived.Test.YtahobeigbjhbbaaGreatDoorTabTrimS
import Derived.Deep.RegionWith
namespace Go.Proofs.YtahobeigbjhbbaaGreatDoor
open Go.ChangeShapes Go.WideShapes Go.ChangeAt Go.RowKit Go.Joins
open Go.Shelf
set_option linter.unusedVariables false

/-- Of the first k rules those that are the first of a head, and all behind them. -/
def keepK (l : List R4) (k : Nat) : List R4 := trimK l k ++ l.drop k
theorem keepK_zero (l : List R4) : keepK l 0 = l := rfl
theorem keepK_all (l : List R4) : keepK l l.length = trimF l := by simp [keepK, trimF]
theorem keepK_cons (l : List R4) {k : Nat} (hk : k < l.length) : keepK l k = trimK l k ++ ruAt l k :: l.drop (k + 1) := by
  rw [keepK, List.drop_eq_getElem_cons hk, ruAt_lt hk]
theorem keepK_stay (l : List R4) {k : Nat} (hk : k < l.length) (h : allNo (areaM l (k : Int)) = false) : keepK l (k + 1) = keepK l k := by
  rw [keepK_cons l hk, keepK, trimK_step, h]
  simp
theorem trimK_sub (l : List R4) {k : Nat} (hk : k ≤ l.length) : (trimK l k).Sublist (l.take k) := by
  have e : l.take k = (List.range k).map (ruAt l) := by
    apply List.ext_getElem
    · simp; omega
    · intro i h1 h2
      have h3 : i < l.length := by simp at h1; omega
      simp [ruAt_lt h3]
  rw [e]
  exact List.filter_sublist.map _
theorem keepK_sub (l : List R4) {k : Nat} (hk : k ≤ l.length) : (keepK l k).Sublist l := by
  have := (trimK_sub l hk).append (List.Sublist.refl (l.drop k))
  rwa [List.take_append_drop] at this
theorem keepK_drop (l : List R4) {k : Nat} (hk : k < l.length) (hp : l.Pairwise (fun a b => cmR a b < 0)) (h : allNo (areaM l (k : Int)) = true) : dropF (ruAt l k) (keepK l k) = keepK l (k + 1) := by
  have hpk := hp.sublist (keepK_sub l (Nat.le_of_lt hk))
  have hpk1 := hp.sublist (keepK_sub l hk)
  have e1 : keepK l (k + 1) = trimK l k ++ l.drop (k + 1) := by rw [keepK, trimK_step, h]; rfl
  refine pw_ext (dropF_pw _ hpk) hpk1 (fun q => ?_)
  rw [mem_dropF, e1]
  rw [keepK_cons l hk] at hpk ⊢
  rw [List.pairwise_append, List.pairwise_cons] at hpk
  simp only [List.mem_append, List.mem_cons]
  constructor
  · rintro ⟨h | h | h, hne⟩
    · exact .inl h
    · exact absurd h hne
    · exact .inr h
  · rintro (h | h)
    · refine ⟨.inl h, fun e => ?_⟩
      have := hpk.2.2 q h (ruAt l k) (List.mem_cons_self ..)
      rw [e, cmR_self] at this
      omega
    · refine ⟨.inr (.inr h), fun e => ?_⟩
      have := hpk.2.1.1 q h
      rw [e, cmR_self] at this
      omega
theorem allNo_noL (h : Nat) : allNo (noL h) = true := by simp [allNo, noL]
/-- A rule that is never the first has no node. -/
theorem area_nil {E : List Nd} {e : Nat} {p : Option Addr} {l : List R4} {k : Nat} (hk : k < l.length) (h : Rep E e 6 p (areaF l k)) : p = none ↔ allNo (areaM l (k : Int)) = true := by
  rw [areaF_area l hk] at h
  constructor
  · rintro rfl
    rw [Rep.none_iff.1 h]
    exact allNo_noL 6
  · intro hn
    cases p with
    | none => rfl
    | some a => exact absurd (allNo_no (h := 6) (areaM_len l _) hn) h.some_ne
theorem PtrRow.nk {w w' : World} {base : Nat} {v : Value} {ps : List (Option Addr)} (h : PtrRow w base v ps) (hk : NK w w') : PtrRow w' base v ps := by
  obtain ⟨hl, h1 | ⟨g, cap, cur, rfl, h2, h3, h4⟩⟩ := h
  · exact ⟨hl, .inl h1⟩
  · exact ⟨hl, .inr ⟨g, cap, cur, rfl, h2, hk g _ h3 (fun x q e => by
      injection e with _ e
      exact absurd e (by decide)), h4⟩⟩
theorem PtrRow.below {w w' : World} {base : Nat} {v : Value} {ps : List (Option Addr)} (h : PtrRow w base v ps) (hb : Below w.heap.size w w') : PtrRow w' base v ps :=
  World.ownsRow.kept h (row := none) ⟨hb.os, hb.tape, hb.output, hb.size, fun k hk _ => hb.block k hk⟩ (by cases v.ownBlock <;> simp)
theorem PtrRow.cellAt {w : World} {base : Nat} {v : Value} {ps : List (Option Addr)} (h : PtrRow w base v ps) {g cap k : Nat} (hv : v = .slice (some ⟨g, 0, none⟩) ps.length cap) (hk : k < ps.length) : w.cell? ⟨g, k, none⟩ = some (.pointer (ptAt ps k)) := by
  subst hv
  have := World.ownsRow.cellAt h k (by omega)
  rw [this, List.getElem?_map, ptAt, List.getD_eq_getElem?_getD, List.getElem?_eq_getElem hk]
  rfl

set_option maxRecDepth 100000 in
set_option maxHeartbeats 4000000 in
theorem iTableTrim_any (w : World) (v : Value) (l : List R4) (h : Rls w w.heap.size v l) (hn : l.length ≤ 1048576) (hE : EtOk w) :
    Calls Tryz.prog 45 #[v] w fun e w' => ∃ u, e = .returned u ∧ RulRow w' w.heap.size u (trimT l) ∧ Below w.heap.size w w' := by
  have HC := Lib.hid (readTable_any w v l h hn hE)
  have HE := Lib.hid hE
  have h' := h
  obtain ⟨a, cap, rfl, hc, hm, hh⟩ := h'
  have hnz : l.length = 0 ∨ ∃ b off, a = some ⟨b, off, none⟩ ∧ b < w.heap.size ∧ Hid (∀ i, i < l.length → Four w b (off + i * 4) (ruAt l i)) := by
    rcases hh with h | ⟨b, off, h1, h2, h3⟩
    · exact .inl (by rw [h]; rfl)
    · exact .inr ⟨b, off, h1, h2, h3⟩
  clear h hE hh
  unfold maxLen at hm
  cases ht : tOk l
  · have HT : Hid (trimT l = []) := by show _ = _; simp [trimT, ht]
    rw [HT.out]
    rw [ht] at HC
    go_enter Tryz.func45, Tryz.ntmps45
    go_wp2_with fail
    refine HC.out.mono ?_
    rintro e w1 ⟨g, rfl, hg, hlr, b1⟩
    have B1 := Lib.hid (b1.alloc b1.size (lstO g))
    unfold lstV
    clear hlr b1 HC hg
    go_wp2
    go_ret
    exact ⟨_, rfl, ⟨rfl, .inl ⟨rfl, rfl⟩⟩, B1.out⟩
  have h48 := tOk_len ht
  obtain ⟨-, hok, hpw⟩ := tOk_pw.1 ht
  have HT : Hid (trimT l = keepK l l.length) := by show _ = _; simp [trimT, ht, keepK_all]
  rw [HT.out]
  have HSTAY := Lib.hid (fun k (hk : k < l.length) h => keepK_stay l hk h)
  have HDROP := Lib.hid (fun k (hk : k < l.length) h => keepK_drop l hk hpw h)
  have HSUB : Hid (∀ k, k ≤ l.length → (keepK l k).length ≤ l.length ∧ (∀ q ∈ keepK l k, okR q = true) ∧ (keepK l k).Pairwise (fun a b => cmR a b < 0)) := fun k hk => ⟨(keepK_sub l hk).length_le, fun q hq => hok q ((keepK_sub l hk).subset hq), hpw.sublist (keepK_sub l hk)⟩
  have HROK : Hid (∀ k, k < l.length → okR (ruAt l k) = true) := tOk_at ht
  rw [ht] at HC
  clear hok hpw
  go_enter Tryz.func45, Tryz.ntmps45
  go_wp2_with fail
  refine HC.out.mono ?_
  rintro e w1 ⟨g, rfl, hg, hlr, b1⟩
  have HLR := Lib.hid (hlr trivial)
  have hgl : g < w1.heap.size := (Array.getElem?_eq_some_iff.1 (hlr trivial).choose_spec.1).1
  have B1 := Lib.hid b1
  have s1 := b1.size
  have L0 := Lib.hid (newBlockM w1 (lstO g))
  unfold lstV
  clear hlr b1 HC
  go_wp2
  generalize hV : w1.alloc (.cells #[.func (.func 102) #[] #[], .pointer (some ⟨g, 0, none⟩)] 75) = V at *
  have hvs : w1.heap.size < V.heap.size := by rw [← hV]; simp
  have BV : Hid (Below w1.heap.size w1 V.drew) := by show Below _ _ _; rw [← hV]; exact (below_alloc1 w1 _).drew
  have LV : Hid (V.heap[w1.heap.size]? = some (lstO g)) := by show _ = _; rw [← hV]; exact newBlockM w1 _
  clear hV
  obtain ⟨v0, v1, -⟩ := cells2 (show V.drew.heap[w1.heap.size]? = some (.cells #[.func (.func 102) #[] #[], .pointer (some ⟨g, 0, none⟩)] 75) from LV.out)
  go_region_with (first | (go_at_call 86; ((with_reducible refine (newDiagram_any _).mono ?_); rintro ex w2 ⟨b, e, rfl, hb, d2, b2⟩; have D2 := Lib.hid d2; have s2 := b2.size; have hb2 : w1.heap.size < b := Nat.lt_of_lt_of_le hvs hb; have B12 : Hid (Below w1.heap.size w1 w2) := BV.out.trans (b2.mono (Nat.le_of_lt hvs)); have L2 : Hid (w2.heap[w1.heap.size]? = some (lstO g)) := ((b2.block _ hvs).trans LV.out); obtain ⟨t0, t1, -⟩ := cells2 (show w2.heap[w1.heap.size]? = some (.cells #[.func (.func 102) #[] #[], .pointer (some ⟨g, 0, none⟩)] 75) from L2.out); clear d2 b2 hb)) | (go_at_call 87; (have HAS := areas_any w2 w1 g b e [] l (by omega) HLR.out B12.out (Nat.le_of_lt hb2) D2.out; unfold lstV at HAS; (with_reducible refine HAS.mono ?_); clear HAS; rintro ex w3 ⟨u, p, ps, E', rfl, hrow, har, hg3⟩; have HROW := Lib.hid hrow; have HAR := Lib.hid har; have HG3 := Lib.hid hg3; clear hrow har hg3)))
  all_goals
    have s3 := HG3.out.size
    have s1' := B1.out.size
    have s12 := B12.out.size
    have HLP := Lib.hid HAR.out.2.2.1
    have HNIL : Hid (∀ k : Nat, k < l.length → (ptAt ps k = none ↔ allNo (areaM l (k : Int)) = true)) := fun k hk => area_nil hk (HAR.out.2.2.2 k hk)
    have B13 : Hid (Below w1.heap.size w1 w3) := B12.out.trans (sBel HG3.out (by omega) (by omega))
    have B3 : Hid (Below w.heap.size w w3) := B1.out.trans (B13.out.mono s1')
    have L3 : Hid (w3.heap[w1.heap.size]? = some (lstO g)) := (HG3.out.block _ (by have : w1.heap.size < w2.heap.size := Nat.lt_of_lt_of_le hvs s2; omega) (fun e' => by have := Option.some.inj e'; omega)).trans L2.out
    have HLR3 : Hid (LR w3 g (keepK l 0)) := HLR.out.below B13.out
    have HZ0 : Hid (w2.heap.size ≤ w3.heap.size) := s3
    clear HG3 HAR t0 t1 HLR B12 D2 L2 LV BV HT v0 v1
    go_wp2
    go_loopw [24] (fun i wr => ∃ k : Nat, k ≤ l.length ∧ i = .int .i64 k ∧ LR wr g (keepK l k) ∧ PtrRow wr w2.heap.size u ps ∧ wr.heap[w1.heap.size]? = some (lstO g) ∧ w3.heap.size ≤ wr.heap.size ∧ Below w.heap.size w wr) (fun i _ => l.length - (intOf i).toNat)
    case atStart => exact ⟨0, Nat.zero_le _, rfl, HLR3.out, HROW.out, L3.out, Nat.le_refl _, B3.out⟩
    case round =>
      clear HLR3 HROW L3 B3
      obtain ⟨k, hk, rfl, hlr, hrow, hlst, hsz, hbel⟩ := hrel
      have HLRk := Lib.hid hlr
      have HBL := Lib.hid hbel
      have HLST := Lib.hid hlst
      have hws := hbel.size
      by_cases hlt : k < l.length
      · have hkz : (k : Int) < (l.length : Int) := by omega
        rcases hnz with h0 | ⟨b', off, rfl, hb', HCC⟩
        · omega
        obtain ⟨c0, c1, c2, c3⟩ := (HCC.out k hlt).below hbel hb'
        obtain ⟨gg, cp, rfl, hcp, hmx, hgb, hgg, hcell⟩ := hrow.at (k := k) (by have := HLP.out; omega)
        have HRW := Lib.hid hrow
        have hkp : (k : Int) < (ps.length : Int) := by have := HLP.out; omega
        unfold maxLen at hmx
        have hN := HNIL.out k hlt
        have HR0 := Lib.hid (HROK.out k hlt)
        have HST := Lib.hid (HSTAY.out k hlt)
        have HDR := Lib.hid (HDROP.out k hlt)
        obtain ⟨u1, u2, u3⟩ := HSUB.out k hk
        have HS2 := Lib.hid u2
        have HS3 := Lib.hid u3
        obtain ⟨x0, x1, -⟩ := cells2 (show wr.heap[w1.heap.size]? = some (.cells #[.func (.func 102) #[] #[], .pointer (some ⟨g, 0, none⟩)] 75) from hlst)
        have hw1r : w1.heap.size < wr.heap.size := (Array.getElem?_eq_some_iff.1 hlst).1
        clear u2 u3 hlr hrow hlst HNIL HSTAY HDROP HSUB HROK
        generalize ptAt ps k = pk at *
        cases pk with
        | none =>
          have hall := hN.1 rfl
          have HRW2 : Hid (PtrRow (wr.alloc (.cells #[.int .i64 (ruAt l k).p, .string (ruAt l k).s, .int .i64 (ruAt l k).o, .int .i64 (ruAt l k).t] 25)) w2.heap.size (.slice (some ⟨gg, 0, none⟩) ps.length cp) ps) := HRW.out.below (below_alloc1 _ _)
          have LR2 := Lib.hid (HLRk.out.below (below_alloc1 wr (.cells #[.int .i64 (ruAt l k).p, .string (ruAt l k).s, .int .i64 (ruAt l k).o, .int .i64 (ruAt l k).t] 25)))
          have LS2 : Hid ((wr.alloc (.cells #[.int .i64 (ruAt l k).p, .string (ruAt l k).s, .int .i64 (ruAt l k).o, .int .i64 (ruAt l k).t] 25)).heap[w1.heap.size]? = some (lstO g)) := ((below_alloc1 wr _).block _ hw1r).trans HLST.out
          have B2 := Lib.hid (HBL.out.alloc hws (.cells #[.int .i64 (ruAt l k).p, .string (ruAt l k).s, .int .i64 (ruAt l k).o, .int .i64 (ruAt l k).t] 25))
          have HDF := Lib.hid (HDR.out hall)
          obtain ⟨f, hf⟩ := lr_root LR2.out
          have HDP := Lib.hid (drop_any _ g (keepK l k) f (ruAt l k) (by omega) HR0.out (fun i hi => HS2.out _ (ruAt_mem hi)) hf (HE.out.below B2.out))
          unfold lstV at HDP
          clear hall hN hf hbel
          generalize ruAt l k = y at *
          go_wp2_with fail
          refine HDP.out.mono ?_
          rintro e5 w5 ⟨kk, hst, rfl, hlr5, b5, hnk⟩
          have LR5 : Hid (LR w5 g (keepK l (k + 1))) := by
            show LR _ _ _
            rw [← HDF.out, ← (drop_stand hst HS2.out HR0.out HS3.out).1]
            exact hlr5
          have HRW5 := Lib.hid (HRW2.out.nk hnk)
          have LS5 : Hid (w5.heap[w1.heap.size]? = some (lstO g)) := hnk _ _ LS2.out (fun x q hh => by simp [lstO, nodeO] at hh)
          have B5 := Lib.hid (B2.out.trans (b5.mono (by omega)))
          have s5 := b5.size
          simp at s5
          clear hlr5 b5 hnk hst
          go_wp2
          go_roundw
          case rel => exact ⟨k + 1, by omega, by go_num, LR5.out, HRW5.out, LS5.out, by omega, B5.out⟩
          case measure => simp [intOf]; omega
        | some ad =>
          have hnot : allNo (areaM l (k : Int)) = false := by
            cases hh : allNo (areaM l (k : Int))
            · rfl
            · exact absurd (hN.2 hh) (by simp)
          have HKE := Lib.hid (HST.out hnot)
          clear hnot hN hbel
          generalize ruAt l k = y at *
          go_wp2
          go_roundw
          case rel => exact ⟨k + 1, by omega, by go_num, by rw [HKE.out]; exact HLRk.out.below (below_alloc1 _ _), HRW.out.below (below_alloc1 _ _), ((below_alloc1 wr _).block _ hw1r).trans HLST.out, by simp; omega, HBL.out.alloc hws _⟩
          case measure => simp [intOf]; omega
      · obtain rfl : k = l.length := by omega
        obtain ⟨x0, x1, -⟩ := cells2 (show wr.heap[w1.heap.size]? = some (.cells #[.func (.func 102) #[] #[], .pointer (some ⟨g, 0, none⟩)] 75) from hlst)
        have hkl := (HSUB.out _ (Nat.le_refl _)).1
        have HTR := Lib.hid (tableRules_any wr g (keepK l l.length) (by omega) HLRk.out)
        unfold lstV at HTR
        clear hlr hrow hlst hkl HNIL HSTAY HDROP HSUB HROK
        go_wp2_with fail
        refine HTR.out.mono ?_
        rintro e6 w6 ⟨u6, rfl, hrow6, b6⟩
        have HR6 := Lib.hid (hrow6.mono hws)
        have B6 := Lib.hid (belStep HBL.out b6)
        clear hrow6 b6
        go_wp2
        go_ret
        exact ⟨_, rfl, HR6.out, B6.out⟩

end Go.Proofs.YtahobeigbjhbbaaGreatDoor
