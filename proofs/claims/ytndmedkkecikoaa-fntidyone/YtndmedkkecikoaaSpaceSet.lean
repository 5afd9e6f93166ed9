/-
  Chapter 3, the program: the set of a space; of two spaces.
-/
import Derived.Test.YtndmedkkecikoaaSpaceRead
import Derived.Test.YtndmedkkecikoaaSpaceU
namespace Go.Proofs.Ytndmedkkecikoaa
open Go.ChangeShapes Go.WideShapes Go.ChangeAt Go.RowKit Go.Joins
set_option linter.unusedVariables false

/-- The set of texts; of what is no space, nothing. -/
def setL (l : List ByteArray) : List Bool := bif okSp l then spL l else noL 6
theorem spL_take {l : List ByteArray} {k : Nat} (h : k < l.length) (f t s : Bool) (hf : f = true) (ht : t = true) (hs : s = true) : List.zipWith (keepF f t s) (spL (l.take k)) (sufL (cf (strAt l k)) (vf (strAt l k)) 6) = spL (l.take (k + 1)) := by
  have e1 : l.take (k + 1) = l.take k ++ [strAt l k] := by
    rw [List.take_add_one, List.getElem?_eq_getElem h, strAt, List.getD_eq_getElem?_getD, List.getElem?_eq_getElem h]
    rfl
  subst hf ht hs
  rw [e1, spL_snoc, sufL_all (fun i => vfcf i)]
  congr 1
  funext x y
  cases x <;> cases y <;> rfl
theorem Strs.grown {w w' : World} {g b : Nat} {v : Value} {l : List ByteArray} (h : Strs w g v l) (hg : w.grownBy w' (some b)) (hb : g ≤ b) (hs : g ≤ w.heap.size) : Strs w' g v l := h.below (sBel hg hb hs) (Nat.le_refl _)

set_option maxRecDepth 100000 in
set_option maxHeartbeats 4000000 in
theorem read_any (w : World) (b e g : Nat) (E : List Nd) (v : Value) (l : List ByteArray) (hd : Dg w b e E) (hl : Strs w g v l) (hg : g ≤ w.heap.size) (hs : ∀ i, i < l.length → (strAt l i).size ≤ 1048576) :
    Calls Try.prog 56 #[.agg #[.map (some b), .pointer (some ⟨e, 0, none⟩)], v] w fun ex w' => ∃ p, ex = .returned (.tuple #[.pointer p, .bool (okSp l)]) ∧ Good w w' b e E 6 p (setL l) := by
  have HD := Lib.hid hd
  have HL : Hid (Strs (w.alloc (.cells #[.map (some b), .pointer (some ⟨e, 0, none⟩)] 62)) (w.alloc (.cells #[.map (some b), .pointer (some ⟨e, 0, none⟩)] 62)).heap.size v l) := (hl.below ((Below.refl _ _).alloc (Nat.le_refl _) _) hg).mono (by simp; omega)
  have HS := Lib.hid hs
  have hb : b < w.heap.size := hd.lt_b
  clear hd hl hs hg
  go_enter Try.func56, Try.ntmps56
  go_wp2_with fail
  refine (readSpace_any _ _ l HL.out HS.out).mono ?_
  rintro ex w2 ⟨u, rfl, b2, hno, hyes⟩
  have s2 := b2.size
  simp at s2
  have HBX : Hid (w2.heap[w.heap.size]? = some (.cells #[.map (some b), .pointer (some ⟨e, 0, none⟩)] 62)) := (b2.block _ (by simp)).trans (newBlockM w _)
  have HD2 : Hid (Dg w2 b e E) := (HD.out.alloc _).below b2
  have HG2 : Hid (w.grownBy w2 (some b)) := sTrans (World.grownBy_alloc _ _ _) (sOf _ b2)
  cases hok : okSp l
  · have hu := hno hok
    subst hu
    clear hno hyes HL b2
    have HSL : Hid (setL l = noL 6) := by show setL l = _; simp [setL, hok]
    go_wp2
    go_loop [8, 18] (fun n i => n = .pointer none ∧ i = .int .i64 0) (fun _ i => (intOf i).toNat)
    case atStart => exact ⟨rfl, rfl⟩
    case round =>
      obtain ⟨rfl, rfl⟩ := hrel
      go_wp2
      exact bodyPost_ret (v := .tuple #[.pointer none, .bool false]) (by simp [results, Try.results56, go_sem]) rfl ⟨_, rfl, E, fun x hx => hx, HD2.out, Rep.none_iff.2 HSL.out, HG2.out⟩
  · have hrow := hyes hok
    clear hno hyes HL b2
    have h64 := (okSp_parts hok).1
    have HSL : Hid (setL l = spL l) := by show setL l = _; simp [setL, hok]
    have HR := Lib.hid hrow
    obtain ⟨hlen, hform⟩ := hrow
    rcases hform with ⟨rfl, h0⟩ | ⟨g', cap, cur, rfl, hgb, hgc, hcl, hcm, hcs, hct⟩
    · have hl0 : l = [] := List.eq_nil_of_length_eq_zero h0
      subst hl0
      go_wp2
      go_loop [8, 18] (fun n i => n = .pointer none ∧ i = .int .i64 0) (fun _ i => (intOf i).toNat)
      case atStart => exact ⟨rfl, rfl⟩
      case round =>
        obtain ⟨rfl, rfl⟩ := hrel
        go_wp2
        exact bodyPost_ret (v := .tuple #[.pointer none, .bool true]) (by simp [results, Try.results56, go_sem]) rfl ⟨_, rfl, E, fun x hx => hx, HD2.out, Rep.none_iff.2 (by rw [HSL.out]; exact spL_nil), HG2.out⟩
    · have HC : Hid (∀ k, k < l.length → w2.cell? ⟨g', k * 2, none⟩ = some (.int .u8 (ofB (cf (strAt l k)))) ∧ w2.cell? ⟨g', k * 2 + 1, none⟩ = some (.int .u8 (ofB (vf (strAt l k))))) := fun k hk => by
        have := flatM_get (mskL l) k (by rw [mskL_len]; exact hk)
        rw [pAt_mskL hk] at this
        exact ⟨(World.ownsRow.cellAt HR.out _ (by omega)).trans this.1, (World.ownsRow.cellAt HR.out _ (by omega)).trans this.2⟩
      have hgl : g' < w2.heap.size := (World.ownsRow.lt HR.out g' rfl).2
      have hgne : g' ≠ b := by simp at hgb; omega
      have HTK : Hid (∀ k, k < l.length → List.zipWith (keepF true true true) (spL (l.take k)) (sufL (cf (strAt l k)) (vf (strAt l k)) 6) = spL (l.take (k + 1))) := fun k hk => spL_take hk _ _ _ rfl rfl rfl
      have HEN : Hid (spL (l.take l.length) = setL l) := by show _ = _; rw [HSL.out, List.take_length]
      have HOK := Lib.hid hok
      clear hct hcs hgc hlen HR hgb hok HS
      unfold maxLen at hcm
      generalize l.length = n at *
      go_wp2
      go_loopw [8, 18] (fun s i wr => ∃ (k : Nat) (p : Option Addr), k ≤ n ∧ i = .int .i64 k ∧ s = .pointer p ∧ Good w2 wr b e E 6 p (spL (l.take k))) (fun _ i _ => n - (intOf i).toNat)
      case atStart => exact ⟨0, none, Nat.zero_le _, rfl, rfl, E, fun x hx => hx, HD2.out, Rep.none_iff.2 spL_nil, sOf _ (Below.refl _ _)⟩
      case round =>
        obtain ⟨k, p, hk, rfl, rfl, E1, s1, d1, R1, g1⟩ := hrel
        have S1 := Lib.hid s1
        have RR1 := Lib.hid R1
        have G1 := Lib.hid g1
        by_cases hlt : k < n
        · have hz : (k : Int) < (n : Int) := by omega
          have c0 : wr.cell? ⟨g', k * 2, none⟩ = some (.int .u8 (ofB (cf (strAt l k)))) := (sCell g1 _ hgl hgne).trans (HC.out k hlt).1
          have c1 : wr.cell? ⟨g', k * 2 + 1, none⟩ = some (.int .u8 (ofB (vf (strAt l k)))) := (sCell g1 _ hgl hgne).trans (HC.out k hlt).2
          have hsz := g1.size
          have HK := Lib.hid (HTK.out k hlt)
          have hbox : wr.heap[w.heap.size]? = some (.cells #[.map (some b), .pointer (some ⟨e, 0, none⟩)] 62) := (g1.block _ (by omega) (by intro e; cases e; omega)).trans HBX.out
          generalize strAt l k = x at *
          have hdW := (d1.alloc (.cells #[.int .u8 (ofB (cf x)), .int .u8 (ofB (vf x))] 87)).drew
          have HDW := Lib.hid hdW
          have K1 := (Below.heap_alloc wr (.cells #[.int .u8 (ofB (cf x)), .int .u8 (ofB (vf x))] 87) w.heap.size (by omega)).trans hbox
          have K2 := newBlockM wr (.cells #[.int .u8 (ofB (cf x)), .int .u8 (ofB (vf x))] 87)
          have D1 := duoCells K1
          have D2 := duoCells K2
          have hl1 : w.heap.size < (wr.alloc (.cells #[.int .u8 (ofB (cf x)), .int .u8 (ofB (vf x))] 87)).heap.size := by simp; omega
          have hl2 : wr.heap.size < (wr.alloc (.cells #[.int .u8 (ofB (cf x)), .int .u8 (ofB (vf x))] 87)).heap.size := by simp
          have HA : Hid (∀ W' : World, (wr.alloc (.cells #[.int .u8 (ofB (cf x)), .int .u8 (ofB (vf x))] 87)).grownBy W' (some b) →
              W'.cell? ⟨w.heap.size, 0, none⟩ = some (.map (some b)) ∧ W'.cell? ⟨w.heap.size, 1, none⟩ = some (.pointer (some ⟨e, 0, none⟩)) ∧
              W'.cell? ⟨wr.heap.size, 0, none⟩ = some (.int .u8 (ofB (cf x))) ∧ W'.cell? ⟨wr.heap.size, 1, none⟩ = some (.int .u8 (ofB (vf x)))) := fun W' hg =>
            ⟨(sCell hg 0 hl1 (by omega)).trans D1.1, (sCell hg 1 hl1 (by omega)).trans D1.2.1, (sCell hg 0 hl2 (by omega)).trans D2.1, (sCell hg 1 hl2 (by omega)).trans D2.2.1⟩
          have HGW : Hid (w2.grownBy (wr.alloc (.cells #[.int .u8 (ofB (cf x)), .int .u8 (ofB (vf x))] 87)) (some b)) := sTrans g1 (World.grownBy_alloc _ _ _)
          clear s1 d1 R1 g1 G1 hdW K1 K2 D1 D2 hl1 hl2 hbox
          go_wp2_with fail
          clear c0 c1
          generalize wr.alloc (.cells #[.int .u8 (ofB (cf x)), .int .u8 (ofB (vf x))] 87) = W at *
          go_region_held3 (fun W' => W'.cell? ⟨w.heap.size, 0, none⟩ = some (.map (some b)) ∧ W'.cell? ⟨w.heap.size, 1, none⟩ = some (.pointer (some ⟨e, 0, none⟩)) ∧
              W'.cell? ⟨wr.heap.size, 0, none⟩ = some (.int .u8 (ofB (cf x))) ∧ W'.cell? ⟨wr.heap.size, 1, none⟩ = some (.int .u8 (ofB (vf x))))
            (first | exact HA.out _ (sOf _ (Below.refl _ W).drew) | exact HA.out _ G3.out | exact HA.out _ G2.out)
            (first
              | (go_at_call 81; ((with_reducible refine (ofMasks_any _ _ _ _ _ _ HDW.out).mono ?_); rintro ex w3 ⟨r0, rfl, E2, s2, d2, R2, g2⟩; have S2 := Lib.hid s2; have DD2 := Lib.hid d2; have RR2 := Lib.hid R2; have G2 : Hid (World.grownBy W w3 (some b)) := sTrans (sOf _ (Below.refl _ W).drew) g2; clear s2 d2 R2 g2))
              | (go_at_call 80; ((with_reducible refine (union_any _ _ _ 6 _ _ _ _ _ DD2.out (RR1.out.mono S2.out) RR2.out).mono ?_); rintro ex w4 ⟨r1, rfl, E3, s3, d3, R3, g3⟩; have S3 := Lib.hid s3; have DD3 := Lib.hid d3; have RR3 := Lib.hid R3; have G3 : Hid (World.grownBy W w4 (some b)) := sTrans G2.out g3; clear s3 d3 R3 g3)))
          go_wp2
          go_roundw
          case rel => exact ⟨k + 1, r1, by omega, by go_num, rfl, E3, fun x hx => S3.out x (S2.out x (S1.out x hx)), DD3.out, by rw [← HK.out]; exact RR3.out, sTrans HGW.out G3.out⟩
          case measure => simp [intOf]; omega
        · obtain rfl : k = n := by omega
          have HD3 := Lib.hid d1
          clear s1 d1 R1 g1
          go_wp2
          exact bodyPost_ret (v := .tuple #[.pointer p, .bool true]) (by simp [results, Try.results56, go_sem]) rfl ⟨_, by rw [HOK.out], E1, S1.out, HD3.out, by rw [← HEN.out]; exact RR1.out, sTrans HG2.out G1.out⟩

end Go.Proofs.Ytndmedkkecikoaa
