/-
  Proved: promise 51 (two tables do the same, if they do of each head), at every code from which the tables are drawn; the code reads on as it did. No condition but the card's own: the listed variables of the library stand as its text lays them.
-/
import Derived.Test.YtahobeigbjhbbaaGreatDoorRuleCard
import Derived.Test.YtahobeigbjhbbaaGreatDoorOwnB
import Derived.Test.YtahobeigbjhbbaaGreatDoorTabSame
import Derived.Test.YtahobeigbjhbbaaGreatDoorTabDrawC
namespace Go.Proofs.YtahobeigbjhbbaaGreatDoor
open Go.ChangeShapes Go.WideShapes Go.ChangeAt Go.RowKit Go.Joins
set_option linter.unusedVariables false

theorem agree_self (l : List R4) (n : Nat) : agreeB l l n = true := by simp [agreeB]
theorem agree_swap (l m : List R4) (n : Nat) : agreeB m l n = agreeB l m n := by
  unfold agreeB
  generalize doN l n = x
  generalize doN m n = y
  obtain ⟨x1, xo⟩ := x
  obtain ⟨y1, yo⟩ := y
  rw [Bool.eq_iff_iff]
  simp only [Bool.and_eq_true, Bool.or_eq_true, decide_eq_true_eq]
  constructor
  · rintro ⟨rfl, h | h⟩
    · exact ⟨rfl, .inl h⟩
    · exact ⟨rfl, .inr h.symm⟩
  · rintro ⟨rfl, h | h⟩
    · exact ⟨rfl, .inl h⟩
    · exact ⟨rfl, .inr h.symm⟩
theorem sameT_self {l : List R4} (h : tOk l = true) : sameT l l = true := sameT_yes h h (fun n _ => agree_self l n)
theorem sameT_swap (l m : List R4) : sameT m l = sameT l m := by
  unfold sameT
  have : (List.range 64).all (agreeB m l) = (List.range 64).all (agreeB l m) := by
    congr 1
    funext n
    exact agree_swap l m n
  rw [this]
  cases tOk l <;> cases tOk m <;> rfl
def canK (l m : List R4) (k : Nat) : Bool := (List.range k).all (agreeB l m)
theorem canK_succ (l m : List R4) (k : Nat) : canK l m (k + 1) = (canK l m k && agreeB l m k) := by simp [canK, List.range_succ]
theorem canK_all {l m : List R4} (h : tOk l = true) (h' : tOk m = true) : canK l m 64 = sameT l m := by simp [canK, sameT, h, h']
theorem doT_doN {l : List R4} (h : tOk l = true) {k : Nat} (hk : k < 64) : doT ((k : Int) / 16 % 4) ((k : Int) / 4 % 4) ((k : Int) % 4) l = doN l k := by
  rw [show (k : Int) / 16 % 4 = (k : Int) / 16 from by omega]
  simp [doT, doN, h, okB_num k hk]

set_option maxRecDepth 100000 in
set_option maxHeartbeats 8000000 in
theorem walk_FnTableSame (a : Option Addr) (len cap : Nat) (w : World) (hb : BytesIn w w.heap.size a len cap) (hE : EtOk w) :
    Calls Tryz.prog 7 #[.slice a len cap] w fun e w' => e = .returned (.bool true) ∧ Below w.heap.size w w' := by
  have HB := Lib.hid hb
  have HE := Lib.hid hE
  have hm : (len : Int) ≤ maxLen := by have := hb.1; have := hb.2.1; omega
  unfold maxLen at hm
  clear hb hE
  by_cases hlen : (1048576 : Int) < (len : Int)
  · go_enter Tryz.func7, Tryz.ntmps7
    go_wp2
    go_ret
    exact ⟨rfl, Below.refl _ _⟩
  go_enter Tryz.func7, Tryz.ntmps7
  go_wp2_with fail
  refine (drawTableSame_any _ _ _ _ HB.out).mono ?_
  rintro e w1 ⟨v, v', l, m, rfl, hl, hl', hx, hx', b1⟩
  have hn : l.length ≤ 1048576 := by omega
  have hn' : m.length ≤ 1048576 := by omega
  have B1 := Lib.hid b1
  have HL : Hid (∀ W, Below w1.heap.size w1 W → Rls W W.heap.size v l) := fun W hb => (hx.rls.below hb (Nat.le_refl _)).mono hb.size
  have HL' : Hid (∀ W, Below w1.heap.size w1 W → Rls W W.heap.size v' m) := fun W hb => (hx'.rls.below hb (Nat.le_refl _)).mono hb.size
  have HEW : Hid (∀ W, Below w1.heap.size w1 W → EtOk W) := fun W hb => (HE.out.below b1).below hb
  have BW : Hid (∀ W, Below w1.heap.size w1 W → Below w.heap.size w W) := fun W hb => belStep b1 hb
  have HI := Lib.hid (fun W h h' => iTableSame_any W v v' l m h h' hn hn')
  have HS := Lib.hid (fun W h h' => sTableSame_any W v v' l m h h' hn hn')
  have HI1 := Lib.hid (fun W h => iTableSame_any W v v l l h h hn hn)
  have HI2 := Lib.hid (fun W h h' => iTableSame_any W v' v m l h h' hn' hn)
  have HT1 := Lib.hid (fun W h => sTableOk_any W v l h hn)
  have HT2 := Lib.hid (fun W h => sTableOk_any W v' m h hn')
  rw [sameT_swap l m] at HI2
  have HCA : Hid (tOk l = true → tOk m = true → canK l m 64 = sameT l m) := canK_all
  obtain ⟨S, hS⟩ : ∃ S, sameT l m = S := ⟨_, rfl⟩
  rw [hS] at HI HS HI2 HCA
  have HSN : Hid (tOk l = true → tOk m = true → canK l m 64 = S) := HCA.out
  clear hS hx hx' b1 HCA
  go_wp2_with fail
  refine (HI.out _ (HL.out _ (Below.refl _ _)) (HL'.out _ (Below.refl _ _)) (HEW.out _ (Below.refl _ _))).mono ?_
  rintro e w2 ⟨rfl, b2⟩
  have B2 := Lib.hid b2
  clear b2
  go_wp2_with fail
  refine (HS.out _ (HL.out _ B2.out) (HL'.out _ B2.out)).mono ?_
  rintro e w3 ⟨rfl, b3⟩
  have B3 := Lib.hid (belStep B2.out b3)
  have hSS : (!(S == S)) = false := by simp
  have hSE : (S == S) = true := by simp
  clear b3
  cases ht : tOk l
  · rw [ht] at HT1
    go_wp2_with fail
    refine (HT1.out _ (HL.out _ B3.out)).mono ?_
    rintro e w4 ⟨rfl, b4⟩
    have B4 := Lib.hid (belStep B3.out b4)
    clear b4
    go_wp2_with fail
    refine (HS.out _ (HL.out _ B4.out) (HL'.out _ B4.out)).mono ?_
    rintro e w5 ⟨rfl, b5⟩
    have B5 := Lib.hid (belStep B4.out b5)
    clear b5
    go_wp2
    go_ret
    exact ⟨by simp, BW.out _ B5.out⟩
  rw [ht] at HT1
  go_wp2_with fail
  refine (HT1.out _ (HL.out _ B3.out)).mono ?_
  rintro e w4 ⟨rfl, b4⟩
  have B4 := Lib.hid (belStep B3.out b4)
  clear b4
  cases ht' : tOk m
  · rw [ht'] at HT2
    go_wp2_with fail
    refine (HT2.out _ (HL'.out _ B4.out)).mono ?_
    rintro e w5 ⟨rfl, b5⟩
    have B5 := Lib.hid (belStep B4.out b5)
    clear b5
    go_wp2_with fail
    refine (HS.out _ (HL.out _ B5.out) (HL'.out _ B5.out)).mono ?_
    rintro e w6 ⟨rfl, b6⟩
    have B6 := Lib.hid (belStep B5.out b6)
    clear b6
    go_wp2
    go_ret
    exact ⟨by simp, BW.out _ B6.out⟩
  rw [ht'] at HT2
  go_wp2_with fail
  refine (HT2.out _ (HL'.out _ B4.out)).mono ?_
  rintro e w5 ⟨rfl, b5⟩
  have B5 := Lib.hid (belStep B4.out b5)
  have HC64 := Lib.hid (HSN.out ht ht')
  rw [sameT_self ht] at HI1
  have HDO : Hid (∀ k : Nat, k < 64 → ∀ W, Below w1.heap.size w1 W → Calls Tryz.prog 28 #[v, .agg #[.int .i64 ((k : Int) / 16 % 4), .int .i64 ((k : Int) / 4 % 4), .int .i64 ((k : Int) % 4)]] W fun e w' => e = .returned (.tuple #[.agg #[.int .i64 (doN l k).1.1, .int .i64 (doN l k).1.2.1, .int .i64 (doN l k).1.2.2], .int .i64 (doN l k).2]) ∧ Below W.heap.size W w') := fun k hk W hW => by
    have := iTableDo_any W v l (HL.out _ hW) hn ((k : Int) / 16 % 4) ((k : Int) / 4 % 4) ((k : Int) % 4) (HEW.out _ hW)
    rwa [doT_doN ht hk] at this
  have HDO' : Hid (∀ k : Nat, k < 64 → ∀ W, Below w1.heap.size w1 W → Calls Tryz.prog 28 #[v', .agg #[.int .i64 ((k : Int) / 16 % 4), .int .i64 ((k : Int) / 4 % 4), .int .i64 ((k : Int) % 4)]] W fun e w' => e = .returned (.tuple #[.agg #[.int .i64 (doN m k).1.1, .int .i64 (doN m k).1.2.1, .int .i64 (doN m k).1.2.2], .int .i64 (doN m k).2]) ∧ Below W.heap.size W w') := fun k hk W hW => by
    have := iTableDo_any W v' m (HL'.out _ hW) hn' ((k : Int) / 16 % 4) ((k : Int) / 4 % 4) ((k : Int) % 4) (HEW.out _ hW)
    rwa [doT_doN ht' hk] at this
  have HCS := Lib.hid (canK_succ l m)
  clear b5 ht ht' hSS HI HS HT1 HT2 B1 B2 B3 B4
  go_wp2
  go_loopw [6, 7] (fun c i wr => ∃ k : Nat, k ≤ 64 ∧ i = .int .i64 k ∧ c = .bool (canK l m k) ∧ Below w1.heap.size w1 wr) (fun _ i _ => 64 - (intOf i).toNat)
  case atStart => exact ⟨0, Nat.zero_le _, rfl, rfl, B5.out⟩
  case round =>
    obtain ⟨k, hk, rfl, rfl, hbel⟩ := hrel
    have HBL := Lib.hid hbel
    by_cases hlt : k < 64
    · have hkz : (k : Int) < 64 := by omega
      have HD := Lib.hid (HDO.out k hlt)
      have HD' := Lib.hid (HDO'.out k hlt)
      have HNX := Lib.hid (HCS.out k)
      have hag : agreeB l m k = (decide ((doN l k).2 = (doN m k).2) && (decide ((doN l k).2 = 0) || decide ((doN l k).1 = (doN m k).1))) := rfl
      obtain ⟨⟨⟨x1, x2, x3⟩, ox⟩, hx⟩ : ∃ d, doN l k = d := ⟨_, rfl⟩
      obtain ⟨⟨⟨y1, y2, y3⟩, oy⟩, hy⟩ : ∃ d, doN m k = d := ⟨_, rfl⟩
      rw [hx] at HD hag
      rw [hy] at HD' hag
      dsimp only at HD HD' hag
      have HG := Lib.hid hag
      have HLX := Lib.hid (lxHead_at k (by omega))
      clear hx hy hbel hag
      generalize canK l m k = ck at *
      generalize agreeB l m k = ag at *
      go_wp2_with fail
      refine (HLX.out _).mono ?_
      rintro e w6 ⟨rfl, b6⟩
      have B6 := Lib.hid (belStep HBL.out b6)
      clear b6
      go_wp2_with fail
      refine (HD.out _ B6.out).mono ?_
      rintro e w7 ⟨rfl, b7⟩
      have B7 := Lib.hid ((belStep B6.out b7).alloc (belStep B6.out b7).size (.cells #[.int .i64 x1, .int .i64 x2, .int .i64 x3] 36))
      have K7 := Lib.hid (newBlockM w7 (.cells #[.int .i64 x1, .int .i64 x2, .int .i64 x3] 36))
      clear b7
      go_wp2_with fail
      refine (HLX.out _).mono ?_
      rintro e w8 ⟨rfl, b8⟩
      have B8 := Lib.hid (belStep B7.out b8)
      have K8 := Lib.hid ((b8.block _ (by simp)).trans K7.out)
      have s8 := b8.size
      simp at s8
      clear b8
      go_wp2_with fail
      refine (HD'.out _ B8.out).mono ?_
      rintro e w9 ⟨rfl, b9⟩
      have s9 := b9.size
      obtain ⟨c0, c1, c2, -⟩ := cells3 ((b9.block _ (by omega)).trans K8.out)
      have B9 := Lib.hid ((belStep B8.out b9).alloc (belStep B8.out b9).size (.cells #[.int .i64 y1, .int .i64 y2, .int .i64 y3] 36))
      have g9 : w7.heap.size < w9.heap.size := by omega
      clear b9 HD HD' K7 K8 HLX B6 B7 B8
      cases ck
      · go_wp2
        (first | go_quiet (fail) | skip)
        go_wp2
        go_roundw
        case rel => exact ⟨k + 1, by omega, by go_num, by rw [HNX.out]; rfl, B9.out⟩
        case measure => simp [intOf]; omega
      by_cases e0 : ox = oy
      · subst e0
        by_cases ez : ox = 0
        · subst ez
          have HGT : Hid (ag = true) := by show _ = _; rw [HG.out]; simp
          go_wp2
          (first | go_quiet (fail) | skip)
          go_wp2
          go_roundw
          case rel => exact ⟨k + 1, by omega, by go_num, by rw [HNX.out, HGT.out]; rfl, B9.out⟩
          case measure => simp [intOf]; omega
        · by_cases f1 : x1 = y1
          · subst f1
            by_cases f2 : x2 = y2
            · subst f2
              by_cases f3 : x3 = y3
              · subst f3
                have HGT : Hid (ag = true) := by show _ = _; rw [HG.out]; simp
                go_wp2
                (first | go_quiet (fail) | skip)
                go_wp2
                go_roundw
                case rel => exact ⟨k + 1, by omega, by go_num, by rw [HNX.out, HGT.out]; rfl, B9.out⟩
                case measure => simp [intOf]; omega
              · have HGT : Hid (ag = false) := by show _ = _; rw [HG.out]; simp [ez, f3]
                go_wp2
                (first | go_quiet (fail) | skip)
                go_wp2
                go_roundw
                case rel => exact ⟨k + 1, by omega, by go_num, by rw [HNX.out, HGT.out, show (ox == 0) = false from by simpa using ez]; rfl, B9.out⟩
                case measure => simp [intOf]; omega
            · have HGT : Hid (ag = false) := by show _ = _; rw [HG.out]; simp [ez, f2]
              go_wp2
              (first | go_quiet (fail) | skip)
              go_wp2
              go_roundw
              case rel => exact ⟨k + 1, by omega, by go_num, by rw [HNX.out, HGT.out, show (ox == 0) = false from by simpa using ez]; rfl, B9.out⟩
              case measure => simp [intOf]; omega
          · have HGT : Hid (ag = false) := by show _ = _; rw [HG.out]; simp [ez, f1]
            go_wp2
            (first | go_quiet (fail) | skip)
            go_wp2
            go_roundw
            case rel => exact ⟨k + 1, by omega, by go_num, by rw [HNX.out, HGT.out, show (ox == 0) = false from by simpa using ez]; rfl, B9.out⟩
            case measure => simp [intOf]; omega
      · have HGT : Hid (ag = false) := by show _ = _; rw [HG.out]; simp [e0]
        go_wp2
        (first | go_quiet (fail) | skip)
        go_wp2
        go_roundw
        case rel => exact ⟨k + 1, by omega, by go_num, by rw [HNX.out, HGT.out]; rfl, B9.out⟩
        case measure => simp [intOf]; omega
    · obtain rfl : k = 64 := by omega
      rw [HC64.out]
      clear hbel
      go_wp2_with fail
      refine (HI1.out _ (HL.out _ HBL.out) (HEW.out _ HBL.out)).mono ?_
      rintro e w6 ⟨rfl, b6⟩
      have B6 := Lib.hid (belStep HBL.out b6)
      clear b6
      go_wp2_with fail
      refine (HI2.out _ (HL'.out _ B6.out) (HL.out _ B6.out) (HEW.out _ B6.out)).mono ?_
      rintro e w7 ⟨rfl, b7⟩
      have B7 := Lib.hid (belStep B6.out b7)
      clear b7
      go_wp2
      go_ret
      exact ⟨by simp, BW.out _ B7.out⟩

set_option maxRecDepth 100000 in
theorem contract_FnTableSame (H : Type) (enc : TypeId × Value → H) (W : World) (base : Nat) (args : Array Value) (ds gs : List (DataW H)) (before : List MemPlace)
    (hval : ∀ (j : Nat) t v, Tryz.f7.params[j]? = some t → args[j]? = some v → Value.okWide Tryz.prog W .any base t v)
    (hW : DataW.Whole enc Tryz.prog Tryz.f7.params.toList Rows.fnTableSameSpec.vars false W args.toList ds gs before) (hE : EtOk W) :
    Calls Tryz.prog 7 args W fun e W' => ∃ v, e = .returned v ∧ Rows.fnTableSameSpec.post enc Tryz.prog Tryz.f7 false true false false W args v W' := by
  have hW' := hW
  obtain ⟨p, q, hA0, hV, rfl, hfz, hnd⟩ := hW
  have hA : DataW.TrodAll enc Tryz.prog W 0 (fun _ => true) true Tryz.f7.params.toList args.toList ds p := hA0
  rw [Tryz.params7] at hA hval
  obtain ⟨v0, vs0, d0, ds0, p0, q0, hargs, rfl, rfl, h0, r0⟩ := trodAll_cons hA
  obtain ⟨rfl, rfl, rfl⟩ := trodAll_nil r0
  obtain rfl : args = #[v0] := by cases args; simp_all
  obtain ⟨rfl, rfl⟩ := trodVars_none hV
  have k0 := h0
  have lt0 : ∀ x ∈ p0, x.block < W.heap.size := by obtain ⟨m, hm⟩ := k0; exact DataW.trod_lt m _ _ _ hm
  obtain ⟨a0, len0, cap0, rfl⟩ := okWide_slice Tryz.underlying22 (hval 0 22 v0 rfl rfl)
  have w0 : BytesIn W W.heap.size a0 len0 cap0 := isRow_of h0
  clear hA0
  refine (walk_FnTableSame a0 len0 cap0 W w0 hE).mono fun e W' ⟨he, bel⟩ => ?_
  subst he
  exact ⟨_, rfl, _, _, _, [], _, [], hW', trodAll_mk1 (shut_bool Tryz.underlying4 _), (trodAll_cons_mk (Below.trod laidOut (by kernel_rfl) (of_decide_eq_true (by kernel_rfl)) k0 bel lt0) (trodAll_mk0)), rfl, bel.frame _, fun h => by cases h⟩

/-- A world for the witness: the settled one, with the listed variables as the text lays them. -/
noncomputable def laidWorld_FnTableSame (os : Os) : World :=
  { World.holding Tryz.prog os ⟨#[], #[], []⟩ with heap := (((((World.holding Tryz.prog os ⟨#[], #[], []⟩).heap).modify 3 (fun | .cells _ t frozen => .cells #[.int .u8 0, .int .u8 1, .int .u8 28, .int .u8 2, .int .u8 29, .int .u8 14, .int .u8 24, .int .u8 3, .int .u8 30, .int .u8 22, .int .u8 20, .int .u8 15, .int .u8 25, .int .u8 17, .int .u8 4, .int .u8 8, .int .u8 31, .int .u8 27, .int .u8 13, .int .u8 23, .int .u8 21, .int .u8 19, .int .u8 16, .int .u8 7, .int .u8 26, .int .u8 12, .int .u8 18, .int .u8 6, .int .u8 11, .int .u8 5, .int .u8 10, .int .u8 9] t frozen | o => o)).modify 4 (fun | .cells _ t frozen => .cells #[.int .u8 0, .int .u8 1, .int .u8 56, .int .u8 2, .int .u8 57, .int .u8 49, .int .u8 28, .int .u8 3, .int .u8 61, .int .u8 58, .int .u8 42, .int .u8 50, .int .u8 38, .int .u8 29, .int .u8 17, .int .u8 4, .int .u8 62, .int .u8 47, .int .u8 59, .int .u8 36, .int .u8 45, .int .u8 43, .int .u8 51, .int .u8 22, .int .u8 53, .int .u8 39, .int .u8 33, .int .u8 30, .int .u8 24, .int .u8 18, .int .u8 12, .int .u8 5, .int .u8 63, .int .u8 55, .int .u8 48, .int .u8 27, .int .u8 60, .int .u8 41, .int .u8 37, .int .u8 16, .int .u8 46, .int .u8 35, .int .u8 44, .int .u8 21, .int .u8 52, .int .u8 32, .int .u8 23, .int .u8 11, .int .u8 54, .int .u8 26, .int .u8 40, .int .u8 15, .int .u8 34, .int .u8 20, .int .u8 31, .int .u8 10, .int .u8 25, .int .u8 14, .int .u8 19, .int .u8 9, .int .u8 13, .int .u8 8, .int .u8 7, .int .u8 6] t frozen | o => o)).modify 2 (fun | .cells _ t frozen => .cells #[.int .u64 1, .int .u64 10, .int .u64 100, .int .u64 1000, .int .u64 10000, .int .u64 100000, .int .u64 1000000, .int .u64 10000000, .int .u64 100000000, .int .u64 1000000000, .int .u64 10000000000, .int .u64 100000000000, .int .u64 1000000000000, .int .u64 10000000000000, .int .u64 100000000000000, .int .u64 1000000000000000, .int .u64 10000000000000000, .int .u64 100000000000000000, .int .u64 1000000000000000000, .int .u64 10000000000000000000] t frozen | o => o)).modify 0 (fun | .cells _ t frozen => .cells #[.iface 193 (.agg #[.pointer (some ⟨5, 130, none⟩)])] t frozen | o => o) }

theorem laidMet_FnTableSame (os : Os) : laidMetH Tryz.prog Rows.fnTableSameRow.laid ((laidWorld_FnTableSame os).forCall (fun _ _ => 0) ⟨#[], #[.slice none 0 0], []⟩).memory :=
  laidMetH_of_parts (laidMet_of_run' 8 (by kernel_rfl) (by kernel_rfl)) (by kernel_rfl)

theorem reads_FnTableSame (os : Os) {H : Type} (enc : TypeId × Value → H) : ∃ places, DataW.whole enc Tryz.prog ((laidWorld_FnTableSame os).forCall (fun _ _ => 0) ⟨#[], #[.slice none 0 0], []⟩).memory Tryz.f7.params.toList Rows.fnTableSameSpec.vars false (#[.slice none 0 0] : Array Value).toList 8 = some ([.nil], [], places) :=
  ⟨[], by kernel_rfl⟩

set_option maxRecDepth 100000 in
theorem lifted_FnTableSame (os : Os) (started : os.Started) (H : Type) (enc : TypeId × Value → H) (F : Stop.Interp) :
    ReturnsInHanded {} Tryz.checked os 7 .any ((OpenSpec.ofChange Rows.fnTableSameSpec).preRow enc Tryz.prog Tryz.f7 Rows.fnTableSameRow.domain false Rows.fnTableSameRow.laid) (((OpenSpec.ofChange Rows.fnTableSameSpec).at F).post enc Tryz.prog Tryz.f7 false true false false) := by
  obtain ⟨places, hx⟩ := reads_FnTableSame os enc
  refine returnsInHanded_of_row (C := Tryz.checked) (s := OpenSpec.ofChange Rows.fnTableSameSpec) own started (by kernel_rfl) Tryz.func7
    (witness_row_at (enc := enc) (C := Tryz.checked) false (laidWorld_FnTableSame os) #[.slice none 0 0] rfl (by kernel_rfl) (by kernel_rfl) (by kernel_rfl)
      (OpenSpec.preRow_of_cond 8 hx (by kernel_rfl) (fun k hk => by cases hk) (by kernel_rfl) (laidMet_FnTableSame os))) ?_
  intro W base args ds gs before hval hW _ _ _ hL _ _
  exact contract_FnTableSame H enc W base args ds gs before hval hW (etOk_of hL (by simp [Rows.fnTableSameRow]))

theorem said_FnTableSame : Rows.FnTableSameSaid :=
  OpenClaim.holds_of_cond 7 Tryz.f7 rfl rfl rfl rfl rfl rfl rfl ⟨rfl, rfl, rfl, rfl, rfl⟩ rfl rfl rfl rfl rfl (by kernel_rfl) Tryz.func7 (by kernel_rfl)
    (of_decide_eq_true (by kernel_rfl)) (by unfold Func.isWrapper; first | (rw [if_pos (by decide +kernel)]; kernel_rfl) | (rw [if_neg (by decide +kernel)]; exact ⟨rfl, rfl⟩))
    (fun os started H enc _ F => by rw [OpenClaim.pre_eq_preRow]; exact lifted_FnTableSame os started H enc F)

theorem plain_FnTableSame (f : FuncId) (fn : Func) (hf : Tryz.pinned.checked.prog.funcNamed "loop.example/crossbuck/laws.FnTableSame" = some f) (hfn : Tryz.pinned.checked.prog.funcs[f]? = some fn) :
    true = Tryz.pinned.checked.prog.looks [] ∧ ∀ (j : Nat) t, fn.params[j]? = some t → Tryz.pinned.checked.prog.wantsStandIn t = false := by
  obtain rfl : f = 7 := Option.some.inj ((show Tryz.prog.funcNamed "loop.example/crossbuck/laws.FnTableSame" = some 7 by kernel_rfl).symm.trans hf) |>.symm
  obtain rfl : fn = Tryz.f7 := (Option.some.inj (Tryz.func7.symm.trans hfn)).symm
  refine ⟨by kernel_rfl, fun j t ht => ?_⟩
  rw [Tryz.params7] at ht
  obtain rfl : t = 22 := by simpa using Array.mem_of_getElem? ht
  exact (show Tryz.prog.wantsStandIn 22 = false by kernel_rfl)

theorem proved_FnTableSame : Rows.FnTableSameCardSaid :=
  Claim7.holds_tied_plain_at .later [] _ _ _ _ said_FnTableSame (fun _ h => by cases h) (by kernel_rfl) (fun _ h => by cases h) fnTableSame_row_tie rfl ⟨rfl, rfl⟩ (by kernel_rfl) rfl plain_FnTableSame (by kernel_rfl)

end Go.Proofs.YtahobeigbjhbbaaGreatDoor
