/- The law WindowTicks at every world: what windows are joined to has just their ticks. No conditions. -/
import Derived.RangeFuncBox
import Derived.RangeFuncLeaves
import Derived.Shelf.Abstract
import Derived.OwnWalkIn
import Derived.TacticsInMore
import Derived.LoopNIn
import Derived.LoopIn
import Derived.BigRegionIn
import Derived.RangeFuncNested
import Derived.RangeFuncCalls
import Derived.Shelf.RegionOpen
import Derived.Sort.QuietIn
import Derived.StillTail
import Derived.StillTactics
import Derived.Maps.AppendAt
import Derived.Lib.SliceRun
import Derived.RangeFuncNested
import Derived.Test.YtejmfhmglbggnaaWinIn
import Derived.IntWalk
import Derived.ChangeSlices
import Derived.Deep.SlicePairs
import Derived.Deep.Strs
import Derived.ChangeArms
import Derived.Carry
import Derived.OpenShut
import Derived.Lib.QuietBelow
import Derived.Deep.QuietTactic
import Derived.Test.YtejmfhmglbggnaaWinLex
namespace Go.Proofs.Ytejmfhmglbggnaa.Wn
open Go.ChangeShapes Go.WideShapes Go.ChangeAt Go.RowKit Go.Deep Go.Sort
set_option linter.unusedVariables false
set_option linter.unusedSimpArgs false
attribute [local go_sem] Oper.semAt_some

theorem tcells {W : World} {g : Nat} {t : TypeId} {a b c : Value} (h : Blk W g t [a, b, c]) : W.cell? ⟨g, 0, none⟩ = some a ∧ W.cell? ⟨g, 1, none⟩ = some b ∧ W.cell? ⟨g, 2, none⟩ = some c := ⟨h.cell 0, h.cell 1, h.cell 2⟩
theorem wn_bad {t : Tm} {h : Int} (hw : ¬ we t h = 0) : wn t h = [] := by unfold wn; rw [if_neg hw]
theorem wins_w {t : Tm} {h x : Int} {zs : List Win} (hz : wn t h = zs) (hx : we t h = x) (W : World) : Calls Try.prog 9 #[.agg #[.int .i64 t.f, .int .i64 t.e, .int .i64 t.l], .int .i64 h] W fun e w' => ∃ A n c, e = .returned (.tuple #[.slice A n c, .int .i64 x]) ∧ RowAt w' A n c zs ∧ Below W.heap.size W w' := wins_v hz hx W

set_option maxRecDepth 100000 in
set_option maxHeartbeats 40000000 in
theorem ticks_all (w : World) (T0 T1 : Tm) (h : Int) (A3 : Option Addr) (l3 c3 : Nat) (Z3 : List Int) (hl3 : Hid (l3 = Z3.length)) (hc3 : l3 ≤ c3) (hr3 : Rd w (· < w.heap.size) A3 (ic Z3)) :
    Calls Try.prog 5 #[tv T0, tv T1, .int .i64 h, .slice A3 l3 c3] w fun e w' => e = .returned (.bool true) ∧ Below w.heap.size w w' := by
  have BS := Lib.hid ((Blk.new w 27 [.int .i64 T0.f, .int .i64 T0.e, .int .i64 T0.l]).alloc (.cells #[.int .i64 T1.f, .int .i64 T1.e, .int .i64 T1.l] 27))
  have bT := Blk.new (w.alloc (.cells #[.int .i64 T0.f, .int .i64 T0.e, .int .i64 T0.l] 27)) 27 [.int .i64 T1.f, .int .i64 T1.e, .int .i64 T1.l]
  rw [World.size_alloc] at bT
  have BT := Lib.hid bT
  clear bT
  have HB := Lib.hid (((Below.refl w.heap.size w).alloc (Nat.le_refl _) (.cells #[.int .i64 T0.f, .int .i64 T0.e, .int .i64 T0.l] 27)).alloc (by simp) (.cells #[.int .i64 T1.f, .int .i64 T1.e, .int .i64 T1.l] 27))
  show Calls Try.prog 5 #[.agg #[.int .i64 T0.f, .int .i64 T0.e, .int .i64 T0.l], .agg #[.int .i64 T1.f, .int .i64 T1.e, .int .i64 T1.l], .int .i64 h, .slice A3 l3 c3] w _
  obtain ⟨x0, hx0⟩ : ∃ x, we T0 h = x := ⟨_, rfl⟩
  obtain ⟨x1, hx1⟩ : ∃ x, we T1 h = x := ⟨_, rfl⟩
  obtain ⟨ZA, hza⟩ : ∃ z, wn T0 h = z := ⟨_, rfl⟩
  obtain ⟨ZB, hzb⟩ : ∃ z, wn T1 h = z := ⟨_, rfl⟩
  have D0 := Lib.hid (wins_w hza hx0)
  have D1 := Lib.hid (wins_w hzb hx1)
  by_cases e0 : x0 = 0
  · by_cases e1 : x1 = 0
    · by_cases n3 : 60 < l3
      · have n3' : (60 : Int) < (l3 : Int) := by omega
        subst e0
        subst e1
        go_enter Try.func5, Try.ntmps5
        go_wp2_with (first
          | (go_at_call 10; (with_reducible refine (lives_any _).mono ?_); rintro e1 wk ⟨rfl, hb⟩; (try (have X1 := Lib.hid (X1.out.later hb))); (try (have X2 := Lib.hid (X2.out.later hb))); (try (have X3 := Lib.hid (X3.out.later hb))); (try (have X4 := Lib.hid (X4.out.later hb))); (try (have X5 := Lib.hid (X5.out.later hb))); have BS := Lib.hid (BS.out.after hb); have BT := Lib.hid (BT.out.after hb); have HB := Lib.hid (below_then HB.out hb HB.out.size); clear hb; obtain ⟨s0, s1, s2⟩ := tcells BS.out; obtain ⟨t0, t1, t2⟩ := tcells BT.out)
          | (go_at_call 9; (with_reducible refine (D0.out _).mono ?_); rintro e1 wk ⟨a1, k1, d1, rfl, rr, hb⟩; (try (have X1 := Lib.hid (X1.out.later hb))); (try (have X2 := Lib.hid (X2.out.later hb))); (try (have X3 := Lib.hid (X3.out.later hb))); (try (have X4 := Lib.hid (X4.out.later hb))); (try (have X5 := Lib.hid (X5.out.later hb))); have BS := Lib.hid (BS.out.after hb); have BT := Lib.hid (BT.out.after hb); have HB := Lib.hid (below_then HB.out hb HB.out.size); clear hb; have X1 := Lib.hid rr; clear rr; obtain ⟨s0, s1, s2⟩ := tcells BS.out; obtain ⟨t0, t1, t2⟩ := tcells BT.out)
          | (go_at_call 9; (with_reducible refine (D1.out _).mono ?_); rintro e1 wk ⟨a2, k2, d2, rfl, rr, hb⟩; (try (have X1 := Lib.hid (X1.out.later hb))); (try (have X2 := Lib.hid (X2.out.later hb))); (try (have X3 := Lib.hid (X3.out.later hb))); (try (have X4 := Lib.hid (X4.out.later hb))); (try (have X5 := Lib.hid (X5.out.later hb))); have BS := Lib.hid (BS.out.after hb); have BT := Lib.hid (BT.out.after hb); have HB := Lib.hid (below_then HB.out hb HB.out.size); clear hb; have X2 := Lib.hid rr; clear rr; obtain ⟨s0, s1, s2⟩ := tcells BS.out; obtain ⟨t0, t1, t2⟩ := tcells BT.out)
          | fail)
        go_ret
        exact ⟨rfl, HB.out⟩
      · have n3' : ¬ (60 : Int) < (l3 : Int) := by omega
        subst e0
        subst e1
        have g0 : good ZA = true := by rw [← hza]; exact wn_good' _ _
        have g1 : good ZB = true := by rw [← hzb]; exact wn_good' _ _
        have L0 : ZA.length ≤ 256 := by rw [← hza]; exact wn_length _ _
        have L1 : ZB.length ≤ 256 := by rw [← hzb]; exact wn_length _ _
        have LU := un_length ZA ZB
        have M0 : ∀ x, mem ZA x ↔ inn T0 h x = true := fun x => by rw [← hza]; exact inn_mem hx0 x
        have M1 : ∀ x, mem ZB x ↔ inn T1 h x = true := fun x => by rw [← hzb]; exact inn_mem hx1 x
        obtain ⟨hc0, hh, _⟩ := we_ok hx0
        obtain ⟨hc1, _, _⟩ := we_ok hx1
        have gu := un_good' g0 g1
        have E1 : Hid (ZA.length + ZB.length ≤ 1000000) := Lib.hid (by omega)
        have E2 : Hid (ZB.length + ZA.length ≤ 1000000) := Lib.hid (by omega)
        have E3 : Hid ((un ZA ZB).length + ZA.length ≤ 1000000) := Lib.hid (by omega)
        have U2 : Hid (un ZB ZA = un ZA ZB) := Lib.hid (un_comm g1 g0)
        have U3 : Hid (un (un ZA ZB) ZA = un ZA ZB) := Lib.hid (un_absorb g0 g1)
        have HV : Hid (∀ x, tick x = true → hs ZA x = inn T0 h x ∧ hs (un ZA ZB) x = (inn T0 h x || inn T1 h x)) := Lib.hid fun x hx => ⟨hs_eq g0 hx (M0 x), hs_eq gu hx (by rw [un_mem g0 g1, M0, M1, Bool.or_eq_true])⟩
        have q1 := sm_un g0 g1
        have q2 := (good_gd g0).sm_le (by omega)
        have q3 := (good_gd g1).sm_le (by omega)
        obtain ⟨s, hs0⟩ : ∃ s, s = sm ZA := ⟨_, rfl⟩
        obtain ⟨r, hs1⟩ : ∃ s, s = sm ZB := ⟨_, rfl⟩
        obtain ⟨q, hsu⟩ : ∃ s, s = sm (un ZA ZB) := ⟨_, rfl⟩
        have S0 : Hid (smV ZA = s) := Lib.hid (by rw [hs0]; simp [smV, g0])
        have S1 : Hid (smV ZB = r) := Lib.hid (by rw [hs1]; simp [smV, g1])
        have SU : Hid (smV (un ZA ZB) = q) := Lib.hid (by rw [hsu]; simp [smV, gu])
        rw [← hs0, ← hs1, ← hsu] at q1
        rw [← hs0] at q2
        rw [← hs1] at q3
        obtain ⟨ZU, hU⟩ : ∃ U, un ZA ZB = U := ⟨_, rfl⟩
        rw [hU] at gu E3 U2 U3 HV SU
        have hU := Lib.hid hU
        have g0 := Lib.hid g0
        have g1 := Lib.hid g1
        have gu := Lib.hid gu
        have hc0 := Lib.hid hc0
        have hc1 := Lib.hid hc1
        have hh := Lib.hid hh
        clear hza hzb hx0 hx1 L0 L1 LU M0 M1 hs0 hs1 hsu
        go_enter Try.func5, Try.ntmps5
        go_wp2_with (first
          | (go_at_call 10; (with_reducible refine (lives_any _).mono ?_); rintro e1 wk ⟨rfl, hb⟩; (try (have X1 := Lib.hid (X1.out.later hb))); (try (have X2 := Lib.hid (X2.out.later hb))); (try (have X3 := Lib.hid (X3.out.later hb))); (try (have X4 := Lib.hid (X4.out.later hb))); (try (have X5 := Lib.hid (X5.out.later hb))); have BS := Lib.hid (BS.out.after hb); have BT := Lib.hid (BT.out.after hb); have HB := Lib.hid (below_then HB.out hb HB.out.size); clear hb; obtain ⟨s0, s1, s2⟩ := tcells BS.out; obtain ⟨t0, t1, t2⟩ := tcells BT.out)
          | (go_at_call 9; (with_reducible refine (D0.out _).mono ?_); rintro e1 wk ⟨a1, k1, d1, rfl, rr, hb⟩; (try (have X1 := Lib.hid (X1.out.later hb))); (try (have X2 := Lib.hid (X2.out.later hb))); (try (have X3 := Lib.hid (X3.out.later hb))); (try (have X4 := Lib.hid (X4.out.later hb))); (try (have X5 := Lib.hid (X5.out.later hb))); have BS := Lib.hid (BS.out.after hb); have BT := Lib.hid (BT.out.after hb); have HB := Lib.hid (below_then HB.out hb HB.out.size); clear hb; have X1 := Lib.hid rr; clear rr; obtain ⟨s0, s1, s2⟩ := tcells BS.out; obtain ⟨t0, t1, t2⟩ := tcells BT.out)
          | (go_at_call 9; (with_reducible refine (D1.out _).mono ?_); rintro e1 wk ⟨a2, k2, d2, rfl, rr, hb⟩; (try (have X1 := Lib.hid (X1.out.later hb))); (try (have X2 := Lib.hid (X2.out.later hb))); (try (have X3 := Lib.hid (X3.out.later hb))); (try (have X4 := Lib.hid (X4.out.later hb))); (try (have X5 := Lib.hid (X5.out.later hb))); have BS := Lib.hid (BS.out.after hb); have BT := Lib.hid (BT.out.after hb); have HB := Lib.hid (below_then HB.out hb HB.out.size); clear hb; have X2 := Lib.hid rr; clear rr; obtain ⟨s0, s1, s2⟩ := tcells BS.out; obtain ⟨t0, t1, t2⟩ := tcells BT.out)
          | (go_at_call 17; (with_reducible refine (union_w X1.out X2.out E1 hU).mono ?_); rintro e1 wk ⟨a3, k3, d3, rfl, rr, hb⟩; (try (have X1 := Lib.hid (X1.out.later hb))); (try (have X2 := Lib.hid (X2.out.later hb))); (try (have X3 := Lib.hid (X3.out.later hb))); (try (have X4 := Lib.hid (X4.out.later hb))); (try (have X5 := Lib.hid (X5.out.later hb))); have BS := Lib.hid (BS.out.after hb); have BT := Lib.hid (BT.out.after hb); have HB := Lib.hid (below_then HB.out hb HB.out.size); clear hb; have X3 := Lib.hid rr; clear rr)
          | (go_at_call 12; (with_reducible refine (good_y X1.out g0.out).mono ?_); rintro e1 wk ⟨rfl, hb⟩; (try (have X1 := Lib.hid (X1.out.later hb))); (try (have X2 := Lib.hid (X2.out.later hb))); (try (have X3 := Lib.hid (X3.out.later hb))); (try (have X4 := Lib.hid (X4.out.later hb))); (try (have X5 := Lib.hid (X5.out.later hb))); have BS := Lib.hid (BS.out.after hb); have BT := Lib.hid (BT.out.after hb); have HB := Lib.hid (below_then HB.out hb HB.out.size); clear hb)
          | (go_at_call 12; (with_reducible refine (good_y X3.out gu.out).mono ?_); rintro e1 wk ⟨rfl, hb⟩; (try (have X1 := Lib.hid (X1.out.later hb))); (try (have X2 := Lib.hid (X2.out.later hb))); (try (have X3 := Lib.hid (X3.out.later hb))); (try (have X4 := Lib.hid (X4.out.later hb))); (try (have X5 := Lib.hid (X5.out.later hb))); have BS := Lib.hid (BS.out.after hb); have BT := Lib.hid (BT.out.after hb); have HB := Lib.hid (below_then HB.out hb HB.out.size); clear hb)
          | (go_at_call 17; (with_reducible refine (union_w X2.out X1.out E2 U2).mono ?_); rintro e1 wk ⟨a4, k4, d4, rfl, rr, hb⟩; (try (have X1 := Lib.hid (X1.out.later hb))); (try (have X2 := Lib.hid (X2.out.later hb))); (try (have X3 := Lib.hid (X3.out.later hb))); (try (have X4 := Lib.hid (X4.out.later hb))); (try (have X5 := Lib.hid (X5.out.later hb))); have BS := Lib.hid (BS.out.after hb); have BT := Lib.hid (BT.out.after hb); have HB := Lib.hid (below_then HB.out hb HB.out.size); clear hb; have X4 := Lib.hid rr; clear rr)
          | (go_at_call 11; (with_reducible refine (same_r X3.out X4.out rfl).mono ?_); rintro e1 wk ⟨rfl, hb⟩; (try (have X1 := Lib.hid (X1.out.later hb))); (try (have X2 := Lib.hid (X2.out.later hb))); (try (have X3 := Lib.hid (X3.out.later hb))); (try (have X4 := Lib.hid (X4.out.later hb))); (try (have X5 := Lib.hid (X5.out.later hb))); have BS := Lib.hid (BS.out.after hb); have BT := Lib.hid (BT.out.after hb); have HB := Lib.hid (below_then HB.out hb HB.out.size); clear hb)
          | (go_at_call 17; (with_reducible refine (union_w X3.out X1.out E3 U3).mono ?_); rintro e1 wk ⟨a5, k5, d5, rfl, rr, hb⟩; (try (have X1 := Lib.hid (X1.out.later hb))); (try (have X2 := Lib.hid (X2.out.later hb))); (try (have X3 := Lib.hid (X3.out.later hb))); (try (have X4 := Lib.hid (X4.out.later hb))); (try (have X5 := Lib.hid (X5.out.later hb))); have BS := Lib.hid (BS.out.after hb); have BT := Lib.hid (BT.out.after hb); have HB := Lib.hid (below_then HB.out hb HB.out.size); clear hb; have X5 := Lib.hid rr; clear rr)
          | (go_at_call 11; (with_reducible refine (same_r X5.out X3.out rfl).mono ?_); rintro e1 wk ⟨rfl, hb⟩; (try (have X1 := Lib.hid (X1.out.later hb))); (try (have X2 := Lib.hid (X2.out.later hb))); (try (have X3 := Lib.hid (X3.out.later hb))); (try (have X4 := Lib.hid (X4.out.later hb))); (try (have X5 := Lib.hid (X5.out.later hb))); have BS := Lib.hid (BS.out.after hb); have BT := Lib.hid (BT.out.after hb); have HB := Lib.hid (below_then HB.out hb HB.out.size); clear hb)
          | (go_at_call 13; (with_reducible refine (sum_v X3.out SU.out).mono ?_); rintro e1 wk ⟨rfl, hb⟩; (try (have X1 := Lib.hid (X1.out.later hb))); (try (have X2 := Lib.hid (X2.out.later hb))); (try (have X3 := Lib.hid (X3.out.later hb))); (try (have X4 := Lib.hid (X4.out.later hb))); (try (have X5 := Lib.hid (X5.out.later hb))); have BS := Lib.hid (BS.out.after hb); have BT := Lib.hid (BT.out.after hb); have HB := Lib.hid (below_then HB.out hb HB.out.size); clear hb)
          | (go_at_call 13; (with_reducible refine (sum_v X1.out S0.out).mono ?_); rintro e1 wk ⟨rfl, hb⟩; (try (have X1 := Lib.hid (X1.out.later hb))); (try (have X2 := Lib.hid (X2.out.later hb))); (try (have X3 := Lib.hid (X3.out.later hb))); (try (have X4 := Lib.hid (X4.out.later hb))); (try (have X5 := Lib.hid (X5.out.later hb))); have BS := Lib.hid (BS.out.after hb); have BT := Lib.hid (BT.out.after hb); have HB := Lib.hid (below_then HB.out hb HB.out.size); clear hb)
          | (go_at_call 13; (with_reducible refine (sum_v X2.out S1.out).mono ?_); rintro e1 wk ⟨rfl, hb⟩; (try (have X1 := Lib.hid (X1.out.later hb))); (try (have X2 := Lib.hid (X2.out.later hb))); (try (have X3 := Lib.hid (X3.out.later hb))); (try (have X4 := Lib.hid (X4.out.later hb))); (try (have X5 := Lib.hid (X5.out.later hb))); have BS := Lib.hid (BS.out.after hb); have BT := Lib.hid (BT.out.after hb); have HB := Lib.hid (below_then HB.out hb HB.out.size); clear hb)
          | fail)
        clear s0 s1 s2 t0 t1 t2 S0 S1 SU U2 U3 E1 E2 E3 hU X4 X5 X2 q1 q2 q3
        go_loopw [14] (fun v14 wr => ∃ k : Nat, v14 = .int .i64 k ∧ k ≤ l3 ∧ Hid (RowAt wr a1 k1 d1 ZA) ∧ Hid (RowAt wr a3 k3 d3 ZU) ∧ Hid (Blk wr w.heap.size 27 [.int .i64 T0.f, .int .i64 T0.e, .int .i64 T0.l]) ∧ Hid (Blk wr (w.heap.size + 1) 27 [.int .i64 T1.f, .int .i64 T1.e, .int .i64 T1.l]) ∧ Hid (Below w.heap.size w wr)) (fun v _ => l3 - (intOf v).toNat)
        case atStart => exact ⟨0, rfl, by omega, X1, X3, BS, BT, HB⟩
        case round =>
          clear X1 X3 BS BT HB
          obtain ⟨k, rfl, hk, X1, X3, BS, BT, HB⟩ := hrel
          by_cases hlt : k < l3
          · have hi : (k : Int) < (l3 : Int) := by omega
            have hkl : k < Z3.length := by rw [← hl3.out]; exact hlt
            obtain ⟨ad, rfl, _, hca⟩ := (hr3.below2 HB.out).at_ (k := k) hkl
            have a0 := hca k hkl
            obtain ⟨x, hx⟩ : ∃ x, x = Z3.getD k 0 := ⟨_, rfl⟩
            rw [← hx] at a0
            clear hca hx hkl
            by_cases c1 : x < 0
            · go_wp2
              go_roundw
              case rel => exact ⟨k + 1, by go_num, by omega, X1, X3, BS, BT, HB⟩
              case measure => simp [intOf]; omega
            · by_cases c2 : 1099511627776 < x
              · go_wp2
                go_roundw
                case rel => exact ⟨k + 1, by go_num, by omega, X1, X3, BS, BT, HB⟩
                case measure => simp [intOf]; omega
              · have ht : tick x = true := (tick_iff x).2 ⟨by omega, by omega⟩
                obtain ⟨v1, v2⟩ := HV.out x ht
                have hcs := fun d os => cell_regrown (tcells BS.out).1 d os
                have hcs1 := fun d os => cell_regrown (tcells BS.out).2.1 d os
                have hcs2 := fun d os => cell_regrown (tcells BS.out).2.2 d os
                have hct := fun d os => cell_regrown (tcells BT.out).1 d os
                have hct1 := fun d os => cell_regrown (tcells BT.out).2.1 d os
                have hct2 := fun d os => cell_regrown (tcells BT.out).2.2 d os
                cases w0 : inn T0 h x with
                | true =>
                  rw [w0] at v1 v2
                  rw [Bool.true_or] at v2
                  have cA := Lib.hid fun d os => Calls.regrown_of (has_v (X1.out.later (below_regrown wr d os)) v1)
                  have cU := Lib.hid fun d os => Calls.regrown_of (has_v (X3.out.later (below_regrown wr d os)) v2)
                  have cI : Hid (∀ d os, Calls Try.prog 30 #[.agg #[.int .i64 T0.f, .int .i64 T0.e, .int .i64 T0.l], .int .i64 h, .int .i64 x] (grow (redrawn wr d) os) fun e w'' => e = .returned (.bool true) ∧ ∃ p : Regrown, w'' = grow (redrawn wr p.d) p.os) := Lib.hid fun d os => Calls.regrown_of (by
                    have := in_any T0 h x (grow (redrawn wr d) os) hc0.out hh.out ht; rwa [w0] at this)
                  clear v1 v2 w0
                  go_wp2
                  refine wp_region_quiet_below mixed (by kernel_rfl) ?_
                  repeat (go_big_quiet_step (with_reducible first | exact cA.out _ _ | exact cU.out _ _ | exact cI.out _ _))
                  refine wpQuiet_nil ?_
                  intro _ hw'
                  obtain ⟨⟨dq, osq⟩, hw''⟩ := hw'
                  subst hw''
                  clear hcs hcs1 hcs2 hct hct1 hct2 cA cU cI
                  go_wp2
                  go_roundw
                  case rel => exact ⟨k + 1, by go_num, by omega, Lib.hid (X1.out.later (below_regrown wr dq osq)), Lib.hid (X3.out.later (below_regrown wr dq osq)), Lib.hid (BS.out.after (below_regrown wr dq osq)), Lib.hid (BT.out.after (below_regrown wr dq osq)), Lib.hid (below_then HB.out (below_regrown wr dq osq) HB.out.size)⟩
                  case measure => simp [intOf]; omega
                | false =>
                  rw [w0] at v1 v2
                  rw [Bool.false_or] at v2
                  obtain ⟨b, hb⟩ : ∃ b, inn T1 h x = b := ⟨_, rfl⟩
                  rw [hb] at v2
                  have cA := Lib.hid fun d os => Calls.regrown_of (has_v (X1.out.later (below_regrown wr d os)) v1)
                  have cU := Lib.hid fun d os => Calls.regrown_of (has_v (X3.out.later (below_regrown wr d os)) v2)
                  have cI : Hid (∀ d os, Calls Try.prog 30 #[.agg #[.int .i64 T0.f, .int .i64 T0.e, .int .i64 T0.l], .int .i64 h, .int .i64 x] (grow (redrawn wr d) os) fun e w'' => e = .returned (.bool false) ∧ ∃ p : Regrown, w'' = grow (redrawn wr p.d) p.os) := Lib.hid fun d os => Calls.regrown_of (by
                    have := in_any T0 h x (grow (redrawn wr d) os) hc0.out hh.out ht; rwa [w0] at this)
                  have cJ : Hid (∀ d os, Calls Try.prog 30 #[.agg #[.int .i64 T1.f, .int .i64 T1.e, .int .i64 T1.l], .int .i64 h, .int .i64 x] (grow (redrawn wr d) os) fun e w'' => e = .returned (.bool b) ∧ ∃ p : Regrown, w'' = grow (redrawn wr p.d) p.os) := Lib.hid fun d os => Calls.regrown_of (by
                    have := in_any T1 h x (grow (redrawn wr d) os) hc1.out hh.out ht; rwa [hb] at this)
                  clear v1 v2 w0 hb
                  have hbb : (b != b) = false := by simp
                  cases b
                  all_goals
                    go_wp2
                    refine wp_region_quiet_below mixed (by kernel_rfl) ?_
                    repeat (go_big_quiet_step (with_reducible first | exact cA.out _ _ | exact cU.out _ _ | exact cI.out _ _ | exact cJ.out _ _))
                    refine wpQuiet_nil ?_
                    intro _ hw'
                    obtain ⟨⟨dq, osq⟩, hw''⟩ := hw'
                    subst hw''
                    clear hcs hcs1 hcs2 hct hct1 hct2 cA cU cI cJ
                    go_wp2
                    go_roundw
                    case rel => exact ⟨k + 1, by go_num, by omega, Lib.hid (X1.out.later (below_regrown wr dq osq)), Lib.hid (X3.out.later (below_regrown wr dq osq)), Lib.hid (BS.out.after (below_regrown wr dq osq)), Lib.hid (BT.out.after (below_regrown wr dq osq)), Lib.hid (below_then HB.out (below_regrown wr dq osq) HB.out.size)⟩
                    case measure => simp [intOf]; omega
          · go_wp2
            go_ret
            exact ⟨rfl, HB.out⟩
    · have e1' : (x1 == 0) = false := by simpa using e1
      subst e0
      go_enter Try.func5, Try.ntmps5
      go_wp2_with (first
        | (go_at_call 10; (with_reducible refine (lives_any _).mono ?_); rintro e1 wk ⟨rfl, hb⟩; (try (have X1 := Lib.hid (X1.out.later hb))); (try (have X2 := Lib.hid (X2.out.later hb))); (try (have X3 := Lib.hid (X3.out.later hb))); (try (have X4 := Lib.hid (X4.out.later hb))); (try (have X5 := Lib.hid (X5.out.later hb))); have BS := Lib.hid (BS.out.after hb); have BT := Lib.hid (BT.out.after hb); have HB := Lib.hid (below_then HB.out hb HB.out.size); clear hb; obtain ⟨s0, s1, s2⟩ := tcells BS.out; obtain ⟨t0, t1, t2⟩ := tcells BT.out)
        | (go_at_call 9; (with_reducible refine (D0.out _).mono ?_); rintro e1 wk ⟨a1, k1, d1, rfl, rr, hb⟩; (try (have X1 := Lib.hid (X1.out.later hb))); (try (have X2 := Lib.hid (X2.out.later hb))); (try (have X3 := Lib.hid (X3.out.later hb))); (try (have X4 := Lib.hid (X4.out.later hb))); (try (have X5 := Lib.hid (X5.out.later hb))); have BS := Lib.hid (BS.out.after hb); have BT := Lib.hid (BT.out.after hb); have HB := Lib.hid (below_then HB.out hb HB.out.size); clear hb; have X1 := Lib.hid rr; clear rr; obtain ⟨s0, s1, s2⟩ := tcells BS.out; obtain ⟨t0, t1, t2⟩ := tcells BT.out)
        | (go_at_call 9; (with_reducible refine (D1.out _).mono ?_); rintro e1 wk ⟨a2, k2, d2, rfl, rr, hb⟩; (try (have X1 := Lib.hid (X1.out.later hb))); (try (have X2 := Lib.hid (X2.out.later hb))); (try (have X3 := Lib.hid (X3.out.later hb))); (try (have X4 := Lib.hid (X4.out.later hb))); (try (have X5 := Lib.hid (X5.out.later hb))); have BS := Lib.hid (BS.out.after hb); have BT := Lib.hid (BT.out.after hb); have HB := Lib.hid (below_then HB.out hb HB.out.size); clear hb; have X2 := Lib.hid rr; clear rr; obtain ⟨s0, s1, s2⟩ := tcells BS.out; obtain ⟨t0, t1, t2⟩ := tcells BT.out)
        | fail)
      go_ret
      exact ⟨rfl, HB.out⟩
  · have e0' : (x0 == 0) = false := by simpa using e0
    have hnil : ZA = [] := by rw [← hza]; exact wn_bad (by rw [hx0]; exact e0)
    subst hnil
    go_enter Try.func5, Try.ntmps5
    go_wp2_with (first
      | (go_at_call 10; (with_reducible refine (lives_any _).mono ?_); rintro e1 wk ⟨rfl, hb⟩; (try (have X1 := Lib.hid (X1.out.later hb))); (try (have X2 := Lib.hid (X2.out.later hb))); (try (have X3 := Lib.hid (X3.out.later hb))); (try (have X4 := Lib.hid (X4.out.later hb))); (try (have X5 := Lib.hid (X5.out.later hb))); have BS := Lib.hid (BS.out.after hb); have BT := Lib.hid (BT.out.after hb); have HB := Lib.hid (below_then HB.out hb HB.out.size); clear hb; obtain ⟨s0, s1, s2⟩ := tcells BS.out; obtain ⟨t0, t1, t2⟩ := tcells BT.out)
      | (go_at_call 9; (with_reducible refine (D0.out _).mono ?_); rintro e1 wk ⟨a1, k1, d1, rfl, rr, hb⟩; (try (have X1 := Lib.hid (X1.out.later hb))); (try (have X2 := Lib.hid (X2.out.later hb))); (try (have X3 := Lib.hid (X3.out.later hb))); (try (have X4 := Lib.hid (X4.out.later hb))); (try (have X5 := Lib.hid (X5.out.later hb))); have BS := Lib.hid (BS.out.after hb); have BT := Lib.hid (BT.out.after hb); have HB := Lib.hid (below_then HB.out hb HB.out.size); clear hb; obtain rfl : k1 = 0 := rr.zero; clear rr; obtain ⟨s0, s1, s2⟩ := tcells BS.out; obtain ⟨t0, t1, t2⟩ := tcells BT.out)
      | (go_at_call 9; (with_reducible refine (D1.out _).mono ?_); rintro e1 wk ⟨a2, k2, d2, rfl, rr, hb⟩; (try (have X1 := Lib.hid (X1.out.later hb))); (try (have X2 := Lib.hid (X2.out.later hb))); (try (have X3 := Lib.hid (X3.out.later hb))); (try (have X4 := Lib.hid (X4.out.later hb))); (try (have X5 := Lib.hid (X5.out.later hb))); have BS := Lib.hid (BS.out.after hb); have BT := Lib.hid (BT.out.after hb); have HB := Lib.hid (below_then HB.out hb HB.out.size); clear hb; have X2 := Lib.hid rr; clear rr; obtain ⟨s0, s1, s2⟩ := tcells BS.out; obtain ⟨t0, t1, t2⟩ := tcells BT.out)
      | fail)
    go_ret
    exact ⟨rfl, HB.out⟩
end Go.Proofs.Ytejmfhmglbggnaa.Wn
