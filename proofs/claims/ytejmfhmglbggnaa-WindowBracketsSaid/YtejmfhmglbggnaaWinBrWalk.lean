/- The law WindowBrackets at every world: windows are joined in whatever brackets. No conditions. -/
import Derived.RangeFuncBox
import Derived.RangeFuncLeaves
import Derived.Shelf.Abstract
import Derived.OwnWalkIn
import Derived.TacticsInMore
import Derived.LoopNIn
import Derived.LoopIn
import Derived.BigRegionIn
import Derived.RangeFuncNested
import Derived.RangeFuncCalls
import Derived.Shelf.RegionOpen
import Derived.Sort.QuietIn
import Derived.StillTail
import Derived.StillTactics
import Derived.Maps.AppendAt
import Derived.Lib.SliceRun
import Derived.RangeFuncNested
import Derived.Test.YtejmfhmglbggnaaWinRows
import Derived.IntWalk
import Derived.ChangeSlices
import Derived.Deep.SlicePairs
import Derived.Deep.Strs
import Derived.ChangeArms
import Derived.Carry
import Derived.OpenShut
namespace Go.Proofs.Ytejmfhmglbggnaa.Wn
open Go.ChangeShapes Go.WideShapes Go.ChangeAt Go.RowKit Go.Deep
set_option linter.unusedVariables false
set_option linter.unusedSimpArgs false
attribute [local go_sem] Oper.semAt_some

theorem max3 (P : Program) (a b c : Int) : ∃ m : Int, (m = a ∨ m = b ∨ m = c) ∧ ∀ w : World, (Builtin.max_ #[2, 2, 2] 2 #[.int .i64 a, .int .i64 b, .int .i64 c]).run P w = .ok (.int .i64 m) w := by
  refine ⟨if (if a < b then b else a) < c then c else (if a < b then b else a), ?_, fun w => ?_⟩
  · by_cases h1 : a < b
    · simp only [h1, if_true]; split <;> simp
    · simp only [h1, if_false]; split <;> simp
  · simp [Builtin.max_, Builtin.max2, go_sem, Sem.run_bind, Sem.run_pure, Result.andThen]
set_option maxHeartbeats 16000000 in
theorem brackets_all (w : World) (A0 A1 A2 : Option Addr) (l0 l1 l2 c0 c1 c2 : Nat) (Z0 Z1 Z2 : List Win) (hl0 : Hid (l0 = Z0.length)) (hl1 : Hid (l1 = Z1.length)) (hl2 : Hid (l2 = Z2.length)) (hc0 : l0 ≤ c0) (hc1 : l1 ≤ c1) (hc2 : l2 ≤ c2)
    (hr0 : Rd w (· < w.heap.size) A0 (kc Z0)) (hr1 : Rd w (· < w.heap.size) A1 (kc Z1)) (hr2 : Rd w (· < w.heap.size) A2 (kc Z2)) :
    Calls Try.prog 7 #[.slice A0 l0 c0, .slice A1 l1 c1, .slice A2 l2 c2] w fun e w' => e = .returned (.bool true) ∧ Below w.heap.size w w' := by
  have HB := Lib.hid (Below.refl w.heap.size w)
  by_cases n0 : 300 < l0
  · have n0' : (300 : Int) < (l0 : Int) := by omega
    clear hr0 hr1 hr2
    go_enter Try.func7, Try.ntmps7
    go_wp2_with (first
      | (go_at_call 10; (with_reducible refine (lives_any _).mono ?_); rintro e1 wk ⟨rfl, hb⟩; (try (have R0 := Lib.hid (R0.out.later hb))); (try (have R1 := Lib.hid (R1.out.later hb))); (try (have R2 := Lib.hid (R2.out.later hb))); (try (have X1 := Lib.hid (X1.out.later hb))); (try (have X2 := Lib.hid (X2.out.later hb))); (try (have X3 := Lib.hid (X3.out.later hb))); (try (have X4 := Lib.hid (X4.out.later hb))); (try (have X5 := Lib.hid (X5.out.later hb))); (try (have X6 := Lib.hid (X6.out.later hb))); have HB := Lib.hid (below_then HB.out hb HB.out.size); clear hb)
      | fail)
    go_ret
    exact ⟨rfl, HB.out⟩
  · have n0' : ¬ (300 : Int) < (l0 : Int) := by omega
    by_cases n1 : 300 < l1
    · have n1' : (300 : Int) < (l1 : Int) := by omega
      clear hr0 hr1 hr2
      go_enter Try.func7, Try.ntmps7
      go_wp2_with (first
        | (go_at_call 10; (with_reducible refine (lives_any _).mono ?_); rintro e1 wk ⟨rfl, hb⟩; (try (have R0 := Lib.hid (R0.out.later hb))); (try (have R1 := Lib.hid (R1.out.later hb))); (try (have R2 := Lib.hid (R2.out.later hb))); (try (have X1 := Lib.hid (X1.out.later hb))); (try (have X2 := Lib.hid (X2.out.later hb))); (try (have X3 := Lib.hid (X3.out.later hb))); (try (have X4 := Lib.hid (X4.out.later hb))); (try (have X5 := Lib.hid (X5.out.later hb))); (try (have X6 := Lib.hid (X6.out.later hb))); have HB := Lib.hid (below_then HB.out hb HB.out.size); clear hb)
        | fail)
      go_ret
      exact ⟨rfl, HB.out⟩
    · have n1' : ¬ (300 : Int) < (l1 : Int) := by omega
      by_cases n2 : 300 < l2
      · have n2' : (300 : Int) < (l2 : Int) := by omega
        clear hr0 hr1 hr2
        go_enter Try.func7, Try.ntmps7
        go_wp2_with (first
          | (go_at_call 10; (with_reducible refine (lives_any _).mono ?_); rintro e1 wk ⟨rfl, hb⟩; (try (have R0 := Lib.hid (R0.out.later hb))); (try (have R1 := Lib.hid (R1.out.later hb))); (try (have R2 := Lib.hid (R2.out.later hb))); (try (have X1 := Lib.hid (X1.out.later hb))); (try (have X2 := Lib.hid (X2.out.later hb))); (try (have X3 := Lib.hid (X3.out.later hb))); (try (have X4 := Lib.hid (X4.out.later hb))); (try (have X5 := Lib.hid (X5.out.later hb))); (try (have X6 := Lib.hid (X6.out.later hb))); have HB := Lib.hid (below_then HB.out hb HB.out.size); clear hb)
          | fail)
        go_ret
        exact ⟨rfl, HB.out⟩
      · have n2' : ¬ (300 : Int) < (l2 : Int) := by omega
        have R0 := Lib.hid (RowAt.mk hl0 hc0 (by omega) hr0)
        have R1 := Lib.hid (RowAt.mk hl1 hc1 (by omega) hr1)
        have R2 := Lib.hid (RowAt.mk hl2 hc2 (by omega) hr2)
        have B0 : Z0.length ≤ 300 := by rw [← hl0.out]; omega
        have B1 : Z1.length ≤ 300 := by rw [← hl1.out]; omega
        have B2 : Z2.length ≤ 300 := by rw [← hl2.out]; omega
        clear hr0 hr1 hr2
        cases g0 : good Z0 with
        | false =>
          clear B0 B1 B2
          have g0 := Lib.hid g0
          go_enter Try.func7, Try.ntmps7
          go_wp2_with (first
            | (go_at_call 10; (with_reducible refine (lives_any _).mono ?_); rintro e1 wk ⟨rfl, hb⟩; (try (have R0 := Lib.hid (R0.out.later hb))); (try (have R1 := Lib.hid (R1.out.later hb))); (try (have R2 := Lib.hid (R2.out.later hb))); (try (have X1 := Lib.hid (X1.out.later hb))); (try (have X2 := Lib.hid (X2.out.later hb))); (try (have X3 := Lib.hid (X3.out.later hb))); (try (have X4 := Lib.hid (X4.out.later hb))); (try (have X5 := Lib.hid (X5.out.later hb))); (try (have X6 := Lib.hid (X6.out.later hb))); have HB := Lib.hid (below_then HB.out hb HB.out.size); clear hb)
            | (go_at_call 12; (with_reducible refine (good_n R0.out g0.out).mono ?_); rintro e1 wk ⟨rfl, hb⟩; (try (have R0 := Lib.hid (R0.out.later hb))); (try (have R1 := Lib.hid (R1.out.later hb))); (try (have R2 := Lib.hid (R2.out.later hb))); (try (have X1 := Lib.hid (X1.out.later hb))); (try (have X2 := Lib.hid (X2.out.later hb))); (try (have X3 := Lib.hid (X3.out.later hb))); (try (have X4 := Lib.hid (X4.out.later hb))); (try (have X5 := Lib.hid (X5.out.later hb))); (try (have X6 := Lib.hid (X6.out.later hb))); have HB := Lib.hid (below_then HB.out hb HB.out.size); clear hb)
            | fail)
          go_ret
          exact ⟨rfl, HB.out⟩
        | true =>
          cases g1 : good Z1 with
          | false =>
            clear B0 B1 B2
            have g0 := Lib.hid g0
            have g1 := Lib.hid g1
            go_enter Try.func7, Try.ntmps7
            go_wp2_with (first
              | (go_at_call 10; (with_reducible refine (lives_any _).mono ?_); rintro e1 wk ⟨rfl, hb⟩; (try (have R0 := Lib.hid (R0.out.later hb))); (try (have R1 := Lib.hid (R1.out.later hb))); (try (have R2 := Lib.hid (R2.out.later hb))); (try (have X1 := Lib.hid (X1.out.later hb))); (try (have X2 := Lib.hid (X2.out.later hb))); (try (have X3 := Lib.hid (X3.out.later hb))); (try (have X4 := Lib.hid (X4.out.later hb))); (try (have X5 := Lib.hid (X5.out.later hb))); (try (have X6 := Lib.hid (X6.out.later hb))); have HB := Lib.hid (below_then HB.out hb HB.out.size); clear hb)
              | (go_at_call 12; (with_reducible refine (good_y R0.out g0.out).mono ?_); rintro e1 wk ⟨rfl, hb⟩; (try (have R0 := Lib.hid (R0.out.later hb))); (try (have R1 := Lib.hid (R1.out.later hb))); (try (have R2 := Lib.hid (R2.out.later hb))); (try (have X1 := Lib.hid (X1.out.later hb))); (try (have X2 := Lib.hid (X2.out.later hb))); (try (have X3 := Lib.hid (X3.out.later hb))); (try (have X4 := Lib.hid (X4.out.later hb))); (try (have X5 := Lib.hid (X5.out.later hb))); (try (have X6 := Lib.hid (X6.out.later hb))); have HB := Lib.hid (below_then HB.out hb HB.out.size); clear hb)
              | (go_at_call 12; (with_reducible refine (good_n R1.out g1.out).mono ?_); rintro e1 wk ⟨rfl, hb⟩; (try (have R0 := Lib.hid (R0.out.later hb))); (try (have R1 := Lib.hid (R1.out.later hb))); (try (have R2 := Lib.hid (R2.out.later hb))); (try (have X1 := Lib.hid (X1.out.later hb))); (try (have X2 := Lib.hid (X2.out.later hb))); (try (have X3 := Lib.hid (X3.out.later hb))); (try (have X4 := Lib.hid (X4.out.later hb))); (try (have X5 := Lib.hid (X5.out.later hb))); (try (have X6 := Lib.hid (X6.out.later hb))); have HB := Lib.hid (below_then HB.out hb HB.out.size); clear hb)
              | fail)
            go_ret
            exact ⟨rfl, HB.out⟩
          | true =>
            cases g2 : good Z2 with
            | false =>
              clear B0 B1 B2
              have g0 := Lib.hid g0
              have g1 := Lib.hid g1
              have g2 := Lib.hid g2
              go_enter Try.func7, Try.ntmps7
              go_wp2_with (first
                | (go_at_call 10; (with_reducible refine (lives_any _).mono ?_); rintro e1 wk ⟨rfl, hb⟩; (try (have R0 := Lib.hid (R0.out.later hb))); (try (have R1 := Lib.hid (R1.out.later hb))); (try (have R2 := Lib.hid (R2.out.later hb))); (try (have X1 := Lib.hid (X1.out.later hb))); (try (have X2 := Lib.hid (X2.out.later hb))); (try (have X3 := Lib.hid (X3.out.later hb))); (try (have X4 := Lib.hid (X4.out.later hb))); (try (have X5 := Lib.hid (X5.out.later hb))); (try (have X6 := Lib.hid (X6.out.later hb))); have HB := Lib.hid (below_then HB.out hb HB.out.size); clear hb)
                | (go_at_call 12; (with_reducible refine (good_y R0.out g0.out).mono ?_); rintro e1 wk ⟨rfl, hb⟩; (try (have R0 := Lib.hid (R0.out.later hb))); (try (have R1 := Lib.hid (R1.out.later hb))); (try (have R2 := Lib.hid (R2.out.later hb))); (try (have X1 := Lib.hid (X1.out.later hb))); (try (have X2 := Lib.hid (X2.out.later hb))); (try (have X3 := Lib.hid (X3.out.later hb))); (try (have X4 := Lib.hid (X4.out.later hb))); (try (have X5 := Lib.hid (X5.out.later hb))); (try (have X6 := Lib.hid (X6.out.later hb))); have HB := Lib.hid (below_then HB.out hb HB.out.size); clear hb)
                | (go_at_call 12; (with_reducible refine (good_y R1.out g1.out).mono ?_); rintro e1 wk ⟨rfl, hb⟩; (try (have R0 := Lib.hid (R0.out.later hb))); (try (have R1 := Lib.hid (R1.out.later hb))); (try (have R2 := Lib.hid (R2.out.later hb))); (try (have X1 := Lib.hid (X1.out.later hb))); (try (have X2 := Lib.hid (X2.out.later hb))); (try (have X3 := Lib.hid (X3.out.later hb))); (try (have X4 := Lib.hid (X4.out.later hb))); (try (have X5 := Lib.hid (X5.out.later hb))); (try (have X6 := Lib.hid (X6.out.later hb))); have HB := Lib.hid (below_then HB.out hb HB.out.size); clear hb)
                | (go_at_call 12; (with_reducible refine (good_n R2.out g2.out).mono ?_); rintro e1 wk ⟨rfl, hb⟩; (try (have R0 := Lib.hid (R0.out.later hb))); (try (have R1 := Lib.hid (R1.out.later hb))); (try (have R2 := Lib.hid (R2.out.later hb))); (try (have X1 := Lib.hid (X1.out.later hb))); (try (have X2 := Lib.hid (X2.out.later hb))); (try (have X3 := Lib.hid (X3.out.later hb))); (try (have X4 := Lib.hid (X4.out.later hb))); (try (have X5 := Lib.hid (X5.out.later hb))); (try (have X6 := Lib.hid (X6.out.later hb))); have HB := Lib.hid (below_then HB.out hb HB.out.size); clear hb)
                | fail)
              go_ret
              exact ⟨rfl, HB.out⟩
            | true =>
              have L1 := un_length Z0 Z1
              have L2 := un_length Z1 Z2
              have gu1 := un_good' g0 g1
              have gx := un_good' gu1 g2
              have gy := un_good' g1 g2
              have E1 : Hid (Z0.length + Z1.length ≤ 1000000) := Lib.hid (by omega)
              have E2 : Hid ((un Z0 Z1).length + Z2.length ≤ 1000000) := Lib.hid (by omega)
              have E3 : Hid (Z1.length + Z2.length ≤ 1000000) := Lib.hid (by omega)
              have E4 : Hid (Z0.length + (un Z1 Z2).length ≤ 1000000) := Lib.hid (by omega)
              have E5 : Hid (Z0.length + ([] : List Win).length ≤ 1000000) := Lib.hid (by simp; omega)
              have E6 : Hid (Z0.length + Z0.length ≤ 1000000) := Lib.hid (by omega)
              have U5 : Hid (un Z0 [] = Z0) := Lib.hid (un_nil g0)
              have U6 : Hid (un Z0 Z0 = Z0) := Lib.hid (un_self g0)
              have U4 : Hid (un Z0 (un Z1 Z2) = un (un Z0 Z1) Z2) := Lib.hid (un_assoc g0 g1 g2).symm
              obtain ⟨s0, hs0⟩ : ∃ s, s = sm Z0 := ⟨_, rfl⟩
              obtain ⟨s1, hs1⟩ : ∃ s, s = sm Z1 := ⟨_, rfl⟩
              obtain ⟨s2, hs2⟩ : ∃ s, s = sm Z2 := ⟨_, rfl⟩
              obtain ⟨sx, hsx⟩ : ∃ s, s = sm (un (un Z0 Z1) Z2) := ⟨_, rfl⟩
              have q0 : s0 ≤ sx := by rw [hs0, hsx]; exact Int.le_trans (sm_un_l g0 g1) (sm_un_l gu1 g2)
              have q1 : s1 ≤ sx := by rw [hs1, hsx]; exact Int.le_trans (sm_un_r g0 g1) (sm_un_l gu1 g2)
              have q2 : s2 ≤ sx := by rw [hs2, hsx]; exact sm_un_r gu1 g2
              have S0 : Hid (smV Z0 = s0) := Lib.hid (by rw [hs0]; simp [smV, g0])
              have S1 : Hid (smV Z1 = s1) := Lib.hid (by rw [hs1]; simp [smV, g1])
              have S2 : Hid (smV Z2 = s2) := Lib.hid (by rw [hs2]; simp [smV, g2])
              obtain ⟨U, hU⟩ : ∃ U, U = un Z0 Z1 := ⟨_, rfl⟩
              obtain ⟨V, hV⟩ : ∃ V, V = un Z1 Z2 := ⟨_, rfl⟩
              rw [← hU] at E2 U4 gx hsx
              rw [← hV] at E4 U4
              obtain ⟨X, hX⟩ : ∃ X, X = un U Z2 := ⟨_, rfl⟩
              rw [← hX] at U4 gx hsx
              have SX : Hid (smV X = sx) := Lib.hid (by rw [hsx]; simp [smV, gx])
              have g0 := Lib.hid g0
              have g1 := Lib.hid g1
              have g2 := Lib.hid g2
              have gx := Lib.hid gx
              have hU := Lib.hid hU.symm
              have hV := Lib.hid hV.symm
              have hX := Lib.hid hX.symm
              clear B0 B1 B2 L1 L2 gu1 gy hs0 hs1 hs2 hsx
              obtain ⟨mx, hm1, hmx⟩ := max3 Try.prog s0 s1 s2
              have hms : mx ≤ sx := by omega
              clear q0 q1 q2 hm1
              go_enter Try.func7, Try.ntmps7
              go_wp2_with (first
                | (go_at_call 10; (with_reducible refine (lives_any _).mono ?_); rintro e1 wk ⟨rfl, hb⟩; (try (have R0 := Lib.hid (R0.out.later hb))); (try (have R1 := Lib.hid (R1.out.later hb))); (try (have R2 := Lib.hid (R2.out.later hb))); (try (have X1 := Lib.hid (X1.out.later hb))); (try (have X2 := Lib.hid (X2.out.later hb))); (try (have X3 := Lib.hid (X3.out.later hb))); (try (have X4 := Lib.hid (X4.out.later hb))); (try (have X5 := Lib.hid (X5.out.later hb))); (try (have X6 := Lib.hid (X6.out.later hb))); have HB := Lib.hid (below_then HB.out hb HB.out.size); clear hb)
                | (go_at_call 12; (with_reducible refine (good_y R0.out g0.out).mono ?_); rintro e1 wk ⟨rfl, hb⟩; (try (have R0 := Lib.hid (R0.out.later hb))); (try (have R1 := Lib.hid (R1.out.later hb))); (try (have R2 := Lib.hid (R2.out.later hb))); (try (have X1 := Lib.hid (X1.out.later hb))); (try (have X2 := Lib.hid (X2.out.later hb))); (try (have X3 := Lib.hid (X3.out.later hb))); (try (have X4 := Lib.hid (X4.out.later hb))); (try (have X5 := Lib.hid (X5.out.later hb))); (try (have X6 := Lib.hid (X6.out.later hb))); have HB := Lib.hid (below_then HB.out hb HB.out.size); clear hb)
                | (go_at_call 12; (with_reducible refine (good_y R1.out g1.out).mono ?_); rintro e1 wk ⟨rfl, hb⟩; (try (have R0 := Lib.hid (R0.out.later hb))); (try (have R1 := Lib.hid (R1.out.later hb))); (try (have R2 := Lib.hid (R2.out.later hb))); (try (have X1 := Lib.hid (X1.out.later hb))); (try (have X2 := Lib.hid (X2.out.later hb))); (try (have X3 := Lib.hid (X3.out.later hb))); (try (have X4 := Lib.hid (X4.out.later hb))); (try (have X5 := Lib.hid (X5.out.later hb))); (try (have X6 := Lib.hid (X6.out.later hb))); have HB := Lib.hid (below_then HB.out hb HB.out.size); clear hb)
                | (go_at_call 12; (with_reducible refine (good_y R2.out g2.out).mono ?_); rintro e1 wk ⟨rfl, hb⟩; (try (have R0 := Lib.hid (R0.out.later hb))); (try (have R1 := Lib.hid (R1.out.later hb))); (try (have R2 := Lib.hid (R2.out.later hb))); (try (have X1 := Lib.hid (X1.out.later hb))); (try (have X2 := Lib.hid (X2.out.later hb))); (try (have X3 := Lib.hid (X3.out.later hb))); (try (have X4 := Lib.hid (X4.out.later hb))); (try (have X5 := Lib.hid (X5.out.later hb))); (try (have X6 := Lib.hid (X6.out.later hb))); have HB := Lib.hid (below_then HB.out hb HB.out.size); clear hb)
                | (go_at_call 12; (with_reducible refine (good_y X2.out gx.out).mono ?_); rintro e1 wk ⟨rfl, hb⟩; (try (have R0 := Lib.hid (R0.out.later hb))); (try (have R1 := Lib.hid (R1.out.later hb))); (try (have R2 := Lib.hid (R2.out.later hb))); (try (have X1 := Lib.hid (X1.out.later hb))); (try (have X2 := Lib.hid (X2.out.later hb))); (try (have X3 := Lib.hid (X3.out.later hb))); (try (have X4 := Lib.hid (X4.out.later hb))); (try (have X5 := Lib.hid (X5.out.later hb))); (try (have X6 := Lib.hid (X6.out.later hb))); have HB := Lib.hid (below_then HB.out hb HB.out.size); clear hb)
                | (go_at_call 17; (with_reducible refine (union_w R0.out R1.out E1 hU).mono ?_); rintro e1 wk ⟨a1, k1, d1, rfl, rr, hb⟩; (try (have R0 := Lib.hid (R0.out.later hb))); (try (have R1 := Lib.hid (R1.out.later hb))); (try (have R2 := Lib.hid (R2.out.later hb))); (try (have X1 := Lib.hid (X1.out.later hb))); (try (have X2 := Lib.hid (X2.out.later hb))); (try (have X3 := Lib.hid (X3.out.later hb))); (try (have X4 := Lib.hid (X4.out.later hb))); (try (have X5 := Lib.hid (X5.out.later hb))); (try (have X6 := Lib.hid (X6.out.later hb))); have HB := Lib.hid (below_then HB.out hb HB.out.size); clear hb; have X1 := Lib.hid rr; clear rr)
                | (go_at_call 17; (with_reducible refine (union_w X1.out R2.out E2 hX).mono ?_); rintro e1 wk ⟨a2, k2, d2, rfl, rr, hb⟩; (try (have R0 := Lib.hid (R0.out.later hb))); (try (have R1 := Lib.hid (R1.out.later hb))); (try (have R2 := Lib.hid (R2.out.later hb))); (try (have X1 := Lib.hid (X1.out.later hb))); (try (have X2 := Lib.hid (X2.out.later hb))); (try (have X3 := Lib.hid (X3.out.later hb))); (try (have X4 := Lib.hid (X4.out.later hb))); (try (have X5 := Lib.hid (X5.out.later hb))); (try (have X6 := Lib.hid (X6.out.later hb))); have HB := Lib.hid (below_then HB.out hb HB.out.size); clear hb; have X2 := Lib.hid rr; clear rr)
                | (go_at_call 17; (with_reducible refine (union_w R1.out R2.out E3 hV).mono ?_); rintro e1 wk ⟨a3, k3, d3, rfl, rr, hb⟩; (try (have R0 := Lib.hid (R0.out.later hb))); (try (have R1 := Lib.hid (R1.out.later hb))); (try (have R2 := Lib.hid (R2.out.later hb))); (try (have X1 := Lib.hid (X1.out.later hb))); (try (have X2 := Lib.hid (X2.out.later hb))); (try (have X3 := Lib.hid (X3.out.later hb))); (try (have X4 := Lib.hid (X4.out.later hb))); (try (have X5 := Lib.hid (X5.out.later hb))); (try (have X6 := Lib.hid (X6.out.later hb))); have HB := Lib.hid (below_then HB.out hb HB.out.size); clear hb; have X3 := Lib.hid rr; clear rr)
                | (go_at_call 17; (with_reducible refine (union_w R0.out X3.out E4 U4).mono ?_); rintro e1 wk ⟨a4, k4, d4, rfl, rr, hb⟩; (try (have R0 := Lib.hid (R0.out.later hb))); (try (have R1 := Lib.hid (R1.out.later hb))); (try (have R2 := Lib.hid (R2.out.later hb))); (try (have X1 := Lib.hid (X1.out.later hb))); (try (have X2 := Lib.hid (X2.out.later hb))); (try (have X3 := Lib.hid (X3.out.later hb))); (try (have X4 := Lib.hid (X4.out.later hb))); (try (have X5 := Lib.hid (X5.out.later hb))); (try (have X6 := Lib.hid (X6.out.later hb))); have HB := Lib.hid (below_then HB.out hb HB.out.size); clear hb; have X4 := Lib.hid rr; clear rr)
                | (go_at_call 17; (with_reducible refine (union_w R0.out (RowAt.nil _) E5 U5).mono ?_); rintro e1 wk ⟨a5, k5, d5, rfl, rr, hb⟩; (try (have R0 := Lib.hid (R0.out.later hb))); (try (have R1 := Lib.hid (R1.out.later hb))); (try (have R2 := Lib.hid (R2.out.later hb))); (try (have X1 := Lib.hid (X1.out.later hb))); (try (have X2 := Lib.hid (X2.out.later hb))); (try (have X3 := Lib.hid (X3.out.later hb))); (try (have X4 := Lib.hid (X4.out.later hb))); (try (have X5 := Lib.hid (X5.out.later hb))); (try (have X6 := Lib.hid (X6.out.later hb))); have HB := Lib.hid (below_then HB.out hb HB.out.size); clear hb; have X5 := Lib.hid rr; clear rr)
                | (go_at_call 17; (with_reducible refine (union_w R0.out R0.out E6 U6).mono ?_); rintro e1 wk ⟨a6, k6, d6, rfl, rr, hb⟩; (try (have R0 := Lib.hid (R0.out.later hb))); (try (have R1 := Lib.hid (R1.out.later hb))); (try (have R2 := Lib.hid (R2.out.later hb))); (try (have X1 := Lib.hid (X1.out.later hb))); (try (have X2 := Lib.hid (X2.out.later hb))); (try (have X3 := Lib.hid (X3.out.later hb))); (try (have X4 := Lib.hid (X4.out.later hb))); (try (have X5 := Lib.hid (X5.out.later hb))); (try (have X6 := Lib.hid (X6.out.later hb))); have HB := Lib.hid (below_then HB.out hb HB.out.size); clear hb; have X6 := Lib.hid rr; clear rr)
                | (go_at_call 11; (with_reducible refine (same_r X2.out X4.out rfl).mono ?_); rintro e1 wk ⟨rfl, hb⟩; (try (have R0 := Lib.hid (R0.out.later hb))); (try (have R1 := Lib.hid (R1.out.later hb))); (try (have R2 := Lib.hid (R2.out.later hb))); (try (have X1 := Lib.hid (X1.out.later hb))); (try (have X2 := Lib.hid (X2.out.later hb))); (try (have X3 := Lib.hid (X3.out.later hb))); (try (have X4 := Lib.hid (X4.out.later hb))); (try (have X5 := Lib.hid (X5.out.later hb))); (try (have X6 := Lib.hid (X6.out.later hb))); have HB := Lib.hid (below_then HB.out hb HB.out.size); clear hb)
                | (go_at_call 11; (with_reducible refine (same_r X5.out R0.out rfl).mono ?_); rintro e1 wk ⟨rfl, hb⟩; (try (have R0 := Lib.hid (R0.out.later hb))); (try (have R1 := Lib.hid (R1.out.later hb))); (try (have R2 := Lib.hid (R2.out.later hb))); (try (have X1 := Lib.hid (X1.out.later hb))); (try (have X2 := Lib.hid (X2.out.later hb))); (try (have X3 := Lib.hid (X3.out.later hb))); (try (have X4 := Lib.hid (X4.out.later hb))); (try (have X5 := Lib.hid (X5.out.later hb))); (try (have X6 := Lib.hid (X6.out.later hb))); have HB := Lib.hid (below_then HB.out hb HB.out.size); clear hb)
                | (go_at_call 11; (with_reducible refine (same_r X6.out R0.out rfl).mono ?_); rintro e1 wk ⟨rfl, hb⟩; (try (have R0 := Lib.hid (R0.out.later hb))); (try (have R1 := Lib.hid (R1.out.later hb))); (try (have R2 := Lib.hid (R2.out.later hb))); (try (have X1 := Lib.hid (X1.out.later hb))); (try (have X2 := Lib.hid (X2.out.later hb))); (try (have X3 := Lib.hid (X3.out.later hb))); (try (have X4 := Lib.hid (X4.out.later hb))); (try (have X5 := Lib.hid (X5.out.later hb))); (try (have X6 := Lib.hid (X6.out.later hb))); have HB := Lib.hid (below_then HB.out hb HB.out.size); clear hb)
                | (go_at_call 13; (with_reducible refine (sum_v X2.out SX.out).mono ?_); rintro e1 wk ⟨rfl, hb⟩; (try (have R0 := Lib.hid (R0.out.later hb))); (try (have R1 := Lib.hid (R1.out.later hb))); (try (have R2 := Lib.hid (R2.out.later hb))); (try (have X1 := Lib.hid (X1.out.later hb))); (try (have X2 := Lib.hid (X2.out.later hb))); (try (have X3 := Lib.hid (X3.out.later hb))); (try (have X4 := Lib.hid (X4.out.later hb))); (try (have X5 := Lib.hid (X5.out.later hb))); (try (have X6 := Lib.hid (X6.out.later hb))); have HB := Lib.hid (below_then HB.out hb HB.out.size); clear hb)
                | (go_at_call 13; (with_reducible refine (sum_v R0.out S0.out).mono ?_); rintro e1 wk ⟨rfl, hb⟩; (try (have R0 := Lib.hid (R0.out.later hb))); (try (have R1 := Lib.hid (R1.out.later hb))); (try (have R2 := Lib.hid (R2.out.later hb))); (try (have X1 := Lib.hid (X1.out.later hb))); (try (have X2 := Lib.hid (X2.out.later hb))); (try (have X3 := Lib.hid (X3.out.later hb))); (try (have X4 := Lib.hid (X4.out.later hb))); (try (have X5 := Lib.hid (X5.out.later hb))); (try (have X6 := Lib.hid (X6.out.later hb))); have HB := Lib.hid (below_then HB.out hb HB.out.size); clear hb)
                | (go_at_call 13; (with_reducible refine (sum_v R1.out S1.out).mono ?_); rintro e1 wk ⟨rfl, hb⟩; (try (have R0 := Lib.hid (R0.out.later hb))); (try (have R1 := Lib.hid (R1.out.later hb))); (try (have R2 := Lib.hid (R2.out.later hb))); (try (have X1 := Lib.hid (X1.out.later hb))); (try (have X2 := Lib.hid (X2.out.later hb))); (try (have X3 := Lib.hid (X3.out.later hb))); (try (have X4 := Lib.hid (X4.out.later hb))); (try (have X5 := Lib.hid (X5.out.later hb))); (try (have X6 := Lib.hid (X6.out.later hb))); have HB := Lib.hid (below_then HB.out hb HB.out.size); clear hb)
                | (go_at_call 13; (with_reducible refine (sum_v R2.out S2.out).mono ?_); rintro e1 wk ⟨rfl, hb⟩; (try (have R0 := Lib.hid (R0.out.later hb))); (try (have R1 := Lib.hid (R1.out.later hb))); (try (have R2 := Lib.hid (R2.out.later hb))); (try (have X1 := Lib.hid (X1.out.later hb))); (try (have X2 := Lib.hid (X2.out.later hb))); (try (have X3 := Lib.hid (X3.out.later hb))); (try (have X4 := Lib.hid (X4.out.later hb))); (try (have X5 := Lib.hid (X5.out.later hb))); (try (have X6 := Lib.hid (X6.out.later hb))); have HB := Lib.hid (below_then HB.out hb HB.out.size); clear hb)
                | fail)
              all_goals
                go_ret
                exact ⟨rfl, HB.out⟩
end Go.Proofs.Ytejmfhmglbggnaa.Wn
