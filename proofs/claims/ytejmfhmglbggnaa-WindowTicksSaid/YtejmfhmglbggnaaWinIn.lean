/- The law WindowTicks' helper: is a tick in a window of the times, by numbers alone. No conditions but that the ticks are ticks. -/
import Derived.RangeFuncBox
import Derived.RangeFuncLeaves
import Derived.Shelf.Abstract
import Derived.OwnWalkIn
import Derived.TacticsInMore
import Derived.LoopNIn
import Derived.LoopIn
import Derived.BigRegionIn
import Derived.RangeFuncNested
import Derived.RangeFuncCalls
import Derived.Shelf.RegionOpen
import Derived.Sort.QuietIn
import Derived.StillTail
import Derived.StillTactics
import Derived.Maps.AppendAt
import Derived.Lib.SliceRun
import Derived.RangeFuncNested
import Derived.Test.YtejmfhmglbggnaaWinRows
import Derived.IntWalk
import Derived.ChangeSlices
import Derived.Deep.SlicePairs
import Derived.Deep.Strs
import Derived.ChangeArms
import Derived.Carry
import Derived.OpenShut
namespace Go.Proofs.Ytejmfhmglbggnaa.Wn
open Go.ChangeShapes Go.WideShapes Go.ChangeAt Go.RowKit Go.Deep
set_option linter.unusedVariables false
set_option linter.unusedSimpArgs false
attribute [local go_sem] Oper.semAt_some

set_option maxRecDepth 100000 in
set_option maxHeartbeats 4000000 in
theorem in_any (t : Tm) (h x : Int) (w : World) (hc : ck t = 0) (hh : tick h = true) (hx : tick x = true) : Calls Try.prog 30 #[.agg #[.int .i64 t.f, .int .i64 t.e, .int .i64 t.l], .int .i64 h, .int .i64 x] w fun e w' => e = .returned (.bool (inn t h x)) ∧ Below w.heap.size w w' := by
  obtain ⟨k1, k2, k3, k4, k5⟩ := ck_ok hc
  have ⟨h1, h2⟩ := (tick_iff h).1 hh
  have ⟨x1, x2⟩ := (tick_iff x).1 hx
  obtain ⟨f, s, l⟩ := t
  dsimp only at k1 k2 k3 k4 k5
  clear hc hh hx
  have HB := Lib.hid ((Below.refl w.heap.size w).alloc (Nat.le_refl _) (.cells #[.int .i64 f, .int .i64 s, .int .i64 l] 27))
  have R : Hid (inn ⟨f, s, l⟩ h x = if x < f ∨ f > h then false else if s = 0 then decide (x < f + l) else if f + (x - f) / s * s > h then decide (x < f + (h - f) / s * s + l) else decide (x < f + (x - f) / s * s + l)) := Lib.hid rfl
  by_cases c1 : x < f
  · have HR : Hid (inn ⟨f, s, l⟩ h x = false) := Lib.hid (by rw [R.out, if_pos (.inl c1)])
    clear R k5
    go_enter Try.func30, Try.ntmps30
    go_wp2
    go_ret
    exact ⟨ret_b HR.out, HB.out⟩
  · by_cases c2 : h < f
    · have HR : Hid (inn ⟨f, s, l⟩ h x = false) := Lib.hid (by rw [R.out, if_pos (.inr c2)])
      clear R k5
      go_enter Try.func30, Try.ntmps30
      go_wp2
      go_ret
      exact ⟨ret_b HR.out, HB.out⟩
    · by_cases c3 : s = 0
      · have HR : Hid (inn ⟨f, s, l⟩ h x = decide (x < f + l)) := Lib.hid (by rw [R.out, if_neg (by omega), if_pos c3])
        have hne : (s == 0) = true := by simpa using c3
        clear R k5 c3
        go_enter Try.func30, Try.ntmps30
        go_wp2
        go_ret
        exact ⟨ret_b HR.out, HB.out⟩
      · have hs1 : 1 ≤ s := by omega
        have hs2 : s ≤ 1099511627776 := by omega
        have hne : (s == 0) = false := by simpa using c3
        have q1 : 0 ≤ (x - f) / s := Int.ediv_nonneg (by omega) (by omega)
        have q2 : (x - f) / s * s ≤ x - f := by rw [Int.mul_comm]; exact Int.mul_ediv_self_le (by omega)
        have q3 : 0 ≤ (x - f) / s * s := Int.mul_nonneg q1 (by omega)
        have q4 : (x - f) / s ≤ 1099511627776 := Int.le_trans (Int.ediv_le_self _ (by omega)) (by omega)
        have r1 : 0 ≤ (h - f) / s := Int.ediv_nonneg (by omega) (by omega)
        have r2 : (h - f) / s * s ≤ h - f := by rw [Int.mul_comm]; exact Int.mul_ediv_self_le (by omega)
        have r3 : 0 ≤ (h - f) / s * s := Int.mul_nonneg r1 (by omega)
        have r4 : (h - f) / s ≤ 1099511627776 := Int.le_trans (Int.ediv_le_self _ (by omega)) (by omega)
        have R2 := R.out
        rw [if_neg (by omega), if_neg c3] at R2
        clear R c3 k5
        by_cases c4 : h < f + (x - f) / s * s
        · have HR : Hid (inn ⟨f, s, l⟩ h x = decide (x < f + (h - f) / s * s + l)) := Lib.hid (by rw [R2, if_pos c4])
          clear R2
          go_enter Try.func30, Try.ntmps30
          go_wp2
          go_quiet (fail)
          go_wp2
          go_ret
          exact ⟨ret_b HR.out, below_drewN HB.out _⟩
        · have HR : Hid (inn ⟨f, s, l⟩ h x = decide (x < f + (x - f) / s * s + l)) := Lib.hid (by rw [R2, if_neg c4])
          clear R2
          go_enter Try.func30, Try.ntmps30
          go_wp2
          go_ret
          exact ⟨ret_b HR.out, HB.out⟩
end Go.Proofs.Ytejmfhmglbggnaa.Wn
