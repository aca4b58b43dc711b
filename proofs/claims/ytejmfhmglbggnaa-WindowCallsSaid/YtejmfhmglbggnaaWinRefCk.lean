/- The document's Check and Wins of chapter 8 at any times and horizon, each proved by walking its text. Conditions: numbers are int64. -/
import Derived.RangeFuncBox
import Derived.RangeFuncLeaves
import Derived.Shelf.Abstract
import Derived.OwnWalkIn
import Derived.TacticsInMore
import Derived.LoopNIn
import Derived.LoopIn
import Derived.BigRegionIn
import Derived.RangeFuncNested
import Derived.RangeFuncCalls
import Derived.Shelf.RegionOpen
import Derived.Sort.QuietIn
import Derived.StillTail
import Derived.StillTactics
import Derived.Maps.AppendAt
import Derived.Lib.SliceRun
import Derived.RangeFuncNested
import Derived.Test.YtejmfhmglbggnaaWinRows
import Derived.IntWalk
import Derived.ChangeSlices
import Derived.Deep.SlicePairs
import Derived.Deep.Strs
import Derived.ChangeArms
import Derived.Carry
import Derived.OpenShut
import Derived.Lib.QuietBelow
import Derived.Deep.QuietTactic
import Derived.Test.YtejmfhmglbggnaaWinRef
namespace Go.Proofs.Ytejmfhmglbggnaa.Wn
open Go.ChangeShapes Go.WideShapes Go.ChangeAt Go.RowKit Go.Deep Go.Sort
set_option linter.unusedVariables false
set_option linter.unusedSimpArgs false
attribute [local go_sem] Oper.semAt_some

theorem refcheck_b {x : Int} {b : Int} (h : (if tick x = true then (0 : Int) else 9) = b) (w : World) : Calls Try.prog 39 #[.int .i64 x] w fun e w' => e = .returned (.int .i64 b) ∧ w = w' := by
  subst h; exact refcheck1_any x w
set_option maxHeartbeats 4000000 in
theorem refcheck_any (t : Tm) (w : World) : Calls Try.prog 20 #[.agg #[.int .i64 t.f, .int .i64 t.e, .int .i64 t.l]] w fun e w' => e = .returned (.int .i64 (ck t)) ∧ Below w.heap.size w w' := by
  obtain ⟨f, s, l⟩ := t
  have HB := Lib.hid ((Below.refl w.heap.size w).alloc (Nat.le_refl _) (.cells #[.int .i64 f, .int .i64 s, .int .i64 l] 27))
  have R : Hid (ck ⟨f, s, l⟩ = if 0 ≤ f ∧ f ≤ 1099511627776 ∧ 1 ≤ l ∧ l ≤ 1099511627776 ∧ (s = 0 ∨ (l ≤ s ∧ s ≤ 1099511627776)) then 0 else 2) := Lib.hid rfl
  dsimp only
  by_cases h1 : 0 ≤ f ∧ f ≤ 1099511627776
  · have C1 := Lib.hid (refcheck_b (x := f) (b := 0) (by rw [if_pos ((tick_iff f).2 h1)]))
    by_cases h2 : l < 1
    · have HR : Hid (2 = ck ⟨f, s, l⟩) := Lib.hid (by rw [R.out, if_neg (by omega)])
      clear R
      go_enter Try.func20, Try.ntmps20
      go_wp2_with (go_at_call 39; refine (C1.out _).mono ?_; rintro e1 w1 ⟨rfl, rfl⟩)
      go_ret
      exact ⟨ret_i HR.out, HB.out⟩
    · by_cases h3 : 1099511627776 < l
      · have HR : Hid (2 = ck ⟨f, s, l⟩) := Lib.hid (by rw [R.out, if_neg (by omega)])
        clear R
        go_enter Try.func20, Try.ntmps20
        go_wp2_with (go_at_call 39; refine (C1.out _).mono ?_; rintro e1 w1 ⟨rfl, rfl⟩)
        go_ret
        exact ⟨ret_i HR.out, HB.out⟩
      · by_cases h4 : s = 0
        · subst h4
          have HR : Hid (0 = ck ⟨f, 0, l⟩) := Lib.hid (by rw [R.out, if_pos ⟨h1.1, h1.2, by omega, by omega, .inl rfl⟩])
          clear R
          go_enter Try.func20, Try.ntmps20
          go_wp2_with (go_at_call 39; refine (C1.out _).mono ?_; rintro e1 w1 ⟨rfl, rfl⟩)
          go_ret
          exact ⟨ret_i HR.out, HB.out⟩
        · have h4' : (s == 0) = false := by simpa using h4
          have h4b : (s != 0) = true := by simpa using h4
          by_cases h5 : s < l
          · have HR : Hid (2 = ck ⟨f, s, l⟩) := Lib.hid (by rw [R.out, if_neg (by omega)])
            clear R
            go_enter Try.func20, Try.ntmps20
            go_wp2_with (go_at_call 39; refine (C1.out _).mono ?_; rintro e1 w1 ⟨rfl, rfl⟩)
            go_ret
            exact ⟨ret_i HR.out, HB.out⟩
          · by_cases h6 : 1099511627776 < s
            · have HR : Hid (2 = ck ⟨f, s, l⟩) := Lib.hid (by rw [R.out, if_neg (by omega)])
              clear R
              go_enter Try.func20, Try.ntmps20
              go_wp2_with (go_at_call 39; refine (C1.out _).mono ?_; rintro e1 w1 ⟨rfl, rfl⟩)
              go_ret
              exact ⟨ret_i HR.out, HB.out⟩
            · have h7 : ¬ s < l := h5
              have HR : Hid (0 = ck ⟨f, s, l⟩) := Lib.hid (by rw [R.out, if_pos ⟨h1.1, h1.2, by omega, by omega, .inr ⟨by omega, by omega⟩⟩])
              clear R
              go_enter Try.func20, Try.ntmps20
              go_wp2_with (go_at_call 39; refine (C1.out _).mono ?_; rintro e1 w1 ⟨rfl, rfl⟩)
              go_ret
              exact ⟨ret_i HR.out, HB.out⟩
  · have C1 := Lib.hid (refcheck_b (x := f) (b := 9) (by rw [if_neg (fun h => h1 ((tick_iff f).1 h))]))
    have HR : Hid (2 = ck ⟨f, s, l⟩) := Lib.hid (by rw [R.out, if_neg (by omega)])
    clear R
    go_enter Try.func20, Try.ntmps20
    go_wp2_with (go_at_call 39; refine (C1.out _).mono ?_; rintro e1 w1 ⟨rfl, rfl⟩)
    go_ret
    exact ⟨ret_i HR.out, HB.out⟩

theorem refcount_ok (t : Tm) (h : Int) (hc : ck t = 0) (hh : tick h = true) (w : World) : Calls Try.prog 40 #[.int .i64 t.f, .int .i64 t.e, .int .i64 h] w fun e w' => e = .returned (.int .i64 (cn t h)) ∧ w = w' := by
  obtain ⟨k1, k2, k3, k4, k5⟩ := ck_ok hc
  have ⟨h1, h2⟩ := (tick_iff h).1 hh
  obtain ⟨f, s, l⟩ := t
  dsimp only at k1 k2 k3 k4 k5
  have C1 := Lib.hid (refcheck_b (x := f) (b := 0) (by rw [if_pos ((tick_iff f).2 ⟨k1, k2⟩)]))
  have C2 := Lib.hid (refcheck_b (x := s) (b := 0) (by rw [if_pos ((tick_iff s).2 ⟨by omega, by omega⟩)]))
  have C3 := Lib.hid (refcheck_b (x := h) (b := 0) (by rw [if_pos hh]))
  have R : Hid (cn ⟨f, s, l⟩ h = if f > h then 0 else if s = 0 then 1 else (h - f) / s + 1) := Lib.hid rfl
  dsimp only
  clear hc hh
  by_cases c1 : h < f
  · have HR : Hid (cn ⟨f, s, l⟩ h = 0) := Lib.hid (by rw [R.out, if_pos c1])
    clear R k5
    go_enter Try.func40, Try.ntmps40
    go_wp2_with (first | (go_at_call 39; (with_reducible refine (C1.out _).mono ?_); rintro e1 w1 ⟨rfl, rfl⟩) | (go_at_call 39; (with_reducible refine (C2.out _).mono ?_); rintro e1 w1 ⟨rfl, rfl⟩) | (go_at_call 39; (with_reducible refine (C3.out _).mono ?_); rintro e1 w1 ⟨rfl, rfl⟩) | fail)
    go_ret
    exact ⟨ret_i HR.out.symm, rfl⟩
  · by_cases c2 : s = 0
    · have HR : Hid (cn ⟨f, s, l⟩ h = 1) := Lib.hid (by rw [R.out, if_neg c1, if_pos c2])
      have hne : (s == 0) = true := by simpa using c2
      clear R k5 c2
      go_enter Try.func40, Try.ntmps40
      go_wp2_with (first | (go_at_call 39; (with_reducible refine (C1.out _).mono ?_); rintro e1 w1 ⟨rfl, rfl⟩) | (go_at_call 39; (with_reducible refine (C2.out _).mono ?_); rintro e1 w1 ⟨rfl, rfl⟩) | (go_at_call 39; (with_reducible refine (C3.out _).mono ?_); rintro e1 w1 ⟨rfl, rfl⟩) | fail)
      go_ret
      exact ⟨ret_i HR.out.symm, rfl⟩
    · have HR : Hid (cn ⟨f, s, l⟩ h = (h - f) / s + 1) := Lib.hid (by rw [R.out, if_neg c1, if_neg c2])
      have hs1 : 1 ≤ s := by omega
      have hne : (s == 0) = false := by simpa using c2
      have q1 : 0 ≤ (h - f) / s := Int.ediv_nonneg (by omega) (by omega)
      have q2 : (h - f) / s ≤ 1099511627776 := Int.le_trans (Int.ediv_le_self _ (by omega)) (by omega)
      clear R k5 c2
      go_enter Try.func40, Try.ntmps40
      go_wp2_with (first | (go_at_call 39; (with_reducible refine (C1.out _).mono ?_); rintro e1 w1 ⟨rfl, rfl⟩) | (go_at_call 39; (with_reducible refine (C2.out _).mono ?_); rintro e1 w1 ⟨rfl, rfl⟩) | (go_at_call 39; (with_reducible refine (C3.out _).mono ?_); rintro e1 w1 ⟨rfl, rfl⟩) | fail)
      go_ret
      exact ⟨ret_i HR.out.symm, rfl⟩
end Go.Proofs.Ytejmfhmglbggnaa.Wn
