/- Contract of window.Check. No conditions. -/
import Derived.Test.YtejmfhmglbggnaaWinSmall
namespace Go.Proofs.Ytejmfhmglbggnaa.Wn
open Go.ChangeShapes Go.WideShapes Go.ChangeAt Go.RowKit
set_option linter.unusedVariables false
set_option linter.unusedSimpArgs false

theorem within_b {x lo hi : Int} {b : Bool} (h : decide (lo ≤ x ∧ x ≤ hi) = b) (w : World) : Calls Try.prog 42 #[.int .i64 x, .int .i64 lo, .int .i64 hi] w fun e w' => e = .returned (.bool b) ∧ w = w' := by
  subst h; exact within_any x lo hi w
set_option maxHeartbeats 1000000 in
theorem check_any (t : Tm) (w : World) : Calls Try.prog 19 #[tv t] w fun e w' => e = .returned (.int .i64 (ck t)) ∧ Below w.heap.size w w' := by
  obtain ⟨f, s, l⟩ := t
  have HB : Hid (Below w.heap.size w (w.alloc (.cells #[.int .i64 f, .int .i64 s, .int .i64 l] 27))) := Lib.hid ((Below.refl _ w).alloc (Nat.le_refl _) _)
  have R : Hid (ck ⟨f, s, l⟩ = if 0 ≤ f ∧ f ≤ 1099511627776 ∧ 1 ≤ l ∧ l ≤ 1099511627776 ∧ (s = 0 ∨ (l ≤ s ∧ s ≤ 1099511627776)) then 0 else 2) := Lib.hid rfl
  show Calls Try.prog 19 #[.agg #[.int .i64 f, .int .i64 s, .int .i64 l]] w _
  by_cases h1 : 0 ≤ f ∧ f ≤ 1099511627776
  · have C1 := Lib.hid (within_b (decide_eq_true h1))
    by_cases h2 : 1 ≤ l ∧ l ≤ 1099511627776
    · have C2 := Lib.hid (within_b (decide_eq_true h2))
      by_cases h3 : s = 0
      · subst h3
        have HR : Hid (0 = ck ⟨f, 0, l⟩) := Lib.hid (by rw [R.out, if_pos ⟨h1.1, h1.2, h2.1, h2.2, .inl rfl⟩])
        clear R
        go_enter Try.func19, Try.ntmps19
        go_wp2_with (first | (go_at_call 42; with_reducible refine (C1.out _).mono ?_; rintro e1 w1 ⟨rfl, rfl⟩) | (go_at_call 42; with_reducible refine (C2.out _).mono ?_; rintro e1 w1 ⟨rfl, rfl⟩) | fail)
        go_ret
        exact ⟨ret_i HR.out, HB.out⟩
      · by_cases h4 : l ≤ s ∧ s ≤ 1099511627776
        · have C3 := Lib.hid (within_b (decide_eq_true h4))
          have HR : Hid (0 = ck ⟨f, s, l⟩) := Lib.hid (by rw [R.out, if_pos ⟨h1.1, h1.2, h2.1, h2.2, .inr h4⟩])
          clear R
          go_enter Try.func19, Try.ntmps19
          go_wp2_with (first | (go_at_call 42; with_reducible refine (C1.out _).mono ?_; rintro e1 w1 ⟨rfl, rfl⟩) | (go_at_call 42; with_reducible refine (C2.out _).mono ?_; rintro e1 w1 ⟨rfl, rfl⟩) | (go_at_call 42; with_reducible refine (C3.out _).mono ?_; rintro e1 w1 ⟨rfl, rfl⟩) | fail)
          go_ret
          exact ⟨ret_i HR.out, HB.out⟩
        · have C3 := Lib.hid (within_b (decide_eq_false h4))
          have HR : Hid (2 = ck ⟨f, s, l⟩) := Lib.hid (by rw [R.out, if_neg (by omega)])
          clear R
          go_enter Try.func19, Try.ntmps19
          go_wp2_with (first | (go_at_call 42; with_reducible refine (C1.out _).mono ?_; rintro e1 w1 ⟨rfl, rfl⟩) | (go_at_call 42; with_reducible refine (C2.out _).mono ?_; rintro e1 w1 ⟨rfl, rfl⟩) | (go_at_call 42; with_reducible refine (C3.out _).mono ?_; rintro e1 w1 ⟨rfl, rfl⟩) | fail)
          go_ret
          exact ⟨ret_i HR.out, HB.out⟩
    · have C2 := Lib.hid (within_b (decide_eq_false h2))
      have HR : Hid (2 = ck ⟨f, s, l⟩) := Lib.hid (by rw [R.out, if_neg (by omega)])
      clear R
      go_enter Try.func19, Try.ntmps19
      go_wp2_with (first | (go_at_call 42; with_reducible refine (C1.out _).mono ?_; rintro e1 w1 ⟨rfl, rfl⟩) | (go_at_call 42; with_reducible refine (C2.out _).mono ?_; rintro e1 w1 ⟨rfl, rfl⟩) | fail)
      go_ret
      exact ⟨ret_i HR.out, HB.out⟩
  · have C1 := Lib.hid (within_b (decide_eq_false h1))
    have HR : Hid (2 = ck ⟨f, s, l⟩) := Lib.hid (by rw [R.out, if_neg (by omega)])
    clear R
    go_enter Try.func19, Try.ntmps19
    go_wp2_with (first | (go_at_call 42; with_reducible refine (C1.out _).mono ?_; rintro e1 w1 ⟨rfl, rfl⟩) | fail)
    go_ret
    exact ⟨ret_i HR.out, HB.out⟩
end Go.Proofs.Ytejmfhmglbggnaa.Wn
