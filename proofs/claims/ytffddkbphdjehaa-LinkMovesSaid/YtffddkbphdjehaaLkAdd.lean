/- Contracts of tick.Is and tick.Add. No conditions but that numbers are int64. -/
import Derived.Test.YtffddkbphdjehaaTickKeep
namespace Go.Proofs.Ytffddkbphdjehaa.Tk
open Go.ChangeShapes Go.WideShapes Go.ChangeAt Go.RowKit
set_option linter.unusedVariables false

theorem is_any (t : Int) (w : World) :
    Calls Try.prog 33 #[.int .i64 t] w fun e w' => e = .returned (.bool (isB t)) ∧ w = w' := by
  by_cases hi : t = 4611686018427387904
  · subst hi
    go_enter Try.func33, Try.ntmps33
    go_wp2
    go_ret
    exact ⟨ret_b (isB_true (Or.inl rfl)), rfl⟩
  · have hne : (t == 4611686018427387904) = false := by simp; omega
    by_cases h0 : 0 ≤ t ∧ t ≤ 1099511627776
    · have H := Lib.hid (isB_true (Or.inr h0))
      obtain ⟨h0, h1⟩ := h0
      clear hi
      go_enter Try.func33, Try.ntmps33
      go_wp2
      go_ret
      exact ⟨ret_b H.out, rfl⟩
    · have H := Lib.hid (isB_false (t := t) (by unfold isTk; omega))
      clear hi
      have h1 : t < 0 ∨ 1099511627776 < t := by omega
      clear h0
      rcases h1 with h1 | h1
      all_goals
        go_enter Try.func33, Try.ntmps33
        go_wp2
        go_ret
        exact ⟨ret_b H.out, rfl⟩
set_option maxHeartbeats 1000000 in
theorem add_any (a b : Int) (w : World) : Calls Try.prog 22 #[.int .i64 a, .int .i64 b] w (Add a b w) := by
  by_cases ha : isTk a
  · have hA := isB_true ha
    by_cases hb : isTk b
    · have hB := isB_true hb
      by_cases hia : a = 4611686018427387904
      · have H : Hid (addV a b = 4611686018427387904 ∧ addE a b = 0) := Lib.hid (by subst hia; simp [addV, addE, ha, hb])
        have hne : (a == 4611686018427387904) = true := by simp; omega
        clear hia ha hb
        go_enter Try.func22, Try.ntmps22
        go_wp2_with (go_at_call 33; refine (is_any _ _).mono ?_; rintro e w' ⟨rfl, rfl⟩)
        go_ret2
        exact ⟨ret_2 H.out, by go_grown⟩
      · have hne : (a == 4611686018427387904) = false := by simp; omega
        by_cases hib : b = 4611686018427387904
        · have H : Hid (addV a b = 4611686018427387904 ∧ addE a b = 0) := Lib.hid (by subst hib; simp [addV, addE, ha, hb])
          have hne2 : (b == 4611686018427387904) = true := by simp; omega
          clear hia hib ha hb
          go_enter Try.func22, Try.ntmps22
          go_wp2_with (go_at_call 33; refine (is_any _ _).mono ?_; rintro e w' ⟨rfl, rfl⟩)
          go_ret2
          exact ⟨ret_2 H.out, by go_grown⟩
        · have hne2 : (b == 4611686018427387904) = false := by simp; omega
          have ha1 : 0 ≤ a ∧ a ≤ 1099511627776 := by unfold isTk at ha; omega
          have hb1 : 0 ≤ b ∧ b ≤ 1099511627776 := by unfold isTk at hb; omega
          obtain ⟨ha1, ha2⟩ := ha1
          obtain ⟨hb1, hb2⟩ := hb1
          by_cases hs : a + b ≤ 1099511627776
          · have H : Hid (addV a b = a + b ∧ addE a b = 0) := Lib.hid (by simp [addV, addE, ha, hb, hia, hib, hs])
            clear hia hib ha hb
            go_enter Try.func22, Try.ntmps22
            go_wp2_with (first | (go_at_call 33; refine (is_any _ _).mono ?_; rintro e w' ⟨rfl, rfl⟩) | go_in)
            go_ret2
            exact ⟨ret_2 H.out, by go_grown⟩
          · have H : Hid (addV a b = 0 ∧ addE a b = 9) := Lib.hid (by simp [addV, addE, ha, hb, hia, hib, hs])
            clear hia hib ha hb
            go_enter Try.func22, Try.ntmps22
            go_wp2_with (first | (go_at_call 33; refine (is_any _ _).mono ?_; rintro e w' ⟨rfl, rfl⟩) | go_in)
            go_ret2
            exact ⟨ret_2 H.out, by go_grown⟩
    · have hB := isB_false hb
      have H : Hid (addV a b = 0 ∧ addE a b = 9) := Lib.hid (by simp [addV, addE, hb])
      clear ha hb
      go_enter Try.func22, Try.ntmps22
      go_wp2_with (go_at_call 33; refine (is_any _ _).mono ?_; rintro e w' ⟨rfl, rfl⟩)
      go_ret2
      exact ⟨ret_2 H.out, by go_grown⟩
  · have hA := isB_false ha
    have H : Hid (addV a b = 0 ∧ addE a b = 9) := Lib.hid (by simp [addV, addE, ha])
    clear ha
    go_enter Try.func22, Try.ntmps22
    go_wp2_with (go_at_call 33; refine (is_any _ _).mono ?_; rintro e w' ⟨rfl, rfl⟩)
    go_ret2
    exact ⟨ret_2 H.out, by go_grown⟩
end Go.Proofs.Ytffddkbphdjehaa.Tk
