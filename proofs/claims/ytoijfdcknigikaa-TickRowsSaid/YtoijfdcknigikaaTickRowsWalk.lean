/- TickRows, walked at all int64: it returns true. Condition: i is an int64. -/
import Derived.Test.YtoijfdcknigikaaTickFacts
namespace Go.Proofs.Ytoijfdcknigikaa.Tk
open Go.ChangeShapes Go.WideShapes Go.ChangeAt Go.RowKit
set_option linter.unusedVariables false
theorem lt_div {a n m : Int} (ha : 0 < a) (hm : 0 ≤ m) : (n < m / a + 1) = (a * n ≤ m) := by
  apply propext
  rw [Int.lt_add_one_iff, Int.le_ediv_iff_mul_le ha, Int.mul_comm]

set_option maxHeartbeats 4000000 in
theorem rows_all (f s u i : Int) (w : World) (hi1 : -9223372036854775808 ≤ i) (hi2 : i ≤ 9223372036854775807) : Calls Try.prog 4 #[.int .i64 f, .int .i64 s, .int .i64 u, .int .i64 i] w (Good w) := by
  by_cases hf : fin f
  · have hF := checkV_ok hf
    by_cases hs : fin s
    · have hS := checkV_ok hs
      by_cases hu : fin u
      · have hU := checkV_ok hu
        by_cases hi : i < 0
        · obtain ⟨v1, e1⟩ := at_neg (f := f) (s := s) hi
          have hc : 0 ≤ countV f s u := by
            unfold countV; split
            · split
              · omega
              · have := Int.ediv_nonneg (a := u - f) (b := s) (by omega) (by omega); omega
            · omega
          clear hf hs hu
          go_enter Try.func4, Try.ntmps4
          go_wp2_with (first | (go_at_call 7; refine (lives_any _).mono ?_; rintro e w' ⟨rfl, hg⟩) | (go_at_call 8; refine (add_any _ _ _).mono ?_; rintro e w' ⟨rfl, hg⟩) | (go_at_call 9; refine (is_any _ _).mono ?_; rintro e w' ⟨rfl, rfl⟩) | (go_at_call 10; refine (sub_any _ _ _).mono ?_; rintro e w' ⟨rfl, hg⟩) | (go_at_call 12; refine (check_any _ _).mono ?_; rintro e w' ⟨rfl, rfl⟩) | (go_at_call 11; refine (count_any _ _ _ _).mono ?_; rintro e w' ⟨rfl, rfl⟩) | (go_at_call 13; refine (at_any _ _ _ _ (by omega)).mono ?_; rintro e w' ⟨rfl, hg⟩) | (go_at_call 14; refine (mul_any _ _ _ (by omega)).mono ?_; rintro e w' ⟨rfl, hg⟩))
          go_ret
          refine ⟨?_, by repeat (first | assumption | refine grown_trans ?_ (by assumption))⟩
          first | rfl | (refine ret_b ?_; simp; done) | (refine ret_b ?_; simp; omega)
        · by_cases h0 : s = 0
          · subst h0
            by_cases hi0 : i = 0
            · subst hi0
              obtain ⟨v1, e1⟩ := at_zero hf
              have hff := eq_t (rfl : f = f)
              by_cases hfu : f ≤ u
              · have hc := count_one hf hu hfu
                obtain ⟨hf1, hf2⟩ := hf
                obtain ⟨hu1, hu2⟩ := hu
                clear hs
                go_enter Try.func4, Try.ntmps4
                go_wp2_with (first | (go_at_call 7; refine (lives_any _).mono ?_; rintro e w' ⟨rfl, hg⟩) | (go_at_call 8; refine (add_any _ _ _).mono ?_; rintro e w' ⟨rfl, hg⟩) | (go_at_call 9; refine (is_any _ _).mono ?_; rintro e w' ⟨rfl, rfl⟩) | (go_at_call 10; refine (sub_any _ _ _).mono ?_; rintro e w' ⟨rfl, hg⟩) | (go_at_call 12; refine (check_any _ _).mono ?_; rintro e w' ⟨rfl, rfl⟩) | (go_at_call 11; refine (count_any _ _ _ _).mono ?_; rintro e w' ⟨rfl, rfl⟩) | (go_at_call 13; refine (at_any _ _ _ _ (by omega)).mono ?_; rintro e w' ⟨rfl, hg⟩) | (go_at_call 14; refine (mul_any _ _ _ (by omega)).mono ?_; rintro e w' ⟨rfl, hg⟩))
                go_ret
                refine ⟨?_, by repeat (first | assumption | refine grown_trans ?_ (by assumption))⟩
                first | rfl | (refine ret_b ?_; simp; done) | (refine ret_b ?_; simp; omega)
              · have hc := count_none (s := 0) hfu
                obtain ⟨hf1, hf2⟩ := hf
                obtain ⟨hu1, hu2⟩ := hu
                clear hs
                go_enter Try.func4, Try.ntmps4
                go_wp2_with (first | (go_at_call 7; refine (lives_any _).mono ?_; rintro e w' ⟨rfl, hg⟩) | (go_at_call 8; refine (add_any _ _ _).mono ?_; rintro e w' ⟨rfl, hg⟩) | (go_at_call 9; refine (is_any _ _).mono ?_; rintro e w' ⟨rfl, rfl⟩) | (go_at_call 10; refine (sub_any _ _ _).mono ?_; rintro e w' ⟨rfl, hg⟩) | (go_at_call 12; refine (check_any _ _).mono ?_; rintro e w' ⟨rfl, rfl⟩) | (go_at_call 11; refine (count_any _ _ _ _).mono ?_; rintro e w' ⟨rfl, rfl⟩) | (go_at_call 13; refine (at_any _ _ _ _ (by omega)).mono ?_; rintro e w' ⟨rfl, hg⟩) | (go_at_call 14; refine (mul_any _ _ _ (by omega)).mono ?_; rintro e w' ⟨rfl, hg⟩))
                go_ret
                refine ⟨?_, by repeat (first | assumption | refine grown_trans ?_ (by assumption))⟩
                first | rfl | (refine ret_b ?_; simp; done) | (refine ret_b ?_; simp; omega)
            · obtain ⟨v1, e1⟩ := at_zero_pos (f := f) (i := i) (by omega)
              have hc : 0 ≤ countV f 0 u := by unfold countV; split <;> simp
              have hi3 : 0 < i := by omega
              clear hf hs hu hi hi0
              go_enter Try.func4, Try.ntmps4
              go_wp2_with (first | (go_at_call 7; refine (lives_any _).mono ?_; rintro e w' ⟨rfl, hg⟩) | (go_at_call 8; refine (add_any _ _ _).mono ?_; rintro e w' ⟨rfl, hg⟩) | (go_at_call 9; refine (is_any _ _).mono ?_; rintro e w' ⟨rfl, rfl⟩) | (go_at_call 10; refine (sub_any _ _ _).mono ?_; rintro e w' ⟨rfl, hg⟩) | (go_at_call 12; refine (check_any _ _).mono ?_; rintro e w' ⟨rfl, rfl⟩) | (go_at_call 11; refine (count_any _ _ _ _).mono ?_; rintro e w' ⟨rfl, rfl⟩) | (go_at_call 13; refine (at_any _ _ _ _ (by omega)).mono ?_; rintro e w' ⟨rfl, hg⟩) | (go_at_call 14; refine (mul_any _ _ _ (by omega)).mono ?_; rintro e w' ⟨rfl, hg⟩))
              go_ret
              refine ⟨?_, by repeat (first | assumption | refine grown_trans ?_ (by assumption))⟩
              first | rfl | (refine ret_b ?_; simp; done) | (refine ret_b ?_; simp; omega)
          · have hsn := eq_f h0
            have hs1 : 1 ≤ s := by unfold fin at hs; omega
            by_cases hx : f + s * i ≤ 1099511627776
            · obtain ⟨v1, e1⟩ := at_yes hf hs h0 (by omega) hx
              have hp0 : 0 ≤ s * i := Int.mul_nonneg (by omega) (by omega)
              have hsub : f + s * i - f = s * i := by omega
              have hq : s * i / s = i := Int.mul_ediv_cancel_left i h0
              have hr : s * i % s = 0 := Int.mul_emod_right s i
              by_cases hfu : f ≤ u
              · have hc := count_many hf hs hu hfu h0
                have hq0 : 0 ≤ (u - f) / s := Int.ediv_nonneg (by omega) (by omega)
                have hq2 : (u - f) / s ≤ 1099511627776 := Int.le_trans (Int.ediv_le_self _ (by omega)) (by unfold fin at hf hu; omega)
                have hl := lt_div (a := s) (n := i) (m := u - f) (by omega) (by omega)
                obtain ⟨hf1, hf2⟩ := hf
                obtain ⟨hs1, hs2⟩ := hs
                obtain ⟨hu1, hu2⟩ := hu
                by_cases hle : f + s * i ≤ u
                · have hl2 : i < (u - f) / s + 1 := by rw [hl]; omega
                  clear hl h0
                  go_enter Try.func4, Try.ntmps4
                  go_wp2_with (first | (go_at_call 7; refine (lives_any _).mono ?_; rintro e w' ⟨rfl, hg⟩) | (go_at_call 8; refine (add_any _ _ _).mono ?_; rintro e w' ⟨rfl, hg⟩) | (go_at_call 9; refine (is_any _ _).mono ?_; rintro e w' ⟨rfl, rfl⟩) | (go_at_call 10; refine (sub_any _ _ _).mono ?_; rintro e w' ⟨rfl, hg⟩) | (go_at_call 12; refine (check_any _ _).mono ?_; rintro e w' ⟨rfl, rfl⟩) | (go_at_call 11; refine (count_any _ _ _ _).mono ?_; rintro e w' ⟨rfl, rfl⟩) | (go_at_call 13; refine (at_any _ _ _ _ (by omega)).mono ?_; rintro e w' ⟨rfl, hg⟩) | (go_at_call 14; refine (mul_any _ _ _ (by omega)).mono ?_; rintro e w' ⟨rfl, hg⟩))
                  go_ret
                  refine ⟨?_, by repeat (first | assumption | refine grown_trans ?_ (by assumption))⟩
                  first | rfl | (refine ret_b ?_; simp; done) | (refine ret_b ?_; simp; omega)
                · have hl2 : ¬ i < (u - f) / s + 1 := by rw [hl]; omega
                  clear hl h0
                  go_enter Try.func4, Try.ntmps4
                  go_wp2_with (first | (go_at_call 7; refine (lives_any _).mono ?_; rintro e w' ⟨rfl, hg⟩) | (go_at_call 8; refine (add_any _ _ _).mono ?_; rintro e w' ⟨rfl, hg⟩) | (go_at_call 9; refine (is_any _ _).mono ?_; rintro e w' ⟨rfl, rfl⟩) | (go_at_call 10; refine (sub_any _ _ _).mono ?_; rintro e w' ⟨rfl, hg⟩) | (go_at_call 12; refine (check_any _ _).mono ?_; rintro e w' ⟨rfl, rfl⟩) | (go_at_call 11; refine (count_any _ _ _ _).mono ?_; rintro e w' ⟨rfl, rfl⟩) | (go_at_call 13; refine (at_any _ _ _ _ (by omega)).mono ?_; rintro e w' ⟨rfl, hg⟩) | (go_at_call 14; refine (mul_any _ _ _ (by omega)).mono ?_; rintro e w' ⟨rfl, hg⟩))
                  go_ret
                  refine ⟨?_, by repeat (first | assumption | refine grown_trans ?_ (by assumption))⟩
                  first | rfl | (refine ret_b ?_; simp; done) | (refine ret_b ?_; simp; omega)
              · have hc := count_none (s := s) hfu
                obtain ⟨hf1, hf2⟩ := hf
                obtain ⟨hs1, hs2⟩ := hs
                obtain ⟨hu1, hu2⟩ := hu
                clear h0
                go_enter Try.func4, Try.ntmps4
                go_wp2_with (first | (go_at_call 7; refine (lives_any _).mono ?_; rintro e w' ⟨rfl, hg⟩) | (go_at_call 8; refine (add_any _ _ _).mono ?_; rintro e w' ⟨rfl, hg⟩) | (go_at_call 9; refine (is_any _ _).mono ?_; rintro e w' ⟨rfl, rfl⟩) | (go_at_call 10; refine (sub_any _ _ _).mono ?_; rintro e w' ⟨rfl, hg⟩) | (go_at_call 12; refine (check_any _ _).mono ?_; rintro e w' ⟨rfl, rfl⟩) | (go_at_call 11; refine (count_any _ _ _ _).mono ?_; rintro e w' ⟨rfl, rfl⟩) | (go_at_call 13; refine (at_any _ _ _ _ (by omega)).mono ?_; rintro e w' ⟨rfl, hg⟩) | (go_at_call 14; refine (mul_any _ _ _ (by omega)).mono ?_; rintro e w' ⟨rfl, hg⟩))
                go_ret
                refine ⟨?_, by repeat (first | assumption | refine grown_trans ?_ (by assumption))⟩
                first | rfl | (refine ret_b ?_; simp; done) | (refine ret_b ?_; simp; omega)
            · obtain ⟨v1, e1⟩ := at_no hf hs h0 (by omega) hx
              have hcb : countV f s u ≤ i := by
                by_cases hfu : f ≤ u
                · rw [count_many hf hs hu hfu h0]
                  have hl := lt_div (a := s) (n := i) (m := u - f) (by omega) (by omega)
                  have hl2 : ¬ i < (u - f) / s + 1 := by rw [hl]; unfold fin at hu; omega
                  omega
                · rw [count_none hfu]; omega
              clear hf hs hu h0 hx
              go_enter Try.func4, Try.ntmps4
              go_wp2_with (first | (go_at_call 7; refine (lives_any _).mono ?_; rintro e w' ⟨rfl, hg⟩) | (go_at_call 8; refine (add_any _ _ _).mono ?_; rintro e w' ⟨rfl, hg⟩) | (go_at_call 9; refine (is_any _ _).mono ?_; rintro e w' ⟨rfl, rfl⟩) | (go_at_call 10; refine (sub_any _ _ _).mono ?_; rintro e w' ⟨rfl, hg⟩) | (go_at_call 12; refine (check_any _ _).mono ?_; rintro e w' ⟨rfl, rfl⟩) | (go_at_call 11; refine (count_any _ _ _ _).mono ?_; rintro e w' ⟨rfl, rfl⟩) | (go_at_call 13; refine (at_any _ _ _ _ (by omega)).mono ?_; rintro e w' ⟨rfl, hg⟩) | (go_at_call 14; refine (mul_any _ _ _ (by omega)).mono ?_; rintro e w' ⟨rfl, hg⟩))
              go_ret
              refine ⟨?_, by repeat (first | assumption | refine grown_trans ?_ (by assumption))⟩
              first | rfl | (refine ret_b ?_; simp; done) | (refine ret_b ?_; simp; omega)
      · have hU := checkV_bad hu
        have hc := count_bad (f := f) (s := s) (u := u) (fun h => hu h.2.2)
        clear hf hs hu
        go_enter Try.func4, Try.ntmps4
        go_wp2_with (first | (go_at_call 7; refine (lives_any _).mono ?_; rintro e w' ⟨rfl, hg⟩) | (go_at_call 8; refine (add_any _ _ _).mono ?_; rintro e w' ⟨rfl, hg⟩) | (go_at_call 9; refine (is_any _ _).mono ?_; rintro e w' ⟨rfl, rfl⟩) | (go_at_call 10; refine (sub_any _ _ _).mono ?_; rintro e w' ⟨rfl, hg⟩) | (go_at_call 12; refine (check_any _ _).mono ?_; rintro e w' ⟨rfl, rfl⟩) | (go_at_call 11; refine (count_any _ _ _ _).mono ?_; rintro e w' ⟨rfl, rfl⟩) | (go_at_call 13; refine (at_any _ _ _ _ (by omega)).mono ?_; rintro e w' ⟨rfl, hg⟩) | (go_at_call 14; refine (mul_any _ _ _ (by omega)).mono ?_; rintro e w' ⟨rfl, hg⟩))
        go_ret
        refine ⟨?_, by repeat (first | assumption | refine grown_trans ?_ (by assumption))⟩
        first | rfl | (refine ret_b ?_; simp; done) | (refine ret_b ?_; simp; omega)
    · have hS := checkV_bad hs
      have hc := count_bad (f := f) (s := s) (u := u) (fun h => hs h.2.1)
      clear hf hs
      go_enter Try.func4, Try.ntmps4
      go_wp2_with (first | (go_at_call 7; refine (lives_any _).mono ?_; rintro e w' ⟨rfl, hg⟩) | (go_at_call 8; refine (add_any _ _ _).mono ?_; rintro e w' ⟨rfl, hg⟩) | (go_at_call 9; refine (is_any _ _).mono ?_; rintro e w' ⟨rfl, rfl⟩) | (go_at_call 10; refine (sub_any _ _ _).mono ?_; rintro e w' ⟨rfl, hg⟩) | (go_at_call 12; refine (check_any _ _).mono ?_; rintro e w' ⟨rfl, rfl⟩) | (go_at_call 11; refine (count_any _ _ _ _).mono ?_; rintro e w' ⟨rfl, rfl⟩) | (go_at_call 13; refine (at_any _ _ _ _ (by omega)).mono ?_; rintro e w' ⟨rfl, hg⟩) | (go_at_call 14; refine (mul_any _ _ _ (by omega)).mono ?_; rintro e w' ⟨rfl, hg⟩))
      go_ret
      refine ⟨?_, by repeat (first | assumption | refine grown_trans ?_ (by assumption))⟩
      first | rfl | (refine ret_b ?_; simp; done) | (refine ret_b ?_; simp; omega)
  · have hF := checkV_bad hf
    have hc := count_bad (f := f) (s := s) (u := u) (fun h => hf h.1)
    clear hf
    go_enter Try.func4, Try.ntmps4
    go_wp2_with (first | (go_at_call 7; refine (lives_any _).mono ?_; rintro e w' ⟨rfl, hg⟩) | (go_at_call 8; refine (add_any _ _ _).mono ?_; rintro e w' ⟨rfl, hg⟩) | (go_at_call 9; refine (is_any _ _).mono ?_; rintro e w' ⟨rfl, rfl⟩) | (go_at_call 10; refine (sub_any _ _ _).mono ?_; rintro e w' ⟨rfl, hg⟩) | (go_at_call 12; refine (check_any _ _).mono ?_; rintro e w' ⟨rfl, rfl⟩) | (go_at_call 11; refine (count_any _ _ _ _).mono ?_; rintro e w' ⟨rfl, rfl⟩) | (go_at_call 13; refine (at_any _ _ _ _ (by omega)).mono ?_; rintro e w' ⟨rfl, hg⟩) | (go_at_call 14; refine (mul_any _ _ _ (by omega)).mono ?_; rintro e w' ⟨rfl, hg⟩))
    go_ret
    refine ⟨?_, by repeat (first | assumption | refine grown_trans ?_ (by assumption))⟩
    first | rfl | (refine ret_b ?_; simp; done) | (refine ret_b ?_; simp; omega)
end Go.Proofs.Ytoijfdcknigikaa.Tk
