/- TickAdds, walked at all numbers: it returns true. No condition. -/
import Derived.Test.YtoijfdcknigikaaTickFacts
namespace Go.Proofs.Ytoijfdcknigikaa.Tk
open Go.ChangeShapes Go.WideShapes Go.ChangeAt Go.RowKit
set_option linter.unusedVariables false
theorem adds_no_l (a b c : Int) (w : World) (ha : ¬ isTk a) : Calls Try.prog 3 #[.int .i64 a, .int .i64 b, .int .i64 c] w (Good w) := by
  obtain ⟨v1, e1⟩ := add_nl (b := b) ha
  obtain ⟨v2, e2⟩ := add_nr (a := b) ha
  have i1 := isB_false ha
  clear ha
  go_enter Try.func3, Try.ntmps3
  go_wp2_with (first | (go_at_call 7; refine (lives_any _).mono ?_; rintro e w' ⟨rfl, hg⟩) | (go_at_call 8; refine (add_any _ _ _).mono ?_; rintro e w' ⟨rfl, hg⟩) | (go_at_call 9; refine (is_any _ _).mono ?_; rintro e w' ⟨rfl, rfl⟩) | (go_at_call 10; refine (sub_any _ _ _).mono ?_; rintro e w' ⟨rfl, hg⟩) | (go_at_call 12; refine (check_any _ _).mono ?_; rintro e w' ⟨rfl, rfl⟩) | (go_at_call 11; refine (count_any _ _ _ _).mono ?_; rintro e w' ⟨rfl, rfl⟩) | (go_at_call 13; refine (at_any _ _ _ _ (by omega)).mono ?_; rintro e w' ⟨rfl, hg⟩) | (go_at_call 14; refine (mul_any _ _ _ (by omega)).mono ?_; rintro e w' ⟨rfl, hg⟩))
  go_ret
  refine ⟨?_, by repeat (first | assumption | refine grown_trans ?_ (by assumption))⟩
  first | rfl | (refine ret_b ?_; simp; done) | (refine ret_b ?_; simp; omega)
theorem adds_no_r (a b c : Int) (w : World) (ha : isTk a) (hb : ¬ isTk b) : Calls Try.prog 3 #[.int .i64 a, .int .i64 b, .int .i64 c] w (Good w) := by
  obtain ⟨v1, e1⟩ := add_nr (a := a) hb
  obtain ⟨v2, e2⟩ := add_nl (b := a) hb
  have i1 := isB_false hb
  have i2 := isB_true ha
  clear ha hb
  go_enter Try.func3, Try.ntmps3
  go_wp2_with (first | (go_at_call 7; refine (lives_any _).mono ?_; rintro e w' ⟨rfl, hg⟩) | (go_at_call 8; refine (add_any _ _ _).mono ?_; rintro e w' ⟨rfl, hg⟩) | (go_at_call 9; refine (is_any _ _).mono ?_; rintro e w' ⟨rfl, rfl⟩) | (go_at_call 10; refine (sub_any _ _ _).mono ?_; rintro e w' ⟨rfl, hg⟩) | (go_at_call 12; refine (check_any _ _).mono ?_; rintro e w' ⟨rfl, rfl⟩) | (go_at_call 11; refine (count_any _ _ _ _).mono ?_; rintro e w' ⟨rfl, rfl⟩) | (go_at_call 13; refine (at_any _ _ _ _ (by omega)).mono ?_; rintro e w' ⟨rfl, hg⟩) | (go_at_call 14; refine (mul_any _ _ _ (by omega)).mono ?_; rintro e w' ⟨rfl, hg⟩))
  go_ret
  refine ⟨?_, by repeat (first | assumption | refine grown_trans ?_ (by assumption))⟩
  first | rfl | (refine ret_b ?_; simp; done) | (refine ret_b ?_; simp; omega)
theorem adds_over (a b c : Int) (w : World) (ha : fin a) (hb : fin b) (h : ¬ a + b ≤ 1099511627776) : Calls Try.prog 3 #[.int .i64 a, .int .i64 b, .int .i64 c] w (Good w) := by
  obtain ⟨v1, e1⟩ := add_fo ha hb h
  obtain ⟨v2, e2⟩ := add_fo hb ha (by omega)
  have i1 := isB_true (fin_tk ha)
  have i2 := isB_true (fin_tk hb)
  obtain ⟨ha1, ha2⟩ := ha
  obtain ⟨hb1, hb2⟩ := hb
  have h' : 1099511627776 < a + b := by omega
  clear h
  go_enter Try.func3, Try.ntmps3
  go_wp2_with (first | (go_at_call 7; refine (lives_any _).mono ?_; rintro e w' ⟨rfl, hg⟩) | (go_at_call 8; refine (add_any _ _ _).mono ?_; rintro e w' ⟨rfl, hg⟩) | (go_at_call 9; refine (is_any _ _).mono ?_; rintro e w' ⟨rfl, rfl⟩) | (go_at_call 10; refine (sub_any _ _ _).mono ?_; rintro e w' ⟨rfl, hg⟩) | (go_at_call 12; refine (check_any _ _).mono ?_; rintro e w' ⟨rfl, rfl⟩) | (go_at_call 11; refine (count_any _ _ _ _).mono ?_; rintro e w' ⟨rfl, rfl⟩) | (go_at_call 13; refine (at_any _ _ _ _ (by omega)).mono ?_; rintro e w' ⟨rfl, hg⟩) | (go_at_call 14; refine (mul_any _ _ _ (by omega)).mono ?_; rintro e w' ⟨rfl, hg⟩))
  go_ret
  refine ⟨?_, by repeat (first | assumption | refine grown_trans ?_ (by assumption))⟩
  first | rfl | (refine ret_b ?_; simp; done) | (refine ret_b ?_; simp; omega)
theorem adds_ii (c : Int) (w : World) : Calls Try.prog 3 #[.int .i64 4611686018427387904, .int .i64 4611686018427387904, .int .i64 c] w (Good w) := by
  obtain ⟨v1, e1⟩ := add_il inf_tk
  have i1 := isB_inf
  by_cases hc : isTk c
  · obtain ⟨v2, e2⟩ := add_il hc
    clear hc
    go_enter Try.func3, Try.ntmps3
    go_wp2_with (first | (go_at_call 7; refine (lives_any _).mono ?_; rintro e w' ⟨rfl, hg⟩) | (go_at_call 8; refine (add_any _ _ _).mono ?_; rintro e w' ⟨rfl, hg⟩) | (go_at_call 9; refine (is_any _ _).mono ?_; rintro e w' ⟨rfl, rfl⟩) | (go_at_call 10; refine (sub_any _ _ _).mono ?_; rintro e w' ⟨rfl, hg⟩) | (go_at_call 12; refine (check_any _ _).mono ?_; rintro e w' ⟨rfl, rfl⟩) | (go_at_call 11; refine (count_any _ _ _ _).mono ?_; rintro e w' ⟨rfl, rfl⟩) | (go_at_call 13; refine (at_any _ _ _ _ (by omega)).mono ?_; rintro e w' ⟨rfl, hg⟩) | (go_at_call 14; refine (mul_any _ _ _ (by omega)).mono ?_; rintro e w' ⟨rfl, hg⟩))
    go_ret
    refine ⟨?_, by repeat (first | assumption | refine grown_trans ?_ (by assumption))⟩
    first | rfl | (refine ret_b ?_; simp; done) | (refine ret_b ?_; simp; omega)
  · obtain ⟨v2, e2⟩ := add_nr (a := 4611686018427387904) hc
    clear hc
    go_enter Try.func3, Try.ntmps3
    go_wp2_with (first | (go_at_call 7; refine (lives_any _).mono ?_; rintro e w' ⟨rfl, hg⟩) | (go_at_call 8; refine (add_any _ _ _).mono ?_; rintro e w' ⟨rfl, hg⟩) | (go_at_call 9; refine (is_any _ _).mono ?_; rintro e w' ⟨rfl, rfl⟩) | (go_at_call 10; refine (sub_any _ _ _).mono ?_; rintro e w' ⟨rfl, hg⟩) | (go_at_call 12; refine (check_any _ _).mono ?_; rintro e w' ⟨rfl, rfl⟩) | (go_at_call 11; refine (count_any _ _ _ _).mono ?_; rintro e w' ⟨rfl, rfl⟩) | (go_at_call 13; refine (at_any _ _ _ _ (by omega)).mono ?_; rintro e w' ⟨rfl, hg⟩) | (go_at_call 14; refine (mul_any _ _ _ (by omega)).mono ?_; rintro e w' ⟨rfl, hg⟩))
    go_ret
    refine ⟨?_, by repeat (first | assumption | refine grown_trans ?_ (by assumption))⟩
    first | rfl | (refine ret_b ?_; simp; done) | (refine ret_b ?_; simp; omega)
theorem adds_if (b c : Int) (w : World) (hb : fin b) : Calls Try.prog 3 #[.int .i64 4611686018427387904, .int .i64 b, .int .i64 c] w (Good w) := by
  obtain ⟨v1, e1⟩ := add_il (fin_tk hb)
  obtain ⟨v2, e2⟩ := add_ir (fin_tk hb)
  obtain ⟨v3, e3⟩ := sub_il hb
  have i1 := isB_inf
  have hbn := ne_t (fin_ne hb)
  rcases tk_cases c with hc | rfl | hc
  · obtain ⟨v4, e4⟩ := add_nr (a := 4611686018427387904) hc
    obtain ⟨v5, e5⟩ := add_nr (a := b) hc
    clear hc hb
    go_enter Try.func3, Try.ntmps3
    go_wp2_with (first | (go_at_call 7; refine (lives_any _).mono ?_; rintro e w' ⟨rfl, hg⟩) | (go_at_call 8; refine (add_any _ _ _).mono ?_; rintro e w' ⟨rfl, hg⟩) | (go_at_call 9; refine (is_any _ _).mono ?_; rintro e w' ⟨rfl, rfl⟩) | (go_at_call 10; refine (sub_any _ _ _).mono ?_; rintro e w' ⟨rfl, hg⟩) | (go_at_call 12; refine (check_any _ _).mono ?_; rintro e w' ⟨rfl, rfl⟩) | (go_at_call 11; refine (count_any _ _ _ _).mono ?_; rintro e w' ⟨rfl, rfl⟩) | (go_at_call 13; refine (at_any _ _ _ _ (by omega)).mono ?_; rintro e w' ⟨rfl, hg⟩) | (go_at_call 14; refine (mul_any _ _ _ (by omega)).mono ?_; rintro e w' ⟨rfl, hg⟩))
    go_ret
    refine ⟨?_, by repeat (first | assumption | refine grown_trans ?_ (by assumption))⟩
    first | rfl | (refine ret_b ?_; simp; done) | (refine ret_b ?_; simp; omega)
  · obtain ⟨v4, e4⟩ := add_il inf_tk
    clear hb
    go_enter Try.func3, Try.ntmps3
    go_wp2_with (first | (go_at_call 7; refine (lives_any _).mono ?_; rintro e w' ⟨rfl, hg⟩) | (go_at_call 8; refine (add_any _ _ _).mono ?_; rintro e w' ⟨rfl, hg⟩) | (go_at_call 9; refine (is_any _ _).mono ?_; rintro e w' ⟨rfl, rfl⟩) | (go_at_call 10; refine (sub_any _ _ _).mono ?_; rintro e w' ⟨rfl, hg⟩) | (go_at_call 12; refine (check_any _ _).mono ?_; rintro e w' ⟨rfl, rfl⟩) | (go_at_call 11; refine (count_any _ _ _ _).mono ?_; rintro e w' ⟨rfl, rfl⟩) | (go_at_call 13; refine (at_any _ _ _ _ (by omega)).mono ?_; rintro e w' ⟨rfl, hg⟩) | (go_at_call 14; refine (mul_any _ _ _ (by omega)).mono ?_; rintro e w' ⟨rfl, hg⟩))
    go_ret
    refine ⟨?_, by repeat (first | assumption | refine grown_trans ?_ (by assumption))⟩
    first | rfl | (refine ret_b ?_; simp; done) | (refine ret_b ?_; simp; omega)
  · obtain ⟨v4, e4⟩ := add_il (fin_tk hc)
    by_cases hs : b + c ≤ 1099511627776
    · obtain ⟨v5, e5⟩ := add_ff hb hc hs
      obtain ⟨v6, e6⟩ := add_il (b := b + c) (fin_tk ⟨by unfold fin at hb hc; omega, hs⟩)
      clear hc hb
      go_enter Try.func3, Try.ntmps3
      go_wp2_with (first | (go_at_call 7; refine (lives_any _).mono ?_; rintro e w' ⟨rfl, hg⟩) | (go_at_call 8; refine (add_any _ _ _).mono ?_; rintro e w' ⟨rfl, hg⟩) | (go_at_call 9; refine (is_any _ _).mono ?_; rintro e w' ⟨rfl, rfl⟩) | (go_at_call 10; refine (sub_any _ _ _).mono ?_; rintro e w' ⟨rfl, hg⟩) | (go_at_call 12; refine (check_any _ _).mono ?_; rintro e w' ⟨rfl, rfl⟩) | (go_at_call 11; refine (count_any _ _ _ _).mono ?_; rintro e w' ⟨rfl, rfl⟩) | (go_at_call 13; refine (at_any _ _ _ _ (by omega)).mono ?_; rintro e w' ⟨rfl, hg⟩) | (go_at_call 14; refine (mul_any _ _ _ (by omega)).mono ?_; rintro e w' ⟨rfl, hg⟩))
      go_ret
      refine ⟨?_, by repeat (first | assumption | refine grown_trans ?_ (by assumption))⟩
      first | rfl | (refine ret_b ?_; simp; done) | (refine ret_b ?_; simp; omega)
    · obtain ⟨v5, e5⟩ := add_fo hb hc hs
      clear hc hb hs
      go_enter Try.func3, Try.ntmps3
      go_wp2_with (first | (go_at_call 7; refine (lives_any _).mono ?_; rintro e w' ⟨rfl, hg⟩) | (go_at_call 8; refine (add_any _ _ _).mono ?_; rintro e w' ⟨rfl, hg⟩) | (go_at_call 9; refine (is_any _ _).mono ?_; rintro e w' ⟨rfl, rfl⟩) | (go_at_call 10; refine (sub_any _ _ _).mono ?_; rintro e w' ⟨rfl, hg⟩) | (go_at_call 12; refine (check_any _ _).mono ?_; rintro e w' ⟨rfl, rfl⟩) | (go_at_call 11; refine (count_any _ _ _ _).mono ?_; rintro e w' ⟨rfl, rfl⟩) | (go_at_call 13; refine (at_any _ _ _ _ (by omega)).mono ?_; rintro e w' ⟨rfl, hg⟩) | (go_at_call 14; refine (mul_any _ _ _ (by omega)).mono ?_; rintro e w' ⟨rfl, hg⟩))
      go_ret
      refine ⟨?_, by repeat (first | assumption | refine grown_trans ?_ (by assumption))⟩
      first | rfl | (refine ret_b ?_; simp; done) | (refine ret_b ?_; simp; omega)
theorem adds_ti (a c : Int) (w : World) (ha : isTk a) : Calls Try.prog 3 #[.int .i64 a, .int .i64 4611686018427387904, .int .i64 c] w (Good w) := by
  obtain ⟨v1, e1⟩ := add_ir ha
  obtain ⟨v2, e2⟩ := add_il ha
  have i1 := isB_inf
  by_cases hc : isTk c
  · obtain ⟨v3, e3⟩ := add_il hc
    clear hc ha
    go_enter Try.func3, Try.ntmps3
    go_wp2_with (first | (go_at_call 7; refine (lives_any _).mono ?_; rintro e w' ⟨rfl, hg⟩) | (go_at_call 8; refine (add_any _ _ _).mono ?_; rintro e w' ⟨rfl, hg⟩) | (go_at_call 9; refine (is_any _ _).mono ?_; rintro e w' ⟨rfl, rfl⟩) | (go_at_call 10; refine (sub_any _ _ _).mono ?_; rintro e w' ⟨rfl, hg⟩) | (go_at_call 12; refine (check_any _ _).mono ?_; rintro e w' ⟨rfl, rfl⟩) | (go_at_call 11; refine (count_any _ _ _ _).mono ?_; rintro e w' ⟨rfl, rfl⟩) | (go_at_call 13; refine (at_any _ _ _ _ (by omega)).mono ?_; rintro e w' ⟨rfl, hg⟩) | (go_at_call 14; refine (mul_any _ _ _ (by omega)).mono ?_; rintro e w' ⟨rfl, hg⟩))
    go_ret
    refine ⟨?_, by repeat (first | assumption | refine grown_trans ?_ (by assumption))⟩
    first | rfl | (refine ret_b ?_; simp; done) | (refine ret_b ?_; simp; omega)
  · obtain ⟨v3, e3⟩ := add_nr (a := 4611686018427387904) hc
    clear hc ha
    go_enter Try.func3, Try.ntmps3
    go_wp2_with (first | (go_at_call 7; refine (lives_any _).mono ?_; rintro e w' ⟨rfl, hg⟩) | (go_at_call 8; refine (add_any _ _ _).mono ?_; rintro e w' ⟨rfl, hg⟩) | (go_at_call 9; refine (is_any _ _).mono ?_; rintro e w' ⟨rfl, rfl⟩) | (go_at_call 10; refine (sub_any _ _ _).mono ?_; rintro e w' ⟨rfl, hg⟩) | (go_at_call 12; refine (check_any _ _).mono ?_; rintro e w' ⟨rfl, rfl⟩) | (go_at_call 11; refine (count_any _ _ _ _).mono ?_; rintro e w' ⟨rfl, rfl⟩) | (go_at_call 13; refine (at_any _ _ _ _ (by omega)).mono ?_; rintro e w' ⟨rfl, hg⟩) | (go_at_call 14; refine (mul_any _ _ _ (by omega)).mono ?_; rintro e w' ⟨rfl, hg⟩))
    go_ret
    refine ⟨?_, by repeat (first | assumption | refine grown_trans ?_ (by assumption))⟩
    first | rfl | (refine ret_b ?_; simp; done) | (refine ret_b ?_; simp; omega)
theorem adds_ff (a b c : Int) (w : World) (ha : fin a) (hb : fin b) (h : a + b ≤ 1099511627776) : Calls Try.prog 3 #[.int .i64 a, .int .i64 b, .int .i64 c] w (Good w) := by
  have hx : fin (a + b) := ⟨by unfold fin at ha hb; omega, h⟩
  obtain ⟨v1, e1⟩ := add_ff ha hb h
  obtain ⟨v2, e2⟩ := add_ff hb ha (by omega)
  obtain ⟨v3, e3⟩ := sub_ff hx hb (by unfold fin at ha; omega)
  have i1 := isB_true (fin_tk hx)
  have hbn := ne_t (fin_ne hb)
  have hxn := ne_t (fin_ne hx)
  have hcm : b + a = a + b := by omega
  have hbk : a + b - b = a := by omega
  rw [hcm] at v2
  rw [hbk] at v3
  rcases tk_cases c with hc | rfl | hc
  · obtain ⟨v4, e4⟩ := add_nr (a := a + b) hc
    obtain ⟨v5, e5⟩ := add_nr (a := b) hc
    obtain ⟨hb1, hb2⟩ := hb
    obtain ⟨ha1, ha2⟩ := ha
    clear hc hx hcm hbk
    go_enter Try.func3, Try.ntmps3
    go_wp2_with (first | (go_at_call 7; refine (lives_any _).mono ?_; rintro e w' ⟨rfl, hg⟩) | (go_at_call 8; refine (add_any _ _ _).mono ?_; rintro e w' ⟨rfl, hg⟩) | (go_at_call 9; refine (is_any _ _).mono ?_; rintro e w' ⟨rfl, rfl⟩) | (go_at_call 10; refine (sub_any _ _ _).mono ?_; rintro e w' ⟨rfl, hg⟩) | (go_at_call 12; refine (check_any _ _).mono ?_; rintro e w' ⟨rfl, rfl⟩) | (go_at_call 11; refine (count_any _ _ _ _).mono ?_; rintro e w' ⟨rfl, rfl⟩) | (go_at_call 13; refine (at_any _ _ _ _ (by omega)).mono ?_; rintro e w' ⟨rfl, hg⟩) | (go_at_call 14; refine (mul_any _ _ _ (by omega)).mono ?_; rintro e w' ⟨rfl, hg⟩))
    go_ret
    refine ⟨?_, by repeat (first | assumption | refine grown_trans ?_ (by assumption))⟩
    first | rfl | (refine ret_b ?_; simp; done) | (refine ret_b ?_; simp; omega)
  · obtain ⟨v4, e4⟩ := add_ir (fin_tk hx)
    obtain ⟨v5, e5⟩ := add_ir (fin_tk hb)
    obtain ⟨v6, e6⟩ := add_ir (fin_tk ha)
    obtain ⟨hb1, hb2⟩ := hb
    obtain ⟨ha1, ha2⟩ := ha
    clear hx hcm hbk
    go_enter Try.func3, Try.ntmps3
    go_wp2_with (first | (go_at_call 7; refine (lives_any _).mono ?_; rintro e w' ⟨rfl, hg⟩) | (go_at_call 8; refine (add_any _ _ _).mono ?_; rintro e w' ⟨rfl, hg⟩) | (go_at_call 9; refine (is_any _ _).mono ?_; rintro e w' ⟨rfl, rfl⟩) | (go_at_call 10; refine (sub_any _ _ _).mono ?_; rintro e w' ⟨rfl, hg⟩) | (go_at_call 12; refine (check_any _ _).mono ?_; rintro e w' ⟨rfl, rfl⟩) | (go_at_call 11; refine (count_any _ _ _ _).mono ?_; rintro e w' ⟨rfl, rfl⟩) | (go_at_call 13; refine (at_any _ _ _ _ (by omega)).mono ?_; rintro e w' ⟨rfl, hg⟩) | (go_at_call 14; refine (mul_any _ _ _ (by omega)).mono ?_; rintro e w' ⟨rfl, hg⟩))
    go_ret
    refine ⟨?_, by repeat (first | assumption | refine grown_trans ?_ (by assumption))⟩
    first | rfl | (refine ret_b ?_; simp; done) | (refine ret_b ?_; simp; omega)
  · by_cases hs : b + c ≤ 1099511627776
    · have hy : fin (b + c) := ⟨by unfold fin at hb hc; omega, hs⟩
      obtain ⟨v5, e5⟩ := add_ff hb hc hs
      by_cases ht : a + b + c ≤ 1099511627776
      · obtain ⟨v4, e4⟩ := add_ff hx hc ht
        obtain ⟨v6, e6⟩ := add_ff ha hy (by omega)
        rw [show a + (b + c) = a + b + c from by omega] at v6
        obtain ⟨hb1, hb2⟩ := hb
        obtain ⟨ha1, ha2⟩ := ha
        obtain ⟨hc1, hc2⟩ := hc
        clear hx hcm hbk hy
        go_enter Try.func3, Try.ntmps3
        go_wp2_with (first | (go_at_call 7; refine (lives_any _).mono ?_; rintro e w' ⟨rfl, hg⟩) | (go_at_call 8; refine (add_any _ _ _).mono ?_; rintro e w' ⟨rfl, hg⟩) | (go_at_call 9; refine (is_any _ _).mono ?_; rintro e w' ⟨rfl, rfl⟩) | (go_at_call 10; refine (sub_any _ _ _).mono ?_; rintro e w' ⟨rfl, hg⟩) | (go_at_call 12; refine (check_any _ _).mono ?_; rintro e w' ⟨rfl, rfl⟩) | (go_at_call 11; refine (count_any _ _ _ _).mono ?_; rintro e w' ⟨rfl, rfl⟩) | (go_at_call 13; refine (at_any _ _ _ _ (by omega)).mono ?_; rintro e w' ⟨rfl, hg⟩) | (go_at_call 14; refine (mul_any _ _ _ (by omega)).mono ?_; rintro e w' ⟨rfl, hg⟩))
        go_ret
        refine ⟨?_, by repeat (first | assumption | refine grown_trans ?_ (by assumption))⟩
        first | rfl | (refine ret_b ?_; simp; done) | (refine ret_b ?_; simp; omega)
      · obtain ⟨v4, e4⟩ := add_fo hx hc ht
        obtain ⟨v6, e6⟩ := add_fo ha hy (by omega)
        obtain ⟨hb1, hb2⟩ := hb
        obtain ⟨ha1, ha2⟩ := ha
        obtain ⟨hc1, hc2⟩ := hc
        clear hx hcm hbk hy
        go_enter Try.func3, Try.ntmps3
        go_wp2_with (first | (go_at_call 7; refine (lives_any _).mono ?_; rintro e w' ⟨rfl, hg⟩) | (go_at_call 8; refine (add_any _ _ _).mono ?_; rintro e w' ⟨rfl, hg⟩) | (go_at_call 9; refine (is_any _ _).mono ?_; rintro e w' ⟨rfl, rfl⟩) | (go_at_call 10; refine (sub_any _ _ _).mono ?_; rintro e w' ⟨rfl, hg⟩) | (go_at_call 12; refine (check_any _ _).mono ?_; rintro e w' ⟨rfl, rfl⟩) | (go_at_call 11; refine (count_any _ _ _ _).mono ?_; rintro e w' ⟨rfl, rfl⟩) | (go_at_call 13; refine (at_any _ _ _ _ (by omega)).mono ?_; rintro e w' ⟨rfl, hg⟩) | (go_at_call 14; refine (mul_any _ _ _ (by omega)).mono ?_; rintro e w' ⟨rfl, hg⟩))
        go_ret
        refine ⟨?_, by repeat (first | assumption | refine grown_trans ?_ (by assumption))⟩
        first | rfl | (refine ret_b ?_; simp; done) | (refine ret_b ?_; simp; omega)
    · obtain ⟨v4, e4⟩ := add_fo hx hc (by unfold fin at ha; omega)
      obtain ⟨v5, e5⟩ := add_fo hb hc hs
      obtain ⟨hb1, hb2⟩ := hb
      obtain ⟨ha1, ha2⟩ := ha
      clear hx hcm hbk hc
      go_enter Try.func3, Try.ntmps3
      go_wp2_with (first | (go_at_call 7; refine (lives_any _).mono ?_; rintro e w' ⟨rfl, hg⟩) | (go_at_call 8; refine (add_any _ _ _).mono ?_; rintro e w' ⟨rfl, hg⟩) | (go_at_call 9; refine (is_any _ _).mono ?_; rintro e w' ⟨rfl, rfl⟩) | (go_at_call 10; refine (sub_any _ _ _).mono ?_; rintro e w' ⟨rfl, hg⟩) | (go_at_call 12; refine (check_any _ _).mono ?_; rintro e w' ⟨rfl, rfl⟩) | (go_at_call 11; refine (count_any _ _ _ _).mono ?_; rintro e w' ⟨rfl, rfl⟩) | (go_at_call 13; refine (at_any _ _ _ _ (by omega)).mono ?_; rintro e w' ⟨rfl, hg⟩) | (go_at_call 14; refine (mul_any _ _ _ (by omega)).mono ?_; rintro e w' ⟨rfl, hg⟩))
      go_ret
      refine ⟨?_, by repeat (first | assumption | refine grown_trans ?_ (by assumption))⟩
      first | rfl | (refine ret_b ?_; simp; done) | (refine ret_b ?_; simp; omega)
theorem adds_all (a b c : Int) (w : World) : Calls Try.prog 3 #[.int .i64 a, .int .i64 b, .int .i64 c] w (Good w) := by
  rcases tk_cases a with ha | rfl | ha
  · exact adds_no_l a b c w ha
  · rcases tk_cases b with hb | rfl | hb
    · exact adds_no_r _ b c w inf_tk hb
    · exact adds_ii c w
    · exact adds_if b c w hb
  · rcases tk_cases b with hb | rfl | hb
    · exact adds_no_r a b c w (fin_tk ha) hb
    · exact adds_ti a c w (fin_tk ha)
    · by_cases h : a + b ≤ 1099511627776
      · exact adds_ff a b c w ha hb h
      · exact adds_over a b c w ha hb h
end Go.Proofs.Ytoijfdcknigikaa.Tk
