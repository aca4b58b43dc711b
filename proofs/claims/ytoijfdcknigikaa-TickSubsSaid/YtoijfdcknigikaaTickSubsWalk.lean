/- TickSubs, walked at all numbers: it returns true. No condition. -/
import Derived.Test.YtoijfdcknigikaaTickFacts
namespace Go.Proofs.Ytoijfdcknigikaa.Tk
open Go.ChangeShapes Go.WideShapes Go.ChangeAt Go.RowKit
set_option linter.unusedVariables false

set_option maxHeartbeats 4000000 in
theorem subs_all (a b : Int) (w : World) : Calls Try.prog 6 #[.int .i64 a, .int .i64 b] w (Good w) := by
  by_cases hta : isTk a
  · by_cases htb : isTk b
    · rcases tk_cases a with ha | rfl | ha
      · exact absurd hta ha
      · rcases tk_cases b with hb | rfl | hb
        · exact absurd htb hb
        · obtain ⟨v1, e1⟩ := sub_ir 4611686018427387904
          have i1 := isB_inf
          clear hta htb
          go_enter Try.func6, Try.ntmps6
          go_wp2_with (first | (go_at_call 7; refine (lives_any _).mono ?_; rintro e w' ⟨rfl, hg⟩) | (go_at_call 8; refine (add_any _ _ _).mono ?_; rintro e w' ⟨rfl, hg⟩) | (go_at_call 9; refine (is_any _ _).mono ?_; rintro e w' ⟨rfl, rfl⟩) | (go_at_call 10; refine (sub_any _ _ _).mono ?_; rintro e w' ⟨rfl, hg⟩) | (go_at_call 12; refine (check_any _ _).mono ?_; rintro e w' ⟨rfl, rfl⟩) | (go_at_call 11; refine (count_any _ _ _ _).mono ?_; rintro e w' ⟨rfl, rfl⟩) | (go_at_call 13; refine (at_any _ _ _ _ (by omega)).mono ?_; rintro e w' ⟨rfl, hg⟩) | (go_at_call 14; refine (mul_any _ _ _ (by omega)).mono ?_; rintro e w' ⟨rfl, hg⟩))
          go_ret
          refine ⟨?_, by repeat (first | assumption | refine grown_trans ?_ (by assumption))⟩
          first | rfl | (refine ret_b ?_; simp; done) | (refine ret_b ?_; simp; omega)
        · obtain ⟨v1, e1⟩ := sub_il hb
          obtain ⟨v2, e2⟩ := sub_ir b
          obtain ⟨v3, e3⟩ := add_il htb
          have i1 := isB_inf
          have i2 := isB_true htb
          have hbn := eq_f (fin_ne hb)
          obtain ⟨hb1, hb2⟩ := hb
          have d1 : decide (b ≤ 4611686018427387904) = true := by simp; omega
          clear hta htb
          go_enter Try.func6, Try.ntmps6
          go_wp2_with (first | (go_at_call 7; refine (lives_any _).mono ?_; rintro e w' ⟨rfl, hg⟩) | (go_at_call 8; refine (add_any _ _ _).mono ?_; rintro e w' ⟨rfl, hg⟩) | (go_at_call 9; refine (is_any _ _).mono ?_; rintro e w' ⟨rfl, rfl⟩) | (go_at_call 10; refine (sub_any _ _ _).mono ?_; rintro e w' ⟨rfl, hg⟩) | (go_at_call 12; refine (check_any _ _).mono ?_; rintro e w' ⟨rfl, rfl⟩) | (go_at_call 11; refine (count_any _ _ _ _).mono ?_; rintro e w' ⟨rfl, rfl⟩) | (go_at_call 13; refine (at_any _ _ _ _ (by omega)).mono ?_; rintro e w' ⟨rfl, hg⟩) | (go_at_call 14; refine (mul_any _ _ _ (by omega)).mono ?_; rintro e w' ⟨rfl, hg⟩))
          go_ret
          refine ⟨?_, by repeat (first | assumption | refine grown_trans ?_ (by assumption))⟩
          first | rfl | (refine ret_b ?_; simp; done) | (refine ret_b ?_; simp; omega)
      · rcases tk_cases b with hb | rfl | hb
        · exact absurd htb hb
        · obtain ⟨v1, e1⟩ := sub_il ha
          obtain ⟨v2, e2⟩ := sub_ir a
          obtain ⟨v3, e3⟩ := add_il hta
          have i1 := isB_inf
          have i2 := isB_true hta
          have han := eq_f (fin_ne ha)
          obtain ⟨ha1, ha2⟩ := ha
          have d1 : decide (a ≤ 4611686018427387904) = true := by simp; omega
          clear hta htb
          go_enter Try.func6, Try.ntmps6
          go_wp2_with (first | (go_at_call 7; refine (lives_any _).mono ?_; rintro e w' ⟨rfl, hg⟩) | (go_at_call 8; refine (add_any _ _ _).mono ?_; rintro e w' ⟨rfl, hg⟩) | (go_at_call 9; refine (is_any _ _).mono ?_; rintro e w' ⟨rfl, rfl⟩) | (go_at_call 10; refine (sub_any _ _ _).mono ?_; rintro e w' ⟨rfl, hg⟩) | (go_at_call 12; refine (check_any _ _).mono ?_; rintro e w' ⟨rfl, rfl⟩) | (go_at_call 11; refine (count_any _ _ _ _).mono ?_; rintro e w' ⟨rfl, rfl⟩) | (go_at_call 13; refine (at_any _ _ _ _ (by omega)).mono ?_; rintro e w' ⟨rfl, hg⟩) | (go_at_call 14; refine (mul_any _ _ _ (by omega)).mono ?_; rintro e w' ⟨rfl, hg⟩))
          go_ret
          refine ⟨?_, by repeat (first | assumption | refine grown_trans ?_ (by assumption))⟩
          first | rfl | (refine ret_b ?_; simp; done) | (refine ret_b ?_; simp; omega)
        · have i1 := isB_true hta
          have i2 := isB_true htb
          have han := eq_f (fin_ne ha)
          have hbn := eq_f (fin_ne hb)
          by_cases h1 : b ≤ a
          · obtain ⟨v1, e1⟩ := sub_ff ha hb h1
            have hx : fin (a - b) := by unfold fin at ha hb ⊢; omega
            obtain ⟨v3, e3⟩ := add_ff hx hb (by unfold fin at ha; omega)
            rw [show a - b + b = a from by omega] at v3
            by_cases h2 : a ≤ b
            · obtain ⟨v2, e2⟩ := sub_ff hb ha h2
              obtain ⟨hb1, hb2⟩ := hb
              obtain ⟨ha1, ha2⟩ := ha
              have d1 : decide (b ≤ a) = true := by simp; omega
              have d2 : decide (a ≤ b) = true := by simp; omega
              clear hta htb hx
              go_enter Try.func6, Try.ntmps6
              go_wp2_with (first | (go_at_call 7; refine (lives_any _).mono ?_; rintro e w' ⟨rfl, hg⟩) | (go_at_call 8; refine (add_any _ _ _).mono ?_; rintro e w' ⟨rfl, hg⟩) | (go_at_call 9; refine (is_any _ _).mono ?_; rintro e w' ⟨rfl, rfl⟩) | (go_at_call 10; refine (sub_any _ _ _).mono ?_; rintro e w' ⟨rfl, hg⟩) | (go_at_call 12; refine (check_any _ _).mono ?_; rintro e w' ⟨rfl, rfl⟩) | (go_at_call 11; refine (count_any _ _ _ _).mono ?_; rintro e w' ⟨rfl, rfl⟩) | (go_at_call 13; refine (at_any _ _ _ _ (by omega)).mono ?_; rintro e w' ⟨rfl, hg⟩) | (go_at_call 14; refine (mul_any _ _ _ (by omega)).mono ?_; rintro e w' ⟨rfl, hg⟩))
              go_ret
              refine ⟨?_, by repeat (first | assumption | refine grown_trans ?_ (by assumption))⟩
              first | rfl | (refine ret_b ?_; simp; done) | (refine ret_b ?_; simp; omega)
            · obtain ⟨v2, e2⟩ := sub_fo hb ha h2
              obtain ⟨hb1, hb2⟩ := hb
              obtain ⟨ha1, ha2⟩ := ha
              have d1 : decide (b ≤ a) = true := by simp; omega
              have d2 : decide (a ≤ b) = false := by simp; omega
              clear hta htb hx
              go_enter Try.func6, Try.ntmps6
              go_wp2_with (first | (go_at_call 7; refine (lives_any _).mono ?_; rintro e w' ⟨rfl, hg⟩) | (go_at_call 8; refine (add_any _ _ _).mono ?_; rintro e w' ⟨rfl, hg⟩) | (go_at_call 9; refine (is_any _ _).mono ?_; rintro e w' ⟨rfl, rfl⟩) | (go_at_call 10; refine (sub_any _ _ _).mono ?_; rintro e w' ⟨rfl, hg⟩) | (go_at_call 12; refine (check_any _ _).mono ?_; rintro e w' ⟨rfl, rfl⟩) | (go_at_call 11; refine (count_any _ _ _ _).mono ?_; rintro e w' ⟨rfl, rfl⟩) | (go_at_call 13; refine (at_any _ _ _ _ (by omega)).mono ?_; rintro e w' ⟨rfl, hg⟩) | (go_at_call 14; refine (mul_any _ _ _ (by omega)).mono ?_; rintro e w' ⟨rfl, hg⟩))
              go_ret
              refine ⟨?_, by repeat (first | assumption | refine grown_trans ?_ (by assumption))⟩
              first | rfl | (refine ret_b ?_; simp; done) | (refine ret_b ?_; simp; omega)
          · obtain ⟨v1, e1⟩ := sub_fo ha hb h1
            obtain ⟨v2, e2⟩ := sub_ff hb ha (by omega)
            have hx : fin (b - a) := by unfold fin at ha hb ⊢; omega
            obtain ⟨v3, e3⟩ := add_ff hx ha (by unfold fin at hb; omega)
            rw [show b - a + a = b from by omega] at v3
            obtain ⟨hb1, hb2⟩ := hb
            obtain ⟨ha1, ha2⟩ := ha
            have d1 : decide (b ≤ a) = false := by simp; omega
            have d2 : decide (a ≤ b) = true := by simp; omega
            clear hta htb hx
            go_enter Try.func6, Try.ntmps6
            go_wp2_with (first | (go_at_call 7; refine (lives_any _).mono ?_; rintro e w' ⟨rfl, hg⟩) | (go_at_call 8; refine (add_any _ _ _).mono ?_; rintro e w' ⟨rfl, hg⟩) | (go_at_call 9; refine (is_any _ _).mono ?_; rintro e w' ⟨rfl, rfl⟩) | (go_at_call 10; refine (sub_any _ _ _).mono ?_; rintro e w' ⟨rfl, hg⟩) | (go_at_call 12; refine (check_any _ _).mono ?_; rintro e w' ⟨rfl, rfl⟩) | (go_at_call 11; refine (count_any _ _ _ _).mono ?_; rintro e w' ⟨rfl, rfl⟩) | (go_at_call 13; refine (at_any _ _ _ _ (by omega)).mono ?_; rintro e w' ⟨rfl, hg⟩) | (go_at_call 14; refine (mul_any _ _ _ (by omega)).mono ?_; rintro e w' ⟨rfl, hg⟩))
            go_ret
            refine ⟨?_, by repeat (first | assumption | refine grown_trans ?_ (by assumption))⟩
            first | rfl | (refine ret_b ?_; simp; done) | (refine ret_b ?_; simp; omega)
    · obtain ⟨v1, e1⟩ := sub_nr (a := a) htb
      obtain ⟨v2, e2⟩ := sub_nl (b := a) htb
      have i1 := isB_true hta
      have i2 := isB_false htb
      clear hta htb
      go_enter Try.func6, Try.ntmps6
      go_wp2_with (first | (go_at_call 7; refine (lives_any _).mono ?_; rintro e w' ⟨rfl, hg⟩) | (go_at_call 8; refine (add_any _ _ _).mono ?_; rintro e w' ⟨rfl, hg⟩) | (go_at_call 9; refine (is_any _ _).mono ?_; rintro e w' ⟨rfl, rfl⟩) | (go_at_call 10; refine (sub_any _ _ _).mono ?_; rintro e w' ⟨rfl, hg⟩) | (go_at_call 12; refine (check_any _ _).mono ?_; rintro e w' ⟨rfl, rfl⟩) | (go_at_call 11; refine (count_any _ _ _ _).mono ?_; rintro e w' ⟨rfl, rfl⟩) | (go_at_call 13; refine (at_any _ _ _ _ (by omega)).mono ?_; rintro e w' ⟨rfl, hg⟩) | (go_at_call 14; refine (mul_any _ _ _ (by omega)).mono ?_; rintro e w' ⟨rfl, hg⟩))
      go_ret
      refine ⟨?_, by repeat (first | assumption | refine grown_trans ?_ (by assumption))⟩
      first | rfl | (refine ret_b ?_; simp; done) | (refine ret_b ?_; simp; omega)
  · obtain ⟨v1, e1⟩ := sub_nl (b := b) hta
    obtain ⟨v2, e2⟩ := sub_nr (a := b) hta
    have i1 := isB_false hta
    clear hta
    go_enter Try.func6, Try.ntmps6
    go_wp2_with (first | (go_at_call 7; refine (lives_any _).mono ?_; rintro e w' ⟨rfl, hg⟩) | (go_at_call 8; refine (add_any _ _ _).mono ?_; rintro e w' ⟨rfl, hg⟩) | (go_at_call 9; refine (is_any _ _).mono ?_; rintro e w' ⟨rfl, rfl⟩) | (go_at_call 10; refine (sub_any _ _ _).mono ?_; rintro e w' ⟨rfl, hg⟩) | (go_at_call 12; refine (check_any _ _).mono ?_; rintro e w' ⟨rfl, rfl⟩) | (go_at_call 11; refine (count_any _ _ _ _).mono ?_; rintro e w' ⟨rfl, rfl⟩) | (go_at_call 13; refine (at_any _ _ _ _ (by omega)).mono ?_; rintro e w' ⟨rfl, hg⟩) | (go_at_call 14; refine (mul_any _ _ _ (by omega)).mono ?_; rintro e w' ⟨rfl, hg⟩))
    go_ret
    refine ⟨?_, by repeat (first | assumption | refine grown_trans ?_ (by assumption))⟩
    first | rfl | (refine ret_b ?_; simp; done) | (refine ret_b ?_; simp; omega)
end Go.Proofs.Ytoijfdcknigikaa.Tk
