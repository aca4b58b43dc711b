/- TickNames, walked: it returns true. Condition: the library's variables hold what start-up lays (Env). -/
import Derived.Test.YtoijfdcknigikaaDoorTickRef
import Derived.Test.YtoijfdcknigikaaDoorTickBackWalk
namespace Go.Proofs.YtoijfdcknigikaaDoor.Tk
open Go.Shelf Go.ChangeShapes Go.WideShapes Go.ChangeAt Go.RowKit
set_option linter.unusedVariables false

theorem p007 (w : World) (hE : Env w) : Calls Tryd.prog 9 #[.string ⟨#[48, 48, 55]⟩] w fun e w' => e = .returned (.tuple #[.int .i64 0, .int .i64 7]) ∧ Below w.heap.size w w' := by
  refine (parse_s ⟨#[48, 48, 55]⟩ (by unfold maxLen; decide) w hE).mono ?_
  rintro e w' ⟨rfl, hb⟩
  exact ⟨ret_2 (by decide), hb⟩
theorem pbig (w : World) (hE : Env w) : Calls Tryd.prog 9 #[.string ⟨#[49, 48, 57, 57, 53, 49, 49, 54, 50, 55, 55, 55, 55]⟩] w fun e w' => e = .returned (.tuple #[.int .i64 0, .int .i64 9]) ∧ Below w.heap.size w w' := by
  refine (parse_s ⟨#[49, 48, 57, 57, 53, 49, 49, 54, 50, 55, 55, 55, 55]⟩ (by unfold maxLen; decide) w hE).mono ?_
  rintro e w' ⟨rfl, hb⟩
  exact ⟨ret_2 (by decide), hb⟩
theorem pinf (w : World) (hE : Env w) : Calls Tryd.prog 9 #[.string ⟨#[105, 110, 102]⟩] w fun e w' => e = .returned (.tuple #[.int .i64 4611686018427387904, .int .i64 0]) ∧ Below w.heap.size w w' := by
  refine (parse_s ⟨#[105, 110, 102]⟩ (by unfold maxLen; decide) w hE).mono ?_
  rintro e w' ⟨rfl, hb⟩
  exact ⟨ret_2 (by decide), hb⟩
set_option maxRecDepth 100000 in
set_option maxHeartbeats 4000000 in
theorem names_all (w : World) (hE : Env w) : Calls Tryd.prog 3 #[] w (Good w) := by
  have HEnv := Lib.hid hE
  have s1 : subE 3 4 = 9 := by decide
  have s2 : subE 3 4611686018427387904 = 9 := by decide
  have m1 : mulV 4611686018427387904 0 = 0 := by decide
  have m2 : mulE 4611686018427387904 0 = 0 := by decide
  have m3 : mulE 549755813888 3 = 9 := by decide
  have a1 : atE 5 0 1 = 9 := by decide
  have a2 : atV 5 10 2 = 25 := by decide
  have a3 : atE 5 10 2 = 0 := by decide
  have t1 : textL 4611686018427387904 = [105, 110, 102] := text_inf
  have t2 : textL (-1) = [] := by decide
  have t3 : textL 40 = [52, 48] := by
    rw [text_fin ⟨by omega, by omega⟩]; show Lib.decDigits 40 = _; rw [Lib.decDigits_two (by decide) (by decide)]; rfl
  have c1 : checkV 4611686018427387904 = 9 := by decide
  have i1 := isB_inf
  have i2 : isB 1099511627777 = false := by decide
  clear hE
  go_enter Tryd.func3, Tryd.ntmps3
  go_wp2_with (first | (go_at_call 10; refine (lives_any _).mono ?_; rintro e w' ⟨rfl, hg⟩) | (go_at_call 6; refine (sub_any _ _ _).mono ?_; rintro e w' ⟨rfl, hg⟩) | (go_at_call 7; refine (mul_any _ _ _ (by omega)).mono ?_; rintro e w' ⟨rfl, hg⟩) | (go_at_call 8; refine (at_any _ _ _ _ (by omega)).mono ?_; rintro e w' ⟨rfl, hg⟩) | (go_at_call 12; refine (check_any _ _).mono ?_; rintro e w' ⟨rfl, rfl⟩) | (go_at_call 13; refine (is_any _ _).mono ?_; rintro e w' ⟨rfl, rfl⟩) | (go_at_call 11; refine (text_any _ _ ?_ ?_ ?_).mono ?_; (exact (HEnv.out).on (by repeat (first | assumption | refine keep_trans ?_ (by assumption)))); omega; omega; rintro e w' ⟨rfl, hg⟩) | (go_at_call 9; (with_reducible refine (p007 _ ?_).mono ?_); (exact (HEnv.out).on (by repeat (first | assumption | refine keep_trans ?_ (by assumption)))); rintro e w' ⟨rfl, hg⟩) | (go_at_call 9; (with_reducible refine (pbig _ ?_).mono ?_); (exact (HEnv.out).on (by repeat (first | assumption | refine keep_trans ?_ (by assumption)))); rintro e w' ⟨rfl, hg⟩) | (go_at_call 9; (with_reducible refine (pinf _ ?_).mono ?_); (exact (HEnv.out).on (by repeat (first | assumption | refine keep_trans ?_ (by assumption)))); rintro e w' ⟨rfl, hg⟩))
  go_ret
  refine ⟨?_, by repeat (first | assumption | refine keep_trans ?_ (by assumption))⟩
  first | rfl | (refine ret_b ?_; simp; done)
end Go.Proofs.YtoijfdcknigikaaDoor.Tk
