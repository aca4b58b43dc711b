/- TickCalls, walked at any int64 and any text: it returns true. Condition: the library's variables hold what start-up lays (Env). -/
import Derived.Test.YtoijfdcknigikaaDoorTickRef
import Derived.Test.YtoijfdcknigikaaDoorTickBackWalk
namespace Go.Proofs.YtoijfdcknigikaaDoor.Tk
open Go.Shelf Go.ChangeShapes Go.WideShapes Go.ChangeAt Go.RowKit
set_option linter.unusedVariables false

theorem rparse_s (s : ByteArray) (hmx : s.size ≤ maxLen) (w : World) :
    Calls Tryd.prog 19 #[.string s] w fun e w' => e = .returned (.tuple #[.int .i64 (parseV s.data.toList), .int .i64 (parseE s.data.toList)]) ∧ w = w' := rparse_any s hmx w

set_option maxRecDepth 100000 in
set_option maxHeartbeats 4000000 in
theorem calls_all (a b c : Int) (s : ByteArray) (ha1 : -9223372036854775808 ≤ a) (ha2 : a ≤ 9223372036854775807) (hb2 : b ≤ 9223372036854775807) (hc2 : c ≤ 9223372036854775807) (hs : s.size ≤ 60) (w : World) (hE : Env w) :
    Calls Tryd.prog 4 #[.int .i64 a, .int .i64 b, .int .i64 c, .string s] w (Good w) := by
  have HEnv := Lib.hid hE
  have hmx : s.size ≤ maxLen := by unfold maxLen; omega
  have r1 : (addV a b == addV a b) = true := beq_self_eq_true _
  have r2 : (addE a b == addE a b) = true := beq_self_eq_true _
  have r3 : (subV a b == subV a b) = true := beq_self_eq_true _
  have r4 : (subE a b == subE a b) = true := beq_self_eq_true _
  have r5 : (mulV a b == mulV a b) = true := beq_self_eq_true _
  have r6 : (mulE a b == mulE a b) = true := beq_self_eq_true _
  have r7 : (atV a b c == atV a b c) = true := beq_self_eq_true _
  have r8 : (atE a b c == atE a b c) = true := beq_self_eq_true _
  have r9 : (parseV s.data.toList == parseV s.data.toList) = true := beq_self_eq_true _
  have r10 : (parseE s.data.toList == parseE s.data.toList) = true := beq_self_eq_true _
  clear hE
  go_enter Tryd.func4, Tryd.ntmps4
  go_wp2_with (first | (go_at_call 10; refine (lives_any _).mono ?_; rintro e w' ⟨rfl, hg⟩) | (go_at_call 14; refine (add_any _ _ _).mono ?_; rintro e w' ⟨rfl, hg⟩) | (go_at_call 6; refine (sub_any _ _ _).mono ?_; rintro e w' ⟨rfl, hg⟩) | (go_at_call 7; refine (mul_any _ _ _ (by omega)).mono ?_; rintro e w' ⟨rfl, hg⟩) | (go_at_call 8; refine (at_any _ _ _ _ (by omega)).mono ?_; rintro e w' ⟨rfl, hg⟩) | (go_at_call 22; refine (count_any _ _ _ _).mono ?_; rintro e w' ⟨rfl, rfl⟩) | (go_at_call 12; refine (check_any _ _).mono ?_; rintro e w' ⟨rfl, rfl⟩) | (go_at_call 13; refine (is_any _ _).mono ?_; rintro e w' ⟨rfl, rfl⟩) | (go_at_call 15; refine (radd_any _ _ _).mono ?_; rintro e w' ⟨rfl, rfl⟩) | (go_at_call 16; refine (rsub_any _ _ _).mono ?_; rintro e w' ⟨rfl, rfl⟩) | (go_at_call 17; refine (rmul_any _ _ _ (by omega)).mono ?_; rintro e w' ⟨rfl, rfl⟩) | (go_at_call 18; refine (rat_any _ _ _ _ (by omega)).mono ?_; rintro e w' ⟨rfl, rfl⟩) | (go_at_call 23; refine (rcount_any _ _ _ _).mono ?_; rintro e w' ⟨rfl, rfl⟩) | (go_at_call 20; refine (ris_any _ _).mono ?_; rintro e w' ⟨rfl, rfl⟩) | (go_at_call 21; refine (rcheck_any _ _).mono ?_; rintro e w' ⟨rfl, rfl⟩) | (go_at_call 24; refine (rtext_any _ _).mono ?_; rintro e w' ⟨rfl, rfl⟩) | (go_at_call 19; refine (rparse_s s hmx _).mono ?_; rintro e w' ⟨rfl, rfl⟩) | (go_at_call 11; refine (text_any _ _ ?_ ?_ ?_).mono ?_; (exact (HEnv.out).on (by repeat (first | assumption | refine keep_trans ?_ (by assumption)))); omega; omega; rintro e w' ⟨rfl, hg⟩) | (go_at_call 9; refine (parse_s s hmx _ ?_).mono ?_; (exact (HEnv.out).on (by repeat (first | assumption | refine keep_trans ?_ (by assumption)))); rintro e w' ⟨rfl, hg⟩))
  go_ret
  refine ⟨?_, by repeat (first | assumption | refine keep_trans ?_ (by assumption))⟩
  first | rfl | (refine ret_b ?_; simp; done)
set_option maxRecDepth 100000 in
theorem calls_long (a b c : Int) (s : ByteArray) (hs : 60 < s.size) (hmx : s.size ≤ maxLen) (w : World) :
    Calls Tryd.prog 4 #[.int .i64 a, .int .i64 b, .int .i64 c, .string s] w (Good w) := by
  unfold maxLen at hmx
  go_enter Tryd.func4, Tryd.ntmps4
  go_wp2_with (go_at_call 10; refine (lives_any _).mono ?_; rintro e w' ⟨rfl, hg⟩)
  go_ret
  exact ⟨rfl, hg⟩
theorem calls_any (a b c : Int) (s : ByteArray) (ha1 : -9223372036854775808 ≤ a) (ha2 : a ≤ 9223372036854775807) (hb2 : b ≤ 9223372036854775807) (hc2 : c ≤ 9223372036854775807) (hmx : s.size ≤ maxLen) (w : World) (hE : Env w) :
    Calls Tryd.prog 4 #[.int .i64 a, .int .i64 b, .int .i64 c, .string s] w (Good w) := by
  by_cases hs : s.size ≤ 60
  · exact calls_all a b c s ha1 ha2 hb2 hc2 hs w hE
  · exact calls_long a b c s (by omega) hmx w
end Go.Proofs.YtoijfdcknigikaaDoor.Tk
