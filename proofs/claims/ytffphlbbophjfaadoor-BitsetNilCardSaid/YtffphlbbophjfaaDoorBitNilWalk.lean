/- The law BitsetNil, walked: at every number, at every world in which the library's table lies, it answers true. -/
import Derived.Test.YtffphlbbophjfaaDoorBitLives
namespace Go.Proofs.YtffphlbbophjfaaDoor.Bs
open Go.ChangeShapes Go.WideShapes Go.ChangeAt Go.RowKit
set_option linter.unusedVariables false

theorem has_nil (i : Int) (w : World) : Calls Tryd.prog 17 #[.pointer none, .int .i64 i] w (BoolPost w false) := has_err _ i 1 w (by decide) (find_nil i w)
set_option maxHeartbeats 4000000 in
set_option maxRecDepth 100000 in
theorem nil_all (i : Int) (w : World) (hE : Env w) : Calls Tryd.prog 5 #[.int .i64 i] w (BoolPost w true) := by
  have HE := Lib.hid hE
  clear hE
  go_enter Tryd.func5, Tryd.ntmps5
  go_wp2_with fail
  refine (lives_any _ HE.out).mono ?_
  rintro e w1 ⟨rfl, hb1⟩
  go_wp2_with fail
  refine (put_err _ i 1 _ (by decide) (find_nil i _)).mono ?_
  rintro e w2 ⟨rfl, q2⟩
  have hb2 := keep_trans hb1 q2
  clear hb1 q2
  go_wp2_with fail
  refine (take_err _ i 1 _ (by decide) (find_nil i _)).mono ?_
  rintro e w3 ⟨rfl, q3⟩
  have hb3 := keep_trans hb2 q3
  clear hb2 q3
  go_wp2_with fail
  refine (clear_nil _).mono ?_
  rintro e w4 ⟨rfl, rfl⟩
  go_wp2_with fail
  refine (new_any 3 _ (by omega)).mono ?_
  rintro e w4 ⟨B, g, rfl, hB, hg, hs4, q4⟩
  have hb4 := keep_trans hb3 q4
  have hg0 : w.heap.size ≤ g := Nat.le_trans hb3.size hg
  clear hb3 q4 hB hg
  go_wp2_with fail
  refine (has_nil i _).mono ?_
  rintro e w5 ⟨rfl, q5⟩
  have hb5 := keep_trans hb4 q5
  have hs5 := hs4.after q5
  clear hs4 hb4 q5
  go_wp2_with fail
  refine (width_nil _).mono ?_
  rintro e w6 ⟨rfl, rfl⟩
  go_wp2_with fail
  refine (count_nil _).mono ?_
  rintro e w6 ⟨rfl, q6⟩
  have hb6 := keep_trans hb5 q6
  have hs6 := hs5.after q6
  clear hs5 hb5 q6
  go_wp2_with fail
  refine (next_nil i _).mono ?_
  rintro e w7 ⟨rfl, q7⟩
  have hb7 := keep_trans hb6 q7
  have hs7 := hs6.after q7
  clear hs6 hb6 q7
  go_wp2_with fail
  refine (list_nil _).mono ?_
  rintro e w8 ⟨A8, n8, c8, rfl, hn8, hc8, hr8, q8⟩
  have hn0 : n8 = 0 := hn8.out
  subst hn0
  have hb8 := keep_trans hb7 q8
  have hs8 := hs7.after q8
  clear hs7 hb7 q8 hn8 hc8 hr8
  go_wp2_with fail
  refine (or_nil1 _ _).mono ?_
  rintro e w9 ⟨rfl, q9⟩
  have hb9 := keep_trans hb8 q9
  have hs9 := hs8.after q9
  clear hs8 hb8 q9
  go_wp2_with fail
  refine (and_nil1 _ _).mono ?_
  rintro e w10 ⟨rfl, q10⟩
  have hb10 := keep_trans hb9 q10
  have hs10 := hs9.after q10
  clear hs9 hb9 q10
  go_wp2_with fail
  refine (minus_nil2 hs10).mono ?_
  rintro e w11 ⟨rfl, q11⟩
  have hb11 := keep_trans hb10 q11
  have hs11 := hs10.after q11
  clear hs10 hb10 q11
  go_wp2_with fail
  refine (clone_nil _).mono ?_
  rintro e w12 ⟨rfl, rfl⟩
  go_wp2_with fail
  refine (same_nils _).mono ?_
  rintro e w12 ⟨rfl, q12⟩
  have hb12 := keep_trans hb11 q12
  have hs12 := hs11.after q12
  clear hs11 hb11 q12
  go_wp2_with fail
  refine (same_nil2 hs12).mono ?_
  rintro e w13 ⟨rfl, q13⟩
  have hb13 := Lib.hid (keep_trans hb12 q13)
  clear hs12 hb12 q13
  go_wp2
  go_ret
  exact ⟨rfl, hb13.out⟩
end Go.Proofs.YtffphlbbophjfaaDoor.Bs
