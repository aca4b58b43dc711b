/- The law BitsetNames, walked: at every world in which the library's table lies it answers true. -/
import Derived.Test.YtffphlbbophjfaaDoorBitLives
namespace Go.Proofs.YtffphlbbophjfaaDoor.Bs
open Go.ChangeShapes Go.WideShapes Go.ChangeAt Go.RowKit
set_option linter.unusedVariables false

theorem empty_next (n k : Nat) : nxt fEmpty n k = -1 := nxt_none fun _ _ _ => rfl
set_option maxHeartbeats 4000000 in
set_option maxRecDepth 100000 in
theorem names_all (w : World) (hE : Env w) : Calls Tryd.prog 3 #[] w (BoolPost w true) := by
  have HE := Lib.hid hE
  clear hE
  go_enter Tryd.func3, Tryd.ntmps3
  go_wp2_with fail
  refine (new_bad (-1) _ (by omega)).mono ?_
  rintro e w1 ⟨rfl, rfl⟩
  go_wp2_with fail
  refine (new_bad 1048577 _ (by omega)).mono ?_
  rintro e w1 ⟨rfl, rfl⟩
  go_wp2_with fail
  refine (new_any 70 _ (by omega)).mono ?_
  rintro e w1 ⟨B, g, rfl, hB, hg, hs1, hb1⟩
  go_wp2_with fail
  refine (new_any 71 _ (by omega)).mono ?_
  rintro e w2 ⟨C, k, rfl, hC, hk, ht2, q2⟩
  have hs2 := hs1.after q2
  have hb2 := keep_trans hb1 q2
  have hBC : B ≠ C := by have := hs1.ltB; omega
  have hgk : g ≠ k := by have := hs1.lt; omega
  clear hs1 hb1 q2 hC hk
  go_wp2_with fail
  refine (put_any hs2 70 false 2 fEmpty (by decide) (by decide) (by rw [if_neg (by decide)])).mono ?_
  rintro e w3 ⟨rfl, hs3, hw3⟩
  have hb3 := wr_below hb2 hw3 hg
  have ht3 := ht2.far hw3 (Ne.symm hgk)
  clear hs2 hb2 ht2 hw3
  go_wp2_with fail
  refine (take_any hs3 (-1) false 2 fEmpty (by decide) (by decide) (by rw [if_neg (by decide)])).mono ?_
  rintro e w4 ⟨rfl, hs4, hw4⟩
  have hb4 := wr_below hb3 hw4 hg
  have ht4 := ht3.far hw4 (Ne.symm hgk)
  clear hs3 hb3 ht3 hw4
  go_wp2_with fail
  refine (lives_any _ (HE.out.after hb4)).mono ?_
  rintro e w5 ⟨rfl, q5⟩
  have hb5 := keep_trans hb4 q5
  have hs5 := hs4.after q5
  have ht5 := ht4.after q5
  clear hs4 hb4 ht4 q5
  go_wp2_with fail
  refine (or_any hs5 ht5 2 fEmpty (by decide) (by rw [if_neg (by decide)])).mono ?_
  rintro e w6 ⟨rfl, hs6, hw6⟩
  have hb6 := wr_below hb5 hw6 hg
  have ht6 := ht5.far hw6 (Ne.symm hgk)
  clear hs5 hb5 ht5 hw6
  go_wp2_with fail
  refine (or_nil2 hs6).mono ?_
  rintro e w7 ⟨rfl, q7⟩
  have hb7 := keep_trans hb6 q7
  have hs7 := hs6.after q7
  have ht7 := ht6.after q7
  clear hs6 hb6 ht6 q7
  go_wp2_with fail
  refine (next_any hs7 (HE.out.after hb7) 0).mono ?_
  rintro e w8 ⟨rfl, q8⟩
  rw [empty_next]
  have hb8 := keep_trans hb7 q8
  have hs8 := hs7.after q8
  have ht8 := ht7.after q8
  clear hs7 hb7 ht7 q8
  go_wp2_with fail
  refine (width_cell _ B 70 hs8.self.1 hs8.self.2).mono ?_
  rintro e w9 ⟨rfl, rfl⟩
  go_wp2_with fail
  refine (same_any hs8 ht8 false (by rw [decide_eq_false (by decide), Bool.false_and])).mono ?_
  rintro e w9 ⟨rfl, q9⟩
  have hb9 := keep_trans hb8 q9
  have hs9 := hs8.after q9
  clear hs8 hb8 ht8 q9
  go_wp2_with fail
  refine (has_any hs9 5).mono ?_
  rintro e w10 ⟨rfl, q10⟩
  have hb10 := Lib.hid (keep_trans hb9 q10)
  clear hs9 hb9 q10
  rw [show (decide ((0 : Int) ≤ 5) && fEmpty (5 : Int).toNat) = false by decide]
  go_wp2
  go_ret
  exact ⟨rfl, hb10.out⟩
end Go.Proofs.YtffphlbbophjfaaDoor.Bs
