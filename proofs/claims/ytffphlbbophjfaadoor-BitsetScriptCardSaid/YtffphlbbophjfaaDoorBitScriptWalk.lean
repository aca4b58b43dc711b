/- The law BitsetScript: the inputs that are not gone through; all together. -/
import Derived.Test.YtffphlbbophjfaaDoorBitScriptMain
namespace Go.Proofs.YtffphlbbophjfaaDoor.Bs
open Go.ChangeShapes Go.WideShapes Go.ChangeAt Go.RowKit
set_option linter.unusedVariables false

set_option maxHeartbeats 16000000 in
set_option maxRecDepth 100000 in
theorem script_all (W : World) (hE : Env W) (n m : Int) (A : Option Addr) (len c : Nat) (zs : List (Int × Int)) (hl : Hid (len = zs.length)) (hr : Rd W (· < W.heap.size) A (ac zs)) (hb : ActsIn zs) :
    Calls Tryd.prog 4 #[.int .i64 n, .int .i64 m, .slice A len c] W (BoolPost W true) := by
  have HE := Lib.hid hE
  have HQ := Lib.hid hr
  have HBZ := Lib.hid hb
  clear hE hr hb
  by_cases hs1 : 150 < len
  · go_enter Tryd.func4, Tryd.ntmps4
    go_wp2_with fail
    refine (lives_any _ HE.out).mono ?_
    rintro e w1 ⟨rfl, hb1⟩
    have hb1 := Lib.hid hb1
    go_wp2
    go_ret
    exact ⟨rfl, hb1.out⟩
  by_cases hs2 : 2000 < n ∧ n ≤ 1048576
  · obtain ⟨hn1, hn2⟩ := hs2
    go_enter Tryd.func4, Tryd.ntmps4
    go_wp2_with fail
    refine (lives_any _ HE.out).mono ?_
    rintro e w1 ⟨rfl, hb1⟩
    have hb1 := Lib.hid hb1
    go_wp2
    go_ret
    exact ⟨rfl, hb1.out⟩
  have hnc : n < 0 ∨ 1048576 < n ∨ (0 ≤ n ∧ n ≤ 2000) := by omega
  by_cases hs3 : 2000 < m ∧ m ≤ 1048576
  · obtain ⟨hm1, hm2⟩ := hs3
    clear hs2
    rcases hnc with hn | hn | ⟨hn, hn2⟩
    · have hn2 : ¬ 2000 < n := by omega
      go_enter Tryd.func4, Tryd.ntmps4
      go_wp2_with fail
      refine (lives_any _ HE.out).mono ?_
      rintro e w1 ⟨rfl, hb1⟩
      have hb1 := Lib.hid hb1
      go_wp2
      go_ret
      exact ⟨rfl, hb1.out⟩
    · have hn2 : 2000 < n := by omega
      have hn3 : ¬ n ≤ 1048576 := by omega
      go_enter Tryd.func4, Tryd.ntmps4
      go_wp2_with fail
      refine (lives_any _ HE.out).mono ?_
      rintro e w1 ⟨rfl, hb1⟩
      have hb1 := Lib.hid hb1
      go_wp2
      go_ret
      exact ⟨rfl, hb1.out⟩
    · have hn3 : ¬ 2000 < n := by omega
      go_enter Tryd.func4, Tryd.ntmps4
      go_wp2_with fail
      refine (lives_any _ HE.out).mono ?_
      rintro e w1 ⟨rfl, hb1⟩
      have hb1 := Lib.hid hb1
      go_wp2
      go_ret
      exact ⟨rfl, hb1.out⟩
  have hmc : m < 0 ∨ 1048576 < m ∨ (0 ≤ m ∧ m ≤ 2000) := by omega
  clear hs2 hs3
  rcases hnc with hn | hn | ⟨hn, hn2⟩
  · rcases hmc with hm | hm | ⟨hm, hm2⟩
    · skip
      have hn2 : ¬ 2000 < n := by omega
      have hm2 : ¬ 2000 < m := by omega
      have nbad : n < 0 ∨ 1048576 < n := by omega
      have NB := Lib.hid nbad
      clear nbad
      have mbad : m < 0 ∨ 1048576 < m := by omega
      have MB := Lib.hid mbad
      clear mbad
      go_enter Tryd.func4, Tryd.ntmps4
      go_wp2_with fail
      refine (lives_any _ HE.out).mono ?_
      rintro e w1 ⟨rfl, hb1⟩
      have hb1 := Lib.hid hb1
      go_wp2_with fail
      refine (new_bad _ _ NB.out).mono ?_
      rintro e wz ⟨rfl, rfl⟩
      go_wp2_with fail
      refine (new_bad _ _ MB.out).mono ?_
      rintro e wz ⟨rfl, rfl⟩
      go_wp2_with fail
      refine (rnew_bad _ _ NB.out).mono ?_
      rintro e wz ⟨rfl, rfl⟩
      go_wp2_with fail
      refine (rnew_bad _ _ MB.out).mono ?_
      rintro e wz ⟨rfl, rfl⟩
      have hq := hb1
      rcases Nat.eq_zero_or_pos len with h0 | h0
      · subst h0
        go_wp2
        refine wp_loop_rounds 1 ?_
        rw [rounds_succ]
        go_wp2
        go_ret
        exact ⟨rfl, hq.out⟩
      · have h1 : (0 : Int) < (len : Int) := by omega
        go_wp2
        refine wp_loop_rounds 1 ?_
        rw [rounds_succ]
        go_wp2
        go_ret
        exact ⟨rfl, hq.out⟩
    · skip
      have hn2 : ¬ 2000 < n := by omega
      have hm2 : 2000 < m := by omega
      have hm3 : ¬ m ≤ 1048576 := by omega
      have nbad : n < 0 ∨ 1048576 < n := by omega
      have NB := Lib.hid nbad
      clear nbad
      have mbad : m < 0 ∨ 1048576 < m := by omega
      have MB := Lib.hid mbad
      clear mbad
      go_enter Tryd.func4, Tryd.ntmps4
      go_wp2_with fail
      refine (lives_any _ HE.out).mono ?_
      rintro e w1 ⟨rfl, hb1⟩
      have hb1 := Lib.hid hb1
      go_wp2_with fail
      refine (new_bad _ _ NB.out).mono ?_
      rintro e wz ⟨rfl, rfl⟩
      go_wp2_with fail
      refine (new_bad _ _ MB.out).mono ?_
      rintro e wz ⟨rfl, rfl⟩
      go_wp2_with fail
      refine (rnew_bad _ _ NB.out).mono ?_
      rintro e wz ⟨rfl, rfl⟩
      go_wp2_with fail
      refine (rnew_bad _ _ MB.out).mono ?_
      rintro e wz ⟨rfl, rfl⟩
      have hq := hb1
      rcases Nat.eq_zero_or_pos len with h0 | h0
      · subst h0
        go_wp2
        refine wp_loop_rounds 1 ?_
        rw [rounds_succ]
        go_wp2
        go_ret
        exact ⟨rfl, hq.out⟩
      · have h1 : (0 : Int) < (len : Int) := by omega
        go_wp2
        refine wp_loop_rounds 1 ?_
        rw [rounds_succ]
        go_wp2
        go_ret
        exact ⟨rfl, hq.out⟩
    · skip
      have hn2 : ¬ 2000 < n := by omega
      have hm3 : ¬ 2000 < m := by omega
      obtain ⟨M, rfl⟩ := Int.eq_ofNat_of_zero_le hm
      have hM : M ≤ 2000 := by omega
      have nbad : n < 0 ∨ 1048576 < n := by omega
      have NB := Lib.hid nbad
      clear nbad
      go_enter Tryd.func4, Tryd.ntmps4
      go_wp2_with fail
      refine (lives_any _ HE.out).mono ?_
      rintro e w1 ⟨rfl, hb1⟩
      have hb1 := Lib.hid hb1
      go_wp2_with fail
      refine (new_bad _ _ NB.out).mono ?_
      rintro e wz ⟨rfl, rfl⟩
      go_wp2_with fail
      refine (new_any M _ (by omega)).mono ?_
      rintro e w3 ⟨C, h, rfl, hC, hh, hz2, q2⟩
      go_wp2_with fail
      refine (rnew_bad _ _ NB.out).mono ?_
      rintro e wz ⟨rfl, rfl⟩
      go_wp2_with fail
      refine (rnew_any M _ (by omega)).mono ?_
      rintro e w5 ⟨Y, yh, rfl, hY, hyh, hz4, q4⟩
      have hq := Lib.hid (keep_trans (keep_trans hb1.out q2) q4)
      clear hz2 q2 hz4 q4 hC hh hY hyh
      rcases Nat.eq_zero_or_pos len with h0 | h0
      · subst h0
        go_wp2
        refine wp_loop_rounds 1 ?_
        rw [rounds_succ]
        go_wp2
        go_ret
        exact ⟨rfl, hq.out⟩
      · have h1 : (0 : Int) < (len : Int) := by omega
        go_wp2
        refine wp_loop_rounds 1 ?_
        rw [rounds_succ]
        go_wp2
        go_ret
        exact ⟨rfl, hq.out⟩
  · rcases hmc with hm | hm | ⟨hm, hm2⟩
    · skip
      have hn2 : 2000 < n := by omega
      have hn3 : ¬ n ≤ 1048576 := by omega
      have hm2 : ¬ 2000 < m := by omega
      have nbad : n < 0 ∨ 1048576 < n := by omega
      have NB := Lib.hid nbad
      clear nbad
      have mbad : m < 0 ∨ 1048576 < m := by omega
      have MB := Lib.hid mbad
      clear mbad
      go_enter Tryd.func4, Tryd.ntmps4
      go_wp2_with fail
      refine (lives_any _ HE.out).mono ?_
      rintro e w1 ⟨rfl, hb1⟩
      have hb1 := Lib.hid hb1
      go_wp2_with fail
      refine (new_bad _ _ NB.out).mono ?_
      rintro e wz ⟨rfl, rfl⟩
      go_wp2_with fail
      refine (new_bad _ _ MB.out).mono ?_
      rintro e wz ⟨rfl, rfl⟩
      go_wp2_with fail
      refine (rnew_bad _ _ NB.out).mono ?_
      rintro e wz ⟨rfl, rfl⟩
      go_wp2_with fail
      refine (rnew_bad _ _ MB.out).mono ?_
      rintro e wz ⟨rfl, rfl⟩
      have hq := hb1
      rcases Nat.eq_zero_or_pos len with h0 | h0
      · subst h0
        go_wp2
        refine wp_loop_rounds 1 ?_
        rw [rounds_succ]
        go_wp2
        go_ret
        exact ⟨rfl, hq.out⟩
      · have h1 : (0 : Int) < (len : Int) := by omega
        go_wp2
        refine wp_loop_rounds 1 ?_
        rw [rounds_succ]
        go_wp2
        go_ret
        exact ⟨rfl, hq.out⟩
    · skip
      have hn2 : 2000 < n := by omega
      have hn3 : ¬ n ≤ 1048576 := by omega
      have hm2 : 2000 < m := by omega
      have hm3 : ¬ m ≤ 1048576 := by omega
      have nbad : n < 0 ∨ 1048576 < n := by omega
      have NB := Lib.hid nbad
      clear nbad
      have mbad : m < 0 ∨ 1048576 < m := by omega
      have MB := Lib.hid mbad
      clear mbad
      go_enter Tryd.func4, Tryd.ntmps4
      go_wp2_with fail
      refine (lives_any _ HE.out).mono ?_
      rintro e w1 ⟨rfl, hb1⟩
      have hb1 := Lib.hid hb1
      go_wp2_with fail
      refine (new_bad _ _ NB.out).mono ?_
      rintro e wz ⟨rfl, rfl⟩
      go_wp2_with fail
      refine (new_bad _ _ MB.out).mono ?_
      rintro e wz ⟨rfl, rfl⟩
      go_wp2_with fail
      refine (rnew_bad _ _ NB.out).mono ?_
      rintro e wz ⟨rfl, rfl⟩
      go_wp2_with fail
      refine (rnew_bad _ _ MB.out).mono ?_
      rintro e wz ⟨rfl, rfl⟩
      have hq := hb1
      rcases Nat.eq_zero_or_pos len with h0 | h0
      · subst h0
        go_wp2
        refine wp_loop_rounds 1 ?_
        rw [rounds_succ]
        go_wp2
        go_ret
        exact ⟨rfl, hq.out⟩
      · have h1 : (0 : Int) < (len : Int) := by omega
        go_wp2
        refine wp_loop_rounds 1 ?_
        rw [rounds_succ]
        go_wp2
        go_ret
        exact ⟨rfl, hq.out⟩
    · skip
      have hn2 : 2000 < n := by omega
      have hn3 : ¬ n ≤ 1048576 := by omega
      have hm3 : ¬ 2000 < m := by omega
      obtain ⟨M, rfl⟩ := Int.eq_ofNat_of_zero_le hm
      have hM : M ≤ 2000 := by omega
      have nbad : n < 0 ∨ 1048576 < n := by omega
      have NB := Lib.hid nbad
      clear nbad
      go_enter Tryd.func4, Tryd.ntmps4
      go_wp2_with fail
      refine (lives_any _ HE.out).mono ?_
      rintro e w1 ⟨rfl, hb1⟩
      have hb1 := Lib.hid hb1
      go_wp2_with fail
      refine (new_bad _ _ NB.out).mono ?_
      rintro e wz ⟨rfl, rfl⟩
      go_wp2_with fail
      refine (new_any M _ (by omega)).mono ?_
      rintro e w3 ⟨C, h, rfl, hC, hh, hz2, q2⟩
      go_wp2_with fail
      refine (rnew_bad _ _ NB.out).mono ?_
      rintro e wz ⟨rfl, rfl⟩
      go_wp2_with fail
      refine (rnew_any M _ (by omega)).mono ?_
      rintro e w5 ⟨Y, yh, rfl, hY, hyh, hz4, q4⟩
      have hq := Lib.hid (keep_trans (keep_trans hb1.out q2) q4)
      clear hz2 q2 hz4 q4 hC hh hY hyh
      rcases Nat.eq_zero_or_pos len with h0 | h0
      · subst h0
        go_wp2
        refine wp_loop_rounds 1 ?_
        rw [rounds_succ]
        go_wp2
        go_ret
        exact ⟨rfl, hq.out⟩
      · have h1 : (0 : Int) < (len : Int) := by omega
        go_wp2
        refine wp_loop_rounds 1 ?_
        rw [rounds_succ]
        go_wp2
        go_ret
        exact ⟨rfl, hq.out⟩
  · rcases hmc with hm | hm | ⟨hm, hm2⟩
    · skip
      have hn3 : ¬ 2000 < n := by omega
      have hm2 : ¬ 2000 < m := by omega
      obtain ⟨N, rfl⟩ := Int.eq_ofNat_of_zero_le hn
      have hN : N ≤ 2000 := by omega
      have mbad : m < 0 ∨ 1048576 < m := by omega
      have MB := Lib.hid mbad
      clear mbad
      go_enter Tryd.func4, Tryd.ntmps4
      go_wp2_with fail
      refine (lives_any _ HE.out).mono ?_
      rintro e w1 ⟨rfl, hb1⟩
      have hb1 := Lib.hid hb1
      go_wp2_with fail
      refine (new_any N _ (by omega)).mono ?_
      rintro e w2 ⟨B, g, rfl, hB, hg, hz1, q1⟩
      go_wp2_with fail
      refine (new_bad _ _ MB.out).mono ?_
      rintro e wz ⟨rfl, rfl⟩
      go_wp2_with fail
      refine (rnew_any N _ (by omega)).mono ?_
      rintro e w4 ⟨X, xh, rfl, hX, hxh, hz3, q3⟩
      go_wp2_with fail
      refine (rnew_bad _ _ MB.out).mono ?_
      rintro e wz ⟨rfl, rfl⟩
      have hq := Lib.hid (keep_trans (keep_trans hb1.out q1) q3)
      clear hz1 q1 hz3 q3 hB hg hX hxh
      rcases Nat.eq_zero_or_pos len with h0 | h0
      · subst h0
        go_wp2
        refine wp_loop_rounds 1 ?_
        rw [rounds_succ]
        go_wp2
        go_ret
        exact ⟨rfl, hq.out⟩
      · have h1 : (0 : Int) < (len : Int) := by omega
        go_wp2
        refine wp_loop_rounds 1 ?_
        rw [rounds_succ]
        go_wp2
        go_ret
        exact ⟨rfl, hq.out⟩
    · skip
      have hn3 : ¬ 2000 < n := by omega
      have hm2 : 2000 < m := by omega
      have hm3 : ¬ m ≤ 1048576 := by omega
      obtain ⟨N, rfl⟩ := Int.eq_ofNat_of_zero_le hn
      have hN : N ≤ 2000 := by omega
      have mbad : m < 0 ∨ 1048576 < m := by omega
      have MB := Lib.hid mbad
      clear mbad
      go_enter Tryd.func4, Tryd.ntmps4
      go_wp2_with fail
      refine (lives_any _ HE.out).mono ?_
      rintro e w1 ⟨rfl, hb1⟩
      have hb1 := Lib.hid hb1
      go_wp2_with fail
      refine (new_any N _ (by omega)).mono ?_
      rintro e w2 ⟨B, g, rfl, hB, hg, hz1, q1⟩
      go_wp2_with fail
      refine (new_bad _ _ MB.out).mono ?_
      rintro e wz ⟨rfl, rfl⟩
      go_wp2_with fail
      refine (rnew_any N _ (by omega)).mono ?_
      rintro e w4 ⟨X, xh, rfl, hX, hxh, hz3, q3⟩
      go_wp2_with fail
      refine (rnew_bad _ _ MB.out).mono ?_
      rintro e wz ⟨rfl, rfl⟩
      have hq := Lib.hid (keep_trans (keep_trans hb1.out q1) q3)
      clear hz1 q1 hz3 q3 hB hg hX hxh
      rcases Nat.eq_zero_or_pos len with h0 | h0
      · subst h0
        go_wp2
        refine wp_loop_rounds 1 ?_
        rw [rounds_succ]
        go_wp2
        go_ret
        exact ⟨rfl, hq.out⟩
      · have h1 : (0 : Int) < (len : Int) := by omega
        go_wp2
        refine wp_loop_rounds 1 ?_
        rw [rounds_succ]
        go_wp2
        go_ret
        exact ⟨rfl, hq.out⟩
    · obtain ⟨N, rfl⟩ := Int.eq_ofNat_of_zero_le hn
      obtain ⟨M, rfl⟩ := Int.eq_ofNat_of_zero_le hm
      exact script_main W HE.out N M (by omega) (by omega) A len c zs hl HQ.out HBZ.out hs1
end Go.Proofs.YtffphlbbophjfaaDoor.Bs
