/- The law OrderCalls walked: it answers true at any rows and number. No condition. -/
import Derived.Test.YtcjpimocbgeheaaOrderRefUniq
namespace Go.Proofs.Ytcjpimocbgeheaa.Od
open Go.ChangeShapes Go.WideShapes Go.ChangeAt Go.RowKit
set_option linter.unusedVariables false

set_option maxHeartbeats 4000000 in
theorem calls_any (w : World) (A B L : Option Addr) (na nb nl ca cb cl : Nat) (x : Int) (xs ys : List Key) (zs : List Int) (hna : Hid (na = xs.length)) (hnb : Hid (nb = ys.length)) (hnl : Hid (nl = zs.length)) (hca : na ≤ ca) (hcb : nb ≤ cb) (hcl : nl ≤ cl)
    (hx : Rd w (· < w.heap.size) A (kc xs)) (hy : Rd w (· < w.heap.size) B (kc ys)) (hz : Rd w (· < w.heap.size) L (ic zs)) (h1' : na ≤ 200) (h2' : nb ≤ 200) (h3' : nl ≤ 200) :
    Calls Try.prog 4 #[.slice A na ca, .slice B nb cb, .slice L nl cl, .int .i64 x] w fun e w' => e = .returned (.bool true) ∧ Below w.heap.size w w' := by
  have hd1 : decide ((200 : Int) < (na : Int)) = false := by simp; omega
  have hd2 : decide ((200 : Int) < (nb : Int)) = false := by simp; omega
  have hd3 : decide ((200 : Int) < (nl : Int)) = false := by simp; omega
  go_enter Try.func4, Try.ntmps4
  go_wp2_with fail
  refine (lives_any w).mono ?_
  rintro e w0 ⟨rfl, b0⟩
  have HX := Lib.hid (fun W (h : Below w.heap.size w W) => hx.later h)
  have HY := Lib.hid (fun W (h : Below w.heap.size w W) => hy.later h)
  have HZ := Lib.hid (fun W (h : Below w.heap.size w W) => hz.later h)
  clear hx hy hz
  go_wp2_with fail
  refine (ownKeys_any w0 A na ca xs hna (by omega) (HX.out _ b0)).mono ?_
  rintro e w1 ⟨A1, n1, c1, rfl, hn1, hc1, hr1, q1⟩
  have b1 := keep_trans b0 q1
  have hN1 : n1 ≤ 200 := by have := hn1.out; rw [← hna.out] at this; omega
  go_wp2_with fail
  refine (sorted_any w1 A1 n1 c1 xs hn1 (by omega) hr1.old hc1).mono ?_
  rintro e w2 ⟨A2, n2, c2, rfl, hn2, hc2, hr2, q2⟩
  have b2 := keep_trans b1 q2
  go_wp2_with fail
  refine (refSorted_any w2 A na ca xs hna (by omega) (HX.out _ b2) hca).mono ?_
  rintro e w3 ⟨A3, n3, c3, rfl, hn3, hc3, hr3, q3⟩
  have b3 := keep_trans b2 q3
  have hN2 : n2 ≤ 200 := by have := hn2.out; rw [srt_length, ← hna.out] at this; omega
  go_wp2_with fail
  refine (same2_key hn2 hn3 rfl (by omega) (hr2.old.later q3) hr3.old).mono ?_
  rintro e w4 ⟨rfl, q4⟩
  have b4 := keep_trans b3 q4
  clear hr1 hr2 hr3 q1 q2 q3 q4 b0 b1 b2 b3
  go_wp2_with fail
  refine (merge_any w4 A B na nb ca cb xs ys hna hnb (by omega) (HX.out _ b4) (HY.out _ b4) hca hcb).mono ?_
  rintro e w5 ⟨A5, n5, c5, rfl, hn5, hc5, hr5, q5⟩
  have b5 := keep_trans b4 q5
  have hN5 : n5 ≤ 400 := by have := hn5.out; rw [mg_length, ← hna.out, ← hnb.out] at this; omega
  go_wp2_with fail
  refine (refMerge_any w5 A B na nb ca cb xs ys hna hnb (by omega) (HX.out _ b5) (HY.out _ b5)).mono ?_
  rintro e w6 ⟨A6, n6, c6, rfl, hn6, hc6, hr6, q6⟩
  have b6 := keep_trans b5 q6
  go_wp2_with fail
  refine (same2_key hn5 hn6 rfl (by omega) (hr5.old.later q6) hr6.old).mono ?_
  rintro e w7 ⟨rfl, q7⟩
  have b7 := keep_trans b6 q7
  clear hr5 hr6 q5 q6 q7 b4 b5 b6 HX HY
  go_wp2_with fail
  refine (ownI64_any w7 L nl cl zs hnl (by omega) (HZ.out _ b7)).mono ?_
  rintro e w8 ⟨A8, n8, c8, rfl, hn8, hc8, hr8, q8⟩
  have b8 := keep_trans b7 q8
  have hN8 : n8 ≤ 200 := by have := hn8.out; rw [← hnl.out] at this; omega
  go_wp2_with fail
  refine (perm_any w8 A8 n8 c8 zs hn8 (by omega) hc8 hr8.old).mono ?_
  rintro e w9 ⟨A9, n9, c9, rfl, hn9, hc9, hr9, q9⟩
  have b9 := keep_trans b8 q9
  go_wp2_with fail
  refine (refPerm2_any w9 L nl cl zs hnl (by omega) (HZ.out _ b9)).mono ?_
  rintro e wa ⟨Aa, n_a, c_a, rfl, hn_a, hc_a, hr_a, qa⟩
  have ba := keep_trans b9 qa
  have hN9 : n9 ≤ 200 := by have := hn9.out; rw [pm_length, ← hnl.out] at this; omega
  go_wp2_with fail
  refine (same2_int hn9 hn_a rfl (by omega) (hr9.old.later qa) hr_a.old).mono ?_
  rintro e wb ⟨rfl, qb⟩
  have bb := keep_trans ba qb
  clear hr8 hr9 hr_a q8 q9 qa qb b7 b8 b9 ba
  go_wp2_with fail
  refine (rising_any wb L nl cl zs hnl (by omega) (HZ.out _ bb)).mono ?_
  rintro e wc ⟨rfl, qc⟩
  have bc := keep_trans bb qc
  go_wp2_with fail
  refine (refRising_any wc L nl cl zs hnl (by omega) (HZ.out _ bc)).mono ?_
  rintro e wd ⟨rfl, qd⟩
  have bd := keep_trans bc qd
  go_wp2_with fail
  refine (Lower_any wd L nl cl x zs hnl (by omega) (HZ.out _ bd)).mono ?_
  rintro e we ⟨rfl, qe⟩
  have be := keep_trans bd qe
  go_wp2_with fail
  refine (refLower_any we L nl cl x zs hnl (by omega) (HZ.out _ be)).mono ?_
  rintro e wf ⟨rfl, qf⟩
  have bf := keep_trans be qf
  go_wp2_with fail
  refine (Upper_any wf L nl cl x zs hnl (by omega) (HZ.out _ bf)).mono ?_
  rintro e wg ⟨rfl, qg⟩
  have bg := keep_trans bf qg
  go_wp2_with fail
  refine (refUpper_any wg L nl cl x zs hnl (by omega) (HZ.out _ bg)).mono ?_
  rintro e wh ⟨rfl, qh⟩
  have bh := keep_trans bg qh
  clear qc qd qe qf qg qh bb bc bd be bf bg
  go_wp2_with fail
  refine (uniq_any wh L nl cl zs hnl (by omega) hcl (HZ.out _ bh)).mono ?_
  rintro e wi ⟨Ai, n_i, c_i, rfl, hn_i, hc_i, hr_i, qi⟩
  have bi := keep_trans bh qi
  have hNi : n_i ≤ 200 := by have h1 := hn_i.out; have h2 := cpF_le (sv zs) zs.length; rw [← hnl.out] at h2; unfold uq at h1; rw [← hnl.out] at h1; omega
  go_wp2_with fail
  refine (refUniq_any wi L nl cl zs hnl (by omega) (HZ.out _ bi)).mono ?_
  rintro e wj ⟨Aj, n_j, c_j, rfl, hn_j, hc_j, hr_j, qj⟩
  have bj := keep_trans bi qj
  go_wp2_with fail
  refine (same2_i64 hn_i hn_j rfl (by omega) (hr_i.old.later qj) hr_j.old).mono ?_
  rintro e wk ⟨rfl, qk⟩
  go_wp2_with fail
  go_ret
  exact ⟨rfl, keep_trans bj qk⟩

theorem calls_all (w : World) (A B L : Option Addr) (na nb nl ca cb cl : Nat) (x : Int) (xs ys : List Key) (zs : List Int) (hna : Hid (na = xs.length)) (hnb : Hid (nb = ys.length)) (hnl : Hid (nl = zs.length)) (hca : na ≤ ca) (hcb : nb ≤ cb) (hcl : nl ≤ cl)
    (hx : Rd w (· < w.heap.size) A (kc xs)) (hy : Rd w (· < w.heap.size) B (kc ys)) (hz : Rd w (· < w.heap.size) L (ic zs)) :
    Calls Try.prog 4 #[.slice A na ca, .slice B nb cb, .slice L nl cl, .int .i64 x] w fun e w' => e = .returned (.bool true) ∧ Below w.heap.size w w' := by
  by_cases h1 : 200 < na
  · have hd : decide ((200 : Int) < (na : Int)) = true := by simp; omega
    go_enter Try.func4, Try.ntmps4
    go_wp2_with (go_at_call 9; refine (lives_any _).mono ?_; rintro e w0 ⟨rfl, hb0⟩)
    go_ret
    exact ⟨rfl, hb0⟩
  · have hd : decide ((200 : Int) < (na : Int)) = false := by simp; omega
    by_cases h2 : 200 < nb
    · have hd2 : decide ((200 : Int) < (nb : Int)) = true := by simp; omega
      go_enter Try.func4, Try.ntmps4
      go_wp2_with (go_at_call 9; refine (lives_any _).mono ?_; rintro e w0 ⟨rfl, hb0⟩)
      go_ret
      exact ⟨rfl, hb0⟩
    · have hd2 : decide ((200 : Int) < (nb : Int)) = false := by simp; omega
      by_cases h3 : 200 < nl
      · have hd3 : decide ((200 : Int) < (nl : Int)) = true := by simp; omega
        go_enter Try.func4, Try.ntmps4
        go_wp2_with (go_at_call 9; refine (lives_any _).mono ?_; rintro e w0 ⟨rfl, hb0⟩)
        go_ret
        exact ⟨rfl, hb0⟩
      · exact calls_any w A B L na nb nl ca cb cl x xs ys zs hna hnb hnl hca hcb hcl hx hy hz (by omega) (by omega) (by omega)
end Go.Proofs.Ytcjpimocbgeheaa.Od
