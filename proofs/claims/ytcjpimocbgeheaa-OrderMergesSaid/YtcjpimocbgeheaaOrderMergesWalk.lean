/- The law OrderMerges walked: it answers true at any two rows. No condition. -/
import Derived.Test.YtcjpimocbgeheaaOrderViews
namespace Go.Proofs.Ytcjpimocbgeheaa.Od
open Go.ChangeShapes Go.WideShapes Go.ChangeAt Go.RowKit
set_option linter.unusedVariables false

/-- Own of keys, with the row that it made -/
theorem ownKeys_row (w : World) (A : Option Addr) (n c : Nat) (zs : List Key) (hn : Hid (n = zs.length)) (hN : n ≤ 1000000) (hx : Rd w (· < w.heap.size) A (kc zs)) :
    Calls Try.prog 20 #[.slice A n c] w fun e w' => ∃ v, e = .returned v ∧ Hid (w'.ownsRow w.heap.size 25 2 v n (kc zs)) ∧ Below w.heap.size w w' := by
  have hx' : Rd (w.alloc (.cells #[] 25)) (· < w.heap.size) A (kc zs) := hx.keep fun b hb => Below.heap_alloc w _ b hb
  have HX := Lib.hid hx'
  have hl : Hid ((kc zs).length = n * 2) := by show _ = _; rw [kc_length, hn.out]
  clear hx hx'
  go_enter Try.func20, Try.ntmps20
  go_wp2_with (at_builtin; refine wpList_append_rd rfl (.tmp 3) (.tmp 4) 26 rfl w.heap.size 25 _ 2 16 Try.underlying26 info_key rfl (by omega) (by omega) _ 0 [] rfl (own_empty (Nat.le_refl _)) _ A n c (kc zs) rfl hl.out HX.out (kc_one zs) (by omega) (by simp) ?_; intro v' w1 hown hbel)
  have h2 := hown.out
  simp only [Nat.zero_add, List.nil_append] at h2
  go_ret
  exact ⟨v', rfl, h2, ((Below.refl _ _).alloc (Nat.le_refl _) _).trans hbel.out⟩

set_option maxHeartbeats 4000000 in
theorem merges_all (w : World) (A B : Option Addr) (na nb ca cb : Nat) (xs ys : List Key) (hna : Hid (na = xs.length)) (hnb : Hid (nb = ys.length)) (hca : na ≤ ca) (hcb : nb ≤ cb)
    (hx : Rd w (· < w.heap.size) A (kc xs)) (hy : Rd w (· < w.heap.size) B (kc ys)) :
    Calls Try.prog 7 #[.slice A na ca, .slice B nb cb] w fun e w' => e = .returned (.bool true) ∧ Below w.heap.size w w' := by
  by_cases h1 : 200 < na
  · have hd : decide ((200 : Int) < (na : Int)) = true := by simp; omega
    go_enter Try.func7, Try.ntmps7
    go_wp2_with (go_at_call 9; refine (lives_any _).mono ?_; rintro e w0 ⟨rfl, hb0⟩)
    go_ret
    exact ⟨rfl, hb0⟩
  · by_cases h2 : 200 < nb
    · have hd : decide ((200 : Int) < (na : Int)) = false := by simp; omega
      have hd2 : decide ((200 : Int) < (nb : Int)) = true := by simp; omega
      go_enter Try.func7, Try.ntmps7
      go_wp2_with (go_at_call 9; refine (lives_any _).mono ?_; rintro e w0 ⟨rfl, hb0⟩)
      go_ret
      exact ⟨rfl, hb0⟩
    · have hd : decide ((200 : Int) < (na : Int)) = false := by simp; omega
      have hd2 : decide ((200 : Int) < (nb : Int)) = false := by simp; omega
      have h1' : na ≤ 200 := by omega
      have h2' : nb ≤ 200 := by omega
      clear h1 h2
      go_enter Try.func7, Try.ntmps7
      go_wp2_with fail
      refine (lives_any w).mono ?_
      rintro e w0 ⟨rfl, b0⟩
      have HX := fun W (h : Below w.heap.size w W) => hx.later h
      have HY := fun W (h : Below w.heap.size w W) => hy.later h
      have HX := Lib.hid HX
      have HY := Lib.hid HY
      clear hx hy
      go_wp2_with fail
      refine (sorted_any w0 A na ca xs hna (by omega) (HX.out _ b0) hca).mono ?_
      rintro e w1 ⟨A1, n1, c1, rfl, hn1, hc1, hr1, q1⟩
      have b1 := keep_trans b0 q1
      go_wp2_with fail
      refine (sorted_any w1 B nb cb ys hnb (by omega) (HY.out _ b1) hcb).mono ?_
      rintro e w2 ⟨A2, n2, c2, rfl, hn2, hc2, hr2, q2⟩
      have b2 := keep_trans b1 q2
      have hN1 : n1 ≤ 200 := by have := hn1.out; rw [srt_length, ← hna.out] at this; omega
      have hN2 : n2 ≤ 200 := by have := hn2.out; rw [srt_length, ← hnb.out] at this; omega
      go_wp2_with fail
      refine (merge_any w2 A1 A2 n1 n2 c1 c2 _ _ hn1 hn2 (by omega) (hr1.old.later q2) hr2.old hc1 hc2).mono ?_
      rintro e w3 ⟨A3, n3, c3, rfl, hn3, hc3, hr3, q3⟩
      have b3 := keep_trans b2 q3
      rw [mg_srt] at hn3 hr3
      have hN3 : n3 ≤ 400 := by have := hn3.out; rw [srt_length, List.length_append, ← hna.out, ← hnb.out] at this; omega
      go_wp2_with fail
      refine (ownKeys_row w3 A na ca xs hna (by omega) (HX.out _ b3)).mono ?_
      rintro e w4 ⟨v4, rfl, ho4, q4⟩
      have b4 := keep_trans b3 q4
      have hl4 : Hid ((kc ys).length = nb * 2) := by show _ = _; rw [kc_length, hnb.out]
      go_wp2_with (at_builtin; refine wpList_append_rd rfl (.tmp 23) (.tmp 24) 26 rfl w3.heap.size 25 _ 2 16 Try.underlying26 info_key rfl (by omega) (by omega) v4 na (kc xs) rfl ho4.out _ B nb cb (kc ys) rfl hl4.out (HY.out _ b4) (kc_one ys) (by omega) q4.size ?_; intro v5 w5 ho5 q5)
      have q35 : Below w3.heap.size w3 w5 := q4.trans q5.out
      have b5 := keep_trans b3 q35
      obtain ⟨A5, c5, hv5, hc5, hr5⟩ := own_form ho5.out
      rw [← kc_append] at hr5
      subst hv5
      have hn5 : Hid (na + nb = (xs ++ ys).length) := by show _ = _; rw [List.length_append, hna.out, hnb.out]
      refine (sorted_any w5 A5 (na + nb) c5 (xs ++ ys) hn5 (by omega) hr5.old hc5).mono ?_
      rintro e w6 ⟨A6, n6, c6, rfl, hn6, hc6, hr6, q6⟩
      have b6 := keep_trans b5 q6
      go_wp2_with fail
      refine (same2_key hn3 hn6 rfl (by omega) ((hr3.old.later q35).later q6) hr6.old).mono ?_
      rintro e w7 ⟨rfl, q7⟩
      have b7 := keep_trans b6 q7
      clear hr1 hr2 hr3 hr5 hr6 ho4 ho5 q1 q2 q3 q4 q35 q5 q6 q7 b1 b2 b3 b4 b5 b6
      go_wp2_with fail
      refine (sorted_any w7 A na ca xs hna (by omega) (HX.out _ b7) hca).mono ?_
      rintro e w8 ⟨A8, n8, c8, rfl, hn8, hc8, hr8, q8⟩
      have b8 := keep_trans b7 q8
      have hN8 : n8 ≤ 200 := by have := hn8.out; rw [srt_length, ← hna.out] at this; omega
      go_wp2_with fail
      refine (merge_any w8 A8 none n8 0 c8 0 _ [] hn8 rfl (by omega) hr8.old Rd.none_ hc8 (by omega)).mono ?_
      rintro e w9 ⟨A9, n9, c9, rfl, hn9, hc9, hr9, q9⟩
      have b9 := keep_trans b8 q9
      rw [mg_nil_r] at hn9 hr9
      go_wp2_with fail
      refine (sorted_any w9 A na ca xs hna (by omega) (HX.out _ b9) hca).mono ?_
      rintro e wa ⟨Aa, n_a, c_a, rfl, hn_a, hc_a, hr_a, qa⟩
      have ba := keep_trans b9 qa
      have hN9 : n9 ≤ 200 := by have := hn9.out; rw [srt_length, ← hna.out] at this; omega
      go_wp2_with fail
      refine (same2_key hn9 hn_a rfl (by omega) (hr9.old.later qa) hr_a.old).mono ?_
      rintro e wb ⟨rfl, qb⟩
      have bb := keep_trans ba qb
      clear hr8 hr9 hr_a q8 q9 qa qb b8 b9 ba
      go_wp2_with fail
      refine (sorted_any wb B nb cb ys hnb (by omega) (HY.out _ bb) hcb).mono ?_
      rintro e wc ⟨Ac, n_c, c_c, rfl, hn_c, hc_c, hr_c, qc⟩
      have bc := keep_trans bb qc
      have hNc : n_c ≤ 200 := by have := hn_c.out; rw [srt_length, ← hnb.out] at this; omega
      go_wp2_with fail
      refine (merge_any wc none Ac 0 n_c 0 c_c [] _ rfl hn_c (by omega) Rd.none_ hr_c.old (by omega) hc_c).mono ?_
      rintro e wd ⟨Ad, n_d, c_d, rfl, hn_d, hc_d, hr_d, qd⟩
      have bd := keep_trans bc qd
      rw [mg_nil_l] at hn_d hr_d
      have hNd : n_d ≤ 200 := by have := hn_d.out; rw [srt_length, ← hnb.out] at this; omega
      go_wp2_with fail
      refine (sorted_any wd B nb cb ys hnb (by omega) (HY.out _ bd) hcb).mono ?_
      rintro e we ⟨Ae, n_e, c_e, rfl, hn_e, hc_e, hr_e, qe⟩
      have be := keep_trans bd qe
      go_wp2_with fail
      refine (same2_key hn_d hn_e rfl (by omega) (hr_d.old.later qe) hr_e.old).mono ?_
      rintro e wf ⟨rfl, qf⟩
      go_wp2_with fail
      go_ret
      exact ⟨rfl, keep_trans be qf⟩
end Go.Proofs.Ytcjpimocbgeheaa.Od
