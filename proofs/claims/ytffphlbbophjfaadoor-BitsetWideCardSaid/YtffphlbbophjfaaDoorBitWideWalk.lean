/- The law BitsetWide, walked: at any numbers and any row, at every world in which the library's table lies, it answers true. -/
import Derived.Test.YtffphlbbophjfaaDoorBitKit
namespace Go.Proofs.YtffphlbbophjfaaDoor.Bs
open Go.ChangeShapes Go.WideShapes Go.ChangeAt Go.RowKit
set_option linter.unusedVariables false

def WdRel (w : World) (B g C h N M len : Nat) (v : Value) (wr : World) : Prop :=
  ∃ (k : Nat) (f : Fs), v = .int .i64 k ∧ k ≤ len ∧ Hid (SetAt wr B g N f) ∧ Hid (SetAt wr C h M f) ∧ Hid (Below w.heap.size w wr)
set_option maxHeartbeats 8000000 in
set_option maxRecDepth 100000 in
theorem wide_all (W : World) (hE : Env W) (n m : Int) (bn : -9223372036854775808 ≤ n ∧ n ≤ 9223372036854775807) (bm : -9223372036854775808 ≤ m ∧ m ≤ 9223372036854775807) (A : Option Addr) (len c : Nat) (zs : List Int)
    (hl : Hid (len = zs.length)) (hr : Rd W (· < W.heap.size) A (ic zs)) (hb : ∀ x ∈ zs, -9223372036854775808 ≤ x ∧ x ≤ 9223372036854775807) :
    Calls Tryd.prog 8 #[.int .i64 n, .int .i64 m, .slice A len c] W (BoolPost W true) := by
  have HE := Lib.hid hE
  have HR := Lib.hid hr
  have HBD := Lib.hid hb
  have HBN := Lib.hid bn
  have HBM := Lib.hid bm
  clear hE hr hb bn bm
  by_cases hlen : 150 < len
  · go_enter Tryd.func8, Tryd.ntmps8
    go_wp2_with fail
    refine (lives_any _ HE.out).mono ?_
    rintro e w1 ⟨rfl, hb1⟩
    have hb1 := Lib.hid hb1
    go_wp2
    go_ret
    exact ⟨rfl, hb1.out⟩
  · go_enter Tryd.func8, Tryd.ntmps8
    go_wp2_with fail
    refine (lives_any _ HE.out).mono ?_
    rintro e w1 ⟨rfl, hb1⟩
    have hb1 := Lib.hid hb1
    go_wp2_with fail
    refine (pick_any n 300 w1 HBN.out.1 HBN.out.2 (by omega) (by omega)).mono ?_
    rintro e w2 ⟨N, rfl, hN, rfl⟩
    go_wp2_with fail
    refine (pick_any m 300 w1 HBM.out.1 HBM.out.2 (by omega) (by omega)).mono ?_
    rintro e w2 ⟨M0, rfl, hM, rfl⟩
    have hN1 : N < 300 := by have := hN.out; omega
    have hM1 : M0 < 300 := by have := hM.out; omega
    clear hN hM
    obtain ⟨M, hMM⟩ : ∃ M, M = N + M0 := ⟨_, rfl⟩
    have eM : (N : Int) + (M0 : Int) = (M : Int) := by omega
    have hNM : N ≤ M := by omega
    have hM2 : M < 600 := by omega
    clear hMM
    go_wp2_with fail
    refine (new_any N _ (by omega)).mono ?_
    rintro e w3 ⟨B, g, rfl, hB, hg, hs3, q3⟩
    go_wp2_with fail
    refine (new_any M _ (by omega)).mono ?_
    rintro e w4 ⟨C, h, rfl, hC, hh, ht4, q4⟩
    have hgh : g ≠ h := by have := hs3.lt; omega
    have hgB : W.heap.size ≤ g := Nat.le_trans hb1.out.size hg
    have hhB : W.heap.size ≤ h := Nat.le_trans (keep_trans hb1.out q3).size hh
    have HI : Hid (WdRel W B g C h N M len (.int .i64 0) w4) := Lib.hid ⟨0, fEmpty, rfl, by omega, Lib.hid (hs3.after q4), Lib.hid ht4, Lib.hid (keep_trans (keep_trans hb1.out q3) q4)⟩
    clear hs3 q3 ht4 q4 hB hg hC hh hb1
    go_wp2
    go_loopw [11] (fun v wr => WdRel W B g C h N M len v wr) (fun v _ => len - (intOf v).toNat)
    case atStart => exact HI.out
    case round =>
      obtain ⟨k, f, rfl, hk, hs, ht, hbel⟩ := hrel
      clear HI
      by_cases hlt : k < len
      · have hkz : k < zs.length := by rw [← hl.out]; exact hlt
        obtain ⟨ad, rfl, hS, hc⟩ := (HR.out.below2 hbel.out).at_ (k := k) hkz
        have hx0 := hc k hkz
        have hxb := HBD.out (zs.getD k 0) (by rw [List.getD_eq_getElem?_getD, List.getElem?_eq_getElem hkz]; exact List.getElem_mem hkz)
        obtain ⟨x, hx⟩ : ∃ x, x = zs.getD k 0 := ⟨_, rfl⟩
        rw [← hx] at hx0 hxb
        have HAD : Hid (∀ w', Below W.heap.size wr w' → w'.cell? (ad.add k) = some (.int .i64 x)) := Lib.hid fun w' hb' => by
          rw [← hx0]; exact World.cell?_of_block (hb'.block _ (by rw [block_of_add]; exact hS))
        clear hc hS hx
        by_cases hin : 0 ≤ x ∧ x < N
        · obtain ⟨j, rfl⟩ := Int.eq_ofNat_of_zero_le hin.1
          have hjN : j < N := by have := hin.2; omega
          have hjM : j < M := by omega
          obtain ⟨t, htt⟩ : ∃ t, t = !f j := ⟨_, rfl⟩
          have P1 := Lib.hid (put_any hs.out (j : Int) t 0 (fPut f j) (by rw [if_pos (by omega), htt]; rfl) (by rw [if_pos (by omega)]) (by rw [if_pos (by omega)]; rfl))
          have P2 : Hid (∀ w', SetAt w' C h M f → Calls Tryd.prog 10 #[.pointer (some ⟨C, 0, none⟩), .int .i64 (j : Int)] w' (PutPost t 0 w' C h M (fPut f j))) := Lib.hid fun w' hw' => put_any hw' (j : Int) t 0 (fPut f j) (by rw [if_pos (by omega), htt]; rfl) (by rw [if_pos (by omega)]) (by rw [if_pos (by omega)]; rfl)
          have e1 : ((j : Int) < N) := by omega
          clear htt hin hxb hkz
          go_wp2_with fail
          refine P1.out.mono ?_
          rintro e w5 ⟨rfl, hs5, hw5⟩
          have hb5 := Lib.hid (wr_below hbel.out hw5 hgB)
          have ht5 := Lib.hid (ht.out.far hw5 (Ne.symm hgh))
          have hx5 : w5.cell? (ad.add k) = some (.int .i64 (j : Int)) := HAD.out _ (Wr.below (Below.refl _ _) hw5 hbel.out.size hgB)
          have hs5 := Lib.hid hs5
          clear hs ht hbel hw5 P1 HAD hx0
          go_wp2_with fail
          refine (P2.out _ ht5.out).mono ?_
          rintro e w6 ⟨rfl, ht6, hw6⟩
          have hb6 := Lib.hid (wr_below hb5.out hw6 hhB)
          have hs6 := Lib.hid (hs5.out.far hw6 hgh)
          have ht6 := Lib.hid ht6
          clear hs5 ht5 hb5 hw6 P2 hx5
          go_wp2
          go_roundw
          case rel => exact ⟨k + 1, _, by go_num, by omega, hs6, ht6, hb6⟩
          case measure => simp [intOf]; omega
        · have P1 := Lib.hid (put_any hs.out x false 2 f (by rw [if_neg hin]) (by rw [if_neg hin]) (by rw [if_neg hin]))
          by_cases hneg : x < 0
          · have d1 : decide (0 ≤ x) = false := decide_eq_false (by omega)
            clear hin hxb hkz
            go_wp2_with fail
            refine P1.out.mono ?_
            rintro e w5 ⟨rfl, hs5, hw5⟩
            have hb5 := Lib.hid (wr_below hbel.out hw5 hgB)
            have ht5 := Lib.hid (ht.out.far hw5 (Ne.symm hgh))
            have hx5 : w5.cell? (ad.add k) = some (.int .i64 x) := HAD.out _ (Wr.below (Below.refl _ _) hw5 hbel.out.size hgB)
            have hs5 := Lib.hid hs5
            clear hs ht hbel hw5 P1 HAD hx0
            go_wp2
            go_roundw
            case rel => exact ⟨k + 1, _, by go_num, by omega, hs5, ht5, hb5⟩
            case measure => simp [intOf]; omega
          · have d1 : decide (0 ≤ x) = true := decide_eq_true (by omega)
            have d2 : decide (x < (N : Int)) = false := decide_eq_false (by omega)
            have d3 : ¬ x < (N : Int) := by omega
            clear hin hxb hkz
            go_wp2_with fail
            refine P1.out.mono ?_
            rintro e w5 ⟨rfl, hs5, hw5⟩
            have hb5 := Lib.hid (wr_below hbel.out hw5 hgB)
            have ht5 := Lib.hid (ht.out.far hw5 (Ne.symm hgh))
            have hx5 : w5.cell? (ad.add k) = some (.int .i64 x) := HAD.out _ (Wr.below (Below.refl _ _) hw5 hbel.out.size hgB)
            have hs5 := Lib.hid hs5
            clear hs ht hbel hw5 P1 HAD hx0
            go_wp2
            go_roundw
            case rel => exact ⟨k + 1, _, by go_num, by omega, hs5, ht5, hb5⟩
            case measure => simp [intOf]; omega
      · have HW : Hid (Wd N f) := Lib.hid hs.out.wd
        have eN : f N = false := HW.out N (Nat.le_refl _)
        have C1 := Lib.hid fun (w' : World) (hs : SetAt w' B g N f) => has_any hs N
        have eh : (decide (0 ≤ (N : Int)) && f (N : Int).toNat) = false := by rw [Int.toNat_natCast, eN, Bool.and_false]
        obtain ⟨cn, hcn⟩ : ∃ cn, cn = cnt f N := ⟨_, rfl⟩
        have hcm : cnt f M = cn := by rw [hcn]; exact cnt_wd HW.out M hNM
        obtain ⟨nx, hnx⟩ : ∃ nx, nx = nxt f N 0 := ⟨_, rfl⟩
        have hnm : nxt f M 0 = nx := by rw [hnx]; exact nxt_wd HW.out hNM 0
        obtain ⟨q, hq⟩ : ∃ q, q = decide (N = M) := ⟨_, rfl⟩
        have hqs : q = (decide (N = M) && same f f N) := by rw [same_self, Bool.and_true, hq]
        have eq1 : (((N : Int) == (M : Int)) : Bool) = q := by
          rw [hq]
          by_cases e : N = M
          · subst e; simp
          · rw [decide_eq_false e]; simp; omega
        have HEQ := Lib.hid eq1
        have HQS := Lib.hid hqs
        have HCN := Lib.hid hcn
        have HCM := Lib.hid hcm
        have HNX := Lib.hid hnx
        have HNM := Lib.hid hnm
        clear hcn hcm hnx hnm hq hqs eN eq1
        go_wp2_with fail
        refine (list_any hs.out (HE.out.after hbel.out)).mono ?_
        rintro e w5 ⟨A5, n5, c5, rfl, hn5, hc5, hr5, q5⟩
        have hb5 := Lib.hid (keep_trans hbel.out q5)
        have hs5 := Lib.hid (hs.out.after q5)
        have ht5 := Lib.hid (ht.out.after q5)
        have hr5 := Lib.hid hr5.old
        clear hs ht hbel q5
        go_wp2_with fail
        refine (list_any ht5.out (HE.out.after hb5.out)).mono ?_
        rintro e w6 ⟨A6, n6, c6, rfl, hn6, hc6, hr6, q6⟩
        have hb6 := Lib.hid (keep_trans hb5.out q6)
        have hs6 := Lib.hid (hs5.out.after q6)
        have ht6 := Lib.hid (ht5.out.after q6)
        have hr6 := Lib.hid hr6.old
        have hr56 := Lib.hid (hr5.out.later q6)
        clear hs5 ht5 hb5 q6 hr5
        go_wp2_with fail
        refine (same2_int hn5 hn6 (lst_wd HW.out hNM).symm (by rw [hn5.out, lst_length]; have := cnt_le f N; omega) hr56.out hr6.out).mono ?_
        rintro e w7 ⟨rfl, q7⟩
        have hb7 := Lib.hid (keep_trans hb6.out q7)
        have hs7 := Lib.hid (hs6.out.after q7)
        have ht7 := Lib.hid (ht6.out.after q7)
        clear hs6 ht6 hb6 q7 hr6 hr56 hn5 hn6
        go_wp2_with fail
        refine (count_any hs7.out).mono ?_
        rintro e w8 ⟨rfl, q8⟩
        have hb8 := Lib.hid (keep_trans hb7.out q8)
        have hs8 := Lib.hid (hs7.out.after q8)
        have ht8 := Lib.hid (ht7.out.after q8)
        clear hs7 ht7 hb7 q8
        rw [← HCN.out]
        go_wp2_with fail
        refine (count_any ht8.out).mono ?_
        rintro e w9 ⟨rfl, q9⟩
        have hb9 := Lib.hid (keep_trans hb8.out q9)
        have hs9 := Lib.hid (hs8.out.after q9)
        have ht9 := Lib.hid (ht8.out.after q9)
        clear hs8 ht8 hb8 q9
        rw [HCM.out]
        go_wp2_with fail
        refine (width_cell _ B N hs9.out.self.1 hs9.out.self.2).mono ?_
        rintro e w10 ⟨rfl, rfl⟩
        go_wp2_with fail
        refine (width_cell _ C M ht9.out.self.1 ht9.out.self.2).mono ?_
        rintro e w10 ⟨rfl, rfl⟩
        go_wp2_with fail
        refine (next_any hs9.out (HE.out.after hb9.out) 0).mono ?_
        rintro e w10 ⟨rfl, q10⟩
        have hb10 := Lib.hid (keep_trans hb9.out q10)
        have hs10 := Lib.hid (hs9.out.after q10)
        have ht10 := Lib.hid (ht9.out.after q10)
        clear hs9 ht9 hb9 q10
        rw [show (0 : Int).toNat = 0 from rfl, ← HNX.out]
        go_wp2_with fail
        refine (next_any ht10.out (HE.out.after hb10.out) 0).mono ?_
        rintro e w11 ⟨rfl, q11⟩
        have hb11 := Lib.hid (keep_trans hb10.out q11)
        have hs11 := Lib.hid (hs10.out.after q11)
        have ht11 := Lib.hid (ht10.out.after q11)
        clear hs10 ht10 hb10 q11
        rw [show (0 : Int).toNat = 0 from rfl, HNM.out]
        go_wp2_with fail
        refine (has_any hs11.out N).mono ?_
        rintro e w12 ⟨rfl, q12⟩
        have hb12 := Lib.hid (keep_trans hb11.out q12)
        have hs12 := Lib.hid (hs11.out.after q12)
        have ht12 := Lib.hid (ht11.out.after q12)
        clear hs11 ht11 hb11 q12
        rw [eh]
        go_wp2_with fail
        refine (same_any hs12.out ht12.out q HQS.out).mono ?_
        rintro e w13 ⟨rfl, q13⟩
        have hb13 := Lib.hid (keep_trans hb12.out q13)
        clear hs12 ht12 hb12 q13
        have eq2 := HEQ.out
        go_wp2
        go_ret
        refine ⟨?_, hb13.out⟩
        first | rfl | exact ret_b (by simp)
end Go.Proofs.YtffphlbbophjfaaDoor.Bs
