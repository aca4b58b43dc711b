/- The law ExpandLater, walked. No conditions but that the run lies in memory. -/
import Derived.Test.YtfefnfifeaihhaaGreatExS
import Derived.Test.YtfefnfifeaihhaaGreatExLx
import Derived.BigQuiet
set_option linter.unusedVariables false
set_option linter.unusedSimpArgs false
set_option maxHeartbeats 40000000
set_option maxRecDepth 100000
namespace Go.Proofs.YtfefnfifeaihhaaGreat.Wo
open Go.ChangeShapes Go.WideShapes Go.ChangeAt Go.RowKit Go.Maps
open Lx Sh
theorem exlater_yes (w : World) (tr no : Int) (A B : Option Addr) (n c d k : Nat) (la ld : List Int) (a b : Int) (hn : Hid (n = la.length)) (hm : Hid (n = ld.length)) (hN : n ≤ 100) (hx : Rd w (· < w.heap.size) A (cs intC la)) (hy : Rd w (· < w.heap.size) B (cs intC ld)) (ha0 : 0 ≤ a) (ha1 : a ≤ 1099511627776) (hb0 : 0 ≤ b) (hb1 : b ≤ 1099511627776) (hk : k + 1 < n) (hT : Hid (Tim la ld)) (hX : Hid (Tim (laA k a la) (mvT k (ld.length - k) a ld))) (he : latE la ld k a = 0) :
    Calls Tryz.prog 6 #[.agg #[.int .i64 tr, .int .i64 no, .slice A n c, .slice B n d], .int .i64 (k : Int), .int .i64 a, .int .i64 b] w (BPost w true) := by
  have hR : latR tr no la ld k a = ⟨tr, no, laA k a la, mvT k (ld.length - k) a ld⟩ := by unfold latR; rw [if_pos he]; rfl
  have h2 := lat_two (tr := tr) (no := no) he hb0
  rw [hR] at h2
  have hlx : (laA k a la).length = n := by rw [laA_len, hn.out]
  have hly : (mvT k (ld.length - k) a ld).length = n := by rw [mvT_len, hm.out]
  have HL1 : Hid (∀ w', Below w.heap.size w w' → Calls Tryz.prog 12 #[.agg #[.int .i64 tr, .int .i64 no, .slice A n c, .slice B n d], .int .i64 (k : Int), .int .i64 a] w' (RunAny w' tr no n (laA k a la) (mvT k (ld.length - k) a ld) 0)) := HH (fun w' hb => by have := later_any w' tr no A B n n c d la ld k a hn hm (by omega) (by omega) (rd_later hx hb) (rd_later hy hb); rw [hR, he] at this; simp only [hlx] at this; exact this)
  have HL2 : Hid (∀ w' XA XB xc xd, Rd w' (· < w'.heap.size) XA (cs intC (laA k a la)) → Rd w' (· < w'.heap.size) XB (cs intC (mvT k (ld.length - k) a ld)) → Calls Tryz.prog 12 #[.agg #[.int .i64 tr, .int .i64 no, .slice XA n xc, .slice XB n xd], .int .i64 (k : Int), .int .i64 b] w' (RunAny w' (latR tr no la ld k (a + b)).trip (latR tr no la ld k (a + b)).no (latR tr no la ld k (a + b)).arr.length (latR tr no la ld k (a + b)).arr (latR tr no la ld k (a + b)).dep (latE la ld k (a + b)))) := HH (fun w' XA XB xc xd h1 h3 => by have := later_any w' tr no XA XB n n xc xd _ _ k b (HH hlx.symm) (HH hly.symm) (by omega) (by omega) h1 h3; rw [h2.1, h2.2] at this; exact this)
  have HL3 : Hid (∀ w', Below w.heap.size w w' → Calls Tryz.prog 12 #[.agg #[.int .i64 tr, .int .i64 no, .slice A n c, .slice B n d], .int .i64 (k : Int), .int .i64 (a + b)] w' (RunAny w' (latR tr no la ld k (a + b)).trip (latR tr no la ld k (a + b)).no (latR tr no la ld k (a + b)).arr.length (latR tr no la ld k (a + b)).arr (latR tr no la ld k (a + b)).dep (latE la ld k (a + b)))) := HH (fun w' hb => later_any w' tr no A B n n c d la ld k (a + b) hn hm (by omega) (by omega) (rd_later hx hb) (rd_later hy hb))
  have HK : Hid (∀ w' A B C D c d c' d', Rd w' (· < w'.heap.size) A (cs intC (latR tr no la ld k (a + b)).arr) → Rd w' (· < w'.heap.size) B (cs intC (latR tr no la ld k (a + b)).dep) → Rd w' (· < w'.heap.size) C (cs intC (latR tr no la ld k (a + b)).arr) → Rd w' (· < w'.heap.size) D (cs intC (latR tr no la ld k (a + b)).dep) → Calls Tryz.prog 14 #[.agg #[.int .i64 (latR tr no la ld k (a + b)).trip, .int .i64 (latR tr no la ld k (a + b)).no, .slice A (latR tr no la ld k (a + b)).arr.length c, .slice B (latR tr no la ld k (a + b)).arr.length d], .agg #[.int .i64 (latR tr no la ld k (a + b)).trip, .int .i64 (latR tr no la ld k (a + b)).no, .slice C (latR tr no la ld k (a + b)).arr.length c', .slice D (latR tr no la ld k (a + b)).arr.length d']] w' (BPost w' true)) := HH (fun w' A B C D c d c' d' h1 h2 h3 h4 => krun_any w' _ _ A B C D _ _ c d c' d' _ _ (HH rfl) (HH (lat_lens tr no).symm) (by have := lat_len tr no (a := la) (d := ld) (f := k) (b := a + b); have := hn.out; omega) (by have := lat_len tr no (a := la) (d := ld) (f := k) (b := a + b); have := hn.out; omega) h1 h2 h3 h4)
  clear h2 hR he
  have hk1 : (k : Int) < (n : Int) - 1 := by omega
  generalize latE la ld k (a + b) = er at *
  generalize latR tr no la ld k (a + b) = R at *
  obtain ⟨tr2, no2, ya, yd⟩ := R
  simp only at HL2 HL3 HK
  generalize ya.length = l2 at *
  have HXR := HH hx
  have HYR := HH hy
  have HLX := HH hlx
  have HLY := HH hly
  clear hx hy hlx hly
  go_enter Tryz.func6, Tryz.ntmps6
  go_upto_region 6 with (first
    | (go_at_call 13; refine (lives_any _).mono ?_; rintro e w1 ⟨rfl, hb⟩; have HB1 := HH (keep_trans (one_box _ _) hb); have KR := HH ((Blk.new w 24 [.int .i64 tr, .int .i64 no, .slice A n c, .slice B n d]).after hb); have b0 : w1.cell? ⟨w.heap.size, 0, none⟩ = some (.int .i64 tr) := KR.out.cell 0; have b1 : w1.cell? ⟨w.heap.size, 1, none⟩ = some (.int .i64 no) := KR.out.cell 1; have b2 : w1.cell? ⟨w.heap.size, 2, none⟩ = some (.slice A n c) := KR.out.cell 2; have b3 : w1.cell? ⟨w.heap.size, 3, none⟩ = some (.slice B n d) := KR.out.cell 3; clear hb)
    | (go_at_call 12; (with_reducible refine (HL1.out _ HB1.out).mono ?_); rintro e w2 ⟨XA, XB, xc, xd, rfl, hxa, hxb, hb⟩; have HB2 := HH (keep_trans HB1.out hb.out); have KR2 := HH (KR.out.after hb.out); clear hb))
  have KX3 := HH (Blk.new w2 24 [.int .i64 tr, .int .i64 no, .slice XA n xc, .slice XB n xd])
  have B23 := HH (one_box w2 (.cells #[.int .i64 tr, .int .i64 no, .slice XA n xc, .slice XB n xd] 24))
  generalize w2.alloc (.cells #[.int .i64 tr, .int .i64 no, .slice XA n xc, .slice XB n xd] 24) = w3 at *
  have HB3 := HH (keep_trans HB2.out B23.out)
  have KR3 := HH (KR2.out.after B23.out)
  have XR3 := HH (rd_later hxa.out.old B23.out)
  have YR3 := HH (rd_later hxb.out.old B23.out)
  obtain ⟨q0, q1, q2, q3⟩ : w3.cell? ⟨w2.heap.size, 0, none⟩ = some (.int .i64 tr) ∧ w3.cell? ⟨w2.heap.size, 1, none⟩ = some (.int .i64 no) ∧ w3.cell? ⟨w2.heap.size, 2, none⟩ = some (.slice XA n xc) ∧ w3.cell? ⟨w2.heap.size, 3, none⟩ = some (.slice XB n xd) := ⟨KX3.out.cell 0, KX3.out.cell 1, KX3.out.cell 2, KX3.out.cell 3⟩
  clear b0 b1 b2 b3
  go_upto_region 12 with (first
    | (go_at_call 12; (with_reducible refine (HL2.out _ XA XB xc xd XR3.out YR3.out).mono ?_); rintro e w4 ⟨YA, YB, yc, yd', rfl, hya, hyb, hb⟩; have B34 := HH hb.out; have HB4 := HH (keep_trans HB3.out hb.out); obtain ⟨b0, b1, b2, b3⟩ : w4.cell? ⟨w.heap.size, 0, none⟩ = some (.int .i64 tr) ∧ w4.cell? ⟨w.heap.size, 1, none⟩ = some (.int .i64 no) ∧ w4.cell? ⟨w.heap.size, 2, none⟩ = some (.slice A n c) ∧ w4.cell? ⟨w.heap.size, 3, none⟩ = some (.slice B n d) := ⟨(KR3.out.after B34.out).cell 0, (KR3.out.after B34.out).cell 1, (KR3.out.after B34.out).cell 2, (KR3.out.after B34.out).cell 3⟩; have lS : w.heap.size < w4.heap.size := (KR3.out.after B34.out).lt; clear hb)
    | (go_at_call 12; (with_reducible refine (HL3.out _ ?q).mono ?_); (case q => exact keep_trans HB4.out (one_box _ _)); rintro e w5 ⟨ZA, ZB, zc, zd, rfl, hza, hzb, hb⟩; have B45 := HH (keep_trans (one_box _ _) hb.out); have HB5 := HH (keep_trans HB4.out B45.out); have KY5 := HH ((Blk.new w4 24 [.int .i64 tr2, .int .i64 no2, .slice YA l2 yc, .slice YB l2 yd']).after hb.out); obtain ⟨g0, g1, g2, g3⟩ : w5.cell? ⟨w4.heap.size, 0, none⟩ = some (.int .i64 tr2) ∧ w5.cell? ⟨w4.heap.size, 1, none⟩ = some (.int .i64 no2) ∧ w5.cell? ⟨w4.heap.size, 2, none⟩ = some (.slice YA l2 yc) ∧ w5.cell? ⟨w4.heap.size, 3, none⟩ = some (.slice YB l2 yd') := ⟨KY5.out.cell 0, KY5.out.cell 1, KY5.out.cell 2, KY5.out.cell 3⟩; have l5 : w4.heap.size < w5.heap.size := KY5.out.lt; clear hb)
    | (go_at_call 14; refine (HK.out _ _ _ _ _ _ _ _ _ (rd_later hya.out.old (keep_trans B45.out (one_box _ _))) (rd_later hyb.out.old (keep_trans B45.out (one_box _ _))) (rd_later hza.out.old (one_box _ _)) (rd_later hzb.out.old (one_box _ _))).mono ?_; rintro e w6 ⟨rfl, hb⟩; have B56 := HH (keep_trans (one_box _ _) hb); have HB6 := HH (keep_trans HB5.out B56.out); have B36 := HH (keep_trans B34.out (keep_trans B45.out B56.out)); obtain ⟨b0, b1, b2, b3⟩ : w6.cell? ⟨w.heap.size, 0, none⟩ = some (.int .i64 tr) ∧ w6.cell? ⟨w.heap.size, 1, none⟩ = some (.int .i64 no) ∧ w6.cell? ⟨w.heap.size, 2, none⟩ = some (.slice A n c) ∧ w6.cell? ⟨w.heap.size, 3, none⟩ = some (.slice B n d) := ⟨(KR3.out.after B36.out).cell 0, (KR3.out.after B36.out).cell 1, (KR3.out.after B36.out).cell 2, (KR3.out.after B36.out).cell 3⟩; obtain ⟨q0, q1, q2, q3⟩ : w6.cell? ⟨w2.heap.size, 0, none⟩ = some (.int .i64 tr) ∧ w6.cell? ⟨w2.heap.size, 1, none⟩ = some (.int .i64 no) ∧ w6.cell? ⟨w2.heap.size, 2, none⟩ = some (.slice XA n xc) ∧ w6.cell? ⟨w2.heap.size, 3, none⟩ = some (.slice XB n xd) := ⟨(KX3.out.after B36.out).cell 0, (KX3.out.after B36.out).cell 1, (KX3.out.after B36.out).cell 2, (KX3.out.after B36.out).cell 3⟩; clear hb))
  have KR6 := HH (KR3.out.after B36.out)
  have KX6 := HH (KX3.out.after B36.out)
  have RA := HH (rd_later HXR.out HB6.out)
  have RB := HH (rd_later HYR.out HB6.out)
  have RC := HH (rd_later XR3.out B36.out)
  have RD := HH (rd_later YR3.out B36.out)
  clear HXR HYR XR3 YR3 hya hyb hza hzb hxa hxb KR KR2 KR3 KX3 HL1 HL2 HL3 HK HB1 HB2 HB3 HB4 HB5 B23 B34 B45 B56 B36 KY5 g0 g1 g2 g3 lS l5
  go_wp2
  go_loopw [15] (fun v wr => ∃ j : Nat, v = .int .i64 j ∧ j ≤ n ∧ Hid (Below w6.heap.size w6 wr)) (fun v _ => n - (intOf v).toNat)
  case atStart => exact ⟨0, rfl, by omega, HH (Below.refl _ _)⟩
  case round =>
    obtain ⟨j, rfl, hj, HB⟩ := hrel
    have v2 : wr.cell? ⟨w.heap.size, 2, none⟩ = some (.slice A n c) := (KR6.out.after HB.out).cell 2
    have v3 : wr.cell? ⟨w.heap.size, 3, none⟩ = some (.slice B n d) := (KR6.out.after HB.out).cell 3
    have u2 : wr.cell? ⟨w2.heap.size, 2, none⟩ = some (.slice XA n xc) := (KX6.out.after HB.out).cell 2
    have u3 : wr.cell? ⟨w2.heap.size, 3, none⟩ = some (.slice XB n xd) := (KX6.out.after HB.out).cell 3
    by_cases hlt : j < n
    · obtain ⟨p, q, hp, hq, ⟨p0, p1⟩, ⟨q0', q1'⟩, hp', hq', hle, hpre⟩ := lat_at hT.out hX.out (j := j) (by have := hn.out; omega)
      obtain ⟨ad, e1, -, h0, -⟩ := rd_at 1 (fun _ => rfl) (by omega) (RA.out.below HB.out) hp
      obtain ⟨bd, e2, -, h1, -⟩ := rd_at 1 (fun _ => rfl) (by omega) (RB.out.below HB.out) hq
      obtain ⟨cd, e3, -, h2, -⟩ := rd_at 1 (fun _ => rfl) (by omega) (RC.out.below HB.out) hp'
      obtain ⟨dd, e4, -, h3, -⟩ := rd_at 1 (fun _ => rfl) (by omega) (RD.out.below HB.out) hq'
      rw [Nat.mul_one] at h0 h1 h2 h3
      have hpr : Hid (∀ i, j = i + 1 → ∃ u, wr.cell? (dd.add i) = some (.int .i64 u) ∧ u < (if k < j ∨ (j = 0 ∧ k = 0) then p + a else p)) := HH (fun i e => by
        obtain ⟨u, hu, hlt⟩ := hpre i e
        obtain ⟨dd', e5, -, h5, -⟩ := rd_at 1 (fun _ => rfl) (by omega) (RD.out.below HB.out) hu
        rw [e4] at e5; injection e5 with e5
        rw [Nat.mul_one, ← e5] at h5
        exact ⟨u, h5, hlt⟩)
      subst e1 e2 e3 e4
      have c0 : wr.cell? (ad.add j) = some (.int .i64 p) := h0
      have c1 : wr.cell? (bd.add j) = some (.int .i64 q) := h1
      have c2 : wr.cell? (cd.add j) = some (.int .i64 (if k < j ∨ (j = 0 ∧ k = 0) then p + a else p)) := h2
      have c3 : wr.cell? (dd.add j) = some (.int .i64 (if k ≤ j then q + a else q)) := h3
      clear h0 h1 h2 h3 hp hq hp' hq' hpre
      have hi : (j : Int) < (n : Int) := by omega
      go_wp2
      go_quiet (fail)
      rcases Nat.lt_trichotomy j k with hjk | hjk | hjk
      · rw [if_neg (by omega)] at c2 hle
        rw [if_neg (by omega)] at c3 hle
        have g1 : ¬ k ≤ j := by omega
        have g2 : ¬ k < j := by omega
        have g3 : ((k : Int) == 0) = false := beq_eq_false_iff_ne.2 (by omega)
        have g4 : ¬ k = 0 := by omega
        rcases Nat.eq_zero_or_pos j with hz | hz
        · have g5 : ¬ 0 < j := by omega
          have g6 : ((j : Int) == 0) = true := beq_iff_eq.2 (by omega)
          have g7 : decide ((0 : Int) < (j : Int)) = false := decide_eq_false (by omega)
          have g8 : decide (0 < j) = false := decide_eq_false (by omega)
          have gl := decide_eq_false (Int.not_lt.2 hle)
          clear hpr hjk hz
          go_wp2
          refine wp_region_quiet_lit mixed lexL ?_
          repeat (go_big_quiet_step (fail))
          refine wpQuiet_nil ?_
          intro _ hw'
          obtain ⟨nq, hw''⟩ := hw'
          subst hw''
          go_wp2
          go_roundw
          case rel => exact ⟨j + 1, by go_num, by omega, HH (below_drewN HB.out _)⟩
          case measure => simp [intOf]; omega
        · obtain ⟨i, hij⟩ : ∃ i, j = i + 1 := ⟨j - 1, by omega⟩
          obtain ⟨u, cu, hu⟩ := hpr.out i hij
          have g5 : 0 < j := by omega
          have g6 : ((j : Int) == 0) = false := beq_eq_false_iff_ne.2 (by omega)
          have g7 : (0 : Int) < (j : Int) := by omega
          have g8 : (j : Int) - 1 = (i : Int) := by omega
          have g9 : (i : Int) < (n : Int) := by omega
          have g10 : i < n := by omega
          rw [if_neg (show ¬ (k < j ∨ (j = 0 ∧ k = 0)) by omega)] at hu
          have gl := decide_eq_false (Int.not_lt.2 hle)
          have gu := decide_eq_false (Int.not_le.2 hu)
          have ga : decide ((0 : Int) < (j : Int)) = true := decide_eq_true (by omega)
          have gb : decide (0 < j) = true := decide_eq_true (by omega)
          clear hpr hjk hz hij
          go_wp2
          refine wp_region_quiet_lit mixed lexL ?_
          repeat (go_big_quiet_step (fail))
          refine wpQuiet_nil ?_
          intro _ hw'
          obtain ⟨nq, hw''⟩ := hw'
          subst hw''
          go_wp2
          go_roundw
          case rel => exact ⟨j + 1, by go_num, by omega, HH (below_drewN HB.out _)⟩
          case measure => simp [intOf]; omega
      · rw [if_pos (show k ≤ j by omega)] at c3 hle
        have g1 : k ≤ j := by omega
        have g2 : ¬ k < j := by omega
        rcases Nat.eq_zero_or_pos j with hz | hz
        · rw [if_pos (.inr ⟨hz, by omega⟩)] at c2 hle
          have g6 : ((j : Int) == 0) = true := beq_iff_eq.2 (by omega)
          have g3 : ((k : Int) == 0) = true := beq_iff_eq.2 (by omega)
          have g7 : decide ((0 : Int) < (j : Int)) = false := decide_eq_false (by omega)
          have g8 : decide (0 < j) = false := decide_eq_false (by omega)
          have gl2 : decide (q < p) = false := decide_eq_false (by omega)
          have gl := decide_eq_false (Int.not_lt.2 hle)
          clear hpr hjk hz
          go_wp2
          refine wp_region_quiet_lit mixed lexL ?_
          repeat (go_big_quiet_step (fail))
          refine wpQuiet_nil ?_
          intro _ hw'
          obtain ⟨nq, hw''⟩ := hw'
          subst hw''
          go_wp2
          go_roundw
          case rel => exact ⟨j + 1, by go_num, by omega, HH (below_drewN HB.out _)⟩
          case measure => simp [intOf]; omega
        · rw [if_neg (show ¬ (k < j ∨ (j = 0 ∧ k = 0)) by omega)] at c2 hle
          obtain ⟨i, hij⟩ : ∃ i, j = i + 1 := ⟨j - 1, by omega⟩
          obtain ⟨u, cu, hu⟩ := hpr.out i hij
          have g5 : 0 < j := by omega
          have g6 : ((j : Int) == 0) = false := beq_eq_false_iff_ne.2 (by omega)
          have g7 : (0 : Int) < (j : Int) := by omega
          have g8 : (j : Int) - 1 = (i : Int) := by omega
          have g9 : (i : Int) < (n : Int) := by omega
          have g10 : i < n := by omega
          rw [if_neg (show ¬ (k < j ∨ (j = 0 ∧ k = 0)) by omega)] at hu
          have gl := decide_eq_false (Int.not_lt.2 hle)
          have gu := decide_eq_false (Int.not_le.2 hu)
          have ga : decide ((0 : Int) < (j : Int)) = true := decide_eq_true (by omega)
          have gb : decide (0 < j) = true := decide_eq_true (by omega)
          clear hpr hjk hz hij
          go_wp2
          refine wp_region_quiet_lit mixed lexL ?_
          repeat (go_big_quiet_step (fail))
          refine wpQuiet_nil ?_
          intro _ hw'
          obtain ⟨nq, hw''⟩ := hw'
          subst hw''
          go_wp2
          go_roundw
          case rel => exact ⟨j + 1, by go_num, by omega, HH (below_drewN HB.out _)⟩
          case measure => simp [intOf]; omega
      · rw [if_pos (.inl hjk)] at c2 hle
        rw [if_pos (show k ≤ j by omega)] at c3 hle
        have g1 : k ≤ j := by omega
        have g2 : k < j := by omega
        have hz : 0 < j := by omega
        obtain ⟨i, hij⟩ : ∃ i, j = i + 1 := ⟨j - 1, by omega⟩
        obtain ⟨u, cu, hu⟩ := hpr.out i hij
        have g5 : 0 < j := by omega
        have g6 : ((j : Int) == 0) = false := beq_eq_false_iff_ne.2 (by omega)
        have g7 : (0 : Int) < (j : Int) := by omega
        have g8 : (j : Int) - 1 = (i : Int) := by omega
        have g9 : (i : Int) < (n : Int) := by omega
        have g10 : i < n := by omega
        rw [if_pos (.inl hjk)] at hu
        have gl2 : decide (q < p) = false := decide_eq_false (by omega)
        have gl := decide_eq_false (Int.not_lt.2 hle)
        have gu := decide_eq_false (Int.not_le.2 hu)
        have ga : decide ((0 : Int) < (j : Int)) = true := decide_eq_true (by omega)
        have gb : decide (0 < j) = true := decide_eq_true (by omega)
        clear hpr hjk hz hij
        go_wp2
        refine wp_region_quiet_lit mixed lexL ?_
        repeat (go_big_quiet_step (fail))
        refine wpQuiet_nil ?_
        intro _ hw'
        obtain ⟨nq, hw''⟩ := hw'
        subst hw''
        go_wp2
        go_roundw
        case rel => exact ⟨j + 1, by go_num, by omega, HH (below_drewN HB.out _)⟩
        case measure => simp [intOf]; omega
    · obtain rfl : j = n := by omega
      have hi : ¬ (j : Int) < (j : Int) := by omega
      obtain ⟨s0, s1⟩ : wr.cell? ⟨w.heap.size, 0, none⟩ = some (.int .i64 tr) ∧ wr.cell? ⟨w.heap.size, 1, none⟩ = some (.int .i64 no) := ⟨(KR6.out.after HB.out).cell 0, (KR6.out.after HB.out).cell 1⟩
      obtain ⟨s2, s3⟩ : wr.cell? ⟨w2.heap.size, 0, none⟩ = some (.int .i64 tr) ∧ wr.cell? ⟨w2.heap.size, 1, none⟩ = some (.int .i64 no) := ⟨(KX6.out.after HB.out).cell 0, (KX6.out.after HB.out).cell 1⟩
      go_wp2
      go_ret
      exact ⟨rfl, keep_trans HB6.out HB.out⟩
end Go.Proofs.YtfefnfifeaihhaaGreat.Wo
