/- Make of Sheet is the world, Sheet of Make the sheet: walked. No conditions. -/
import Derived.Test.YtgdanbfglefiiaaGreatWoGf
import Derived.Test.YtgdanbfglefiiaaGreatWoSw
import Derived.Test.YtgdanbfglefiiaaGreatWoWorld
import Derived.Test.YtgdanbfglefiiaaGreatBaN
import Derived.Test.YtgdanbfglefiiaaGreatWoLives
import Derived.Test.YtgdanbfglefiiaaGreatWoGs
import Derived.ChangeSlices
import Derived.Deep.Strs
import Derived.Deep.SlicePairs
import Derived.ChangeArms
import Derived.Carry
import Derived.Deep.RegionHeld3
import Derived.Deep.RegionHeldLaw
import Derived.Deep.CutRange
import Derived.StillTailTactics
import Derived.WalkSpells
import Derived.Lib.QuietBelow
import Derived.Deep.QuietTactic
namespace Go.Proofs.YtgdanbfglefiiaaGreat.Wo
open Go.ChangeShapes Go.WideShapes Go.ChangeAt Go.RowKit Go.Maps
open Lx Sh It
set_option linter.unusedVariables false
set_option linter.unusedSimpArgs false
def TrueB (w : World) (e : Ending) (w' : World) : Prop := e = .returned (.bool true) ∧ Below w.heap.size w w'
theorem lt_of9 {x : SheetM} (h : lightM x = true) : Lt x := by
  simp only [lightM, Bool.and_eq_true, decide_eq_true_eq, List.all_eq_true, lightR] at h
  obtain ⟨⟨⟨⟨⟨⟨h1, h2⟩, h3⟩, h4⟩, h5⟩, h6⟩, h7⟩ := h
  exact ⟨h1, h2, h3, h4, h5, h6, fun r hr => ⟨(h7 r hr).1, (h7 r hr).2.1, (h7 r hr).2.2⟩⟩
theorem lt_xl9 {x : SheetM} (h : Lt x) : XLt x := ⟨by have := h.l1; omega, by have := h.l2; omega, by have := h.l3; omega, by have := h.l4; omega, by have := h.l5; omega, by have := h.l6; omega, fun r hr => by have := h.lr r hr; omega⟩
theorem wlt_z : WLt zWo := ⟨by simp, by simp, by simp, by simp, by simp, by simp, by simp, by simp, by simp, by simp, by simp, fun r hr => by simp at hr⟩
set_option maxRecDepth 100000 in
set_option maxHeartbeats 8000000 in
theorem back_all (x : SheetM) (p : ShA) (w : World) (h : Sh w (· < w.heap.size) x p) : Calls Tryz.prog 5 #[shV x p] w (TrueB w) := by
  obtain ⟨p1, p2, p3, p4, p5, p6, q1, q2, q3, q4, q5, q6⟩ := p
  have HS := Lib.hid h
  have HLI := Lib.hid (fun w1 (hb : Below w.heap.size w w1) => light_any x ⟨p1, p2, p3, p4, p5, p6, q1, q2, q3, q4, q5, q6⟩ w1 (h.later hb))
  have HLV := Lib.hid (fun w1 => lives_any w1)
  dsimp only [shV] at HLI ⊢
  clear h
  cases hlm : lightM x with
  | false =>
    rw [hlm] at HLI
    go_enter Tryz.func5, Tryz.ntmps5
    go_wp2_with (first
      | (go_at_call 9; refine (HLV.out _).mono ?_; rintro e w1 ⟨rfl, hb⟩; have B1 : Hid (Below w.heap.size w w1) := Lib.hid (keep_trans (one_box _ _) hb); have K1 := Lib.hid ((Blk.new w 44 [.int .i64 x.horizon, .slice p1 x.stops.length q1, .slice p2 x.paths.length q2, .slice p3 x.doors.length q3, .slice p4 x.routes.length q4, .slice p5 x.trips.length q5, .slice p6 x.hazards.length q6]).after hb); have s0 : w1.cell? ⟨w.heap.size, 0, none⟩ = some (.int .i64 x.horizon) := K1.out.cell 0; have s1 : w1.cell? ⟨w.heap.size, 1, none⟩ = some (.slice p1 x.stops.length q1) := K1.out.cell 1; have s2 : w1.cell? ⟨w.heap.size, 2, none⟩ = some (.slice p2 x.paths.length q2) := K1.out.cell 2; have s3 : w1.cell? ⟨w.heap.size, 3, none⟩ = some (.slice p3 x.doors.length q3) := K1.out.cell 3; have s4 : w1.cell? ⟨w.heap.size, 4, none⟩ = some (.slice p4 x.routes.length q4) := K1.out.cell 4; have s5 : w1.cell? ⟨w.heap.size, 5, none⟩ = some (.slice p5 x.trips.length q5) := K1.out.cell 5; have s6 : w1.cell? ⟨w.heap.size, 6, none⟩ = some (.slice p6 x.hazards.length q6) := K1.out.cell 6; clear hb)
      | (go_at_call 16; refine (HLI.out _ B1.out).mono ?_; rintro e w2 ⟨rfl, hb⟩; have B2 : Hid (Below w.heap.size w w2) := Lib.hid (keep_trans B1.out hb); have K2 := Lib.hid (K1.out.after hb); clear s0 s1 s2 s3 s4 s5 s6; have s0 : w2.cell? ⟨w.heap.size, 0, none⟩ = some (.int .i64 x.horizon) := K2.out.cell 0; have s1 : w2.cell? ⟨w.heap.size, 1, none⟩ = some (.slice p1 x.stops.length q1) := K2.out.cell 1; have s2 : w2.cell? ⟨w.heap.size, 2, none⟩ = some (.slice p2 x.paths.length q2) := K2.out.cell 2; have s3 : w2.cell? ⟨w.heap.size, 3, none⟩ = some (.slice p3 x.doors.length q3) := K2.out.cell 3; have s4 : w2.cell? ⟨w.heap.size, 4, none⟩ = some (.slice p4 x.routes.length q4) := K2.out.cell 4; have s5 : w2.cell? ⟨w.heap.size, 5, none⟩ = some (.slice p5 x.trips.length q5) := K2.out.cell 5; have s6 : w2.cell? ⟨w.heap.size, 6, none⟩ = some (.slice p6 x.hazards.length q6) := K2.out.cell 6; clear hb))
    go_ret
    exact ⟨rfl, B2.out⟩
  | true =>
    rw [hlm] at HLI
    have HX : Hid (XLt x) := Lib.hid (lt_xl9 (lt_of9 hlm))
    clear hlm
    by_cases hwe : (wrongX x).err = 0
    · have HOK := Lib.hid hwe
      have HMK := Lib.hid (fun w1 q (hs : Sh w1 (· < w1.heap.size) x q) => make_good HOK.out q w1 hs HX.out)
      have HSH := Lib.hid (fun w1 q (hs : Wo w1 (· < w1.heap.size) (numX x) q) => sheet_good HOK.out q w1 hs HX.out)
      have HCK := Lib.hid (fun w1 q (hs : Wo w1 (· < w1.heap.size) (numX x) q) => check_good HOK.out q w1 hs HX.out)
      have HKS := Lib.hid (fun w1 q q' (hs : Sh w1 (· < w1.heap.size) x q) (hs' : Sh w1 (· < w1.heap.size) x q') => ksheet_d x x q q' w1 hs hs' HX.out.few HX.out.few)
      have HKW := Lib.hid (fun w1 q q' (hs : Wo w1 (· < w1.heap.size) (numX x) q) (hs' : Wo w1 (· < w1.heap.size) (numX x) q') => kworld_any (numX x) (numX x) q q' w1 hs hs' (wlt_num HX.out) (wlt_num HX.out))
      have HFD := Lib.hid (fun a k i (hk : findW (namesX x) a = (k, i)) q w1 (hs : Wo w1 (· < w1.heap.size) (numX x) q) => find_good a k i hk q w1 hs HX.out)
      have HDU : Hid (dupW (namesX x) = okW) := Lib.hid (wrong_parts hwe).2.1
      have HRF : Hid (Refs x) := Lib.hid (good_parts hwe).2.2
      simp only [decide_true, woF_num] at HKS HKW
      dsimp only [shV, woX] at HMK HSH HCK HKS HKW HFD
      clear hwe
      go_enter Tryz.func5, Tryz.ntmps5
      go_upto_region 6 with (first
        | (go_at_call 9; refine (HLV.out _).mono ?_; rintro e w1 ⟨rfl, hb⟩; have B1 : Hid (Below w.heap.size w w1) := Lib.hid (keep_trans (one_box _ _) hb); have K1 := Lib.hid ((Blk.new w 44 [.int .i64 x.horizon, .slice p1 x.stops.length q1, .slice p2 x.paths.length q2, .slice p3 x.doors.length q3, .slice p4 x.routes.length q4, .slice p5 x.trips.length q5, .slice p6 x.hazards.length q6]).after hb); have s0 : w1.cell? ⟨w.heap.size, 0, none⟩ = some (.int .i64 x.horizon) := K1.out.cell 0; have s1 : w1.cell? ⟨w.heap.size, 1, none⟩ = some (.slice p1 x.stops.length q1) := K1.out.cell 1; have s2 : w1.cell? ⟨w.heap.size, 2, none⟩ = some (.slice p2 x.paths.length q2) := K1.out.cell 2; have s3 : w1.cell? ⟨w.heap.size, 3, none⟩ = some (.slice p3 x.doors.length q3) := K1.out.cell 3; have s4 : w1.cell? ⟨w.heap.size, 4, none⟩ = some (.slice p4 x.routes.length q4) := K1.out.cell 4; have s5 : w1.cell? ⟨w.heap.size, 5, none⟩ = some (.slice p5 x.trips.length q5) := K1.out.cell 5; have s6 : w1.cell? ⟨w.heap.size, 6, none⟩ = some (.slice p6 x.hazards.length q6) := K1.out.cell 6; clear hb)
        | (go_at_call 16; refine (HLI.out _ B1.out).mono ?_; rintro e w2 ⟨rfl, hb⟩; have B2 : Hid (Below w.heap.size w w2) := Lib.hid (keep_trans B1.out hb); have K2 := Lib.hid (K1.out.after hb); clear s0 s1 s2 s3 s4 s5 s6; have s0 : w2.cell? ⟨w.heap.size, 0, none⟩ = some (.int .i64 x.horizon) := K2.out.cell 0; have s1 : w2.cell? ⟨w.heap.size, 1, none⟩ = some (.slice p1 x.stops.length q1) := K2.out.cell 1; have s2 : w2.cell? ⟨w.heap.size, 2, none⟩ = some (.slice p2 x.paths.length q2) := K2.out.cell 2; have s3 : w2.cell? ⟨w.heap.size, 3, none⟩ = some (.slice p3 x.doors.length q3) := K2.out.cell 3; have s4 : w2.cell? ⟨w.heap.size, 4, none⟩ = some (.slice p4 x.routes.length q4) := K2.out.cell 4; have s5 : w2.cell? ⟨w.heap.size, 5, none⟩ = some (.slice p5 x.trips.length q5) := K2.out.cell 5; have s6 : w2.cell? ⟨w.heap.size, 6, none⟩ = some (.slice p6 x.hazards.length q6) := K2.out.cell 6; clear hb)
        | (go_at_call 10; refine (HMK.out _ ⟨p1, p2, p3, p4, p5, p6, q1, q2, q3, q4, q5, q6⟩ (HS.out.later B2.out)).mono ?_; rintro e w3 ⟨a1, a2, a3, a4, a5, a6, b2, b3, b4, b5, b6, c1, c2, c3, c4, c5, c6, d2, d3, d4, d5, d6, rfl, hw, hb⟩; have B3 : Hid (Below w.heap.size w w3) := Lib.hid (keep_trans B2.out hb.out); have K3 := Lib.hid (K2.out.after hb.out); have HW3 : Hid (Wo w3 (· < w3.heap.size) (numX x) ⟨⟨a1, a2, a3, a4, a5, a6, c1, c2, c3, c4, c5, c6⟩, b2, b3, b4, b5, b6, d2, d3, d4, d5, d6⟩) := Lib.hid (hw.out.more fun b hk => hk.2); clear hb hw))
      obtain ⟨W4, hW⟩ : ∃ W, W = (w3.alloc (.cells #[.int .i64 x.horizon, .slice a1 x.stops.length c1, .slice a2 x.paths.length c2, .slice a3 x.doors.length c3, .slice a4 x.routes.length c4, .slice a5 x.trips.length c5, .slice a6 x.hazards.length c6, .slice b2 x.paths.length d2, .slice b3 x.doors.length d3, .slice b4 x.routes.length d4, .slice b5 x.trips.length d5, .slice b6 x.hazards.length d6] 32)).alloc (.cells #[.int .i64 0, .int .i64 0, .int .i64 0] 35) := ⟨_, rfl⟩
      have B34 : Hid (Below w3.heap.size w3 W4) := Lib.hid (by rw [hW]; exact two_box _ _ _)
      have KM : Hid (Blk W4 w3.heap.size 32 [.int .i64 x.horizon, .slice a1 x.stops.length c1, .slice a2 x.paths.length c2, .slice a3 x.doors.length c3, .slice a4 x.routes.length c4, .slice a5 x.trips.length c5, .slice a6 x.hazards.length c6, .slice b2 x.paths.length d2, .slice b3 x.doors.length d3, .slice b4 x.routes.length d4, .slice b5 x.trips.length d5, .slice b6 x.hazards.length d6]) := Lib.hid (by rw [hW]; exact (Blk.new _ _ _).alloc _)
      have KE : Hid (Blk W4 (w3.heap.size + 1) 35 [.int .i64 0, .int .i64 0, .int .i64 0]) := Lib.hid (by rw [hW]; exact Blk.new2 _ _ _ _)
      have KX := Lib.hid (K3.out.after B34.out)
      have HW4 := Lib.hid (HW3.out.later B34.out)
      have BW4 : Hid (Below w.heap.size w W4) := Lib.hid (keep_trans B3.out B34.out)
      rw [← hW]
      clear hW B1 B2 K1 K2 K3 HW3 s0 s1 s2 s3 s4 s5 s6
      have z0 : W4.cell? ⟨w3.heap.size + 1, 0, none⟩ = some (.int .i64 0) := KE.out.cell 0
      have m0 : W4.cell? ⟨w3.heap.size, 0, none⟩ = some (.int .i64 x.horizon) := KM.out.cell 0
      have m1 : W4.cell? ⟨w3.heap.size, 1, none⟩ = some (.slice a1 x.stops.length c1) := KM.out.cell 1
      have m2 : W4.cell? ⟨w3.heap.size, 2, none⟩ = some (.slice a2 x.paths.length c2) := KM.out.cell 2
      have m3 : W4.cell? ⟨w3.heap.size, 3, none⟩ = some (.slice a3 x.doors.length c3) := KM.out.cell 3
      have m4 : W4.cell? ⟨w3.heap.size, 4, none⟩ = some (.slice a4 x.routes.length c4) := KM.out.cell 4
      have m5 : W4.cell? ⟨w3.heap.size, 5, none⟩ = some (.slice a5 x.trips.length c5) := KM.out.cell 5
      have m6 : W4.cell? ⟨w3.heap.size, 6, none⟩ = some (.slice a6 x.hazards.length c6) := KM.out.cell 6
      have m7 : W4.cell? ⟨w3.heap.size, 7, none⟩ = some (.slice b2 x.paths.length d2) := KM.out.cell 7
      have m8 : W4.cell? ⟨w3.heap.size, 8, none⟩ = some (.slice b3 x.doors.length d3) := KM.out.cell 8
      have m9 : W4.cell? ⟨w3.heap.size, 9, none⟩ = some (.slice b4 x.routes.length d4) := KM.out.cell 9
      have m10 : W4.cell? ⟨w3.heap.size, 10, none⟩ = some (.slice b5 x.trips.length d5) := KM.out.cell 10
      have m11 : W4.cell? ⟨w3.heap.size, 11, none⟩ = some (.slice b6 x.hazards.length d6) := KM.out.cell 11
      go_upto_region 9 with (go_at_call 12; refine (HSH.out _ ⟨⟨a1, a2, a3, a4, a5, a6, c1, c2, c3, c4, c5, c6⟩, b2, b3, b4, b5, b6, d2, d3, d4, d5, d6⟩ HW4.out).mono ?_; rintro e w5 ⟨A1, A2, A3, A4, A5, A6, k1, k2, k3, k4, k5, k6, rfl, hs, hb⟩; have B45 := hb; have HY5 : Hid (Sh w5 (· < w5.heap.size) x ⟨A1, A2, A3, A4, A5, A6, k1, k2, k3, k4, k5, k6⟩) := Lib.hid (hs.out.more fun b hk => hk.2); clear hb hs)
      obtain ⟨W6, hW⟩ : ∃ W, W = w5.alloc (.cells #[.int .i64 x.horizon, .slice A1 x.stops.length k1, .slice A2 x.paths.length k2, .slice A3 x.doors.length k3, .slice A4 x.routes.length k4, .slice A5 x.trips.length k5, .slice A6 x.hazards.length k6] 44) := ⟨_, rfl⟩
      have B56 : Hid (Below w5.heap.size w5 W6) := Lib.hid (by rw [hW]; exact one_box _ _)
      have KY : Hid (Blk W6 w5.heap.size 44 [.int .i64 x.horizon, .slice A1 x.stops.length k1, .slice A2 x.paths.length k2, .slice A3 x.doors.length k3, .slice A4 x.routes.length k4, .slice A5 x.trips.length k5, .slice A6 x.hazards.length k6]) := Lib.hid (by rw [hW]; exact Blk.new _ _ _)
      have B46 : Hid (Below W4.heap.size W4 W6) := Lib.hid (keep_trans B45.out B56.out)
      have HY6 := Lib.hid (HY5.out.later B56.out)
      rw [← hW]
      clear hW HY5 z0 m0 m1 m2 m3 m4 m5 m6 m7 m8 m9 m10 m11
      have y0 : W6.cell? ⟨w5.heap.size, 0, none⟩ = some (.int .i64 x.horizon) := KY.out.cell 0
      have y1 : W6.cell? ⟨w5.heap.size, 1, none⟩ = some (.slice A1 x.stops.length k1) := KY.out.cell 1
      have y2 : W6.cell? ⟨w5.heap.size, 2, none⟩ = some (.slice A2 x.paths.length k2) := KY.out.cell 2
      have y3 : W6.cell? ⟨w5.heap.size, 3, none⟩ = some (.slice A3 x.doors.length k3) := KY.out.cell 3
      have y4 : W6.cell? ⟨w5.heap.size, 4, none⟩ = some (.slice A4 x.routes.length k4) := KY.out.cell 4
      have y5 : W6.cell? ⟨w5.heap.size, 5, none⟩ = some (.slice A5 x.trips.length k5) := KY.out.cell 5
      have y6 : W6.cell? ⟨w5.heap.size, 6, none⟩ = some (.slice A6 x.hazards.length k6) := KY.out.cell 6
      go_upto_region 10 with (go_at_call 10; refine (HMK.out _ ⟨A1, A2, A3, A4, A5, A6, k1, k2, k3, k4, k5, k6⟩ HY6.out).mono ?_; rintro e w7 ⟨a1', a2', a3', a4', a5', a6', b2', b3', b4', b5', b6', c1', c2', c3', c4', c5', c6', d2', d3', d4', d5', d6', rfl, hw, hb⟩; have B67 := hb; have HV7 : Hid (Wo w7 (· < w7.heap.size) (numX x) ⟨⟨a1', a2', a3', a4', a5', a6', c1', c2', c3', c4', c5', c6'⟩, b2', b3', b4', b5', b6', d2', d3', d4', d5', d6'⟩) := Lib.hid (hw.out.more fun b hk => hk.2); clear hb hw)
      obtain ⟨W8, hW⟩ : ∃ W, W = (w7.alloc (.cells #[.int .i64 x.horizon, .slice a1' x.stops.length c1', .slice a2' x.paths.length c2', .slice a3' x.doors.length c3', .slice a4' x.routes.length c4', .slice a5' x.trips.length c5', .slice a6' x.hazards.length c6', .slice b2' x.paths.length d2', .slice b3' x.doors.length d3', .slice b4' x.routes.length d4', .slice b5' x.trips.length d5', .slice b6' x.hazards.length d6'] 32)).alloc (.cells #[.int .i64 0, .int .i64 0, .int .i64 0] 35) := ⟨_, rfl⟩
      have B78 : Hid (Below w7.heap.size w7 W8) := Lib.hid (by rw [hW]; exact two_box _ _ _)
      have KV : Hid (Blk W8 w7.heap.size 32 [.int .i64 x.horizon, .slice a1' x.stops.length c1', .slice a2' x.paths.length c2', .slice a3' x.doors.length c3', .slice a4' x.routes.length c4', .slice a5' x.trips.length c5', .slice a6' x.hazards.length c6', .slice b2' x.paths.length d2', .slice b3' x.doors.length d3', .slice b4' x.routes.length d4', .slice b5' x.trips.length d5', .slice b6' x.hazards.length d6']) := Lib.hid (by rw [hW]; exact (Blk.new _ _ _).alloc _)
      have KG : Hid (Blk W8 (w7.heap.size + 1) 35 [.int .i64 0, .int .i64 0, .int .i64 0]) := Lib.hid (by rw [hW]; exact Blk.new2 _ _ _ _)
      have B48 : Hid (Below W4.heap.size W4 W8) := Lib.hid (keep_trans B46.out (keep_trans B67.out B78.out))
      have HV8 := Lib.hid (HV7.out.later B78.out)
      have HY8 := Lib.hid (HY6.out.later (keep_trans B67.out B78.out))
      have HW8 := Lib.hid (HW4.out.later B48.out)
      have HS8 : Hid (Sh W8 (· < W8.heap.size) x ⟨p1, p2, p3, p4, p5, p6, q1, q2, q3, q4, q5, q6⟩) := Lib.hid (HS.out.later (keep_trans BW4.out B48.out))
      have KX8 := Lib.hid (KX.out.after B48.out)
      have KM8 := Lib.hid (KM.out.after B48.out)
      have KY8 := Lib.hid (KY.out.after (keep_trans B67.out B78.out))
      have BW8 : Hid (Below w.heap.size w W8) := Lib.hid (keep_trans BW4.out B48.out)
      rw [← hW]
      clear hW HV7 HY6 HW4 HS KX KM KY KE B3 B34 BW4 B45 B56 B46 B67 B78 B48 y0 y1 y2 y3 y4 y5 y6
      have m0 : W8.cell? ⟨w3.heap.size, 0, none⟩ = some (.int .i64 x.horizon) := KM8.out.cell 0
      have m1 : W8.cell? ⟨w3.heap.size, 1, none⟩ = some (.slice a1 x.stops.length c1) := KM8.out.cell 1
      have m2 : W8.cell? ⟨w3.heap.size, 2, none⟩ = some (.slice a2 x.paths.length c2) := KM8.out.cell 2
      have m3 : W8.cell? ⟨w3.heap.size, 3, none⟩ = some (.slice a3 x.doors.length c3) := KM8.out.cell 3
      have m4 : W8.cell? ⟨w3.heap.size, 4, none⟩ = some (.slice a4 x.routes.length c4) := KM8.out.cell 4
      have m5 : W8.cell? ⟨w3.heap.size, 5, none⟩ = some (.slice a5 x.trips.length c5) := KM8.out.cell 5
      have m6 : W8.cell? ⟨w3.heap.size, 6, none⟩ = some (.slice a6 x.hazards.length c6) := KM8.out.cell 6
      have m7 : W8.cell? ⟨w3.heap.size, 7, none⟩ = some (.slice b2 x.paths.length d2) := KM8.out.cell 7
      have m8 : W8.cell? ⟨w3.heap.size, 8, none⟩ = some (.slice b3 x.doors.length d3) := KM8.out.cell 8
      have m9 : W8.cell? ⟨w3.heap.size, 9, none⟩ = some (.slice b4 x.routes.length d4) := KM8.out.cell 9
      have m10 : W8.cell? ⟨w3.heap.size, 10, none⟩ = some (.slice b5 x.trips.length d5) := KM8.out.cell 10
      have m11 : W8.cell? ⟨w3.heap.size, 11, none⟩ = some (.slice b6 x.hazards.length d6) := KM8.out.cell 11
      go_wp2_with (first
        | (go_at_call 15; refine (HCK.out _ ⟨⟨a1, a2, a3, a4, a5, a6, c1, c2, c3, c4, c5, c6⟩, b2, b3, b4, b5, b6, d2, d3, d4, d5, d6⟩ HW8.out).mono ?_; rintro e w9 ⟨rfl, hb⟩; have B9 : Hid (Below W8.heap.size W8 w9) := Lib.hid hb; clear hb m0 m1 m2 m3 m4 m5 m6 m7 m8 m9 m10 m11; have g0 : w9.cell? ⟨w7.heap.size + 1, 0, none⟩ = some (.int .i64 0) := (KG.out.after B9.out).cell 0; have g1 : w9.cell? ⟨w7.heap.size + 1, 1, none⟩ = some (.int .i64 0) := (KG.out.after B9.out).cell 1; have g2 : w9.cell? ⟨w7.heap.size + 1, 2, none⟩ = some (.int .i64 0) := (KG.out.after B9.out).cell 2; have x0 : w9.cell? ⟨w.heap.size, 0, none⟩ = some (.int .i64 x.horizon) := (KX8.out.after B9.out).cell 0; have x1 : w9.cell? ⟨w.heap.size, 1, none⟩ = some (.slice p1 x.stops.length q1) := (KX8.out.after B9.out).cell 1; have x2 : w9.cell? ⟨w.heap.size, 2, none⟩ = some (.slice p2 x.paths.length q2) := (KX8.out.after B9.out).cell 2; have x3 : w9.cell? ⟨w.heap.size, 3, none⟩ = some (.slice p3 x.doors.length q3) := (KX8.out.after B9.out).cell 3; have x4 : w9.cell? ⟨w.heap.size, 4, none⟩ = some (.slice p4 x.routes.length q4) := (KX8.out.after B9.out).cell 4; have x5 : w9.cell? ⟨w.heap.size, 5, none⟩ = some (.slice p5 x.trips.length q5) := (KX8.out.after B9.out).cell 5; have x6 : w9.cell? ⟨w.heap.size, 6, none⟩ = some (.slice p6 x.hazards.length q6) := (KX8.out.after B9.out).cell 6; have y0 : w9.cell? ⟨w5.heap.size, 0, none⟩ = some (.int .i64 x.horizon) := (KY8.out.after B9.out).cell 0; have y1 : w9.cell? ⟨w5.heap.size, 1, none⟩ = some (.slice A1 x.stops.length k1) := (KY8.out.after B9.out).cell 1; have y2 : w9.cell? ⟨w5.heap.size, 2, none⟩ = some (.slice A2 x.paths.length k2) := (KY8.out.after B9.out).cell 2; have y3 : w9.cell? ⟨w5.heap.size, 3, none⟩ = some (.slice A3 x.doors.length k3) := (KY8.out.after B9.out).cell 3; have y4 : w9.cell? ⟨w5.heap.size, 4, none⟩ = some (.slice A4 x.routes.length k4) := (KY8.out.after B9.out).cell 4; have y5 : w9.cell? ⟨w5.heap.size, 5, none⟩ = some (.slice A5 x.trips.length k5) := (KY8.out.after B9.out).cell 5; have y6 : w9.cell? ⟨w5.heap.size, 6, none⟩ = some (.slice A6 x.hazards.length k6) := (KY8.out.after B9.out).cell 6)
        | (go_at_call 14; refine (HKS.out _ ⟨p1, p2, p3, p4, p5, p6, q1, q2, q3, q4, q5, q6⟩ ⟨A1, A2, A3, A4, A5, A6, k1, k2, k3, k4, k5, k6⟩ (HS8.out.later B9.out) (HY8.out.later B9.out)).mono ?_; rintro e w10 ⟨rfl, hb⟩; have B10 : Hid (Below W8.heap.size W8 w10) := Lib.hid (keep_trans B9.out hb); clear hb g0 g1 g2 x0 x1 x2 x3 x4 x5 x6 y0 y1 y2 y3 y4 y5 y6; have m0 : w10.cell? ⟨w3.heap.size, 0, none⟩ = some (.int .i64 x.horizon) := (KM8.out.after B10.out).cell 0; have m1 : w10.cell? ⟨w3.heap.size, 1, none⟩ = some (.slice a1 x.stops.length c1) := (KM8.out.after B10.out).cell 1; have m2 : w10.cell? ⟨w3.heap.size, 2, none⟩ = some (.slice a2 x.paths.length c2) := (KM8.out.after B10.out).cell 2; have m3 : w10.cell? ⟨w3.heap.size, 3, none⟩ = some (.slice a3 x.doors.length c3) := (KM8.out.after B10.out).cell 3; have m4 : w10.cell? ⟨w3.heap.size, 4, none⟩ = some (.slice a4 x.routes.length c4) := (KM8.out.after B10.out).cell 4; have m5 : w10.cell? ⟨w3.heap.size, 5, none⟩ = some (.slice a5 x.trips.length c5) := (KM8.out.after B10.out).cell 5; have m6 : w10.cell? ⟨w3.heap.size, 6, none⟩ = some (.slice a6 x.hazards.length c6) := (KM8.out.after B10.out).cell 6; have m7 : w10.cell? ⟨w3.heap.size, 7, none⟩ = some (.slice b2 x.paths.length d2) := (KM8.out.after B10.out).cell 7; have m8 : w10.cell? ⟨w3.heap.size, 8, none⟩ = some (.slice b3 x.doors.length d3) := (KM8.out.after B10.out).cell 8; have m9 : w10.cell? ⟨w3.heap.size, 9, none⟩ = some (.slice b4 x.routes.length d4) := (KM8.out.after B10.out).cell 9; have m10 : w10.cell? ⟨w3.heap.size, 10, none⟩ = some (.slice b5 x.trips.length d5) := (KM8.out.after B10.out).cell 10; have m11 : w10.cell? ⟨w3.heap.size, 11, none⟩ = some (.slice b6 x.hazards.length d6) := (KM8.out.after B10.out).cell 11; have v0 : w10.cell? ⟨w7.heap.size, 0, none⟩ = some (.int .i64 x.horizon) := (KV.out.after B10.out).cell 0; have v1 : w10.cell? ⟨w7.heap.size, 1, none⟩ = some (.slice a1' x.stops.length c1') := (KV.out.after B10.out).cell 1; have v2 : w10.cell? ⟨w7.heap.size, 2, none⟩ = some (.slice a2' x.paths.length c2') := (KV.out.after B10.out).cell 2; have v3 : w10.cell? ⟨w7.heap.size, 3, none⟩ = some (.slice a3' x.doors.length c3') := (KV.out.after B10.out).cell 3; have v4 : w10.cell? ⟨w7.heap.size, 4, none⟩ = some (.slice a4' x.routes.length c4') := (KV.out.after B10.out).cell 4; have v5 : w10.cell? ⟨w7.heap.size, 5, none⟩ = some (.slice a5' x.trips.length c5') := (KV.out.after B10.out).cell 5; have v6 : w10.cell? ⟨w7.heap.size, 6, none⟩ = some (.slice a6' x.hazards.length c6') := (KV.out.after B10.out).cell 6; have v7 : w10.cell? ⟨w7.heap.size, 7, none⟩ = some (.slice b2' x.paths.length d2') := (KV.out.after B10.out).cell 7; have v8 : w10.cell? ⟨w7.heap.size, 8, none⟩ = some (.slice b3' x.doors.length d3') := (KV.out.after B10.out).cell 8; have v9 : w10.cell? ⟨w7.heap.size, 9, none⟩ = some (.slice b4' x.routes.length d4') := (KV.out.after B10.out).cell 9; have v10 : w10.cell? ⟨w7.heap.size, 10, none⟩ = some (.slice b5' x.trips.length d5') := (KV.out.after B10.out).cell 10; have v11 : w10.cell? ⟨w7.heap.size, 11, none⟩ = some (.slice b6' x.hazards.length d6') := (KV.out.after B10.out).cell 11)
        | (go_at_call 23; refine (HKW.out _ ⟨⟨a1, a2, a3, a4, a5, a6, c1, c2, c3, c4, c5, c6⟩, b2, b3, b4, b5, b6, d2, d3, d4, d5, d6⟩ ⟨⟨a1', a2', a3', a4', a5', a6', c1', c2', c3', c4', c5', c6'⟩, b2', b3', b4', b5', b6', d2', d3', d4', d5', d6'⟩ (HW8.out.later B10.out) (HV8.out.later B10.out)).mono ?_; rintro e w11 ⟨rfl, hb⟩; have B11 : Hid (Below W8.heap.size W8 w11) := Lib.hid (keep_trans B10.out hb); clear hb m0 m1 m2 m3 m4 m5 m6 m7 m8 m9 m10 m11 v0 v1 v2 v3 v4 v5 v6 v7 v8 v9 v10 v11))
      have KB : Hid (∀ wr, Below w11.heap.size w11 wr → (wr.cell? ⟨w.heap.size, 0, none⟩ = some (.int .i64 x.horizon) ∧ wr.cell? ⟨w.heap.size, 1, none⟩ = some (.slice p1 x.stops.length q1) ∧ wr.cell? ⟨w.heap.size, 2, none⟩ = some (.slice p2 x.paths.length q2) ∧ wr.cell? ⟨w.heap.size, 3, none⟩ = some (.slice p3 x.doors.length q3) ∧ wr.cell? ⟨w.heap.size, 4, none⟩ = some (.slice p4 x.routes.length q4) ∧ wr.cell? ⟨w.heap.size, 5, none⟩ = some (.slice p5 x.trips.length q5) ∧ wr.cell? ⟨w.heap.size, 6, none⟩ = some (.slice p6 x.hazards.length q6)) ∧ (wr.cell? ⟨w3.heap.size, 0, none⟩ = some (.int .i64 x.horizon) ∧ wr.cell? ⟨w3.heap.size, 1, none⟩ = some (.slice a1 x.stops.length c1) ∧ wr.cell? ⟨w3.heap.size, 2, none⟩ = some (.slice a2 x.paths.length c2) ∧ wr.cell? ⟨w3.heap.size, 3, none⟩ = some (.slice a3 x.doors.length c3) ∧ wr.cell? ⟨w3.heap.size, 4, none⟩ = some (.slice a4 x.routes.length c4) ∧ wr.cell? ⟨w3.heap.size, 5, none⟩ = some (.slice a5 x.trips.length c5) ∧ wr.cell? ⟨w3.heap.size, 6, none⟩ = some (.slice a6 x.hazards.length c6) ∧ wr.cell? ⟨w3.heap.size, 7, none⟩ = some (.slice b2 x.paths.length d2) ∧ wr.cell? ⟨w3.heap.size, 8, none⟩ = some (.slice b3 x.doors.length d3) ∧ wr.cell? ⟨w3.heap.size, 9, none⟩ = some (.slice b4 x.routes.length d4) ∧ wr.cell? ⟨w3.heap.size, 10, none⟩ = some (.slice b5 x.trips.length d5) ∧ wr.cell? ⟨w3.heap.size, 11, none⟩ = some (.slice b6 x.hazards.length d6))) := Lib.hid (fun wr hb => by
        have a := KX8.out.after (keep_trans B11.out hb)
        have b := KM8.out.after (keep_trans B11.out hb)
        exact ⟨⟨a.cell 0, a.cell 1, a.cell 2, a.cell 3, a.cell 4, a.cell 5, a.cell 6⟩, b.cell 0, b.cell 1, b.cell 2, b.cell 3, b.cell 4, b.cell 5, b.cell 6, b.cell 7, b.cell 8, b.cell 9, b.cell 10, b.cell 11⟩)
      have HWB := Lib.hid (HW8.out.later B11.out)
      have HSB := Lib.hid (HS8.out.later B11.out)
      have BWB : Hid (Below w.heap.size w w11) := Lib.hid (keep_trans BW8.out B11.out)
      have hl1 := HX.out.l1
      have hl2 := HX.out.l2
      have hl5 := HX.out.l5
      have hl4 := HX.out.l4
      clear HMK HSH HCK HKS HKW KX8 KM8 KY8 KV KG HW8 HV8 HY8 HS8 B9 B10 B11 BW8 HLV HLI
      go_loopw [9] (fun v wr => ∃ i : Nat, v = .int .i64 (i : Int) ∧ i ≤ x.stops.length ∧ Hid (Below w11.heap.size w11 wr)) (fun v _ => x.stops.length - (intOf v).toNat)
      case atStart => exact ⟨0, rfl, by omega, Lib.hid (Below.refl _ _)⟩
      case round =>
        obtain ⟨i, rfl, hi, HB⟩ := hrel
        obtain ⟨⟨x0, x1, x2, x3, x4, x5, x6⟩, m0, m1, m2, m3, m4, m5, m6, m7, m8, m9, m10, m11⟩ := KB.out _ HB.out
        by_cases hlt : i < x.stops.length
        · as_aux_lemma =>
            obtain ⟨a, ha⟩ : ∃ a, x.stops[i]? = some a := ⟨_, List.getElem?_eq_getElem hlt⟩
            obtain ⟨ad, rfl, hS, c0, -⟩ := rd_at 1 (fun _ => rfl) (by omega) (rd_later HSB.out.r1 HB.out) ha
            have HF := Lib.hid (HFD.out a 1 (i : Int) (find_at (q := 1) HDU.out rfl ha) ⟨⟨a1, a2, a3, a4, a5, a6, c1, c2, c3, c4, c5, c6⟩, b2, b3, b4, b5, b6, d2, d3, d4, d5, d6⟩)
            have s0 : wr.cell? (ad.add i) = some (.string ⟨a.toArray⟩) := by have : wr.cell? (ad.add (i * 1)) = some (.string ⟨a.toArray⟩) := c0; rwa [Nat.mul_one] at this
            have hi1 : (i : Int) < (x.stops.length : Int) := by omega
            have hi0 : ¬ ((i : Int) < 0) := by omega
            have tb0 := World.block_lt_of_cell? wr _ s0
            have T0 := Lib.hid s0
            clear ha c0 hS s0
            have KR : Hid (∀ w', Below wr.heap.size wr w' → w'.cell? (ad.add i) = some (.string ⟨a.toArray⟩)) := Lib.hid (fun w' hb => (cell_keep hb tb0).trans T0.out)
            go_upto_region 15 with fail
            refine wp_region_held_drew (S := fun w' => Hid (Below wr.heap.size wr w')) (by kernel_rfl) ?_ (fun hHeld => ?_)
            · exact Lib.hid (below_drew (Below.refl _ _))
            refine wpAnyH_take (i := 0) (v := ?vbk1) rfl (by kernel_rfl) (by kernel_rfl) (by kernel_rfl) (fun _ _ _ h => h) (Or.inl ⟨by rfl, ?hybk1⟩) (by assumption) ?restbk1
            case hybk1 => (intro w' hSw; obtain ⟨⟨x0, x1, x2, x3, x4, x5, x6⟩, m0, m1, m2, m3, m4, m5, m6, m7, m8, m9, m10, m11⟩ := KB.out _ (keep_trans HB.out hSw.out); clear hSw; go_simp; try with_reducible rfl)
            simp only [Act.put, List.getElem_toArray, List.getElem_cons_zero, List.getElem_cons_succ, List.setIfInBounds_toArray, List.set_cons_zero, List.set_cons_succ]
            refine wpAnyH_take (i := 1) (v := ?vbk2) rfl (by kernel_rfl) (by kernel_rfl) (by kernel_rfl) (fun _ _ _ h => h) (Or.inl ⟨by rfl, ?hybk2⟩) (by assumption) ?restbk2
            case hybk2 => (intro w' hSw; clear hSw; go_simp; try with_reducible rfl)
            simp only [Act.put, List.getElem_toArray, List.getElem_cons_zero, List.getElem_cons_succ, List.setIfInBounds_toArray, List.set_cons_zero, List.set_cons_succ]
            refine wpAnyH_take (i := 2) (v := ?vbk3) rfl (by kernel_rfl) (by kernel_rfl) (by kernel_rfl) (fun _ _ _ h => h) (Or.inl ⟨by rfl, ?hybk3⟩) (by assumption) ?restbk3
            case hybk3 => (intro w' hSw; obtain ⟨⟨x0, x1, x2, x3, x4, x5, x6⟩, m0, m1, m2, m3, m4, m5, m6, m7, m8, m9, m10, m11⟩ := KB.out _ (keep_trans HB.out hSw.out); clear hSw; go_simp; try with_reducible rfl)
            simp only [Act.put, List.getElem_toArray, List.getElem_cons_zero, List.getElem_cons_succ, List.setIfInBounds_toArray, List.set_cons_zero, List.set_cons_succ]
            refine wpAnyH_take (i := 3) (v := ?vbk4) rfl (by kernel_rfl) (by kernel_rfl) (by kernel_rfl) (fun _ _ _ h => h) (Or.inl ⟨by rfl, ?hybk4⟩) (by assumption) ?restbk4
            case hybk4 => (intro w' hSw; clear hSw; go_simp; try with_reducible rfl)
            simp only [Act.put, List.getElem_toArray, List.getElem_cons_zero, List.getElem_cons_succ, List.setIfInBounds_toArray, List.set_cons_zero, List.set_cons_succ]
            refine wpAnyH_take (i := 4) (v := ?vbk5) rfl (by kernel_rfl) (by kernel_rfl) (by kernel_rfl) (fun _ _ _ h => h) (Or.inl ⟨by rfl, ?hybk5⟩) (by assumption) ?restbk5
            case hybk5 => (intro w' hSw; clear hSw; go_simp; try with_reducible rfl)
            simp only [Act.put, List.getElem_toArray, List.getElem_cons_zero, List.getElem_cons_succ, List.setIfInBounds_toArray, List.set_cons_zero, List.set_cons_succ]
            refine wpAnyH_take (i := 5) (v := ?vbk6) rfl (by kernel_rfl) (by kernel_rfl) (by kernel_rfl) (fun _ _ _ h => h) (Or.inl ⟨by rfl, ?hybk6⟩) (by assumption) ?restbk6
            case hybk6 => (intro w' hSw; have kr := KR.out _ hSw.out; clear hSw; go_simp; try with_reducible rfl)
            simp only [Act.put, List.getElem_toArray, List.getElem_cons_zero, List.getElem_cons_succ, List.setIfInBounds_toArray, List.set_cons_zero, List.set_cons_succ]
            have D1 : Hid (Below wr.heap.size wr (World.drew wr)) := Lib.hid (below_drew (Below.refl _ _))
            clear hHeld
            generalize World.drew wr = vv at *
            have HB1 : Hid (Below w11.heap.size w11 vv) := Lib.hid (keep_trans HB.out D1.out)
            refine wpAnyH_ready (rs := [6]) (by kernel_rfl) (by simp) ?_
            refine AllReadyH.cons rfl (fun K hK => ?_) AllReadyH.nil
            go_simp
            go_at_call 13
            refine (HF.out _ (HWB.out.later HB1.out)).mono ?_
            rintro e wf ⟨rfl, hb⟩
            have HB2 := Lib.hid (keep_trans HB1.out hb)
            have B1f := Lib.hid (keep_trans D1.out hb)
            clear hb
            refine hK.out _ _ B1f (fun hHeld => ?_)
            clear hK K
            refine wpAnyH_take (i := 7) (v := ?vbk7) rfl (by kernel_rfl) (by kernel_rfl) (by kernel_rfl) (fun _ _ _ h => h) (Or.inl ⟨by rfl, ?hybk7⟩) (by assumption) ?restbk7
            case hybk7 => (intro w' hSw; clear hSw; go_simp; try with_reducible rfl)
            simp only [Act.put, List.getElem_toArray, List.getElem_cons_zero, List.getElem_cons_succ, List.setIfInBounds_toArray, List.set_cons_zero, List.set_cons_succ]
            refine wpAnyH_take (i := 8) (v := ?vbk8) rfl (by kernel_rfl) (by kernel_rfl) (by kernel_rfl) (fun _ _ _ h => h) (Or.inl ⟨by rfl, ?hybk8⟩) (by assumption) ?restbk8
            case hybk8 => (intro w' hSw; clear hSw; go_simp; try with_reducible rfl)
            simp only [Act.put, List.getElem_toArray, List.getElem_cons_zero, List.getElem_cons_succ, List.setIfInBounds_toArray, List.set_cons_zero, List.set_cons_succ]
            refine wpAnyH_take (i := 9) (v := ?vbk9) rfl (by kernel_rfl) (by kernel_rfl) (by kernel_rfl) (fun _ _ _ h => h) (Or.inl ⟨by rfl, ?hybk9⟩) (by assumption) ?restbk9
            case hybk9 => (intro w' hSw; clear hSw; go_simp; try with_reducible rfl)
            simp only [Act.put, List.getElem_toArray, List.getElem_cons_zero, List.getElem_cons_succ, List.setIfInBounds_toArray, List.set_cons_zero, List.set_cons_succ]
            clear hHeld
            refine wpAnyH_ready (rs := [10]) (by kernel_rfl) (by simp) ?_
            refine AllReadyH.cons rfl (fun K hK => ?_) AllReadyH.nil
            go_simp
            refine hK.out _ _ B1f (fun hHeld => ?_)
            clear hK K hHeld
            refine wpAnyH_ready (rs := [11]) (by kernel_rfl) (by simp) ?_
            refine AllReadyH.cons rfl (fun K hK => ?_) AllReadyH.nil
            go_simp
            refine hK.out _ _ B1f (fun hHeld => ?_)
            clear hK K hHeld
            refine wpAnyH_done (by kernel_rfl) ?_ _
            go_wp2
            go_roundw
            case rel => exact ⟨i + 1, by go_num, by omega, HB2⟩
            case measure => simp [intOf]; omega
        · have hi1 : ¬ ((i : Int) < (x.stops.length : Int)) := by omega
          go_wp2
          have HBa := HB
          clear x0 x1 x2 x3 x4 x5 x6 m0 m1 m2 m3 m4 m5 m6 m7 m8 m9 m10 m11
          clear HB hlt hi hi1
          generalize wr = wa at *
          go_loopw [12] (fun v wr => ∃ i : Nat, v = .int .i64 (i : Int) ∧ i ≤ x.paths.length ∧ Hid (Below w11.heap.size w11 wr)) (fun v _ => x.paths.length - (intOf v).toNat)
          case atStart => exact ⟨0, rfl, by omega, HBa⟩
          case round =>
            obtain ⟨i, rfl, hi, HB⟩ := hrel
            obtain ⟨⟨x0, x1, x2, x3, x4, x5, x6⟩, m0, m1, m2, m3, m4, m5, m6, m7, m8, m9, m10, m11⟩ := KB.out _ HB.out
            by_cases hlt : i < x.paths.length
            · as_aux_lemma =>
                obtain ⟨a, ha⟩ : ∃ a, x.paths[i]? = some a := ⟨_, List.getElem?_eq_getElem hlt⟩
                obtain ⟨ad, rfl, hS, c0, cj⟩ := rd_at 4 (fun _ => rfl) (by omega) (rd_later HSB.out.r2 HB.out) ha
                have hb' : (numX x).paths[i]? = some (nPath x.stops a) := by simp [numX, ha]
                obtain ⟨bd, rfl, hT, d0, dj⟩ := rd_at 3 (fun _ => rfl) (by omega) (rd_later HWB.out.r2 HB.out) hb'
                have hin := (HRF.out.p a (List.mem_of_getElem? ha)).1
                have hst := idxOf_at hin
                obtain ⟨sd, rfl, hU, e0, -⟩ := rd_at 1 (fun _ => rfl) (by omega) (rd_later HSB.out.r1 HB.out) hst
                have hpl : (nPath x.stops a).a = ((x.stops.idxOf a.a : Nat) : Int) := pl_mem hin
                have hkl : x.stops.idxOf a.a < x.stops.length := List.idxOf_lt_length_iff.2 hin
                have HF := Lib.hid (HFD.out a.name 2 (i : Int) (find_at (q := 2) HDU.out (l := x.paths.map (·.name)) rfl (by simp [ha])) ⟨⟨a1, a2, a3, a4, a5, a6, c1, c2, c3, c4, c5, c6⟩, some bd, b3, b4, b5, b6, d2, d3, d4, d5, d6⟩)
                obtain ⟨an, aa, ab, al⟩ := a
                obtain ⟨k, hk⟩ : ∃ k, k = x.stops.idxOf aa := ⟨_, rfl⟩
                dsimp only at hpl hkl e0 HF
                rw [← hk] at hpl hkl e0
                have t0 : wr.cell? (ad.add (i * 4)) = some (.string ⟨an.toArray⟩) := c0
                have t1 : wr.cell? ⟨(ad.add (i * 4)).block, (ad.add (i * 4)).off + 1, none⟩ = some (.string ⟨aa.toArray⟩) := (cj 1 (by omega)).resolve_right (by omega)
                have u0 : wr.cell? (bd.add (i * 3)) = some (.int .i64 (k : Int)) := by rw [← hpl]; exact d0
                have v0 : wr.cell? (sd.add k) = some (.string ⟨aa.toArray⟩) := by have : wr.cell? (sd.add (k * 1)) = some (.string ⟨aa.toArray⟩) := e0; rwa [Nat.mul_one] at this
                have hi1 : (i : Int) < (x.paths.length : Int) := by omega
                have hi0 : ¬ ((i : Int) < 0) := by omega
                have hk1 : (k : Int) < (x.stops.length : Int) := by omega
                have hk0 : ¬ ((k : Int) < 0) := by omega
                have hk2 : decide ((x.stops.length : Int) ≤ (k : Int)) = false := by simp; omega
                have hk3 : decide (x.stops.length ≤ k) = false := by simp; omega
                have hk4 : decide ((k : Int) ≥ (x.stops.length : Int)) = false := by simp; omega
                have tb0 := World.block_lt_of_cell? wr _ t1
                have tb1 := World.block_lt_of_cell? wr _ u0
                have tb2 := World.block_lt_of_cell? wr _ v0
                have tbn := World.block_lt_of_cell? wr _ t0
                have T0 := Lib.hid t0
                have T1 := Lib.hid t1
                have U0 := Lib.hid u0
                have V0 := Lib.hid v0
                clear ha c0 cj hS hb' hT d0 dj hin hst hU e0 hpl hkl hk t0 t1 u0 v0
                have KR : Hid (∀ w', Below wr.heap.size wr w' → w'.cell? (ad.add (i * 4)) = some (.string ⟨an.toArray⟩)) := Lib.hid (fun w' hb => (cell_keep hb tbn).trans T0.out)
                go_upto_region 21 with fail
                refine wp_region_held_drew (S := fun w' => Hid (Below wr.heap.size wr w')) (by kernel_rfl) ?_ (fun hHeld => ?_)
                · exact Lib.hid (below_drew (Below.refl _ _))
                refine wpAnyH_take (i := 0) (v := ?vbk10) rfl (by kernel_rfl) (by kernel_rfl) (by kernel_rfl) (fun _ _ _ h => h) (Or.inl ⟨by rfl, ?hybk10⟩) (by assumption) ?restbk10
                case hybk10 => (intro w' hSw; obtain ⟨⟨x0, x1, x2, x3, x4, x5, x6⟩, m0, m1, m2, m3, m4, m5, m6, m7, m8, m9, m10, m11⟩ := KB.out _ (keep_trans HB.out hSw.out); clear hSw; go_simp; try with_reducible rfl)
                simp only [Act.put, List.getElem_toArray, List.getElem_cons_zero, List.getElem_cons_succ, List.setIfInBounds_toArray, List.set_cons_zero, List.set_cons_succ]
                refine wpAnyH_take (i := 1) (v := ?vbk11) rfl (by kernel_rfl) (by kernel_rfl) (by kernel_rfl) (fun _ _ _ h => h) (Or.inl ⟨by rfl, ?hybk11⟩) (by assumption) ?restbk11
                case hybk11 => (intro w' hSw; clear hSw; go_simp; try with_reducible rfl)
                simp only [Act.put, List.getElem_toArray, List.getElem_cons_zero, List.getElem_cons_succ, List.setIfInBounds_toArray, List.set_cons_zero, List.set_cons_succ]
                refine wpAnyH_take (i := 2) (v := ?vbk12) rfl (by kernel_rfl) (by kernel_rfl) (by kernel_rfl) (fun _ _ _ h => h) (Or.inl ⟨by rfl, ?hybk12⟩) (by assumption) ?restbk12
                case hybk12 => (intro w' hSw; obtain ⟨⟨x0, x1, x2, x3, x4, x5, x6⟩, m0, m1, m2, m3, m4, m5, m6, m7, m8, m9, m10, m11⟩ := KB.out _ (keep_trans HB.out hSw.out); clear hSw; go_simp; try with_reducible rfl)
                simp only [Act.put, List.getElem_toArray, List.getElem_cons_zero, List.getElem_cons_succ, List.setIfInBounds_toArray, List.set_cons_zero, List.set_cons_succ]
                refine wpAnyH_take (i := 3) (v := ?vbk13) rfl (by kernel_rfl) (by kernel_rfl) (by kernel_rfl) (fun _ _ _ h => h) (Or.inl ⟨by rfl, ?hybk13⟩) (by assumption) ?restbk13
                case hybk13 => (intro w' hSw; clear hSw; go_simp; try with_reducible rfl)
                simp only [Act.put, List.getElem_toArray, List.getElem_cons_zero, List.getElem_cons_succ, List.setIfInBounds_toArray, List.set_cons_zero, List.set_cons_succ]
                refine wpAnyH_take (i := 4) (v := ?vbk14) rfl (by kernel_rfl) (by kernel_rfl) (by kernel_rfl) (fun _ _ _ h => h) (Or.inl ⟨by rfl, ?hybk14⟩) (by assumption) ?restbk14
                case hybk14 => (intro w' hSw; clear hSw; go_simp; try with_reducible rfl)
                simp only [Act.put, List.getElem_toArray, List.getElem_cons_zero, List.getElem_cons_succ, List.setIfInBounds_toArray, List.set_cons_zero, List.set_cons_succ]
                refine wpAnyH_take (i := 5) (v := ?vbk15) rfl (by kernel_rfl) (by kernel_rfl) (by kernel_rfl) (fun _ _ _ h => h) (Or.inl ⟨by rfl, ?hybk15⟩) (by assumption) ?restbk15
                case hybk15 => (intro w' hSw; clear hSw; go_simp; try with_reducible rfl)
                simp only [Act.put, List.getElem_toArray, List.getElem_cons_zero, List.getElem_cons_succ, List.setIfInBounds_toArray, List.set_cons_zero, List.set_cons_succ]
                refine wpAnyH_take (i := 6) (v := ?vbk16) rfl (by kernel_rfl) (by kernel_rfl) (by kernel_rfl) (fun _ _ _ h => h) (Or.inl ⟨by rfl, ?hybk16⟩) (by assumption) ?restbk16
                case hybk16 => (intro w' hSw; have kr := KR.out _ hSw.out; clear hSw; go_simp; try with_reducible rfl)
                simp only [Act.put, List.getElem_toArray, List.getElem_cons_zero, List.getElem_cons_succ, List.setIfInBounds_toArray, List.set_cons_zero, List.set_cons_succ]
                have D1 : Hid (Below wr.heap.size wr (World.drew wr)) := Lib.hid (below_drew (Below.refl _ _))
                clear hHeld
                generalize World.drew wr = vv at *
                have HB1 : Hid (Below w11.heap.size w11 vv) := Lib.hid (keep_trans HB.out D1.out)
                refine wpAnyH_ready (rs := [7]) (by kernel_rfl) (by simp) ?_
                refine AllReadyH.cons rfl (fun K hK => ?_) AllReadyH.nil
                go_simp
                go_at_call 13
                refine (HF.out _ (HWB.out.later HB1.out)).mono ?_
                rintro e wf ⟨rfl, hb⟩
                have HB2 := Lib.hid (keep_trans HB1.out hb)
                have B1f := Lib.hid (keep_trans D1.out hb)
                clear hb
                refine hK.out _ _ B1f (fun hHeld => ?_)
                clear hK K
                refine wpAnyH_take (i := 8) (v := ?vbk17) rfl (by kernel_rfl) (by kernel_rfl) (by kernel_rfl) (fun _ _ _ h => h) (Or.inl ⟨by rfl, ?hybk17⟩) (by assumption) ?restbk17
                case hybk17 => (intro w' hSw; clear hSw; go_simp; try with_reducible rfl)
                simp only [Act.put, List.getElem_toArray, List.getElem_cons_zero, List.getElem_cons_succ, List.setIfInBounds_toArray, List.set_cons_zero, List.set_cons_succ]
                refine wpAnyH_take (i := 9) (v := ?vbk18) rfl (by kernel_rfl) (by kernel_rfl) (by kernel_rfl) (fun _ _ _ h => h) (Or.inl ⟨by rfl, ?hybk18⟩) (by assumption) ?restbk18
                case hybk18 => (intro w' hSw; clear hSw; go_simp; try with_reducible rfl)
                simp only [Act.put, List.getElem_toArray, List.getElem_cons_zero, List.getElem_cons_succ, List.setIfInBounds_toArray, List.set_cons_zero, List.set_cons_succ]
                refine wpAnyH_take (i := 10) (v := ?vbk19) rfl (by kernel_rfl) (by kernel_rfl) (by kernel_rfl) (fun _ _ _ h => h) (Or.inl ⟨by rfl, ?hybk19⟩) (by assumption) ?restbk19
                case hybk19 => (intro w' hSw; clear hSw; go_simp; try with_reducible rfl)
                simp only [Act.put, List.getElem_toArray, List.getElem_cons_zero, List.getElem_cons_succ, List.setIfInBounds_toArray, List.set_cons_zero, List.set_cons_succ]
                clear hHeld
                refine wpAnyH_ready (rs := [11]) (by kernel_rfl) (by simp) ?_
                refine AllReadyH.cons rfl (fun K hK => ?_) AllReadyH.nil
                go_simp
                refine hK.out _ _ B1f (fun hHeld => ?_)
                clear hK K hHeld
                refine wpAnyH_ready (rs := [12]) (by kernel_rfl) (by simp) ?_
                refine AllReadyH.cons rfl (fun K hK => ?_) AllReadyH.nil
                go_simp
                refine hK.out _ _ B1f (fun hHeld => ?_)
                clear hK K hHeld
                refine wpAnyH_done (by kernel_rfl) ?_ _
                go_upto_region 22 with fail
                have HB := HB2
                have t1 : wf.cell? ⟨(ad.add (i * 4)).block, (ad.add (i * 4)).off + 1, none⟩ = some (.string ⟨aa.toArray⟩) := (cell_keep (p := ⟨(ad.add (i * 4)).block, (ad.add (i * 4)).off + 1, none⟩) B1f.out tb0).trans T1.out
                have u0 : wf.cell? (bd.add (i * 3)) = some (.int .i64 (k : Int)) := (cell_keep B1f.out tb1).trans U0.out
                have v0 : wf.cell? (sd.add k) = some (.string ⟨aa.toArray⟩) := (cell_keep B1f.out tb2).trans V0.out
                clear x0 x1 x2 x3 x4 x5 x6 m0 m1 m2 m3 m4 m5 m6 m7 m8 m9 m10 m11
                obtain ⟨⟨x0, x1, x2, x3, x4, x5, x6⟩, m0, m1, m2, m3, m4, m5, m6, m7, m8, m9, m10, m11⟩ := KB.out _ HB.out
                go_quiet (fail)
                go_wp2
                go_roundw
                case rel => exact ⟨i + 1, by go_num, by omega, Lib.hid (below_drewN HB.out _)⟩
                case measure => simp [intOf]; omega
            · have hi1 : ¬ ((i : Int) < (x.paths.length : Int)) := by omega
              go_wp2
              have HBb := HB
              clear x0 x1 x2 x3 x4 x5 x6 m0 m1 m2 m3 m4 m5 m6 m7 m8 m9 m10 m11
              clear HB hlt hi hi1
              generalize wr = wb at *
              go_loopw [15] (fun v wr => ∃ i : Nat, v = .int .i64 (i : Int) ∧ i ≤ x.trips.length ∧ Hid (Below w11.heap.size w11 wr)) (fun v _ => x.trips.length - (intOf v).toNat)
              case atStart => exact ⟨0, rfl, by omega, HBb⟩
              case round =>
                obtain ⟨i, rfl, hi, HB⟩ := hrel
                obtain ⟨⟨x0, x1, x2, x3, x4, x5, x6⟩, m0, m1, m2, m3, m4, m5, m6, m7, m8, m9, m10, m11⟩ := KB.out _ HB.out
                by_cases hlt : i < x.trips.length
                · as_aux_lemma =>
                    obtain ⟨a, ha⟩ : ∃ a, x.trips[i]? = some a := ⟨_, List.getElem?_eq_getElem hlt⟩
                    obtain ⟨ad, rfl, hS, c0, cj⟩ := rd_at 5 (fun _ => rfl) (by omega) (rd_later HSB.out.r5 HB.out) ha
                    have hb' : (numX x).trips[i]? = some (nTrip (namesX x).routes a) := by simp [numX, ha]
                    obtain ⟨bd, rfl, hT, d0, dj⟩ := rd_at 4 (fun _ => rfl) (by omega) (rd_later HWB.out.r5 HB.out) hb'
                    have hin := (HRF.out.t a (List.mem_of_getElem? ha)).1
                    have hst := idxOf_at hin
                    rw [List.getElem?_map, Option.map_eq_some_iff] at hst
                    obtain ⟨rr, hrr, hrn⟩ := hst
                    obtain ⟨cr, hc4, hc4'⟩ := HSB.out.r4
                    obtain ⟨sd, rfl, hU, sa, sc, ra, rc, ya, yc, e0, e1, e2, e3, -⟩ := rts_at (rd_later hc4 HB.out) (hc4'.later HB.out) hrr
                    have hpl : (nTrip (namesX x).routes a).route = (((x.routes.map (·.name)).idxOf a.route : Nat) : Int) := pl_mem hin
                    have hkl : (x.routes.map (·.name)).idxOf a.route < x.routes.length := by have := List.idxOf_lt_length_iff.2 hin; simpa using this
                    have HF := Lib.hid (HFD.out a.name 5 (i : Int) (find_at (q := 5) HDU.out (l := x.trips.map (·.name)) rfl (by simp [ha])) ⟨⟨a1, a2, a3, a4, a5, a6, c1, c2, c3, c4, c5, c6⟩, b2, b3, b4, some bd, b6, d2, d3, d4, d5, d6⟩)
                    rw [hrn] at e0
                    obtain ⟨an, aa, af, ae, al⟩ := a
                    obtain ⟨k, hk⟩ : ∃ k, k = (x.routes.map (·.name)).idxOf aa := ⟨_, rfl⟩
                    dsimp only at hpl hkl e0 HF
                    rw [← hk] at hpl hkl e0
                    have t0 : wr.cell? (ad.add (i * 5)) = some (.string ⟨an.toArray⟩) := c0
                    have t1 : wr.cell? ⟨(ad.add (i * 5)).block, (ad.add (i * 5)).off + 1, none⟩ = some (.string ⟨aa.toArray⟩) := (cj 1 (by omega)).resolve_right (by omega)
                    have u0 : wr.cell? (bd.add (i * 4)) = some (.int .i64 (k : Int)) := by rw [← hpl]; exact d0
                    have v0 : wr.cell? (sd.add (k * 4)) = some (.string ⟨aa.toArray⟩) := e0
                    have hi1 : (i : Int) < (x.trips.length : Int) := by omega
                    have hi0 : ¬ ((i : Int) < 0) := by omega
                    have hk1 : (k : Int) < (x.routes.length : Int) := by omega
                    have hk0 : ¬ ((k : Int) < 0) := by omega
                    have hk2 : decide ((x.routes.length : Int) ≤ (k : Int)) = false := by simp; omega
                    have hk3 : decide (x.routes.length ≤ k) = false := by simp; omega
                    have hk4 : decide ((k : Int) ≥ (x.routes.length : Int)) = false := by simp; omega
                    have tb0 := World.block_lt_of_cell? wr _ t1
                    have tb1 := World.block_lt_of_cell? wr _ u0
                    have tb2 := World.block_lt_of_cell? wr _ v0
                    have tbn := World.block_lt_of_cell? wr _ t0
                    have T0 := Lib.hid t0
                    have T1 := Lib.hid t1
                    have U0 := Lib.hid u0
                    have V0 := Lib.hid v0
                    clear ha c0 cj hS hb' hT d0 dj hin hrr hrn hc4 hc4' hU e0 e1 e2 e3 hpl hkl hk t0 t1 u0 v0
                    have KR : Hid (∀ w', Below wr.heap.size wr w' → w'.cell? (ad.add (i * 5)) = some (.string ⟨an.toArray⟩)) := Lib.hid (fun w' hb => (cell_keep hb tbn).trans T0.out)
                    go_upto_region 27 with fail
                    refine wp_region_held_drew (S := fun w' => Hid (Below wr.heap.size wr w')) (by kernel_rfl) ?_ (fun hHeld => ?_)
                    · exact Lib.hid (below_drew (Below.refl _ _))
                    refine wpAnyH_take (i := 0) (v := ?vbk20) rfl (by kernel_rfl) (by kernel_rfl) (by kernel_rfl) (fun _ _ _ h => h) (Or.inl ⟨by rfl, ?hybk20⟩) (by assumption) ?restbk20
                    case hybk20 => (intro w' hSw; obtain ⟨⟨x0, x1, x2, x3, x4, x5, x6⟩, m0, m1, m2, m3, m4, m5, m6, m7, m8, m9, m10, m11⟩ := KB.out _ (keep_trans HB.out hSw.out); clear hSw; go_simp; try with_reducible rfl)
                    simp only [Act.put, List.getElem_toArray, List.getElem_cons_zero, List.getElem_cons_succ, List.setIfInBounds_toArray, List.set_cons_zero, List.set_cons_succ]
                    refine wpAnyH_take (i := 1) (v := ?vbk21) rfl (by kernel_rfl) (by kernel_rfl) (by kernel_rfl) (fun _ _ _ h => h) (Or.inl ⟨by rfl, ?hybk21⟩) (by assumption) ?restbk21
                    case hybk21 => (intro w' hSw; clear hSw; go_simp; try with_reducible rfl)
                    simp only [Act.put, List.getElem_toArray, List.getElem_cons_zero, List.getElem_cons_succ, List.setIfInBounds_toArray, List.set_cons_zero, List.set_cons_succ]
                    refine wpAnyH_take (i := 2) (v := ?vbk22) rfl (by kernel_rfl) (by kernel_rfl) (by kernel_rfl) (fun _ _ _ h => h) (Or.inl ⟨by rfl, ?hybk22⟩) (by assumption) ?restbk22
                    case hybk22 => (intro w' hSw; obtain ⟨⟨x0, x1, x2, x3, x4, x5, x6⟩, m0, m1, m2, m3, m4, m5, m6, m7, m8, m9, m10, m11⟩ := KB.out _ (keep_trans HB.out hSw.out); clear hSw; go_simp; try with_reducible rfl)
                    simp only [Act.put, List.getElem_toArray, List.getElem_cons_zero, List.getElem_cons_succ, List.setIfInBounds_toArray, List.set_cons_zero, List.set_cons_succ]
                    refine wpAnyH_take (i := 3) (v := ?vbk23) rfl (by kernel_rfl) (by kernel_rfl) (by kernel_rfl) (fun _ _ _ h => h) (Or.inl ⟨by rfl, ?hybk23⟩) (by assumption) ?restbk23
                    case hybk23 => (intro w' hSw; clear hSw; go_simp; try with_reducible rfl)
                    simp only [Act.put, List.getElem_toArray, List.getElem_cons_zero, List.getElem_cons_succ, List.setIfInBounds_toArray, List.set_cons_zero, List.set_cons_succ]
                    refine wpAnyH_take (i := 4) (v := ?vbk24) rfl (by kernel_rfl) (by kernel_rfl) (by kernel_rfl) (fun _ _ _ h => h) (Or.inl ⟨by rfl, ?hybk24⟩) (by assumption) ?restbk24
                    case hybk24 => (intro w' hSw; clear hSw; go_simp; try with_reducible rfl)
                    simp only [Act.put, List.getElem_toArray, List.getElem_cons_zero, List.getElem_cons_succ, List.setIfInBounds_toArray, List.set_cons_zero, List.set_cons_succ]
                    refine wpAnyH_take (i := 5) (v := ?vbk25) rfl (by kernel_rfl) (by kernel_rfl) (by kernel_rfl) (fun _ _ _ h => h) (Or.inl ⟨by rfl, ?hybk25⟩) (by assumption) ?restbk25
                    case hybk25 => (intro w' hSw; clear hSw; go_simp; try with_reducible rfl)
                    simp only [Act.put, List.getElem_toArray, List.getElem_cons_zero, List.getElem_cons_succ, List.setIfInBounds_toArray, List.set_cons_zero, List.set_cons_succ]
                    refine wpAnyH_take (i := 6) (v := ?vbk26) rfl (by kernel_rfl) (by kernel_rfl) (by kernel_rfl) (fun _ _ _ h => h) (Or.inl ⟨by rfl, ?hybk26⟩) (by assumption) ?restbk26
                    case hybk26 => (intro w' hSw; have kr := KR.out _ hSw.out; clear hSw; go_simp; try with_reducible rfl)
                    simp only [Act.put, List.getElem_toArray, List.getElem_cons_zero, List.getElem_cons_succ, List.setIfInBounds_toArray, List.set_cons_zero, List.set_cons_succ]
                    have D1 : Hid (Below wr.heap.size wr (World.drew wr)) := Lib.hid (below_drew (Below.refl _ _))
                    clear hHeld
                    generalize World.drew wr = vv at *
                    have HB1 : Hid (Below w11.heap.size w11 vv) := Lib.hid (keep_trans HB.out D1.out)
                    refine wpAnyH_ready (rs := [7]) (by kernel_rfl) (by simp) ?_
                    refine AllReadyH.cons rfl (fun K hK => ?_) AllReadyH.nil
                    go_simp
                    go_at_call 13
                    refine (HF.out _ (HWB.out.later HB1.out)).mono ?_
                    rintro e wf ⟨rfl, hb⟩
                    have HB2 := Lib.hid (keep_trans HB1.out hb)
                    have B1f := Lib.hid (keep_trans D1.out hb)
                    clear hb
                    refine hK.out _ _ B1f (fun hHeld => ?_)
                    clear hK K
                    refine wpAnyH_take (i := 8) (v := ?vbk27) rfl (by kernel_rfl) (by kernel_rfl) (by kernel_rfl) (fun _ _ _ h => h) (Or.inl ⟨by rfl, ?hybk27⟩) (by assumption) ?restbk27
                    case hybk27 => (intro w' hSw; clear hSw; go_simp; try with_reducible rfl)
                    simp only [Act.put, List.getElem_toArray, List.getElem_cons_zero, List.getElem_cons_succ, List.setIfInBounds_toArray, List.set_cons_zero, List.set_cons_succ]
                    refine wpAnyH_take (i := 9) (v := ?vbk28) rfl (by kernel_rfl) (by kernel_rfl) (by kernel_rfl) (fun _ _ _ h => h) (Or.inl ⟨by rfl, ?hybk28⟩) (by assumption) ?restbk28
                    case hybk28 => (intro w' hSw; clear hSw; go_simp; try with_reducible rfl)
                    simp only [Act.put, List.getElem_toArray, List.getElem_cons_zero, List.getElem_cons_succ, List.setIfInBounds_toArray, List.set_cons_zero, List.set_cons_succ]
                    refine wpAnyH_take (i := 10) (v := ?vbk29) rfl (by kernel_rfl) (by kernel_rfl) (by kernel_rfl) (fun _ _ _ h => h) (Or.inl ⟨by rfl, ?hybk29⟩) (by assumption) ?restbk29
                    case hybk29 => (intro w' hSw; clear hSw; go_simp; try with_reducible rfl)
                    simp only [Act.put, List.getElem_toArray, List.getElem_cons_zero, List.getElem_cons_succ, List.setIfInBounds_toArray, List.set_cons_zero, List.set_cons_succ]
                    clear hHeld
                    refine wpAnyH_ready (rs := [11]) (by kernel_rfl) (by simp) ?_
                    refine AllReadyH.cons rfl (fun K hK => ?_) AllReadyH.nil
                    go_simp
                    refine hK.out _ _ B1f (fun hHeld => ?_)
                    clear hK K hHeld
                    refine wpAnyH_ready (rs := [12]) (by kernel_rfl) (by simp) ?_
                    refine AllReadyH.cons rfl (fun K hK => ?_) AllReadyH.nil
                    go_simp
                    refine hK.out _ _ B1f (fun hHeld => ?_)
                    clear hK K hHeld
                    refine wpAnyH_done (by kernel_rfl) ?_ _
                    go_upto_region 28 with fail
                    have HB := HB2
                    have t1 : wf.cell? ⟨(ad.add (i * 5)).block, (ad.add (i * 5)).off + 1, none⟩ = some (.string ⟨aa.toArray⟩) := (cell_keep (p := ⟨(ad.add (i * 5)).block, (ad.add (i * 5)).off + 1, none⟩) B1f.out tb0).trans T1.out
                    have u0 : wf.cell? (bd.add (i * 4)) = some (.int .i64 (k : Int)) := (cell_keep B1f.out tb1).trans U0.out
                    have v0 : wf.cell? (sd.add (k * 4)) = some (.string ⟨aa.toArray⟩) := (cell_keep B1f.out tb2).trans V0.out
                    clear x0 x1 x2 x3 x4 x5 x6 m0 m1 m2 m3 m4 m5 m6 m7 m8 m9 m10 m11
                    obtain ⟨⟨x0, x1, x2, x3, x4, x5, x6⟩, m0, m1, m2, m3, m4, m5, m6, m7, m8, m9, m10, m11⟩ := KB.out _ HB.out
                    go_quiet (fail)
                    go_wp2
                    go_roundw
                    case rel => exact ⟨i + 1, by go_num, by omega, Lib.hid (below_drewN HB.out _)⟩
                    case measure => simp [intOf]; omega
                · have hi1 : ¬ ((i : Int) < (x.trips.length : Int)) := by omega
                  go_wp2
                  go_ret
                  exact ⟨rfl, keep_trans BWB.out HB.out⟩
    · have HM0 : Hid (makeX x = zWo) := Lib.hid (by unfold makeX; rw [if_pos hwe])
      have HMK := Lib.hid (fun w1 (hb : Below w.heap.size w w1) => make_any x ⟨p1, p2, p3, p4, p5, p6, q1, q2, q3, q4, q5, q6⟩ w1 (HS.out.later hb) HX.out)
      have HSM := Lib.hid (fun w1 q (hq : Wo w1 (· < w1.heap.size) zWo q) => wsame_any zWo zWo q noA w1 hq (wo_none _ _) wlt_z wlt_z)
      unfold MkPost at HMK
      simp only [HM0.out, decide_true] at HMK HSM
      obtain ⟨⟨we, wk, wa⟩, hwx⟩ : ∃ k, k = wrongX x := ⟨_, rfl⟩
      rw [← hwx] at hwe HMK
      dsimp only [wrV, shV, woG, noA, List.length_nil] at hwe HMK HSM
      have hn1 : (we != 0) = true := by simpa using hwe
      have hn2 : (we == 0) = false := by simpa using hwe
      clear hwx hwe HM0
      go_enter Tryz.func5, Tryz.ntmps5
      go_wp2_with (first
        | (go_at_call 9; refine (HLV.out _).mono ?_; rintro e w1 ⟨rfl, hb⟩; have B1 : Hid (Below w.heap.size w w1) := Lib.hid (keep_trans (one_box _ _) hb); have K1 := Lib.hid ((Blk.new w 44 [.int .i64 x.horizon, .slice p1 x.stops.length q1, .slice p2 x.paths.length q2, .slice p3 x.doors.length q3, .slice p4 x.routes.length q4, .slice p5 x.trips.length q5, .slice p6 x.hazards.length q6]).after hb); have s0 : w1.cell? ⟨w.heap.size, 0, none⟩ = some (.int .i64 x.horizon) := K1.out.cell 0; have s1 : w1.cell? ⟨w.heap.size, 1, none⟩ = some (.slice p1 x.stops.length q1) := K1.out.cell 1; have s2 : w1.cell? ⟨w.heap.size, 2, none⟩ = some (.slice p2 x.paths.length q2) := K1.out.cell 2; have s3 : w1.cell? ⟨w.heap.size, 3, none⟩ = some (.slice p3 x.doors.length q3) := K1.out.cell 3; have s4 : w1.cell? ⟨w.heap.size, 4, none⟩ = some (.slice p4 x.routes.length q4) := K1.out.cell 4; have s5 : w1.cell? ⟨w.heap.size, 5, none⟩ = some (.slice p5 x.trips.length q5) := K1.out.cell 5; have s6 : w1.cell? ⟨w.heap.size, 6, none⟩ = some (.slice p6 x.hazards.length q6) := K1.out.cell 6; clear hb)
        | (go_at_call 16; refine (HLI.out _ B1.out).mono ?_; rintro e w2 ⟨rfl, hb⟩; have B2 : Hid (Below w.heap.size w w2) := Lib.hid (keep_trans B1.out hb); have K2 := Lib.hid (K1.out.after hb); clear s0 s1 s2 s3 s4 s5 s6; have s0 : w2.cell? ⟨w.heap.size, 0, none⟩ = some (.int .i64 x.horizon) := K2.out.cell 0; have s1 : w2.cell? ⟨w.heap.size, 1, none⟩ = some (.slice p1 x.stops.length q1) := K2.out.cell 1; have s2 : w2.cell? ⟨w.heap.size, 2, none⟩ = some (.slice p2 x.paths.length q2) := K2.out.cell 2; have s3 : w2.cell? ⟨w.heap.size, 3, none⟩ = some (.slice p3 x.doors.length q3) := K2.out.cell 3; have s4 : w2.cell? ⟨w.heap.size, 4, none⟩ = some (.slice p4 x.routes.length q4) := K2.out.cell 4; have s5 : w2.cell? ⟨w.heap.size, 5, none⟩ = some (.slice p5 x.trips.length q5) := K2.out.cell 5; have s6 : w2.cell? ⟨w.heap.size, 6, none⟩ = some (.slice p6 x.hazards.length q6) := K2.out.cell 6; clear hb)
        | (go_at_call 10; refine (HMK.out _ B2.out).mono ?_; rintro e w3 ⟨q, rfl, hw, hb⟩; obtain ⟨⟨a1, a2, a3, a4, a5, a6, c1, c2, c3, c4, c5, c6⟩, b2, b3, b4, b5, b6, d2, d3, d4, d5, d6⟩ := q; have B3 : Hid (Below w.heap.size w w3) := Lib.hid (keep_trans B2.out hb); have HW3 : Hid (Wo w3 (· < w3.heap.size) zWo ⟨⟨a1, a2, a3, a4, a5, a6, c1, c2, c3, c4, c5, c6⟩, b2, b3, b4, b5, b6, d2, d3, d4, d5, d6⟩) := Lib.hid (hw.more fun b hk => hk.2); clear hb hw)
        | (go_at_call 25; refine (HSM.out _ ⟨⟨a1, a2, a3, a4, a5, a6, c1, c2, c3, c4, c5, c6⟩, b2, b3, b4, b5, b6, d2, d3, d4, d5, d6⟩ (HW3.out.later (two_box _ _ _))).mono ?_; rintro e w5 ⟨rfl, hb⟩; have B5 := Lib.hid (keep_trans B3.out (keep_trans (two_box _ _ _) hb)); clear hb))
      go_ret
      exact ⟨rfl, B5.out⟩
end Go.Proofs.YtgdanbfglefiiaaGreat.Wo
