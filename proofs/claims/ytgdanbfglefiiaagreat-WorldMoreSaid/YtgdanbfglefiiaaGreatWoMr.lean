/- A stop more, behind all others, changes nothing else; nor does a path more: walked. No conditions. -/
import Derived.Test.YtgdanbfglefiiaaGreatWoMrB
import Derived.ChangeSlices
import Derived.Deep.Strs
import Derived.Deep.SlicePairs
import Derived.ChangeArms
import Derived.Carry
import Derived.Deep.RegionHeld3
import Derived.Deep.RegionHeldLaw
import Derived.Deep.CutRange
import Derived.StillTailTactics
import Derived.WalkSpells
import Derived.Lib.QuietBelow
import Derived.Deep.QuietTactic
namespace Go.Proofs.YtgdanbfglefiiaaGreat.Wo
open Go.ChangeShapes Go.WideShapes Go.ChangeAt Go.RowKit Go.Maps
open Lx Sh It
set_option linter.unusedVariables false
set_option linter.unusedSimpArgs false
theorem lt_of8 {x : SheetM} (h : lightM x = true) : Lt x := by
  simp only [lightM, Bool.and_eq_true, decide_eq_true_eq, List.all_eq_true, lightR] at h
  obtain ⟨⟨⟨⟨⟨⟨h1, h2⟩, h3⟩, h4⟩, h5⟩, h6⟩, h7⟩ := h
  exact ⟨h1, h2, h3, h4, h5, h6, fun r hr => ⟨(h7 r hr).1, (h7 r hr).2.1, (h7 r hr).2.2⟩⟩
theorem lt_xl8 {x : SheetM} (h : Lt x) : XLt x := ⟨by have := h.l1; omega, by have := h.l2; omega, by have := h.l3; omega, by have := h.l4; omega, by have := h.l5; omega, by have := h.l6; omega, fun r hr => by have := h.lr r hr; omega⟩
set_option maxRecDepth 100000 in
set_option maxHeartbeats 16000000 in
theorem more_all (x : SheetM) (p : ShA) (nm : Nm) (n : Int) (w : World) (h : Sh w (· < w.heap.size) x p) : Calls Tryz.prog 8 #[shV x p, .string ⟨nm.toArray⟩, .int .i64 n] w (fun e w' => e = .returned (.bool true) ∧ Below w.heap.size w w') := by
  obtain ⟨p1, p2, p3, p4, p5, p6, q1, q2, q3, q4, q5, q6⟩ := p
  have HS := Lib.hid h
  have HLI := Lib.hid (fun w1 (hb : Below w.heap.size w w1) => light_any x ⟨p1, p2, p3, p4, p5, p6, q1, q2, q3, q4, q5, q6⟩ w1 (h.later hb))
  have HLV := Lib.hid (fun w1 => lives_any w1)
  dsimp only [shV] at HLI ⊢
  clear h
  cases hlm : lightM x with
  | false =>
    rw [hlm] at HLI
    go_enter Tryz.func8, Tryz.ntmps8
    go_wp2_with (first
      | (go_at_call 9; refine (HLV.out _).mono ?_; rintro e w1 ⟨rfl, hb⟩; have B1 : Hid (Below w.heap.size w w1) := Lib.hid (keep_trans (one_box _ _) hb); have K1 := Lib.hid ((Blk.new w 44 [.int .i64 x.horizon, .slice p1 x.stops.length q1, .slice p2 x.paths.length q2, .slice p3 x.doors.length q3, .slice p4 x.routes.length q4, .slice p5 x.trips.length q5, .slice p6 x.hazards.length q6]).after hb); have s0 : w1.cell? ⟨w.heap.size, 0, none⟩ = some (.int .i64 x.horizon) := K1.out.cell 0; have s1 : w1.cell? ⟨w.heap.size, 1, none⟩ = some (.slice p1 x.stops.length q1) := K1.out.cell 1; have s2 : w1.cell? ⟨w.heap.size, 2, none⟩ = some (.slice p2 x.paths.length q2) := K1.out.cell 2; have s3 : w1.cell? ⟨w.heap.size, 3, none⟩ = some (.slice p3 x.doors.length q3) := K1.out.cell 3; have s4 : w1.cell? ⟨w.heap.size, 4, none⟩ = some (.slice p4 x.routes.length q4) := K1.out.cell 4; have s5 : w1.cell? ⟨w.heap.size, 5, none⟩ = some (.slice p5 x.trips.length q5) := K1.out.cell 5; have s6 : w1.cell? ⟨w.heap.size, 6, none⟩ = some (.slice p6 x.hazards.length q6) := K1.out.cell 6; clear hb)
      | (go_at_call 16; refine (HLI.out _ B1.out).mono ?_; rintro e w2 ⟨rfl, hb⟩; have B2 : Hid (Below w.heap.size w w2) := Lib.hid (keep_trans B1.out hb); have K2 := Lib.hid (K1.out.after hb); clear s0 s1 s2 s3 s4 s5 s6; have s0 : w2.cell? ⟨w.heap.size, 0, none⟩ = some (.int .i64 x.horizon) := K2.out.cell 0; have s1 : w2.cell? ⟨w.heap.size, 1, none⟩ = some (.slice p1 x.stops.length q1) := K2.out.cell 1; have s2 : w2.cell? ⟨w.heap.size, 2, none⟩ = some (.slice p2 x.paths.length q2) := K2.out.cell 2; have s3 : w2.cell? ⟨w.heap.size, 3, none⟩ = some (.slice p3 x.doors.length q3) := K2.out.cell 3; have s4 : w2.cell? ⟨w.heap.size, 4, none⟩ = some (.slice p4 x.routes.length q4) := K2.out.cell 4; have s5 : w2.cell? ⟨w.heap.size, 5, none⟩ = some (.slice p5 x.trips.length q5) := K2.out.cell 5; have s6 : w2.cell? ⟨w.heap.size, 6, none⟩ = some (.slice p6 x.hazards.length q6) := K2.out.cell 6; clear hb))
    go_ret
    exact ⟨rfl, B2.out⟩
  | true =>
    rw [hlm] at HLI
    have HX : Hid (XLt x) := Lib.hid (lt_xl8 (lt_of8 hlm))
    have HLT : Hid (Lt x) := Lib.hid (lt_of8 hlm)
    clear hlm
    by_cases a1 : nm.length ≤ 12
    · skip
      by_cases a2 : 1 ≤ n
      · skip
        by_cases a3 : n ≤ 1000
        · skip
          have c1 : decide (12 < (nm.length : Int)) = false := by simp; omega
          have c2 : decide (12 < nm.length) = false := by simp; omega
          have d1 : decide (n < 1) = false := by simp; omega
          have e1 : decide (1000 < n) = false := by simp; omega
          by_cases hwe : (wrongX x).err = 0
          · skip
            have HOK := Lib.hid hwe
            have HMK := Lib.hid (fun w1 q (hs : Sh w1 (· < w1.heap.size) x q) => make_good HOK.out q w1 hs HX.out)
            have HFD := Lib.hid (fun k i (hk : findW (namesX x) nm = (k, i)) q w1 (hs : Wo w1 (· < w1.heap.size) (numX x) q) => find_good nm k i hk q w1 hs HX.out)
            obtain ⟨⟨fk, fi⟩, hfk⟩ : ∃ k, k = findW (namesX x) nm := ⟨_, rfl⟩
            have HF := Lib.hid (HFD.out fk fi hfk.symm)
            have HOS := Lib.hid (fun w1 (hb : Below w.heap.size w w1) => own_sheet x ⟨p1, p2, p3, p4, p5, p6, q1, q2, q3, q4, q5, q6⟩ w1 (HS.out.later hb) HX.out.few)
            dsimp only [shV, woX] at HMK HF HOS
            have HNL : Hid (nm.length ≤ 12 ∧ 1 ≤ n ∧ n ≤ 1000) := Lib.hid ⟨a1, a2, a3⟩
            have HFK := Lib.hid hfk
            clear hwe hfk HFD
            go_enter Tryz.func8, Tryz.ntmps8
            go_upto_region 6 with (first
              | (go_at_call 9; refine (HLV.out _).mono ?_; rintro e w1 ⟨rfl, hb⟩; have B1 : Hid (Below w.heap.size w w1) := Lib.hid (keep_trans (one_box _ _) hb); have K1 := Lib.hid ((Blk.new w 44 [.int .i64 x.horizon, .slice p1 x.stops.length q1, .slice p2 x.paths.length q2, .slice p3 x.doors.length q3, .slice p4 x.routes.length q4, .slice p5 x.trips.length q5, .slice p6 x.hazards.length q6]).after hb); have s0 : w1.cell? ⟨w.heap.size, 0, none⟩ = some (.int .i64 x.horizon) := K1.out.cell 0; have s1 : w1.cell? ⟨w.heap.size, 1, none⟩ = some (.slice p1 x.stops.length q1) := K1.out.cell 1; have s2 : w1.cell? ⟨w.heap.size, 2, none⟩ = some (.slice p2 x.paths.length q2) := K1.out.cell 2; have s3 : w1.cell? ⟨w.heap.size, 3, none⟩ = some (.slice p3 x.doors.length q3) := K1.out.cell 3; have s4 : w1.cell? ⟨w.heap.size, 4, none⟩ = some (.slice p4 x.routes.length q4) := K1.out.cell 4; have s5 : w1.cell? ⟨w.heap.size, 5, none⟩ = some (.slice p5 x.trips.length q5) := K1.out.cell 5; have s6 : w1.cell? ⟨w.heap.size, 6, none⟩ = some (.slice p6 x.hazards.length q6) := K1.out.cell 6; clear hb)
              | (go_at_call 16; refine (HLI.out _ B1.out).mono ?_; rintro e w2 ⟨rfl, hb⟩; have B2 : Hid (Below w.heap.size w w2) := Lib.hid (keep_trans B1.out hb); have K2 := Lib.hid (K1.out.after hb); clear s0 s1 s2 s3 s4 s5 s6; have s0 : w2.cell? ⟨w.heap.size, 0, none⟩ = some (.int .i64 x.horizon) := K2.out.cell 0; have s1 : w2.cell? ⟨w.heap.size, 1, none⟩ = some (.slice p1 x.stops.length q1) := K2.out.cell 1; have s2 : w2.cell? ⟨w.heap.size, 2, none⟩ = some (.slice p2 x.paths.length q2) := K2.out.cell 2; have s3 : w2.cell? ⟨w.heap.size, 3, none⟩ = some (.slice p3 x.doors.length q3) := K2.out.cell 3; have s4 : w2.cell? ⟨w.heap.size, 4, none⟩ = some (.slice p4 x.routes.length q4) := K2.out.cell 4; have s5 : w2.cell? ⟨w.heap.size, 5, none⟩ = some (.slice p5 x.trips.length q5) := K2.out.cell 5; have s6 : w2.cell? ⟨w.heap.size, 6, none⟩ = some (.slice p6 x.hazards.length q6) := K2.out.cell 6; clear hb)
              | (go_at_call 10; refine (HMK.out _ ⟨p1, p2, p3, p4, p5, p6, q1, q2, q3, q4, q5, q6⟩ (HS.out.later B2.out)).mono ?_; rintro e w3 ⟨a1, a2, a3, a4, a5, a6, b2, b3, b4, b5, b6, c1, c2, c3, c4, c5, c6, d2, d3, d4, d5, d6, rfl, hw, hb⟩; have B3 : Hid (Below w.heap.size w w3) := Lib.hid (keep_trans B2.out hb.out); have K3 := Lib.hid (K2.out.after hb.out); have HW3 : Hid (Wo w3 (· < w3.heap.size) (numX x) ⟨⟨a1, a2, a3, a4, a5, a6, c1, c2, c3, c4, c5, c6⟩, b2, b3, b4, b5, b6, d2, d3, d4, d5, d6⟩) := Lib.hid (hw.out.more fun b hk => hk.2); clear hb hw))
            obtain ⟨W4, hW⟩ : ∃ W, W = (w3.alloc (.cells #[.int .i64 x.horizon, .slice a1 x.stops.length c1, .slice a2 x.paths.length c2, .slice a3 x.doors.length c3, .slice a4 x.routes.length c4, .slice a5 x.trips.length c5, .slice a6 x.hazards.length c6, .slice b2 x.paths.length d2, .slice b3 x.doors.length d3, .slice b4 x.routes.length d4, .slice b5 x.trips.length d5, .slice b6 x.hazards.length d6] 32)).alloc (.cells #[.int .i64 0, .int .i64 0, .int .i64 0] 35) := ⟨_, rfl⟩
            have B34 : Hid (Below w3.heap.size w3 W4) := Lib.hid (by rw [hW]; exact two_box _ _ _)
            have KM : Hid (Blk W4 w3.heap.size 32 [.int .i64 x.horizon, .slice a1 x.stops.length c1, .slice a2 x.paths.length c2, .slice a3 x.doors.length c3, .slice a4 x.routes.length c4, .slice a5 x.trips.length c5, .slice a6 x.hazards.length c6, .slice b2 x.paths.length d2, .slice b3 x.doors.length d3, .slice b4 x.routes.length d4, .slice b5 x.trips.length d5, .slice b6 x.hazards.length d6]) := Lib.hid (by rw [hW]; exact (Blk.new _ _ _).alloc _)
            have KE : Hid (Blk W4 (w3.heap.size + 1) 35 [.int .i64 0, .int .i64 0, .int .i64 0]) := Lib.hid (by rw [hW]; exact Blk.new2 _ _ _ _)
            have KX := Lib.hid (K3.out.after B34.out)
            have HW4 := Lib.hid (HW3.out.later B34.out)
            have BW4 : Hid (Below w.heap.size w W4) := Lib.hid (keep_trans B3.out B34.out)
            rw [← hW]
            clear hW B1 B2 K1 K2 K3 HW3 s0 s1 s2 s3 s4 s5 s6
            have z0 : W4.cell? ⟨w3.heap.size + 1, 0, none⟩ = some (.int .i64 0) := KE.out.cell 0
            have m0 : W4.cell? ⟨w3.heap.size, 0, none⟩ = some (.int .i64 x.horizon) := KM.out.cell 0; have m1 : W4.cell? ⟨w3.heap.size, 1, none⟩ = some (.slice a1 x.stops.length c1) := KM.out.cell 1; have m2 : W4.cell? ⟨w3.heap.size, 2, none⟩ = some (.slice a2 x.paths.length c2) := KM.out.cell 2; have m3 : W4.cell? ⟨w3.heap.size, 3, none⟩ = some (.slice a3 x.doors.length c3) := KM.out.cell 3; have m4 : W4.cell? ⟨w3.heap.size, 4, none⟩ = some (.slice a4 x.routes.length c4) := KM.out.cell 4; have m5 : W4.cell? ⟨w3.heap.size, 5, none⟩ = some (.slice a5 x.trips.length c5) := KM.out.cell 5; have m6 : W4.cell? ⟨w3.heap.size, 6, none⟩ = some (.slice a6 x.hazards.length c6) := KM.out.cell 6; have m7 : W4.cell? ⟨w3.heap.size, 7, none⟩ = some (.slice b2 x.paths.length d2) := KM.out.cell 7; have m8 : W4.cell? ⟨w3.heap.size, 8, none⟩ = some (.slice b3 x.doors.length d3) := KM.out.cell 8; have m9 : W4.cell? ⟨w3.heap.size, 9, none⟩ = some (.slice b4 x.routes.length d4) := KM.out.cell 9; have m10 : W4.cell? ⟨w3.heap.size, 10, none⟩ = some (.slice b5 x.trips.length d5) := KM.out.cell 10; have m11 : W4.cell? ⟨w3.heap.size, 11, none⟩ = some (.slice b6 x.hazards.length d6) := KM.out.cell 11
            go_upto_region 9 with (go_at_call 13; refine (HF.out ⟨⟨a1, a2, a3, a4, a5, a6, c1, c2, c3, c4, c5, c6⟩, b2, b3, b4, b5, b6, d2, d3, d4, d5, d6⟩ _ HW4.out).mono ?_; rintro e w5 ⟨rfl, hb⟩; have B45 := Lib.hid hb; clear hb)
            have KX5 := Lib.hid (KX.out.after B45.out)
            have KM5 := Lib.hid (KM.out.after B45.out)
            have BW5 : Hid (Below w.heap.size w w5) := Lib.hid (keep_trans BW4.out B45.out)
            have HW5 := Lib.hid (HW4.out.later B45.out)
            clear z0 KE KX KM HW4 B34 B3 BW4 m0 m1 m2 m3 m4 m5 m6 m7 m8 m9 m10 m11
            have s0 : w5.cell? ⟨w.heap.size, 0, none⟩ = some (.int .i64 x.horizon) := KX5.out.cell 0; have s1 : w5.cell? ⟨w.heap.size, 1, none⟩ = some (.slice p1 x.stops.length q1) := KX5.out.cell 1; have s2 : w5.cell? ⟨w.heap.size, 2, none⟩ = some (.slice p2 x.paths.length q2) := KX5.out.cell 2; have s3 : w5.cell? ⟨w.heap.size, 3, none⟩ = some (.slice p3 x.doors.length q3) := KX5.out.cell 3; have s4 : w5.cell? ⟨w.heap.size, 4, none⟩ = some (.slice p4 x.routes.length q4) := KX5.out.cell 4; have s5 : w5.cell? ⟨w.heap.size, 5, none⟩ = some (.slice p5 x.trips.length q5) := KX5.out.cell 5; have s6 : w5.cell? ⟨w.heap.size, 6, none⟩ = some (.slice p6 x.hazards.length q6) := KX5.out.cell 6
            go_upto_region 10 with (go_at_call 18; refine (HOS.out _ BW5.out).mono ?_; rintro e w6 ⟨A1, A2, A3, A4, A5, A6, k1, k2, k3, k4, k5, k6, rfl, ⟨sb, ho⟩, hb⟩; have HSW := Lib.hid (SwS.of (p := ⟨A1, A2, A3, A4, A5, A6, k1, k2, k3, k4, k5, k6⟩) ho); have B56 := Lib.hid hb; clear ho hb)
            obtain ⟨W7, hW⟩ : ∃ W, W = w6.alloc (.cells #[.int .i64 x.horizon, .slice A1 x.stops.length k1, .slice A2 x.paths.length k2, .slice A3 x.doors.length k3, .slice A4 x.routes.length k4, .slice A5 x.trips.length k5, .slice A6 x.hazards.length k6] 44) := ⟨_, rfl⟩
            have B67 : Hid (Below w6.heap.size w6 W7) := Lib.hid (by rw [hW]; exact one_box _ _)
            have KY : Hid (Blk W7 w6.heap.size 44 [.int .i64 x.horizon, .slice A1 x.stops.length k1, .slice A2 x.paths.length k2, .slice A3 x.doors.length k3, .slice A4 x.routes.length k4, .slice A5 x.trips.length k5, .slice A6 x.hazards.length k6]) := Lib.hid (by rw [hW]; exact Blk.new _ _ _)
            have HSW7 := Lib.hid (HSW.out.after B67.out)
            have B57 : Hid (Below w5.heap.size w5 W7) := Lib.hid (keep_trans B56.out B67.out)
            have Z56 : Hid (w5.heap.size ≤ w6.heap.size ∧ w6.heap.size + 1 = W7.heap.size) := Lib.hid ⟨B56.out.size, by rw [hW]; simp⟩
            rw [← hW]
            clear hW HSW B56 B67 s0 s1 s2 s3 s4 s5 s6
            have y1 : W7.cell? ⟨w6.heap.size, 1, none⟩ = some (.slice A1 x.stops.length k1) := KY.out.cell 1
            have yf : W7.frozen? ⟨w6.heap.size, 1, none⟩ = false := KY.out.frozen 1
            have KYa : Hid (Blk (W7.alloc (.cells #[.string ⟨nm.toArray⟩] 9)) w6.heap.size 44 [.int .i64 x.horizon, .slice A1 x.stops.length k1, .slice A2 x.paths.length k2, .slice A3 x.doors.length k3, .slice A4 x.routes.length k4, .slice A5 x.trips.length k5, .slice A6 x.hazards.length k6]) := Lib.hid (KY.out.after (one_box _ _))
            have HSa := Lib.hid (HSW7.out.after (one_box W7 (.cells #[.string ⟨nm.toArray⟩] 9)))
            have HLI : Hid (Rd (W7.alloc (.cells #[.string ⟨nm.toArray⟩] 9)) (· < (W7.alloc (.cells #[.string ⟨nm.toArray⟩] 9)).heap.size) (some ⟨W7.heap.size, 0, none⟩) [.string ⟨nm.toArray⟩]) := Lib.hid (lit_at _ _ _ _ _ rfl rfl)
            have hl1 := HX.out.l1
            have zz : w5.heap.size + 1 + 1 ≤ (W7.alloc (.cells #[.string ⟨nm.toArray⟩] 9)).heap.size := by have := Z56.out; simp; omega
            go_upto_region 11 with (at_builtin; refine wpList_append_g rfl (.tmp 55) (.tmp 57) 23 rfl (w5.heap.size + 1 + 1) 9 _ 1 16 Tryz.underlying23 info_Str rfl (by omega) (by omega) (.slice A1 x.stops.length k1) x.stops.length (cs strC x.stops) rfl (Lib.hid HSa.out.o1) _ _ 1 1 _ rfl (Lib.hid rfl) HLI (by intro u hu; simp at hu; subst hu; rfl) (by omega) zz ?_; intro v' w8 hown hg hor; obtain ⟨A1n, k1n, rfl, hcap, -⟩ := own_form hown.out; have KY8 : Hid (Blk w8 w6.heap.size 44 [.int .i64 x.horizon, .slice A1 x.stops.length k1, .slice A2 x.paths.length k2, .slice A3 x.doors.length k3, .slice A4 x.routes.length k4, .slice A5 x.trips.length k5, .slice A6 x.hazards.length k6]) := Lib.hid (KYa.out.grown hg.out (fun e => own_ne_blk HSa.out.o1 KYa.out (by decide) _ e.symm rfl)); have q1 : w8.cell? ⟨w6.heap.size, 1, none⟩ = some (.slice A1 x.stops.length k1) := KY8.out.cell 1; have qf : w8.frozen? ⟨w6.heap.size, 1, none⟩ = false := KY8.out.frozen 1; have HAD := Lib.hid (SwS.add1 (a := nm) HSa.out KYa.out hown.out hg.out hor.out))
            obtain ⟨W9, hW⟩ : ∃ W, W = w8.setCell ⟨w6.heap.size, 1, none⟩ (.slice A1n (x.stops.length + 1) k1n) := ⟨_, rfl⟩
            have B59 : Hid (Below w5.heap.size w5 W9) := Lib.hid (by rw [hW]; exact own_below HSa.out.o1 (keep_trans B57.out (one_box _ _)) hg.out (by omega) (by omega) (by have := Z56.out; omega))
            have HSM : Hid (SwS W9 (w5.heap.size + 1) w6.heap.size (moreS x nm) ⟨A1n, A2, A3, A4, A5, A6, k1n, k2, k3, k4, k5, k6⟩) := Lib.hid (by rw [hW]; exact HAD.out.1)
            have KY9 : Hid (Blk W9 w6.heap.size 44 [.int .i64 x.horizon, .slice A1n (x.stops.length + 1) k1n, .slice A2 x.paths.length k2, .slice A3 x.doors.length k3, .slice A4 x.routes.length k4, .slice A5 x.trips.length k5, .slice A6 x.hazards.length k6]) := Lib.hid (by rw [hW]; exact HAD.out.2)
            have Z59 : Hid (w5.heap.size ≤ w6.heap.size) := Lib.hid Z56.out.1
            have Zx : Hid (w.heap.size < w5.heap.size) := Lib.hid KX5.out.lt
            rw [← hW]
            clear hW HAD HSa HSW7 KYa KY KY8 HLI B57 Z56 hown hg hor hcap q1 qf y1 yf zz
            have BW9 : Hid (Below w.heap.size w W9) := Lib.hid (keep_trans BW5.out B59.out)
            have KX9 := Lib.hid (KX5.out.after B59.out)
            have KM9 := Lib.hid (KM5.out.after B59.out)
            have HW9 := Lib.hid (HW5.out.later B59.out)
            clear KX5 KM5 HW5 BW5 B45
            have y0 : W9.cell? ⟨w6.heap.size, 0, none⟩ = some (.int .i64 x.horizon) := KY9.out.cell 0; have y1 : W9.cell? ⟨w6.heap.size, 1, none⟩ = some (.slice A1n (x.stops.length + 1) k1n) := KY9.out.cell 1; have y2 : W9.cell? ⟨w6.heap.size, 2, none⟩ = some (.slice A2 x.paths.length k2) := KY9.out.cell 2; have y3 : W9.cell? ⟨w6.heap.size, 3, none⟩ = some (.slice A3 x.doors.length k3) := KY9.out.cell 3; have y4 : W9.cell? ⟨w6.heap.size, 4, none⟩ = some (.slice A4 x.routes.length k4) := KY9.out.cell 4; have y5 : W9.cell? ⟨w6.heap.size, 5, none⟩ = some (.slice A5 x.trips.length k5) := KY9.out.cell 5; have y6 : W9.cell? ⟨w6.heap.size, 6, none⟩ = some (.slice A6 x.hazards.length k6) := KY9.out.cell 6
            by_cases ha : nm ∈ (namesX x).flat
            · skip
              obtain ⟨⟨we, wk, wa⟩, hwx⟩ : ∃ k, k = wrongX (moreS x nm) := ⟨_, rfl⟩
              obtain rfl : we = 6 := by have h6 := more_there HOK.out HLT.out.l1 ha; rw [← hwx] at h6; exact h6
              have HMK : Hid (∀ w1, Sh w1 (· < w1.heap.size) (moreS x nm) ⟨A1n, A2, A3, A4, A5, A6, k1n, k2, k3, k4, k5, k6⟩ → Calls Tryz.prog 10 #[.agg #[.int .i64 x.horizon, .slice A1n (x.stops.length + 1) k1n, .slice A2 x.paths.length k2, .slice A3 x.doors.length k3, .slice A4 x.routes.length k4, .slice A5 x.trips.length k5, .slice A6 x.hazards.length k6]] w1 (fun e w' => ∃ q : WoA, e = .returned (.tuple #[woF zWo q, .agg #[.int .i64 6, .int .i64 wk, .int .i64 wa]]) ∧ Below w1.heap.size w1 w')) := Lib.hid (fun w1 hs => by have hc := make_no hwx.symm (show (6 : Int) ≠ 0 by decide) _ w1 hs (xlt_moreS HLT.out nm); simpa only [shV, moreS, List.length_append, List.length_cons, List.length_nil, Nat.zero_add] using hc)
              dsimp only [woF, zWo, List.length_nil] at HMK
              clear hwx
              have kn : fk ≠ 0 := by have h0 := find_kind ha; rw [← HFK.out] at h0; exact h0
              have kn1 : (fk != 0) = true := by simpa using kn
              have kn2 : (fk == 0) = false := by simpa using kn
              clear kn
              go_wp2_with (go_at_call 10; refine (HMK.out _ HSM.out.sh).mono ?_; rintro e w10 ⟨q, rfl, hb⟩; obtain ⟨⟨a1s, a2s, a3s, a4s, a5s, a6s, c1s, c2s, c3s, c4s, c5s, c6s⟩, b2s, b3s, b4s, b5s, b6s, d2s, d3s, d4s, d5s, d6s⟩ := q; have B10 : Hid (Below w.heap.size w w10) := Lib.hid (keep_trans BW9.out hb); clear hb)
              go_ret
              exact ⟨rfl, keep_trans B10.out (two_box _ _ _)⟩
            · have kn : fk = 0 := by have h0 := find_none ha; rw [← HFK.out] at h0; exact congrArg Prod.fst h0
              subst kn
              by_cases hb : nameB nm = true
              · skip
                have HOK2 := Lib.hid (more_ok HOK.out HLT.out.l1 ha hb)
                have HNM := Lib.hid (more_num (good_parts HOK.out).2.2 ha)
                have HNB := Lib.hid hb
                have HNA := Lib.hid ha
                clear ha hb
                have HMK : Hid (∀ w1, Sh w1 (· < w1.heap.size) (moreS x nm) ⟨A1n, A2, A3, A4, A5, A6, k1n, k2, k3, k4, k5, k6⟩ → Calls Tryz.prog 10 #[.agg #[.int .i64 x.horizon, .slice A1n (x.stops.length + 1) k1n, .slice A2 x.paths.length k2, .slice A3 x.doors.length k3, .slice A4 x.routes.length k4, .slice A5 x.trips.length k5, .slice A6 x.hazards.length k6]] w1 (MkL w1 x (x.stops.length + 1) x.paths.length (numX (moreS x nm)))) := Lib.hid (fun w1 hs => make_l (x := x) (y := moreS x nm) (x.stops.length + 1) x.paths.length (congrArg WrM.err HOK2.out) (xlt_moreS HLT.out nm) rfl (by simp [moreS]) rfl rfl rfl rfl rfl ⟨A1n, A2, A3, A4, A5, A6, k1n, k2, k3, k4, k5, k6⟩ w1 hs)
                have HFM : Hid (∀ w1 (q : WoA), Wo w1 (· < w1.heap.size) (numX (moreS x nm)) q → Calls Tryz.prog 13 #[.agg #[.int .i64 x.horizon, .slice q.n.a1 (x.stops.length + 1) q.n.c1, .slice q.n.a2 x.paths.length q.n.c2, .slice q.n.a3 x.doors.length q.n.c3, .slice q.n.a4 x.routes.length q.n.c4, .slice q.n.a5 x.trips.length q.n.c5, .slice q.n.a6 x.hazards.length q.n.c6, .slice q.b2 x.paths.length q.d2, .slice q.b3 x.doors.length q.d3, .slice q.b4 x.routes.length q.d4, .slice q.b5 x.trips.length q.d5, .slice q.b6 x.hazards.length q.d6], .string ⟨nm.toArray⟩] w1 (fun e w' => e = .returned (.tuple #[.int .i64 1, .int .i64 (x.stops.length : Int)]) ∧ Below w1.heap.size w1 w')) := Lib.hid (fun w1 q hs => find_l (x := x) (y := moreS x nm) (x.stops.length + 1) x.paths.length nm 1 _ (more_find HOK2.out) (xlt_moreS HLT.out nm) rfl (by simp [moreS]) rfl rfl rfl rfl rfl q w1 hs)
                have HOW := Lib.hid (fun q w1 (hs : Wo w1 (· < w1.heap.size) (numX x) q) => own_good x q w1 hs HX.out)
                dsimp only [woX] at HOW
                go_upto_region 12 with (go_at_call 10; refine (HMK.out _ HSM.out.sh).mono ?_; rintro e w10 ⟨a1s, a2s, a3s, a4s, a5s, a6s, b2s, b3s, b4s, b5s, b6s, c1s, c2s, c3s, c4s, c5s, c6s, d2s, d3s, d4s, d5s, d6s, rfl, HV10, B910⟩)
                obtain ⟨W11, hW⟩ : ∃ W, W = (w10.alloc (.cells #[.int .i64 x.horizon, .slice a1s (x.stops.length + 1) c1s, .slice a2s x.paths.length c2s, .slice a3s x.doors.length c3s, .slice a4s x.routes.length c4s, .slice a5s x.trips.length c5s, .slice a6s x.hazards.length c6s, .slice b2s x.paths.length d2s, .slice b3s x.doors.length d3s, .slice b4s x.routes.length d4s, .slice b5s x.trips.length d5s, .slice b6s x.hazards.length d6s] 32)).alloc (.cells #[.int .i64 0, .int .i64 0, .int .i64 0] 35) := ⟨_, rfl⟩
                have B11 : Hid (Below w10.heap.size w10 W11) := Lib.hid (by rw [hW]; exact two_box _ _ _)
                have KV : Hid (Blk W11 w10.heap.size 32 [.int .i64 x.horizon, .slice a1s (x.stops.length + 1) c1s, .slice a2s x.paths.length c2s, .slice a3s x.doors.length c3s, .slice a4s x.routes.length c4s, .slice a5s x.trips.length c5s, .slice a6s x.hazards.length c6s, .slice b2s x.paths.length d2s, .slice b3s x.doors.length d3s, .slice b4s x.routes.length d4s, .slice b5s x.trips.length d5s, .slice b6s x.hazards.length d6s]) := Lib.hid (by rw [hW]; exact (Blk.new _ _ _).alloc _)
                have KF : Hid (Blk W11 (w10.heap.size + 1) 35 [.int .i64 0, .int .i64 0, .int .i64 0]) := Lib.hid (by rw [hW]; exact Blk.new2 _ _ _ _)
                rw [← hW]
                clear hW y0 y1 y2 y3 y4 y5 y6
                have B911 : Hid (Below W9.heap.size W9 W11) := Lib.hid (keep_trans B910.out B11.out)
                have HSM11 := Lib.hid (HSM.out.after B911.out)
                have KY11 := Lib.hid (KY9.out.after B911.out)
                have KX11 := Lib.hid (KX9.out.after B911.out)
                have KM11 := Lib.hid (KM9.out.after B911.out)
                have HW11 := Lib.hid (HW9.out.later B911.out)
                have HV11 := Lib.hid (Wo.later (HV10.out.more fun b hb => hb.2) B11.out)
                have BW11 : Hid (Below w.heap.size w W11) := Lib.hid (keep_trans BW9.out B911.out)
                clear HSM KY9 KX9 KM9 HW9 HV10 BW9 B910 B911 B11 HMK
                have z0 : W11.cell? ⟨w10.heap.size + 1, 0, none⟩ = some (.int .i64 0) := KF.out.cell 0
                have s0 : W11.cell? ⟨w.heap.size, 0, none⟩ = some (.int .i64 x.horizon) := KX11.out.cell 0; have s1 : W11.cell? ⟨w.heap.size, 1, none⟩ = some (.slice p1 x.stops.length q1) := KX11.out.cell 1; have s2 : W11.cell? ⟨w.heap.size, 2, none⟩ = some (.slice p2 x.paths.length q2) := KX11.out.cell 2; have s3 : W11.cell? ⟨w.heap.size, 3, none⟩ = some (.slice p3 x.doors.length q3) := KX11.out.cell 3; have s4 : W11.cell? ⟨w.heap.size, 4, none⟩ = some (.slice p4 x.routes.length q4) := KX11.out.cell 4; have s5 : W11.cell? ⟨w.heap.size, 5, none⟩ = some (.slice p5 x.trips.length q5) := KX11.out.cell 5; have s6 : W11.cell? ⟨w.heap.size, 6, none⟩ = some (.slice p6 x.hazards.length q6) := KX11.out.cell 6
                have m0 : W11.cell? ⟨w10.heap.size, 0, none⟩ = some (.int .i64 x.horizon) := KV.out.cell 0; have m1 : W11.cell? ⟨w10.heap.size, 1, none⟩ = some (.slice a1s (x.stops.length + 1) c1s) := KV.out.cell 1; have m2 : W11.cell? ⟨w10.heap.size, 2, none⟩ = some (.slice a2s x.paths.length c2s) := KV.out.cell 2; have m3 : W11.cell? ⟨w10.heap.size, 3, none⟩ = some (.slice a3s x.doors.length c3s) := KV.out.cell 3; have m4 : W11.cell? ⟨w10.heap.size, 4, none⟩ = some (.slice a4s x.routes.length c4s) := KV.out.cell 4; have m5 : W11.cell? ⟨w10.heap.size, 5, none⟩ = some (.slice a5s x.trips.length c5s) := KV.out.cell 5; have m6 : W11.cell? ⟨w10.heap.size, 6, none⟩ = some (.slice a6s x.hazards.length c6s) := KV.out.cell 6; have m7 : W11.cell? ⟨w10.heap.size, 7, none⟩ = some (.slice b2s x.paths.length d2s) := KV.out.cell 7; have m8 : W11.cell? ⟨w10.heap.size, 8, none⟩ = some (.slice b3s x.doors.length d3s) := KV.out.cell 8; have m9 : W11.cell? ⟨w10.heap.size, 9, none⟩ = some (.slice b4s x.routes.length d4s) := KV.out.cell 9; have m10 : W11.cell? ⟨w10.heap.size, 10, none⟩ = some (.slice b5s x.trips.length d5s) := KV.out.cell 10; have m11 : W11.cell? ⟨w10.heap.size, 11, none⟩ = some (.slice b6s x.hazards.length d6s) := KV.out.cell 11
                go_upto_region 18 with (go_at_call 13; refine (HFM.out _ ⟨⟨a1s, a2s, a3s, a4s, a5s, a6s, c1s, c2s, c3s, c4s, c5s, c6s⟩, b2s, b3s, b4s, b5s, b6s, d2s, d3s, d4s, d5s, d6s⟩ HV11.out).mono ?_; rintro e w12 ⟨rfl, hb⟩; have B12 : Hid (Below W11.heap.size W11 w12) := Lib.hid hb; clear hb)
                clear z0 s0 s1 s2 s3 s4 s5 s6 m0 m1 m2 m3 m4 m5 m6 m7 m8 m9 m10 m11
                have HSM12 := Lib.hid (HSM11.out.after B12.out)
                have KY12 := Lib.hid (KY11.out.after B12.out)
                have KX12 := Lib.hid (KX11.out.after B12.out)
                have KM12 := Lib.hid (KM11.out.after B12.out)
                have KV12 := Lib.hid (KV.out.after B12.out)
                have HW12 := Lib.hid (HW11.out.later B12.out)
                have HV12 := Lib.hid (HV11.out.later B12.out)
                have BW12 : Hid (Below w.heap.size w w12) := Lib.hid (keep_trans BW11.out B12.out)
                clear HSM11 KY11 KX11 KM11 KV HW11 HV11 BW11 B12 KF HFM
                have HV2 : Hid (∀ k, (Value.slice A2 x.paths.length k2).ownBlock = some k → k < w12.heap.size) := Lib.hid (fun k e => (HSM12.out.o2.lt k e).2)
                have Z612 : Hid (w6.heap.size < w12.heap.size) := Lib.hid KY12.out.lt
                have m0 : w12.cell? ⟨w3.heap.size, 0, none⟩ = some (.int .i64 x.horizon) := KM12.out.cell 0; have m1 : w12.cell? ⟨w3.heap.size, 1, none⟩ = some (.slice a1 x.stops.length c1) := KM12.out.cell 1; have m2 : w12.cell? ⟨w3.heap.size, 2, none⟩ = some (.slice a2 x.paths.length c2) := KM12.out.cell 2; have m3 : w12.cell? ⟨w3.heap.size, 3, none⟩ = some (.slice a3 x.doors.length c3) := KM12.out.cell 3; have m4 : w12.cell? ⟨w3.heap.size, 4, none⟩ = some (.slice a4 x.routes.length c4) := KM12.out.cell 4; have m5 : w12.cell? ⟨w3.heap.size, 5, none⟩ = some (.slice a5 x.trips.length c5) := KM12.out.cell 5; have m6 : w12.cell? ⟨w3.heap.size, 6, none⟩ = some (.slice a6 x.hazards.length c6) := KM12.out.cell 6; have m7 : w12.cell? ⟨w3.heap.size, 7, none⟩ = some (.slice b2 x.paths.length d2) := KM12.out.cell 7; have m8 : w12.cell? ⟨w3.heap.size, 8, none⟩ = some (.slice b3 x.doors.length d3) := KM12.out.cell 8; have m9 : w12.cell? ⟨w3.heap.size, 9, none⟩ = some (.slice b4 x.routes.length d4) := KM12.out.cell 9; have m10 : w12.cell? ⟨w3.heap.size, 10, none⟩ = some (.slice b5 x.trips.length d5) := KM12.out.cell 10; have m11 : w12.cell? ⟨w3.heap.size, 11, none⟩ = some (.slice b6 x.hazards.length d6) := KM12.out.cell 11
                go_upto_region 19 with (go_at_call 20; refine (HOW.out ⟨⟨a1, a2, a3, a4, a5, a6, c1, c2, c3, c4, c5, c6⟩, b2, b3, b4, b5, b6, d2, d3, d4, d5, d6⟩ _ HW12.out).mono ?_; rintro e w13 ⟨a1w, a2w, a3w, a4w, a5w, a6w, b2w, b3w, b4w, b5w, b6w, c1w, c2w, c3w, c4w, c5w, c6w, d2w, d3w, d4w, d5w, d6w, rfl, HO13, B13⟩)
                obtain ⟨W14, hW⟩ : ∃ W, W = w13.alloc (.cells #[.int .i64 x.horizon, .slice a1w x.stops.length c1w, .slice a2w x.paths.length c2w, .slice a3w x.doors.length c3w, .slice a4w x.routes.length c4w, .slice a5w x.trips.length c5w, .slice a6w x.hazards.length c6w, .slice b2w x.paths.length d2w, .slice b3w x.doors.length d3w, .slice b4w x.routes.length d4w, .slice b5w x.trips.length d5w, .slice b6w x.hazards.length d6w] 32) := ⟨_, rfl⟩
                have KW : Hid (Blk W14 w13.heap.size 32 [.int .i64 x.horizon, .slice a1w x.stops.length c1w, .slice a2w x.paths.length c2w, .slice a3w x.doors.length c3w, .slice a4w x.routes.length c4w, .slice a5w x.trips.length c5w, .slice a6w x.hazards.length c6w, .slice b2w x.paths.length d2w, .slice b3w x.doors.length d3w, .slice b4w x.routes.length d4w, .slice b5w x.trips.length d5w, .slice b6w x.hazards.length d6w]) := Lib.hid (by rw [hW]; exact Blk.new _ _ _)
                have HO14 : Hid (OwW W14 w12.heap.size w13.heap.size (numX x) ⟨⟨a1w, a2w, a3w, a4w, a5w, a6w, c1w, c2w, c3w, c4w, c5w, c6w⟩, b2w, b3w, b4w, b5w, b6w, d2w, d3w, d4w, d5w, d6w⟩) := Lib.hid (by rw [hW]; exact HO13.out.after (one_box _ _))
                have B1214 : Hid (Below w12.heap.size w12 W14) := Lib.hid (by rw [hW]; exact keep_trans B13.out (one_box _ _))
                have Z14 : Hid (w12.heap.size ≤ w13.heap.size ∧ w13.heap.size + 1 = W14.heap.size) := Lib.hid ⟨B13.out.size, by rw [hW]; simp⟩
                rw [← hW]
                clear hW HO13 B13 HOW KM12 HW12 m0 m1 m2 m3 m4 m5 m6 m7 m8 m9 m10 m11
                have y1 : W14.cell? ⟨w13.heap.size, 1, none⟩ = some (.slice a1w x.stops.length c1w) := KW.out.cell 1
                have yf : W14.frozen? ⟨w13.heap.size, 1, none⟩ = false := KW.out.frozen 1
                have KWa : Hid (Blk (W14.alloc (.cells #[.string ⟨nm.toArray⟩] 9)) w13.heap.size 32 [.int .i64 x.horizon, .slice a1w x.stops.length c1w, .slice a2w x.paths.length c2w, .slice a3w x.doors.length c3w, .slice a4w x.routes.length c4w, .slice a5w x.trips.length c5w, .slice a6w x.hazards.length c6w, .slice b2w x.paths.length d2w, .slice b3w x.doors.length d3w, .slice b4w x.routes.length d4w, .slice b5w x.trips.length d5w, .slice b6w x.hazards.length d6w]) := Lib.hid (KW.out.after (one_box _ _))
                have HSa := Lib.hid (HO14.out.after (one_box W14 (.cells #[.string ⟨nm.toArray⟩] 9)))
                have HLT2 : Hid (Rd (W14.alloc (.cells #[.string ⟨nm.toArray⟩] 9)) (· < (W14.alloc (.cells #[.string ⟨nm.toArray⟩] 9)).heap.size) (some ⟨W14.heap.size, 0, none⟩) [.string ⟨nm.toArray⟩]) := Lib.hid (lit_at _ _ _ _ _ rfl rfl)
                have zz : w12.heap.size + 1 ≤ (W14.alloc (.cells #[.string ⟨nm.toArray⟩] 9)).heap.size := by have := Z14.out; simp; omega
                go_upto_region 20 with (at_builtin; refine wpList_append_g rfl (.tmp 89) (.tmp 91) 23 rfl (w12.heap.size + 1) 9 _ 1 16 Tryz.underlying23 info_Str rfl (by omega) (by omega) (.slice a1w x.stops.length c1w) x.stops.length (cs strC x.stops) rfl (Lib.hid HSa.out.o1) _ _ 1 1 _ rfl (Lib.hid rfl) HLT2 (by intro u hu; simp at hu; subst hu; rfl) (by omega) zz ?_; intro v' w15 hown hg hor; obtain ⟨A1w, k1w, rfl, hcap, -⟩ := own_form hown.out; have KW15 : Hid (Blk w15 w13.heap.size 32 [.int .i64 x.horizon, .slice a1w x.stops.length c1w, .slice a2w x.paths.length c2w, .slice a3w x.doors.length c3w, .slice a4w x.routes.length c4w, .slice a5w x.trips.length c5w, .slice a6w x.hazards.length c6w, .slice b2w x.paths.length d2w, .slice b3w x.doors.length d3w, .slice b4w x.routes.length d4w, .slice b5w x.trips.length d5w, .slice b6w x.hazards.length d6w]) := Lib.hid (KWa.out.grown hg.out (fun e => own_ne_blk HSa.out.o1 KWa.out (by decide) _ e.symm rfl)); have q1 : w15.cell? ⟨w13.heap.size, 1, none⟩ = some (.slice a1w x.stops.length c1w) := KW15.out.cell 1; have qf : w15.frozen? ⟨w13.heap.size, 1, none⟩ = false := KW15.out.frozen 1; have HAD := Lib.hid (OwW.add1 (a := nm) HSa.out KWa.out hown.out hg.out hor.out))
                obtain ⟨W16, hW⟩ : ∃ W, W = w15.setCell ⟨w13.heap.size, 1, none⟩ (.slice A1w (x.stops.length + 1) k1w) := ⟨_, rfl⟩
                have B16 : Hid (Below w12.heap.size w12 W16) := Lib.hid (by rw [hW]; exact own_below HSa.out.o1 (keep_trans B1214.out (one_box _ _)) hg.out (by omega) (by omega) (by have := Z14.out; omega))
                have HO16 : Hid (OwW W16 w12.heap.size w13.heap.size ({ numX x with names := { (numX x).names with stops := (numX x).names.stops ++ [nm] } } : WorldM) ⟨⟨A1w, a2w, a3w, a4w, a5w, a6w, k1w, c2w, c3w, c4w, c5w, c6w⟩, b2w, b3w, b4w, b5w, b6w, d2w, d3w, d4w, d5w, d6w⟩) := Lib.hid (by rw [hW]; exact HAD.out.1)
                have KW16 : Hid (Blk W16 w13.heap.size 32 [.int .i64 x.horizon, .slice A1w (x.stops.length + 1) k1w, .slice a2w x.paths.length c2w, .slice a3w x.doors.length c3w, .slice a4w x.routes.length c4w, .slice a5w x.trips.length c5w, .slice a6w x.hazards.length c6w, .slice b2w x.paths.length d2w, .slice b3w x.doors.length d3w, .slice b4w x.routes.length d4w, .slice b5w x.trips.length d5w, .slice b6w x.hazards.length d6w]) := Lib.hid (by rw [hW]; exact HAD.out.2)
                have Z16 : Hid (w12.heap.size ≤ w13.heap.size) := Lib.hid Z14.out.1
                rw [← hW]
                clear hW HAD HSa HO14 KWa KW KW15 HLT2 B1214 Z14 hown hg hor hcap q1 qf y1 yf zz
                have HSM16 := Lib.hid (HSM12.out.after B16.out)
                have KY16 := Lib.hid (KY12.out.after B16.out)
                have KX16 := Lib.hid (KX12.out.after B16.out)
                have KV16 := Lib.hid (KV12.out.after B16.out)
                have HV16 := Lib.hid (HV12.out.later B16.out)
                have BW16 : Hid (Below w.heap.size w W16) := Lib.hid (keep_trans BW12.out B16.out)
                have HWW : Hid (Wo W16 (· < W16.heap.size) (numX (moreS x nm)) ⟨⟨A1w, a2w, a3w, a4w, a5w, a6w, k1w, c2w, c3w, c4w, c5w, c6w⟩, b2w, b3w, b4w, b5w, b6w, d2w, d3w, d4w, d5w, d6w⟩) := Lib.hid (by rw [HNM.out]; exact HO16.out.wo.more fun b hb => hb.2)
                have HKW : Hid (∀ w1, Wo w1 (· < w1.heap.size) (numX (moreS x nm)) ⟨⟨a1s, a2s, a3s, a4s, a5s, a6s, c1s, c2s, c3s, c4s, c5s, c6s⟩, b2s, b3s, b4s, b5s, b6s, d2s, d3s, d4s, d5s, d6s⟩ → Wo w1 (· < w1.heap.size) (numX (moreS x nm)) ⟨⟨A1w, a2w, a3w, a4w, a5w, a6w, k1w, c2w, c3w, c4w, c5w, c6w⟩, b2w, b3w, b4w, b5w, b6w, d2w, d3w, d4w, d5w, d6w⟩ → Calls Tryz.prog 23 #[.agg #[.int .i64 x.horizon, .slice a1s (x.stops.length + 1) c1s, .slice a2s x.paths.length c2s, .slice a3s x.doors.length c3s, .slice a4s x.routes.length c4s, .slice a5s x.trips.length c5s, .slice a6s x.hazards.length c6s, .slice b2s x.paths.length d2s, .slice b3s x.doors.length d3s, .slice b4s x.routes.length d4s, .slice b5s x.trips.length d5s, .slice b6s x.hazards.length d6s], .agg #[.int .i64 x.horizon, .slice A1w (x.stops.length + 1) k1w, .slice a2w x.paths.length c2w, .slice a3w x.doors.length c3w, .slice a4w x.routes.length c4w, .slice a5w x.trips.length c5w, .slice a6w x.hazards.length c6w, .slice b2w x.paths.length d2w, .slice b3w x.doors.length d3w, .slice b4w x.routes.length d4w, .slice b5w x.trips.length d5w, .slice b6w x.hazards.length d6w]] w1 (fun e w' => e = .returned (.bool true) ∧ Below w1.heap.size w1 w')) := Lib.hid (fun w1 h1 h2 => kworld_l _ _ (by simp [woF, numX, namesX, moreS]) (by simp [woF, numX, namesX, moreS]) (wlt_num (xlt_moreS HLT.out nm)) w1 h1 h2)
                clear HSM12 KY12 KX12 KV12 HV12 BW12 B16
                have m0 : W16.cell? ⟨w10.heap.size, 0, none⟩ = some (.int .i64 x.horizon) := KV16.out.cell 0; have m1 : W16.cell? ⟨w10.heap.size, 1, none⟩ = some (.slice a1s (x.stops.length + 1) c1s) := KV16.out.cell 1; have m2 : W16.cell? ⟨w10.heap.size, 2, none⟩ = some (.slice a2s x.paths.length c2s) := KV16.out.cell 2; have m3 : W16.cell? ⟨w10.heap.size, 3, none⟩ = some (.slice a3s x.doors.length c3s) := KV16.out.cell 3; have m4 : W16.cell? ⟨w10.heap.size, 4, none⟩ = some (.slice a4s x.routes.length c4s) := KV16.out.cell 4; have m5 : W16.cell? ⟨w10.heap.size, 5, none⟩ = some (.slice a5s x.trips.length c5s) := KV16.out.cell 5; have m6 : W16.cell? ⟨w10.heap.size, 6, none⟩ = some (.slice a6s x.hazards.length c6s) := KV16.out.cell 6; have m7 : W16.cell? ⟨w10.heap.size, 7, none⟩ = some (.slice b2s x.paths.length d2s) := KV16.out.cell 7; have m8 : W16.cell? ⟨w10.heap.size, 8, none⟩ = some (.slice b3s x.doors.length d3s) := KV16.out.cell 8; have m9 : W16.cell? ⟨w10.heap.size, 9, none⟩ = some (.slice b4s x.routes.length d4s) := KV16.out.cell 9; have m10 : W16.cell? ⟨w10.heap.size, 10, none⟩ = some (.slice b5s x.trips.length d5s) := KV16.out.cell 10; have m11 : W16.cell? ⟨w10.heap.size, 11, none⟩ = some (.slice b6s x.hazards.length d6s) := KV16.out.cell 11
                have t0 : W16.cell? ⟨w13.heap.size, 0, none⟩ = some (.int .i64 x.horizon) := KW16.out.cell 0; have t1 : W16.cell? ⟨w13.heap.size, 1, none⟩ = some (.slice A1w (x.stops.length + 1) k1w) := KW16.out.cell 1; have t2 : W16.cell? ⟨w13.heap.size, 2, none⟩ = some (.slice a2w x.paths.length c2w) := KW16.out.cell 2; have t3 : W16.cell? ⟨w13.heap.size, 3, none⟩ = some (.slice a3w x.doors.length c3w) := KW16.out.cell 3; have t4 : W16.cell? ⟨w13.heap.size, 4, none⟩ = some (.slice a4w x.routes.length c4w) := KW16.out.cell 4; have t5 : W16.cell? ⟨w13.heap.size, 5, none⟩ = some (.slice a5w x.trips.length c5w) := KW16.out.cell 5; have t6 : W16.cell? ⟨w13.heap.size, 6, none⟩ = some (.slice a6w x.hazards.length c6w) := KW16.out.cell 6; have t7 : W16.cell? ⟨w13.heap.size, 7, none⟩ = some (.slice b2w x.paths.length d2w) := KW16.out.cell 7; have t8 : W16.cell? ⟨w13.heap.size, 8, none⟩ = some (.slice b3w x.doors.length d3w) := KW16.out.cell 8; have t9 : W16.cell? ⟨w13.heap.size, 9, none⟩ = some (.slice b4w x.routes.length d4w) := KW16.out.cell 9; have t10 : W16.cell? ⟨w13.heap.size, 10, none⟩ = some (.slice b5w x.trips.length d5w) := KW16.out.cell 10; have t11 : W16.cell? ⟨w13.heap.size, 11, none⟩ = some (.slice b6w x.hazards.length d6w) := KW16.out.cell 11
                have en : ((x.stops.length : Int) != (x.stops.length : Int)) = false := by simp
                go_upto_region 22 with (go_at_call 23; refine (HKW.out _ HV16.out HWW.out).mono ?_; rintro e w17 ⟨rfl, hb⟩; have B17 : Hid (Below W16.heap.size W16 w17) := Lib.hid hb; clear hb)
                clear en HKW HWW HV16 KV16 m0 m1 m2 m3 m4 m5 m6 m7 m8 m9 m10 m11 t0 t1 t2 t3 t4 t5 t6 t7 t8 t9 t10 t11
                have HSM17 := Lib.hid (HSM16.out.after B17.out)
                have KY17 := Lib.hid (KY16.out.after B17.out)
                have KX17 := Lib.hid (KX16.out.after B17.out)
                have HO17 := Lib.hid (HO16.out.after B17.out)
                have KW17 := Lib.hid (KW16.out.after B17.out)
                have BW17 : Hid (Below w.heap.size w w17) := Lib.hid (keep_trans BW16.out B17.out)
                clear HSM16 KY16 KX16 HO16 KW16 BW16 B17
                by_cases hz : x.stops.length = 0
                · have hz1 : ((x.stops.length : Int) == 0) = true := by simpa using hz
                  clear hz
                  go_wp2_with fail
                  go_ret
                  exact ⟨rfl, BW17.out⟩
                · have hz1 : ((x.stops.length : Int) == 0) = false := by simpa using hz
                  have Z5 : Hid (w.heap.size ≤ w5.heap.size) := Lib.hid (Nat.le_of_lt Zx.out)
                  go_upto_region 24 with fail
                  obtain ⟨b0, hb0⟩ : ∃ b0, x.stops[0]? = some b0 := ⟨_, List.getElem?_eq_getElem (by omega)⟩
                  obtain ⟨ad, hA, hS0, h0, -⟩ := rd_at 1 (fun _ => rfl) (by omega) HS.out.r1 hb0
                  dsimp only at hA
                  subst hA
                  have HB0 := Lib.hid hb0
                  have hx0 : 0 < x.stops.length := by omega
                  have i0 : w.cell? ad = some (.string ⟨b0.toArray⟩) := h0
                  have KC : Hid (∀ w', Below w5.heap.size w17 w' → w'.cell? ⟨w.heap.size, 1, none⟩ = some (.slice (some ad) x.stops.length q1) ∧ w'.cell? ad = some (.string ⟨b0.toArray⟩)) := Lib.hid (fun w' hb => ⟨(KX17.out.below hb Zx.out).cell 1, ((cell_keep hb (Nat.lt_trans hS0 Zx.out)).trans (cell_keep BW17.out hS0)).trans i0⟩)
                  clear h0 hb0 hz hS0 i0
                  have g1 : ¬ 9223372036854775807 < 1 + nm.length := by have := HNL.out.1; omega
                  have g2 : ¬ 9223372036854775807 < 1 + nm.length + 1 := by have := HNL.out.1; omega
                  go_cut [11] from 110 to 124 (fun v11 wc => v11 = .pointer (some ⟨w6.heap.size, 0, none⟩) ∧ ∃ (A2n : Option Addr) (k2n : Nat), Hid (Below w.heap.size w wc) ∧ Hid (SwS wc (w5.heap.size + 1) w6.heap.size (moreP (moreS x nm) ⟨qq nm, nm, b0, n⟩) ⟨A1n, A2n, A3, A4, A5, A6, k1n, k2n, k3, k4, k5, k6⟩) ∧ Hid (Blk wc w6.heap.size 44 [.int .i64 x.horizon, .slice A1n (x.stops.length + 1) k1n, .slice A2n (x.paths.length + 1) k2n, .slice A3 x.doors.length k3, .slice A4 x.routes.length k4, .slice A5 x.trips.length k5, .slice A6 x.hazards.length k6]) ∧ Hid (OwW wc w12.heap.size w13.heap.size ({ numX x with names := { (numX x).names with stops := (numX x).names.stops ++ [nm] } } : WorldM) ⟨⟨A1w, a2w, a3w, a4w, a5w, a6w, k1w, c2w, c3w, c4w, c5w, c6w⟩, b2w, b3w, b4w, b5w, b6w, d2w, d3w, d4w, d5w, d6w⟩) ∧ Hid (Blk wc w13.heap.size 32 [.int .i64 x.horizon, .slice A1w (x.stops.length + 1) k1w, .slice a2w x.paths.length c2w, .slice a3w x.doors.length c3w, .slice a4w x.routes.length c4w, .slice a5w x.trips.length c5w, .slice a6w x.hazards.length c6w, .slice b2w x.paths.length d2w, .slice b3w x.doors.length d3w, .slice b4w x.routes.length d4w, .slice b5w x.trips.length d5w, .slice b6w x.hazards.length d6w]))
                  case first =>
                    refine wp_region_held_drew (S := fun w' => Hid (Below w5.heap.size w17 w')) (by kernel_rfl) ?_ (fun hHeld => ?_)
                    · exact Lib.hid (below_drew (Below.refl _ _))
                    refine wpAnyH_take (i := 0) (v := ?vmo1) rfl (by kernel_rfl) (by kernel_rfl) (by kernel_rfl) (fun _ _ _ h => h) (Or.inl ⟨by rfl, ?hymo1⟩) (by assumption) ?restmo1
                    case hymo1 => (intro w' hSw; clear hSw; go_simp; try with_reducible rfl)
                    try simp only [Act.put, List.setIfInBounds_toArray, List.set_cons_zero, List.set_cons_succ]
                    refine wpAnyH_take (i := 2) (v := ?vmo2) rfl (by kernel_rfl) (by kernel_rfl) (by kernel_rfl) (fun _ _ _ h => h) (Or.inl ⟨by rfl, ?hymo2⟩) (by assumption) ?restmo2
                    case hymo2 => (intro w' hSw; clear hSw; go_simp; try with_reducible rfl)
                    try simp only [Act.put, List.setIfInBounds_toArray, List.set_cons_zero, List.set_cons_succ]
                    refine wpAnyH_take (i := 3) (v := ?vmo3) rfl (by kernel_rfl) (by kernel_rfl) (by kernel_rfl) (fun _ _ _ h => h) (Or.inl ⟨by rfl, ?hymo3⟩) (by assumption) ?restmo3
                    case hymo3 => (intro w' hSw; clear hSw; go_simp; try with_reducible rfl)
                    try simp only [Act.put, List.setIfInBounds_toArray, List.set_cons_zero, List.set_cons_succ]
                    refine wpAnyH_take (i := 4) (v := ?vmo4) rfl (by kernel_rfl) (by kernel_rfl) (by kernel_rfl) (fun _ _ _ h => h) (Or.inl ⟨by rfl, ?hymo4⟩) (by assumption) ?restmo4
                    case hymo4 => (intro w' hSw; clear hSw; go_simp; try with_reducible rfl)
                    try simp only [Act.put, List.setIfInBounds_toArray, List.set_cons_zero, List.set_cons_succ]
                    refine wpAnyH_take (i := 5) (v := ?vmo5) rfl (by kernel_rfl) (by kernel_rfl) (by kernel_rfl) (fun _ _ _ h => h) (Or.inl ⟨by rfl, ?hymo5⟩) (by assumption) ?restmo5
                    case hymo5 => (intro w' hSw; clear hSw; go_simp; try with_reducible rfl)
                    try simp only [Act.put, List.setIfInBounds_toArray, List.set_cons_zero, List.set_cons_succ]
                    refine wpAnyH_take (i := 6) (v := ?vmo6) rfl (by kernel_rfl) (by kernel_rfl) (by kernel_rfl) (fun _ _ _ h => h) (Or.inl ⟨by rfl, ?hymo6⟩) (by assumption) ?restmo6
                    case hymo6 => (intro w' hSw; clear hSw; go_simp; try with_reducible rfl)
                    try simp only [Act.put, List.setIfInBounds_toArray, List.set_cons_zero, List.set_cons_succ]
                    refine wpAnyH_take (i := 7) (v := ?vmo7) rfl (by kernel_rfl) (by kernel_rfl) (by kernel_rfl) (fun _ _ _ h => h) (Or.inl ⟨by rfl, ?hymo7⟩) (by assumption) ?restmo7
                    case hymo7 => (intro w' hSw; obtain ⟨kc1, kc2⟩ := KC.out w' hSw.out; clear hSw; go_simp; try with_reducible rfl)
                    try simp only [Act.put, List.setIfInBounds_toArray, List.set_cons_zero, List.set_cons_succ]
                    refine wpAnyH_take (i := 8) (v := ?vmo8) rfl (by kernel_rfl) (by kernel_rfl) (by kernel_rfl) (fun _ _ _ h => h) (Or.inl ⟨by rfl, ?hymo8⟩) (by assumption) ?restmo8
                    case hymo8 => (intro w' hSw; clear hSw; go_simp; try with_reducible rfl)
                    try simp only [Act.put, List.setIfInBounds_toArray, List.set_cons_zero, List.set_cons_succ]
                    refine wpAnyH_take (i := 9) (v := ?vmo9) rfl (by kernel_rfl) (by kernel_rfl) (by kernel_rfl) (fun _ _ _ h => h) (Or.inl ⟨by rfl, ?hymo9⟩) (by assumption) ?restmo9
                    case hymo9 => (intro w' hSw; obtain ⟨kc1, kc2⟩ := KC.out w' hSw.out; clear hSw; go_simp; try with_reducible rfl)
                    try simp only [Act.put, List.setIfInBounds_toArray, List.set_cons_zero, List.set_cons_succ]
                    refine wpAnyH_take (i := 10) (v := ?vmo10) rfl (by kernel_rfl) (by kernel_rfl) (by kernel_rfl) (fun _ _ _ h => h) (Or.inl ⟨by rfl, ?hymo10⟩) (by assumption) ?restmo10
                    case hymo10 => (intro w' hSw; clear hSw; go_simp; try with_reducible rfl)
                    try simp only [Act.put, List.setIfInBounds_toArray, List.set_cons_zero, List.set_cons_succ]
                    refine wpAnyH_take (i := 11) (v := ?vmo11) rfl (by kernel_rfl) (by kernel_rfl) (by kernel_rfl) (fun _ _ _ h => h) (Or.inl ⟨by rfl, ?hymo11⟩) (by assumption) ?restmo11
                    case hymo11 => (intro w' hSw; clear hSw; go_simp; try with_reducible rfl)
                    try simp only [Act.put, List.setIfInBounds_toArray, List.set_cons_zero, List.set_cons_succ]
                    simp only [qq_bytes]
                    have D0 := hHeld
                    clear hHeld KC
                    have z0 : Hid (w17.heap.size ≤ (World.drew w17).heap.size) := Lib.hid (Nat.le_refl _)
                    have Bd : Hid (Below w17.heap.size w17 (World.drew w17)) := Lib.hid (below_drew (Below.refl _ _))
                    have HSM0 := Lib.hid (HSM17.out.after Bd.out)
                    have KY0 := Lib.hid (KY17.out.after Bd.out)
                    have HO0 := Lib.hid (HO17.out.after Bd.out)
                    have KW0 := Lib.hid (KW17.out.after Bd.out)
                    have BW0 : Hid (Below w.heap.size w (World.drew w17)) := Lib.hid (below_drew BW17.out)
                    clear HSM17 KY17 HO17 KW17 KX17 BW17 Bd
                    obtain ⟨v0, hv0⟩ : ∃ v, v = World.drew w17 := ⟨_, rfl⟩
                    rw [← hv0] at D0 HSM0 KY0 HO0 KW0 BW0 z0
                    rw [← hv0]
                    clear hv0
                    refine wpAnyH_ready (rs := [1, 12]) (by kernel_rfl) (by simp) ?_
                    refine AllReadyH.cons rfl (fun K hK => ?_) ?_
                    · skip
                      have q2 : v0.cell? ⟨w6.heap.size, 2, none⟩ = some (.slice A2 x.paths.length k2) := KY0.out.cell 2
                      go_simp
                      clear q2
                      refine hK.out _ _ D0 (fun hHeld => ?_)
                      clear hK K
                      refine wpAnyH_ready (rs := [12]) (by kernel_rfl) (by simp) ?_
                      refine AllReadyH.cons rfl (fun K hK => ?_) AllReadyH.nil
                      go_simp
                      have D1 : Hid (Below w5.heap.size w17 (v0.alloc (.cells #[.string ⟨(qq nm).toArray⟩, .string ⟨nm.toArray⟩, .string ⟨b0.toArray⟩, .int .i64 n] 65))) := Lib.hid (D0.out.alloc (by have := Z59.out; have := KY0.out.lt; omega) _)
                      have HLI : Hid (Rd (v0.alloc (.cells #[.string ⟨(qq nm).toArray⟩, .string ⟨nm.toArray⟩, .string ⟨b0.toArray⟩, .int .i64 n] 65)) (· < (v0.alloc (.cells #[.string ⟨(qq nm).toArray⟩, .string ⟨nm.toArray⟩, .string ⟨b0.toArray⟩, .int .i64 n] 65)).heap.size) (some ⟨v0.heap.size, 0, none⟩) [.string ⟨(qq nm).toArray⟩, .string ⟨nm.toArray⟩, .string ⟨b0.toArray⟩, .int .i64 n]) := Lib.hid (lit_at _ _ _ _ _ rfl rfl)
                      have Bl : Hid (Below v0.heap.size v0 (v0.alloc (.cells #[.string ⟨(qq nm).toArray⟩, .string ⟨nm.toArray⟩, .string ⟨b0.toArray⟩, .int .i64 n] 65))) := Lib.hid (one_box _ _)
                      have HSM1 := Lib.hid (HSM0.out.after Bl.out)
                      have KY1 := Lib.hid (KY0.out.after Bl.out)
                      have HO1 := Lib.hid (HO0.out.after Bl.out)
                      have KW1 := Lib.hid (KW0.out.after Bl.out)
                      have BW1 : Hid (Below w.heap.size w (v0.alloc (.cells #[.string ⟨(qq nm).toArray⟩, .string ⟨nm.toArray⟩, .string ⟨b0.toArray⟩, .int .i64 n] 65))) := Lib.hid (keep_trans BW0.out Bl.out)
                      have Z1 : Hid (v0.heap.size + 1 = (v0.alloc (.cells #[.string ⟨(qq nm).toArray⟩, .string ⟨nm.toArray⟩, .string ⟨b0.toArray⟩, .int .i64 n] 65)).heap.size) := Lib.hid (by simp)
                      clear Bl
                      generalize v0.alloc (.cells #[.string ⟨(qq nm).toArray⟩, .string ⟨nm.toArray⟩, .string ⟨b0.toArray⟩, .int .i64 n] 65) = v1 at *
                      refine hK.out _ _ D1 (fun hHeld => ?_)
                      clear hK K
                      refine wpAnyH_ready (rs := [13]) (by kernel_rfl) (by simp) ?_
                      refine AllReadyH.cons rfl (fun K hK => ?_) AllReadyH.nil
                      refine step_append_g (by rfl) (.tmp 111) (.tmp 122) 38 (by rfl) (w5.heap.size + 1 + 1) 65 _ 4 56 Tryz.underlying38 info_Path rfl (by omega) (by omega) (.slice A2 x.paths.length k2) x.paths.length (cs paC x.paths) (by rfl) (Lib.hid HSM1.out.o2) _ _ 1 1 _ (by rfl) (Lib.hid rfl) HLI (by intro u hu; simp at hu; rcases hu with rfl | rfl | rfl | rfl <;> rfl) (by have := HX.out.l2; omega) (by have := Z59.out; have := KY0.out.lt; have := Z1.out; omega) ?_
                      intro v' v2 hown hg hor
                      obtain ⟨A2n, k2n, rfl, hcap, -⟩ := own_form hown.out
                      have D2 : Hid (Below w5.heap.size w17 v2) := Lib.hid (D1.out.trans ((Ch.of_grown (X := fun b => some b = (Value.slice A2 x.paths.length k2).ownBlock) hg.out fun k e => e).below (by have := Z59.out; have := KY1.out.lt; omega) fun k e => by have := (HSM1.out.o2.lt k e.symm).1; omega))
                      have KY2 : Hid (Blk v2 w6.heap.size 44 [.int .i64 x.horizon, .slice A1n (x.stops.length + 1) k1n, .slice A2 x.paths.length k2, .slice A3 x.doors.length k3, .slice A4 x.routes.length k4, .slice A5 x.trips.length k5, .slice A6 x.hazards.length k6]) := Lib.hid (KY1.out.grown hg.out (fun e => own_ne_blk HSM1.out.o2 KY1.out (by decide) _ e.symm rfl))
                      have HAD := Lib.hid (SwS.add2 (a := ⟨qq nm, nm, b0, n⟩) HSM1.out KY1.out hown.out hg.out hor.out)
                      refine hK.out _ _ D2 (fun hHeld => ?_)
                      clear hK K
                      refine wpAnyH_take (i := 14) (v := ?vmo12) rfl (by kernel_rfl) (by kernel_rfl) (by kernel_rfl) (fun _ _ _ h => h) (Or.inl ⟨by rfl, ?hymo12⟩) (by assumption) ?restmo12
                      case hymo12 => (intro w' hSw; clear hSw; go_simp; try with_reducible rfl)
                      try simp only [Act.put, List.setIfInBounds_toArray, List.set_cons_zero, List.set_cons_succ]
                      refine wpAnyH_ready (rs := [15]) (by kernel_rfl) (by simp) ?_
                      refine AllReadyH.cons rfl (fun K hK => ?_) AllReadyH.nil
                      have q2 : v2.cell? ⟨w6.heap.size, 2, none⟩ = some (.slice A2 x.paths.length k2) := KY2.out.cell 2
                      have qf : v2.frozen? ⟨w6.heap.size, 2, none⟩ = false := KY2.out.frozen 2
                      go_simp
                      clear q2 qf
                      have D3 : Hid (Below w5.heap.size w17 (v2.setCell ⟨w6.heap.size, 2, none⟩ (.slice A2n (x.paths.length + 1) k2n))) := Lib.hid (below_set D2.out (by exact Z59.out) _)
                      refine hK.out _ _ D3 (fun hHeld => ?_)
                      clear hK K hHeld
                      refine wpAnyH_done (by kernel_rfl) ?_ _
                      have HC : Hid (Ch (· < w12.heap.size) v1 (v2.setCell ⟨w6.heap.size, 2, none⟩ (.slice A2n (x.paths.length + 1) k2n))) := Lib.hid (own_ch HSM1.out.o2 hg.out HV2.out Z612.out)
                      go_wp2_with fail
                      go_meet
                      exact ⟨rfl, A2n, k2n, Lib.hid (own_below HSM1.out.o2 BW1.out hg.out (by have := Z5.out; omega) BW1.out.size (Nat.le_trans Z5.out Z59.out)), Lib.hid HAD.out.1, Lib.hid HAD.out.2, Lib.hid (HO1.out.low HC.out fun k e => Nat.le_of_lt e), Lib.hid (HC.out.blk KW1.out (by have := Z16.out; omega))⟩
                    refine AllReadyH.cons rfl (fun K hK => ?_) AllReadyH.nil
                    go_simp
                    have D1 : Hid (Below w5.heap.size w17 (v0.alloc (.cells #[.string ⟨(qq nm).toArray⟩, .string ⟨nm.toArray⟩, .string ⟨b0.toArray⟩, .int .i64 n] 65))) := Lib.hid (D0.out.alloc (by have := Z59.out; have := KY0.out.lt; omega) _)
                    have HLI : Hid (Rd (v0.alloc (.cells #[.string ⟨(qq nm).toArray⟩, .string ⟨nm.toArray⟩, .string ⟨b0.toArray⟩, .int .i64 n] 65)) (· < (v0.alloc (.cells #[.string ⟨(qq nm).toArray⟩, .string ⟨nm.toArray⟩, .string ⟨b0.toArray⟩, .int .i64 n] 65)).heap.size) (some ⟨v0.heap.size, 0, none⟩) [.string ⟨(qq nm).toArray⟩, .string ⟨nm.toArray⟩, .string ⟨b0.toArray⟩, .int .i64 n]) := Lib.hid (lit_at _ _ _ _ _ rfl rfl)
                    have Bl : Hid (Below v0.heap.size v0 (v0.alloc (.cells #[.string ⟨(qq nm).toArray⟩, .string ⟨nm.toArray⟩, .string ⟨b0.toArray⟩, .int .i64 n] 65))) := Lib.hid (one_box _ _)
                    have HSM1 := Lib.hid (HSM0.out.after Bl.out)
                    have KY1 := Lib.hid (KY0.out.after Bl.out)
                    have HO1 := Lib.hid (HO0.out.after Bl.out)
                    have KW1 := Lib.hid (KW0.out.after Bl.out)
                    have BW1 : Hid (Below w.heap.size w (v0.alloc (.cells #[.string ⟨(qq nm).toArray⟩, .string ⟨nm.toArray⟩, .string ⟨b0.toArray⟩, .int .i64 n] 65))) := Lib.hid (keep_trans BW0.out Bl.out)
                    have Z1 : Hid (v0.heap.size + 1 = (v0.alloc (.cells #[.string ⟨(qq nm).toArray⟩, .string ⟨nm.toArray⟩, .string ⟨b0.toArray⟩, .int .i64 n] 65)).heap.size) := Lib.hid (by simp)
                    clear Bl
                    generalize v0.alloc (.cells #[.string ⟨(qq nm).toArray⟩, .string ⟨nm.toArray⟩, .string ⟨b0.toArray⟩, .int .i64 n] 65) = v1 at *
                    refine hK.out _ _ D1 (fun hHeld => ?_)
                    clear hK K
                    refine wpAnyH_ready (rs := [1]) (by kernel_rfl) (by simp) ?_
                    refine AllReadyH.cons rfl (fun K hK => ?_) AllReadyH.nil
                    have q2 : v1.cell? ⟨w6.heap.size, 2, none⟩ = some (.slice A2 x.paths.length k2) := KY1.out.cell 2
                    go_simp
                    clear q2
                    refine hK.out _ _ D1 (fun hHeld => ?_)
                    clear hK K
                    refine wpAnyH_ready (rs := [13]) (by kernel_rfl) (by simp) ?_
                    refine AllReadyH.cons rfl (fun K hK => ?_) AllReadyH.nil
                    refine step_append_g (by rfl) (.tmp 111) (.tmp 122) 38 (by rfl) (w5.heap.size + 1 + 1) 65 _ 4 56 Tryz.underlying38 info_Path rfl (by omega) (by omega) (.slice A2 x.paths.length k2) x.paths.length (cs paC x.paths) (by rfl) (Lib.hid HSM1.out.o2) _ _ 1 1 _ (by rfl) (Lib.hid rfl) HLI (by intro u hu; simp at hu; rcases hu with rfl | rfl | rfl | rfl <;> rfl) (by have := HX.out.l2; omega) (by have := Z59.out; have := KY0.out.lt; have := Z1.out; omega) ?_
                    intro v' v2 hown hg hor
                    obtain ⟨A2n, k2n, rfl, hcap, -⟩ := own_form hown.out
                    have D2 : Hid (Below w5.heap.size w17 v2) := Lib.hid (D1.out.trans ((Ch.of_grown (X := fun b => some b = (Value.slice A2 x.paths.length k2).ownBlock) hg.out fun k e => e).below (by have := Z59.out; have := KY1.out.lt; omega) fun k e => by have := (HSM1.out.o2.lt k e.symm).1; omega))
                    have KY2 : Hid (Blk v2 w6.heap.size 44 [.int .i64 x.horizon, .slice A1n (x.stops.length + 1) k1n, .slice A2 x.paths.length k2, .slice A3 x.doors.length k3, .slice A4 x.routes.length k4, .slice A5 x.trips.length k5, .slice A6 x.hazards.length k6]) := Lib.hid (KY1.out.grown hg.out (fun e => own_ne_blk HSM1.out.o2 KY1.out (by decide) _ e.symm rfl))
                    have HAD := Lib.hid (SwS.add2 (a := ⟨qq nm, nm, b0, n⟩) HSM1.out KY1.out hown.out hg.out hor.out)
                    refine hK.out _ _ D2 (fun hHeld => ?_)
                    clear hK K
                    refine wpAnyH_take (i := 14) (v := ?vmo13) rfl (by kernel_rfl) (by kernel_rfl) (by kernel_rfl) (fun _ _ _ h => h) (Or.inl ⟨by rfl, ?hymo13⟩) (by assumption) ?restmo13
                    case hymo13 => (intro w' hSw; clear hSw; go_simp; try with_reducible rfl)
                    try simp only [Act.put, List.setIfInBounds_toArray, List.set_cons_zero, List.set_cons_succ]
                    refine wpAnyH_ready (rs := [15]) (by kernel_rfl) (by simp) ?_
                    refine AllReadyH.cons rfl (fun K hK => ?_) AllReadyH.nil
                    have q2 : v2.cell? ⟨w6.heap.size, 2, none⟩ = some (.slice A2 x.paths.length k2) := KY2.out.cell 2
                    have qf : v2.frozen? ⟨w6.heap.size, 2, none⟩ = false := KY2.out.frozen 2
                    go_simp
                    clear q2 qf
                    have D3 : Hid (Below w5.heap.size w17 (v2.setCell ⟨w6.heap.size, 2, none⟩ (.slice A2n (x.paths.length + 1) k2n))) := Lib.hid (below_set D2.out (by exact Z59.out) _)
                    refine hK.out _ _ D3 (fun hHeld => ?_)
                    clear hK K hHeld
                    refine wpAnyH_done (by kernel_rfl) ?_ _
                    have HC : Hid (Ch (· < w12.heap.size) v1 (v2.setCell ⟨w6.heap.size, 2, none⟩ (.slice A2n (x.paths.length + 1) k2n))) := Lib.hid (own_ch HSM1.out.o2 hg.out HV2.out Z612.out)
                    go_wp2_with fail
                    go_meet
                    exact ⟨rfl, A2n, k2n, Lib.hid (own_below HSM1.out.o2 BW1.out hg.out (by have := Z5.out; omega) BW1.out.size (Nat.le_trans Z5.out Z59.out)), Lib.hid HAD.out.1, Lib.hid HAD.out.2, Lib.hid (HO1.out.low HC.out fun k e => Nat.le_of_lt e), Lib.hid (HC.out.blk KW1.out (by have := Z16.out; omega))⟩
                  case rest =>
                    obtain ⟨rfl, A2n, k2n, BW25, HSP, KY25, HO25, KW25⟩ := hcut
                    clear HSM17 KY17 HO17 KW17 KX17 BW17 KC hx0
                    have HP2 : Hid (∀ k, (Value.slice a2w x.paths.length c2w).ownBlock = some k → k < wc.heap.size) := Lib.hid (fun k e => (HO25.out.o2.lt k (own_len.trans e)).2)
                    have HP3 : Hid (∀ k, (Value.slice b2w x.paths.length d2w).ownBlock = some k → k < wc.heap.size) := Lib.hid (fun k e => (HO25.out.o3.lt k (own_len.trans e)).2)
                    have y0 : wc.cell? ⟨w6.heap.size, 0, none⟩ = some (.int .i64 x.horizon) := KY25.out.cell 0; have y1 : wc.cell? ⟨w6.heap.size, 1, none⟩ = some (.slice A1n (x.stops.length + 1) k1n) := KY25.out.cell 1; have y2 : wc.cell? ⟨w6.heap.size, 2, none⟩ = some (.slice A2n (x.paths.length + 1) k2n) := KY25.out.cell 2; have y3 : wc.cell? ⟨w6.heap.size, 3, none⟩ = some (.slice A3 x.doors.length k3) := KY25.out.cell 3; have y4 : wc.cell? ⟨w6.heap.size, 4, none⟩ = some (.slice A4 x.routes.length k4) := KY25.out.cell 4; have y5 : wc.cell? ⟨w6.heap.size, 5, none⟩ = some (.slice A5 x.trips.length k5) := KY25.out.cell 5; have y6 : wc.cell? ⟨w6.heap.size, 6, none⟩ = some (.slice A6 x.hazards.length k6) := KY25.out.cell 6
                    rcases more_path HOK.out HLT.out HNA.out HNB.out HNL.out.1 HB0.out HNL.out.2.1 HNL.out.2.2 with e6 | ⟨eok, enm⟩
                    · skip
                      obtain ⟨⟨we, wk, wa⟩, hwx⟩ : ∃ k, k = wrongX (moreP (moreS x nm) ⟨qq nm, nm, b0, n⟩) := ⟨_, rfl⟩
                      obtain rfl : we = 6 := by rw [← hwx] at e6; exact e6
                      clear e6
                      have HMK : Hid (∀ w1, Sh w1 (· < w1.heap.size) (moreP (moreS x nm) ⟨qq nm, nm, b0, n⟩) ⟨A1n, A2n, A3, A4, A5, A6, k1n, k2n, k3, k4, k5, k6⟩ → Calls Tryz.prog 10 #[.agg #[.int .i64 x.horizon, .slice A1n (x.stops.length + 1) k1n, .slice A2n (x.paths.length + 1) k2n, .slice A3 x.doors.length k3, .slice A4 x.routes.length k4, .slice A5 x.trips.length k5, .slice A6 x.hazards.length k6]] w1 (fun e w' => ∃ q : WoA, e = .returned (.tuple #[woF zWo q, .agg #[.int .i64 6, .int .i64 wk, .int .i64 wa]]) ∧ Below w1.heap.size w1 w')) := Lib.hid (fun w1 hs => by have hc := make_no hwx.symm (show (6 : Int) ≠ 0 by decide) _ w1 hs (xlt_moreP HLT.out nm _); simpa only [shV, moreP, moreS, List.length_append, List.length_cons, List.length_nil, Nat.zero_add] using hc)
                      dsimp only [woF, zWo, List.length_nil] at HMK
                      clear hwx
                      go_wp2_with (go_at_call 10; refine (HMK.out _ HSP.out.sh).mono ?_; rintro e w26 ⟨q, rfl, hb⟩; obtain ⟨⟨a1u, a2u, a3u, a4u, a5u, a6u, c1u, c2u, c3u, c4u, c5u, c6u⟩, b2u, b3u, b4u, b5u, b6u, d2u, d3u, d4u, d5u, d6u⟩ := q; have B26 : Hid (Below w.heap.size w w26) := Lib.hid (keep_trans BW25.out hb); clear hb)
                      go_ret
                      exact ⟨rfl, keep_trans B26.out (two_box _ _ _)⟩
                    · have HPOK := Lib.hid eok
                      have HPN := Lib.hid enm
                      clear eok enm
                      have HMK : Hid (∀ w1, Sh w1 (· < w1.heap.size) (moreP (moreS x nm) ⟨qq nm, nm, b0, n⟩) ⟨A1n, A2n, A3, A4, A5, A6, k1n, k2n, k3, k4, k5, k6⟩ → Calls Tryz.prog 10 #[.agg #[.int .i64 x.horizon, .slice A1n (x.stops.length + 1) k1n, .slice A2n (x.paths.length + 1) k2n, .slice A3 x.doors.length k3, .slice A4 x.routes.length k4, .slice A5 x.trips.length k5, .slice A6 x.hazards.length k6]] w1 (MkL w1 x (x.stops.length + 1) (x.paths.length + 1) (numX (moreP (moreS x nm) ⟨qq nm, nm, b0, n⟩)))) := Lib.hid (fun w1 hs => make_l (x := x) (y := moreP (moreS x nm) ⟨qq nm, nm, b0, n⟩) (x.stops.length + 1) (x.paths.length + 1) (congrArg WrM.err HPOK.out) (xlt_moreP HLT.out nm _) rfl (by simp [moreP, moreS]) (by simp [moreP, moreS]) rfl rfl rfl rfl ⟨A1n, A2n, A3, A4, A5, A6, k1n, k2n, k3, k4, k5, k6⟩ w1 hs)
                      go_upto_region 26 with (go_at_call 10; refine (HMK.out _ HSP.out.sh).mono ?_; rintro e w26 ⟨a1u, a2u, a3u, a4u, a5u, a6u, b2u, b3u, b4u, b5u, b6u, c1u, c2u, c3u, c4u, c5u, c6u, d2u, d3u, d4u, d5u, d6u, rfl, HU26, B26⟩)
                      obtain ⟨W27, hW⟩ : ∃ W, W = (w26.alloc (.cells #[.int .i64 x.horizon, .slice a1u (x.stops.length + 1) c1u, .slice a2u (x.paths.length + 1) c2u, .slice a3u x.doors.length c3u, .slice a4u x.routes.length c4u, .slice a5u x.trips.length c5u, .slice a6u x.hazards.length c6u, .slice b2u (x.paths.length + 1) d2u, .slice b3u x.doors.length d3u, .slice b4u x.routes.length d4u, .slice b5u x.trips.length d5u, .slice b6u x.hazards.length d6u] 32)).alloc (.cells #[.int .i64 0, .int .i64 0, .int .i64 0] 35) := ⟨_, rfl⟩
                      have B27 : Hid (Below w26.heap.size w26 W27) := Lib.hid (by rw [hW]; exact two_box _ _ _)
                      have KU : Hid (Blk W27 w26.heap.size 32 [.int .i64 x.horizon, .slice a1u (x.stops.length + 1) c1u, .slice a2u (x.paths.length + 1) c2u, .slice a3u x.doors.length c3u, .slice a4u x.routes.length c4u, .slice a5u x.trips.length c5u, .slice a6u x.hazards.length c6u, .slice b2u (x.paths.length + 1) d2u, .slice b3u x.doors.length d3u, .slice b4u x.routes.length d4u, .slice b5u x.trips.length d5u, .slice b6u x.hazards.length d6u]) := Lib.hid (by rw [hW]; exact (Blk.new _ _ _).alloc _)
                      have KG : Hid (Blk W27 (w26.heap.size + 1) 35 [.int .i64 0, .int .i64 0, .int .i64 0]) := Lib.hid (by rw [hW]; exact Blk.new2 _ _ _ _)
                      rw [← hW]
                      clear hW HMK y0 y1 y2 y3 y4 y5 y6
                      have Bc : Hid (Below wc.heap.size wc W27) := Lib.hid (keep_trans B26.out B27.out)
                      have HU27 : Hid (Wo W27 (fun b => wc.heap.size ≤ b ∧ b < W27.heap.size) (numX (moreP (moreS x nm) ⟨qq nm, nm, b0, n⟩)) ⟨⟨a1u, a2u, a3u, a4u, a5u, a6u, c1u, c2u, c3u, c4u, c5u, c6u⟩, b2u, b3u, b4u, b5u, b6u, d2u, d3u, d4u, d5u, d6u⟩) := Lib.hid ((HU26.out.keep fun b hb => B27.out.block b hb.2).more fun b hb => ⟨hb.1, Nat.lt_of_lt_of_le hb.2 B27.out.size⟩)
                      have HO27 := Lib.hid (HO25.out.after Bc.out)
                      have KW27 := Lib.hid (KW25.out.after Bc.out)
                      have BW27 : Hid (Below w.heap.size w W27) := Lib.hid (keep_trans BW25.out Bc.out)
                      have Zc : Hid (w13.heap.size < wc.heap.size ∧ wc.heap.size ≤ w26.heap.size ∧ w26.heap.size < W27.heap.size ∧ w12.heap.size < wc.heap.size ∧ wc.heap.size ≤ W27.heap.size ∧ w.heap.size ≤ w12.heap.size) := Lib.hid ⟨KW25.out.lt, B26.out.size, KU.out.lt, Nat.lt_of_le_of_lt Z16.out KW25.out.lt, Bc.out.size, Nat.le_trans Z5.out (Nat.le_trans Z59.out (Nat.le_of_lt Z612.out))⟩
                      clear HSP KY25 HO25 KW25 BW25 HU26 B26 B27 Bc
                      have z0 : W27.cell? ⟨w26.heap.size + 1, 0, none⟩ = some (.int .i64 0) := KG.out.cell 0
                      have y2 : W27.cell? ⟨w13.heap.size, 2, none⟩ = some (.slice a2w x.paths.length c2w) := KW27.out.cell 2
                      have yf : W27.frozen? ⟨w13.heap.size, 2, none⟩ = false := KW27.out.frozen 2
                      have KWa : Hid (Blk (W27.alloc (.cells #[.string ⟨(qq nm).toArray⟩] 9)) w13.heap.size 32 [.int .i64 x.horizon, .slice A1w (x.stops.length + 1) k1w, .slice a2w x.paths.length c2w, .slice a3w x.doors.length c3w, .slice a4w x.routes.length c4w, .slice a5w x.trips.length c5w, .slice a6w x.hazards.length c6w, .slice b2w x.paths.length d2w, .slice b3w x.doors.length d3w, .slice b4w x.routes.length d4w, .slice b5w x.trips.length d5w, .slice b6w x.hazards.length d6w]) := Lib.hid (KW27.out.after (one_box _ _))
                      have HSa := Lib.hid (HO27.out.after (one_box W27 (.cells #[.string ⟨(qq nm).toArray⟩] 9)))
                      have HOR := Lib.hid (OwW.o2n (n := x.paths.length) (by simp [numX, namesX]) HSa.out)
                      have HLI : Hid (Rd (W27.alloc (.cells #[.string ⟨(qq nm).toArray⟩] 9)) (· < (W27.alloc (.cells #[.string ⟨(qq nm).toArray⟩] 9)).heap.size) (some ⟨W27.heap.size, 0, none⟩) [.string ⟨(qq nm).toArray⟩]) := Lib.hid (lit_at _ _ _ _ _ rfl rfl)
                      have zz : w12.heap.size + 1 ≤ (W27.alloc (.cells #[.string ⟨(qq nm).toArray⟩] 9)).heap.size := by have := Zc.out; simp; omega
                      have zl : x.paths.length + 1 ≤ 4000000 := by have := HX.out.l2; omega
                      go_upto_region 29 with (at_builtin; simp only [qq_bytes]; refine wpList_append_g rfl (.tmp 138) (.tmp 142) 23 rfl (w12.heap.size + 1) 9 _ 1 16 Tryz.underlying23 info_Str rfl (by omega) (by omega) (.slice a2w x.paths.length c2w) x.paths.length (cs strC (numX x).names.paths) rfl HOR _ _ 1 1 _ rfl (Lib.hid rfl) HLI (by intro u hu; simp at hu; (try rcases hu with rfl | rfl | rfl); all_goals (first | rfl | (subst hu; rfl))) zl zz ?_; intro v' w28 hown hg hor; obtain ⟨A2w, k2w, rfl, hcap, -⟩ := own_form hown.out; have KWb : Hid (Blk w28 w13.heap.size 32 [.int .i64 x.horizon, .slice A1w (x.stops.length + 1) k1w, .slice a2w x.paths.length c2w, .slice a3w x.doors.length c3w, .slice a4w x.routes.length c4w, .slice a5w x.trips.length c5w, .slice a6w x.hazards.length c6w, .slice b2w x.paths.length d2w, .slice b3w x.doors.length d3w, .slice b4w x.routes.length d4w, .slice b5w x.trips.length d5w, .slice b6w x.hazards.length d6w]) := Lib.hid (KWa.out.grown hg.out (fun e => own_ne_blk HOR.out KWa.out (by decide) _ e.symm rfl)); have q1 : w28.cell? ⟨w13.heap.size, 2, none⟩ = some (.slice a2w x.paths.length c2w) := KWb.out.cell 2; have qf : w28.frozen? ⟨w13.heap.size, 2, none⟩ = false := KWb.out.frozen 2; have HAD := Lib.hid (OwW.add2n (n := x.paths.length) (a := qq nm) (by simp [numX, namesX]) HSa.out KWa.out hown.out hg.out hor.out))
                      obtain ⟨W29, hW⟩ : ∃ W, W = w28.setCell ⟨w13.heap.size, 2, none⟩ (.slice A2w (x.paths.length + 1) k2w) := ⟨_, rfl⟩
                      have HC : Hid (Ch (· < wc.heap.size) (W27.alloc (.cells #[.string ⟨(qq nm).toArray⟩] 9)) W29) := Lib.hid (by rw [hW]; exact own_ch HOR.out hg.out HP2.out Zc.out.1)
                      have HOn : Hid (OwW W29 w12.heap.size w13.heap.size ({ ({ numX x with names := { (numX x).names with stops := (numX x).names.stops ++ [nm] } } : WorldM) with names := { ({ numX x with names := { (numX x).names with stops := (numX x).names.stops ++ [nm] } } : WorldM).names with paths := ({ numX x with names := { (numX x).names with stops := (numX x).names.stops ++ [nm] } } : WorldM).names.paths ++ [qq nm] } } : WorldM) ⟨⟨A1w, A2w, a3w, a4w, a5w, a6w, k1w, k2w, c3w, c4w, c5w, c6w⟩, b2w, b3w, b4w, b5w, b6w, d2w, d3w, d4w, d5w, d6w⟩) := Lib.hid (by rw [hW]; exact HAD.out.1)
                      have KWn : Hid (Blk W29 w13.heap.size 32 [.int .i64 x.horizon, .slice A1w (x.stops.length + 1) k1w, .slice A2w (x.paths.length + 1) k2w, .slice a3w x.doors.length c3w, .slice a4w x.routes.length c4w, .slice a5w x.trips.length c5w, .slice a6w x.hazards.length c6w, .slice b2w x.paths.length d2w, .slice b3w x.doors.length d3w, .slice b4w x.routes.length d4w, .slice b5w x.trips.length d5w, .slice b6w x.hazards.length d6w]) := Lib.hid (by rw [hW]; exact HAD.out.2)
                      have BWn : Hid (Below w.heap.size w W29) := Lib.hid (by rw [hW]; exact own_below HOR.out (keep_trans BW27.out (one_box _ _)) hg.out (by have := Zc.out; omega) (by have := Zc.out; have := BW27.out.size; simp; omega) (by have := Zc.out; have := Z16.out; omega))
                      rw [← hW]
                      have Ba : Hid (Below W27.heap.size W27 (W27.alloc (.cells #[.string ⟨(qq nm).toArray⟩] 9))) := Lib.hid (one_box _ _)
                      have KUn : Hid (Blk W29 w26.heap.size 32 [.int .i64 x.horizon, .slice a1u (x.stops.length + 1) c1u, .slice a2u (x.paths.length + 1) c2u, .slice a3u x.doors.length c3u, .slice a4u x.routes.length c4u, .slice a5u x.trips.length c5u, .slice a6u x.hazards.length c6u, .slice b2u (x.paths.length + 1) d2u, .slice b3u x.doors.length d3u, .slice b4u x.routes.length d4u, .slice b5u x.trips.length d5u, .slice b6u x.hazards.length d6u]) := Lib.hid (HC.out.blk (KU.out.after Ba.out) (by have := Zc.out; omega))
                      have HUn : Hid (Wo W29 (fun b => wc.heap.size ≤ b ∧ b < W29.heap.size) (numX (moreP (moreS x nm) ⟨qq nm, nm, b0, n⟩)) ⟨⟨a1u, a2u, a3u, a4u, a5u, a6u, c1u, c2u, c3u, c4u, c5u, c6u⟩, b2u, b3u, b4u, b5u, b6u, d2u, d3u, d4u, d5u, d6u⟩) := Lib.hid ((HU27.out.keep fun b hb => (HC.out.block b (by have := Ba.out.size; omega) (by omega)).trans (Ba.out.block b hb.2)).more fun b hb => ⟨hb.1, by have := Ba.out.size; have := HC.out.size; omega⟩)
                      have Zn : Hid (W27.heap.size ≤ W29.heap.size) := Lib.hid (Nat.le_trans Ba.out.size HC.out.size)
                      clear hW HAD HSa HOR KWa KWb HLI hown hg hor hcap q1 qf zz zl HC Ba HO27 HU27 KU KW27 BW27 y2 yf z0 KG
                      have HO29 := HOn
                      clear HOn
                      have KW29 := KWn
                      clear KWn
                      have BW27 := BWn
                      clear BWn
                      have KU29 := KUn
                      clear KUn
                      have HU29 := HUn
                      clear HUn
                      have Zd : Hid (wc.heap.size ≤ W29.heap.size) := Lib.hid (Nat.le_trans Zc.out.2.2.2.2.1 Zn.out)
                      clear Zn
                      have y2 : W29.cell? ⟨w13.heap.size, 7, none⟩ = some (.slice b2w x.paths.length d2w) := KW29.out.cell 7
                      have yf : W29.frozen? ⟨w13.heap.size, 7, none⟩ = false := KW29.out.frozen 7
                      have Zc2 := Zc
                      clear Zc
                      have Zc : Hid (w13.heap.size < wc.heap.size ∧ wc.heap.size ≤ w26.heap.size ∧ w26.heap.size < W29.heap.size ∧ w12.heap.size < wc.heap.size ∧ wc.heap.size ≤ W29.heap.size ∧ w.heap.size ≤ w12.heap.size) := Lib.hid ⟨Zc2.out.1, Zc2.out.2.1, KU29.out.lt, Zc2.out.2.2.2.1, Zd.out, Zc2.out.2.2.2.2.2⟩
                      have KWa : Hid (Blk (W29.alloc (.cells #[.int .i64 (x.stops.length : Int), .int .i64 0, .int .i64 n] 51)) w13.heap.size 32 [.int .i64 x.horizon, .slice A1w (x.stops.length + 1) k1w, .slice A2w (x.paths.length + 1) k2w, .slice a3w x.doors.length c3w, .slice a4w x.routes.length c4w, .slice a5w x.trips.length c5w, .slice a6w x.hazards.length c6w, .slice b2w x.paths.length d2w, .slice b3w x.doors.length d3w, .slice b4w x.routes.length d4w, .slice b5w x.trips.length d5w, .slice b6w x.hazards.length d6w]) := Lib.hid (KW29.out.after (one_box _ _))
                      have HSa := Lib.hid (HO29.out.after (one_box W29 (.cells #[.int .i64 (x.stops.length : Int), .int .i64 0, .int .i64 n] 51)))
                      have HOR := Lib.hid (OwW.o3n (n := x.paths.length) (by simp [numX, namesX]) HSa.out)
                      have HLI : Hid (Rd (W29.alloc (.cells #[.int .i64 (x.stops.length : Int), .int .i64 0, .int .i64 n] 51)) (· < (W29.alloc (.cells #[.int .i64 (x.stops.length : Int), .int .i64 0, .int .i64 n] 51)).heap.size) (some ⟨W29.heap.size, 0, none⟩) [.int .i64 (x.stops.length : Int), .int .i64 0, .int .i64 n]) := Lib.hid (lit_at _ _ _ _ _ rfl rfl)
                      have zz : w12.heap.size + 1 ≤ (W29.alloc (.cells #[.int .i64 (x.stops.length : Int), .int .i64 0, .int .i64 n] 51)).heap.size := by have := Zc.out; simp; omega
                      have zl : x.paths.length + 1 ≤ 4000000 := by have := HX.out.l2; omega
                      go_upto_region 30 with (at_builtin; refine wpList_append_g rfl (.tmp 147) (.tmp 151) 26 rfl (w12.heap.size + 1) 51 _ 3 24 Tryz.underlying26 info_PathO rfl (by omega) (by omega) (.slice b2w x.paths.length d2w) x.paths.length (cs poC (numX x).paths) rfl HOR _ _ 1 1 _ rfl (Lib.hid rfl) HLI (by intro u hu; simp at hu; (try rcases hu with rfl | rfl | rfl); all_goals (first | rfl | (subst hu; rfl))) zl zz ?_; intro v' w30 hown hg hor; obtain ⟨B2w, m2w, rfl, hcap, -⟩ := own_form hown.out; have KWb : Hid (Blk w30 w13.heap.size 32 [.int .i64 x.horizon, .slice A1w (x.stops.length + 1) k1w, .slice A2w (x.paths.length + 1) k2w, .slice a3w x.doors.length c3w, .slice a4w x.routes.length c4w, .slice a5w x.trips.length c5w, .slice a6w x.hazards.length c6w, .slice b2w x.paths.length d2w, .slice b3w x.doors.length d3w, .slice b4w x.routes.length d4w, .slice b5w x.trips.length d5w, .slice b6w x.hazards.length d6w]) := Lib.hid (KWa.out.grown hg.out (fun e => own_ne_blk HOR.out KWa.out (by decide) _ e.symm rfl)); have q1 : w30.cell? ⟨w13.heap.size, 7, none⟩ = some (.slice b2w x.paths.length d2w) := KWb.out.cell 7; have qf : w30.frozen? ⟨w13.heap.size, 7, none⟩ = false := KWb.out.frozen 7; have HAD := Lib.hid (OwW.add3n (n := x.paths.length) (a := ⟨(x.stops.length : Int), 0, n⟩) (by simp [numX, namesX]) HSa.out KWa.out hown.out hg.out hor.out))
                      obtain ⟨W31, hW⟩ : ∃ W, W = w30.setCell ⟨w13.heap.size, 7, none⟩ (.slice B2w (x.paths.length + 1) m2w) := ⟨_, rfl⟩
                      have HC : Hid (Ch (· < wc.heap.size) (W29.alloc (.cells #[.int .i64 (x.stops.length : Int), .int .i64 0, .int .i64 n] 51)) W31) := Lib.hid (by rw [hW]; exact own_ch HOR.out hg.out HP3.out Zc.out.1)
                      have HOn : Hid (OwW W31 w12.heap.size w13.heap.size ({ ({ ({ numX x with names := { (numX x).names with stops := (numX x).names.stops ++ [nm] } } : WorldM) with names := { ({ numX x with names := { (numX x).names with stops := (numX x).names.stops ++ [nm] } } : WorldM).names with paths := ({ numX x with names := { (numX x).names with stops := (numX x).names.stops ++ [nm] } } : WorldM).names.paths ++ [qq nm] } } : WorldM) with paths := ({ ({ numX x with names := { (numX x).names with stops := (numX x).names.stops ++ [nm] } } : WorldM) with names := { ({ numX x with names := { (numX x).names with stops := (numX x).names.stops ++ [nm] } } : WorldM).names with paths := ({ numX x with names := { (numX x).names with stops := (numX x).names.stops ++ [nm] } } : WorldM).names.paths ++ [qq nm] } } : WorldM).paths ++ [⟨(x.stops.length : Int), 0, n⟩] } : WorldM) ⟨⟨A1w, A2w, a3w, a4w, a5w, a6w, k1w, k2w, c3w, c4w, c5w, c6w⟩, B2w, b3w, b4w, b5w, b6w, m2w, d3w, d4w, d5w, d6w⟩) := Lib.hid (by rw [hW]; exact HAD.out.1)
                      have KWn : Hid (Blk W31 w13.heap.size 32 [.int .i64 x.horizon, .slice A1w (x.stops.length + 1) k1w, .slice A2w (x.paths.length + 1) k2w, .slice a3w x.doors.length c3w, .slice a4w x.routes.length c4w, .slice a5w x.trips.length c5w, .slice a6w x.hazards.length c6w, .slice B2w (x.paths.length + 1) m2w, .slice b3w x.doors.length d3w, .slice b4w x.routes.length d4w, .slice b5w x.trips.length d5w, .slice b6w x.hazards.length d6w]) := Lib.hid (by rw [hW]; exact HAD.out.2)
                      have BWn : Hid (Below w.heap.size w W31) := Lib.hid (by rw [hW]; exact own_below HOR.out (keep_trans BW27.out (one_box _ _)) hg.out (by have := Zc.out; omega) (by have := Zc.out; have := BW27.out.size; simp; omega) (by have := Zc.out; have := Z16.out; omega))
                      rw [← hW]
                      have Ba : Hid (Below W29.heap.size W29 (W29.alloc (.cells #[.int .i64 (x.stops.length : Int), .int .i64 0, .int .i64 n] 51))) := Lib.hid (one_box _ _)
                      have KUn : Hid (Blk W31 w26.heap.size 32 [.int .i64 x.horizon, .slice a1u (x.stops.length + 1) c1u, .slice a2u (x.paths.length + 1) c2u, .slice a3u x.doors.length c3u, .slice a4u x.routes.length c4u, .slice a5u x.trips.length c5u, .slice a6u x.hazards.length c6u, .slice b2u (x.paths.length + 1) d2u, .slice b3u x.doors.length d3u, .slice b4u x.routes.length d4u, .slice b5u x.trips.length d5u, .slice b6u x.hazards.length d6u]) := Lib.hid (HC.out.blk (KU29.out.after Ba.out) (by have := Zc.out; omega))
                      have HUn : Hid (Wo W31 (fun b => wc.heap.size ≤ b ∧ b < W31.heap.size) (numX (moreP (moreS x nm) ⟨qq nm, nm, b0, n⟩)) ⟨⟨a1u, a2u, a3u, a4u, a5u, a6u, c1u, c2u, c3u, c4u, c5u, c6u⟩, b2u, b3u, b4u, b5u, b6u, d2u, d3u, d4u, d5u, d6u⟩) := Lib.hid ((HU29.out.keep fun b hb => (HC.out.block b (by have := Ba.out.size; omega) (by omega)).trans (Ba.out.block b hb.2)).more fun b hb => ⟨hb.1, by have := Ba.out.size; have := HC.out.size; omega⟩)
                      have Zn : Hid (W29.heap.size ≤ W31.heap.size) := Lib.hid (Nat.le_trans Ba.out.size HC.out.size)
                      clear hW HAD HSa HOR KWa KWb HLI hown hg hor hcap q1 qf zz zl HC Ba HO29 HU29 KU29 KW29 BW27 y2 yf Zc2 Zd
                      have HWU := Lib.hid (HUn.out.more fun b hb => hb.2)
                      have HWW : Hid (Wo W31 (· < W31.heap.size) (numX (moreP (moreS x nm) ⟨qq nm, nm, b0, n⟩)) ⟨⟨A1w, A2w, a3w, a4w, a5w, a6w, k1w, k2w, c3w, c4w, c5w, c6w⟩, B2w, b3w, b4w, b5w, b6w, m2w, d3w, d4w, d5w, d6w⟩) := Lib.hid (by rw [HPN.out]; exact HOn.out.wo.more fun b hb => hb.2)
                      have HKW : Hid (∀ w1, Wo w1 (· < w1.heap.size) (numX (moreP (moreS x nm) ⟨qq nm, nm, b0, n⟩)) ⟨⟨a1u, a2u, a3u, a4u, a5u, a6u, c1u, c2u, c3u, c4u, c5u, c6u⟩, b2u, b3u, b4u, b5u, b6u, d2u, d3u, d4u, d5u, d6u⟩ → Wo w1 (· < w1.heap.size) (numX (moreP (moreS x nm) ⟨qq nm, nm, b0, n⟩)) ⟨⟨A1w, A2w, a3w, a4w, a5w, a6w, k1w, k2w, c3w, c4w, c5w, c6w⟩, B2w, b3w, b4w, b5w, b6w, m2w, d3w, d4w, d5w, d6w⟩ → Calls Tryz.prog 23 #[.agg #[.int .i64 x.horizon, .slice a1u (x.stops.length + 1) c1u, .slice a2u (x.paths.length + 1) c2u, .slice a3u x.doors.length c3u, .slice a4u x.routes.length c4u, .slice a5u x.trips.length c5u, .slice a6u x.hazards.length c6u, .slice b2u (x.paths.length + 1) d2u, .slice b3u x.doors.length d3u, .slice b4u x.routes.length d4u, .slice b5u x.trips.length d5u, .slice b6u x.hazards.length d6u], .agg #[.int .i64 x.horizon, .slice A1w (x.stops.length + 1) k1w, .slice A2w (x.paths.length + 1) k2w, .slice a3w x.doors.length c3w, .slice a4w x.routes.length c4w, .slice a5w x.trips.length c5w, .slice a6w x.hazards.length c6w, .slice B2w (x.paths.length + 1) m2w, .slice b3w x.doors.length d3w, .slice b4w x.routes.length d4w, .slice b5w x.trips.length d5w, .slice b6w x.hazards.length d6w]] w1 (fun e w' => e = .returned (.bool true) ∧ Below w1.heap.size w1 w')) := Lib.hid (fun w1 h1 h2 => kworld_l _ _ (by simp [woF, numX, namesX, moreS, moreP]) (by simp [woF, numX, namesX, moreS, moreP]) (wlt_num (xlt_moreP HLT.out nm _)) w1 h1 h2)
                      have m0 : W31.cell? ⟨w26.heap.size, 0, none⟩ = some (.int .i64 x.horizon) := KUn.out.cell 0; have m1 : W31.cell? ⟨w26.heap.size, 1, none⟩ = some (.slice a1u (x.stops.length + 1) c1u) := KUn.out.cell 1; have m2 : W31.cell? ⟨w26.heap.size, 2, none⟩ = some (.slice a2u (x.paths.length + 1) c2u) := KUn.out.cell 2; have m3 : W31.cell? ⟨w26.heap.size, 3, none⟩ = some (.slice a3u x.doors.length c3u) := KUn.out.cell 3; have m4 : W31.cell? ⟨w26.heap.size, 4, none⟩ = some (.slice a4u x.routes.length c4u) := KUn.out.cell 4; have m5 : W31.cell? ⟨w26.heap.size, 5, none⟩ = some (.slice a5u x.trips.length c5u) := KUn.out.cell 5; have m6 : W31.cell? ⟨w26.heap.size, 6, none⟩ = some (.slice a6u x.hazards.length c6u) := KUn.out.cell 6; have m7 : W31.cell? ⟨w26.heap.size, 7, none⟩ = some (.slice b2u (x.paths.length + 1) d2u) := KUn.out.cell 7; have m8 : W31.cell? ⟨w26.heap.size, 8, none⟩ = some (.slice b3u x.doors.length d3u) := KUn.out.cell 8; have m9 : W31.cell? ⟨w26.heap.size, 9, none⟩ = some (.slice b4u x.routes.length d4u) := KUn.out.cell 9; have m10 : W31.cell? ⟨w26.heap.size, 10, none⟩ = some (.slice b5u x.trips.length d5u) := KUn.out.cell 10; have m11 : W31.cell? ⟨w26.heap.size, 11, none⟩ = some (.slice b6u x.hazards.length d6u) := KUn.out.cell 11
                      have t0 : W31.cell? ⟨w13.heap.size, 0, none⟩ = some (.int .i64 x.horizon) := KWn.out.cell 0; have t1 : W31.cell? ⟨w13.heap.size, 1, none⟩ = some (.slice A1w (x.stops.length + 1) k1w) := KWn.out.cell 1; have t2 : W31.cell? ⟨w13.heap.size, 2, none⟩ = some (.slice A2w (x.paths.length + 1) k2w) := KWn.out.cell 2; have t3 : W31.cell? ⟨w13.heap.size, 3, none⟩ = some (.slice a3w x.doors.length c3w) := KWn.out.cell 3; have t4 : W31.cell? ⟨w13.heap.size, 4, none⟩ = some (.slice a4w x.routes.length c4w) := KWn.out.cell 4; have t5 : W31.cell? ⟨w13.heap.size, 5, none⟩ = some (.slice a5w x.trips.length c5w) := KWn.out.cell 5; have t6 : W31.cell? ⟨w13.heap.size, 6, none⟩ = some (.slice a6w x.hazards.length c6w) := KWn.out.cell 6; have t7 : W31.cell? ⟨w13.heap.size, 7, none⟩ = some (.slice B2w (x.paths.length + 1) m2w) := KWn.out.cell 7; have t8 : W31.cell? ⟨w13.heap.size, 8, none⟩ = some (.slice b3w x.doors.length d3w) := KWn.out.cell 8; have t9 : W31.cell? ⟨w13.heap.size, 9, none⟩ = some (.slice b4w x.routes.length d4w) := KWn.out.cell 9; have t10 : W31.cell? ⟨w13.heap.size, 10, none⟩ = some (.slice b5w x.trips.length d5w) := KWn.out.cell 10; have t11 : W31.cell? ⟨w13.heap.size, 11, none⟩ = some (.slice b6w x.hazards.length d6w) := KWn.out.cell 11
                      go_wp2_with (go_at_call 23; refine (HKW.out _ HWU.out HWW.out).mono ?_; rintro e w32 ⟨rfl, hb⟩; have B32 : Hid (Below W31.heap.size W31 w32) := Lib.hid hb; clear hb)
                      go_ret
                      exact ⟨rfl, keep_trans BWn.out B32.out⟩
              · skip
                obtain ⟨⟨we, wk, wa⟩, hwx⟩ : ∃ k, k = wrongX (moreS x nm) := ⟨_, rfl⟩
                obtain rfl : we = 7 := by have h6 := congrArg WrM.err (more_bad HOK.out HLT.out.l1 (by simpa using hb)); rw [← hwx] at h6; exact h6
                have HMK : Hid (∀ w1, Sh w1 (· < w1.heap.size) (moreS x nm) ⟨A1n, A2, A3, A4, A5, A6, k1n, k2, k3, k4, k5, k6⟩ → Calls Tryz.prog 10 #[.agg #[.int .i64 x.horizon, .slice A1n (x.stops.length + 1) k1n, .slice A2 x.paths.length k2, .slice A3 x.doors.length k3, .slice A4 x.routes.length k4, .slice A5 x.trips.length k5, .slice A6 x.hazards.length k6]] w1 (fun e w' => ∃ q : WoA, e = .returned (.tuple #[woF zWo q, .agg #[.int .i64 7, .int .i64 wk, .int .i64 wa]]) ∧ Below w1.heap.size w1 w')) := Lib.hid (fun w1 hs => by have hc := make_no hwx.symm (show (7 : Int) ≠ 0 by decide) _ w1 hs (xlt_moreS HLT.out nm); simpa only [shV, moreS, List.length_append, List.length_cons, List.length_nil, Nat.zero_add] using hc)
                dsimp only [woF, zWo, List.length_nil] at HMK
                clear hwx
                go_wp2_with (go_at_call 10; refine (HMK.out _ HSM.out.sh).mono ?_; rintro e w10 ⟨q, rfl, hb⟩; obtain ⟨⟨a1s, a2s, a3s, a4s, a5s, a6s, c1s, c2s, c3s, c4s, c5s, c6s⟩, b2s, b3s, b4s, b5s, b6s, d2s, d3s, d4s, d5s, d6s⟩ := q; have B10 : Hid (Below w.heap.size w w10) := Lib.hid (keep_trans BW9.out hb); clear hb)
                go_ret
                exact ⟨rfl, keep_trans B10.out (two_box _ _ _)⟩
          · have HM0 : Hid (makeX x = zWo) := Lib.hid (by unfold makeX; rw [if_pos hwe])
            have HMK := Lib.hid (fun w1 (hb : Below w.heap.size w w1) => make_any x ⟨p1, p2, p3, p4, p5, p6, q1, q2, q3, q4, q5, q6⟩ w1 (HS.out.later hb) HX.out)
            unfold MkPost at HMK
            simp only [HM0.out] at HMK
            obtain ⟨⟨we, wk, wa⟩, hwx⟩ : ∃ k, k = wrongX x := ⟨_, rfl⟩
            rw [← hwx] at hwe HMK
            dsimp only [wrV, shV, woF, zWo, List.length_nil] at hwe HMK
            have hn1 : (we != 0) = true := by simpa using hwe
            have hn2 : (we == 0) = false := by simpa using hwe
            clear hwx hwe HM0
            go_enter Tryz.func8, Tryz.ntmps8
            go_wp2_with (first
              | (go_at_call 9; refine (HLV.out _).mono ?_; rintro e w1 ⟨rfl, hb⟩; have B1 : Hid (Below w.heap.size w w1) := Lib.hid (keep_trans (one_box _ _) hb); have K1 := Lib.hid ((Blk.new w 44 [.int .i64 x.horizon, .slice p1 x.stops.length q1, .slice p2 x.paths.length q2, .slice p3 x.doors.length q3, .slice p4 x.routes.length q4, .slice p5 x.trips.length q5, .slice p6 x.hazards.length q6]).after hb); have s0 : w1.cell? ⟨w.heap.size, 0, none⟩ = some (.int .i64 x.horizon) := K1.out.cell 0; have s1 : w1.cell? ⟨w.heap.size, 1, none⟩ = some (.slice p1 x.stops.length q1) := K1.out.cell 1; have s2 : w1.cell? ⟨w.heap.size, 2, none⟩ = some (.slice p2 x.paths.length q2) := K1.out.cell 2; have s3 : w1.cell? ⟨w.heap.size, 3, none⟩ = some (.slice p3 x.doors.length q3) := K1.out.cell 3; have s4 : w1.cell? ⟨w.heap.size, 4, none⟩ = some (.slice p4 x.routes.length q4) := K1.out.cell 4; have s5 : w1.cell? ⟨w.heap.size, 5, none⟩ = some (.slice p5 x.trips.length q5) := K1.out.cell 5; have s6 : w1.cell? ⟨w.heap.size, 6, none⟩ = some (.slice p6 x.hazards.length q6) := K1.out.cell 6; clear hb)
              | (go_at_call 16; refine (HLI.out _ B1.out).mono ?_; rintro e w2 ⟨rfl, hb⟩; have B2 : Hid (Below w.heap.size w w2) := Lib.hid (keep_trans B1.out hb); have K2 := Lib.hid (K1.out.after hb); clear s0 s1 s2 s3 s4 s5 s6; have s0 : w2.cell? ⟨w.heap.size, 0, none⟩ = some (.int .i64 x.horizon) := K2.out.cell 0; have s1 : w2.cell? ⟨w.heap.size, 1, none⟩ = some (.slice p1 x.stops.length q1) := K2.out.cell 1; have s2 : w2.cell? ⟨w.heap.size, 2, none⟩ = some (.slice p2 x.paths.length q2) := K2.out.cell 2; have s3 : w2.cell? ⟨w.heap.size, 3, none⟩ = some (.slice p3 x.doors.length q3) := K2.out.cell 3; have s4 : w2.cell? ⟨w.heap.size, 4, none⟩ = some (.slice p4 x.routes.length q4) := K2.out.cell 4; have s5 : w2.cell? ⟨w.heap.size, 5, none⟩ = some (.slice p5 x.trips.length q5) := K2.out.cell 5; have s6 : w2.cell? ⟨w.heap.size, 6, none⟩ = some (.slice p6 x.hazards.length q6) := K2.out.cell 6; clear hb)
              | (go_at_call 10; refine (HMK.out _ B2.out).mono ?_; rintro e w3 ⟨q, rfl, hw, hb⟩; obtain ⟨⟨a1, a2, a3, a4, a5, a6, c1, c2, c3, c4, c5, c6⟩, b2, b3, b4, b5, b6, d2, d3, d4, d5, d6⟩ := q; have B3 : Hid (Below w.heap.size w w3) := Lib.hid (keep_trans B2.out hb); clear hb hw))
            go_ret
            exact ⟨rfl, keep_trans B3.out (two_box _ _ _)⟩
        · have e1 : decide (1000 < n) = true := by simp; omega
          have c1 : decide (12 < (nm.length : Int)) = false := by simp; omega
          have c2 : decide (12 < nm.length) = false := by simp; omega
          have d1 : decide (n < 1) = false := by simp; omega
          go_enter Tryz.func8, Tryz.ntmps8
          go_wp2_with (first
            | (go_at_call 9; refine (HLV.out _).mono ?_; rintro e w1 ⟨rfl, hb⟩; have B1 : Hid (Below w.heap.size w w1) := Lib.hid (keep_trans (one_box _ _) hb); have K1 := Lib.hid ((Blk.new w 44 [.int .i64 x.horizon, .slice p1 x.stops.length q1, .slice p2 x.paths.length q2, .slice p3 x.doors.length q3, .slice p4 x.routes.length q4, .slice p5 x.trips.length q5, .slice p6 x.hazards.length q6]).after hb); have s0 : w1.cell? ⟨w.heap.size, 0, none⟩ = some (.int .i64 x.horizon) := K1.out.cell 0; have s1 : w1.cell? ⟨w.heap.size, 1, none⟩ = some (.slice p1 x.stops.length q1) := K1.out.cell 1; have s2 : w1.cell? ⟨w.heap.size, 2, none⟩ = some (.slice p2 x.paths.length q2) := K1.out.cell 2; have s3 : w1.cell? ⟨w.heap.size, 3, none⟩ = some (.slice p3 x.doors.length q3) := K1.out.cell 3; have s4 : w1.cell? ⟨w.heap.size, 4, none⟩ = some (.slice p4 x.routes.length q4) := K1.out.cell 4; have s5 : w1.cell? ⟨w.heap.size, 5, none⟩ = some (.slice p5 x.trips.length q5) := K1.out.cell 5; have s6 : w1.cell? ⟨w.heap.size, 6, none⟩ = some (.slice p6 x.hazards.length q6) := K1.out.cell 6; clear hb)
            | (go_at_call 16; refine (HLI.out _ B1.out).mono ?_; rintro e w2 ⟨rfl, hb⟩; have B2 : Hid (Below w.heap.size w w2) := Lib.hid (keep_trans B1.out hb); have K2 := Lib.hid (K1.out.after hb); clear s0 s1 s2 s3 s4 s5 s6; have s0 : w2.cell? ⟨w.heap.size, 0, none⟩ = some (.int .i64 x.horizon) := K2.out.cell 0; have s1 : w2.cell? ⟨w.heap.size, 1, none⟩ = some (.slice p1 x.stops.length q1) := K2.out.cell 1; have s2 : w2.cell? ⟨w.heap.size, 2, none⟩ = some (.slice p2 x.paths.length q2) := K2.out.cell 2; have s3 : w2.cell? ⟨w.heap.size, 3, none⟩ = some (.slice p3 x.doors.length q3) := K2.out.cell 3; have s4 : w2.cell? ⟨w.heap.size, 4, none⟩ = some (.slice p4 x.routes.length q4) := K2.out.cell 4; have s5 : w2.cell? ⟨w.heap.size, 5, none⟩ = some (.slice p5 x.trips.length q5) := K2.out.cell 5; have s6 : w2.cell? ⟨w.heap.size, 6, none⟩ = some (.slice p6 x.hazards.length q6) := K2.out.cell 6; clear hb))
          go_ret
          exact ⟨rfl, B2.out⟩
      · have d1 : decide (n < 1) = true := by simp; omega
        have c1 : decide (12 < (nm.length : Int)) = false := by simp; omega
        have c2 : decide (12 < nm.length) = false := by simp; omega
        go_enter Tryz.func8, Tryz.ntmps8
        go_wp2_with (first
          | (go_at_call 9; refine (HLV.out _).mono ?_; rintro e w1 ⟨rfl, hb⟩; have B1 : Hid (Below w.heap.size w w1) := Lib.hid (keep_trans (one_box _ _) hb); have K1 := Lib.hid ((Blk.new w 44 [.int .i64 x.horizon, .slice p1 x.stops.length q1, .slice p2 x.paths.length q2, .slice p3 x.doors.length q3, .slice p4 x.routes.length q4, .slice p5 x.trips.length q5, .slice p6 x.hazards.length q6]).after hb); have s0 : w1.cell? ⟨w.heap.size, 0, none⟩ = some (.int .i64 x.horizon) := K1.out.cell 0; have s1 : w1.cell? ⟨w.heap.size, 1, none⟩ = some (.slice p1 x.stops.length q1) := K1.out.cell 1; have s2 : w1.cell? ⟨w.heap.size, 2, none⟩ = some (.slice p2 x.paths.length q2) := K1.out.cell 2; have s3 : w1.cell? ⟨w.heap.size, 3, none⟩ = some (.slice p3 x.doors.length q3) := K1.out.cell 3; have s4 : w1.cell? ⟨w.heap.size, 4, none⟩ = some (.slice p4 x.routes.length q4) := K1.out.cell 4; have s5 : w1.cell? ⟨w.heap.size, 5, none⟩ = some (.slice p5 x.trips.length q5) := K1.out.cell 5; have s6 : w1.cell? ⟨w.heap.size, 6, none⟩ = some (.slice p6 x.hazards.length q6) := K1.out.cell 6; clear hb)
          | (go_at_call 16; refine (HLI.out _ B1.out).mono ?_; rintro e w2 ⟨rfl, hb⟩; have B2 : Hid (Below w.heap.size w w2) := Lib.hid (keep_trans B1.out hb); have K2 := Lib.hid (K1.out.after hb); clear s0 s1 s2 s3 s4 s5 s6; have s0 : w2.cell? ⟨w.heap.size, 0, none⟩ = some (.int .i64 x.horizon) := K2.out.cell 0; have s1 : w2.cell? ⟨w.heap.size, 1, none⟩ = some (.slice p1 x.stops.length q1) := K2.out.cell 1; have s2 : w2.cell? ⟨w.heap.size, 2, none⟩ = some (.slice p2 x.paths.length q2) := K2.out.cell 2; have s3 : w2.cell? ⟨w.heap.size, 3, none⟩ = some (.slice p3 x.doors.length q3) := K2.out.cell 3; have s4 : w2.cell? ⟨w.heap.size, 4, none⟩ = some (.slice p4 x.routes.length q4) := K2.out.cell 4; have s5 : w2.cell? ⟨w.heap.size, 5, none⟩ = some (.slice p5 x.trips.length q5) := K2.out.cell 5; have s6 : w2.cell? ⟨w.heap.size, 6, none⟩ = some (.slice p6 x.hazards.length q6) := K2.out.cell 6; clear hb))
        go_ret
        exact ⟨rfl, B2.out⟩
    · have c1 : decide (12 < (nm.length : Int)) = true := by simp; omega
      have c2 : decide (12 < nm.length) = true := by simp; omega
      go_enter Tryz.func8, Tryz.ntmps8
      go_wp2_with (first
        | (go_at_call 9; refine (HLV.out _).mono ?_; rintro e w1 ⟨rfl, hb⟩; have B1 : Hid (Below w.heap.size w w1) := Lib.hid (keep_trans (one_box _ _) hb); have K1 := Lib.hid ((Blk.new w 44 [.int .i64 x.horizon, .slice p1 x.stops.length q1, .slice p2 x.paths.length q2, .slice p3 x.doors.length q3, .slice p4 x.routes.length q4, .slice p5 x.trips.length q5, .slice p6 x.hazards.length q6]).after hb); have s0 : w1.cell? ⟨w.heap.size, 0, none⟩ = some (.int .i64 x.horizon) := K1.out.cell 0; have s1 : w1.cell? ⟨w.heap.size, 1, none⟩ = some (.slice p1 x.stops.length q1) := K1.out.cell 1; have s2 : w1.cell? ⟨w.heap.size, 2, none⟩ = some (.slice p2 x.paths.length q2) := K1.out.cell 2; have s3 : w1.cell? ⟨w.heap.size, 3, none⟩ = some (.slice p3 x.doors.length q3) := K1.out.cell 3; have s4 : w1.cell? ⟨w.heap.size, 4, none⟩ = some (.slice p4 x.routes.length q4) := K1.out.cell 4; have s5 : w1.cell? ⟨w.heap.size, 5, none⟩ = some (.slice p5 x.trips.length q5) := K1.out.cell 5; have s6 : w1.cell? ⟨w.heap.size, 6, none⟩ = some (.slice p6 x.hazards.length q6) := K1.out.cell 6; clear hb)
        | (go_at_call 16; refine (HLI.out _ B1.out).mono ?_; rintro e w2 ⟨rfl, hb⟩; have B2 : Hid (Below w.heap.size w w2) := Lib.hid (keep_trans B1.out hb); have K2 := Lib.hid (K1.out.after hb); clear s0 s1 s2 s3 s4 s5 s6; have s0 : w2.cell? ⟨w.heap.size, 0, none⟩ = some (.int .i64 x.horizon) := K2.out.cell 0; have s1 : w2.cell? ⟨w.heap.size, 1, none⟩ = some (.slice p1 x.stops.length q1) := K2.out.cell 1; have s2 : w2.cell? ⟨w.heap.size, 2, none⟩ = some (.slice p2 x.paths.length q2) := K2.out.cell 2; have s3 : w2.cell? ⟨w.heap.size, 3, none⟩ = some (.slice p3 x.doors.length q3) := K2.out.cell 3; have s4 : w2.cell? ⟨w.heap.size, 4, none⟩ = some (.slice p4 x.routes.length q4) := K2.out.cell 4; have s5 : w2.cell? ⟨w.heap.size, 5, none⟩ = some (.slice p5 x.trips.length q5) := K2.out.cell 5; have s6 : w2.cell? ⟨w.heap.size, 6, none⟩ = some (.slice p6 x.hazards.length q6) := K2.out.cell 6; clear hb))
      go_ret
      exact ⟨rfl, B2.out⟩
end Go.Proofs.YtgdanbfglefiiaaGreat.Wo
