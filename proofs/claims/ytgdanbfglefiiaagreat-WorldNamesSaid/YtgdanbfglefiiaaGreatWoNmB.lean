/- The chapter's examples come out as it tells: walked. No conditions. -/
import Derived.Test.YtgdanbfglefiiaaGreatBaN
import Derived.Test.YtgdanbfglefiiaaGreatWoNmA
import Derived.ChangeSlices
import Derived.Deep.Strs
import Derived.Deep.SlicePairs
import Derived.ChangeArms
import Derived.Carry
import Derived.Deep.RegionHeld3
import Derived.Deep.RegionHeldLaw
import Derived.Deep.CutRange
import Derived.StillTailTactics
import Derived.WalkSpells
import Derived.Lib.QuietBelow
import Derived.Deep.QuietTactic
namespace Go.Proofs.YtgdanbfglefiiaaGreat.Wo
open Go.ChangeShapes Go.WideShapes Go.ChangeAt Go.RowKit Go.Maps
open Lx Sh It
set_option linter.unusedVariables false
set_option linter.unusedSimpArgs false
theorem own_at9 {w : World} {b e n c : Nat} {ad : Addr} {l : List Value} (h : w.ownsRow b e 3 (.slice (some ad) n c) 1 l) : ∃ g cur, ad = ⟨g, 0, none⟩ ∧ w.heap[g]? = some (.cells cur e (0, 0)) := by
  rcases h.2 with ⟨hv, -⟩ | ⟨g, cap, cur, hv, -, hg, -⟩
  · simp at hv
  · simp only [Value.slice.injEq, Option.some.injEq] at hv
    exact ⟨g, cur, hv.1, hg⟩
def MkS (w : World) (e : Ending) (w' : World) : Prop := ∃ (a1 a2 a3 a4 a5 a6 b2 b3 b4 b5 b6 : Option Addr) (c1 c2 c3 c4 c5 c6 d2 d3 d4 d5 d6 : Nat), e = .returned (.tuple #[.agg #[.int .i64 40, .slice a1 2 c1, .slice a2 1 c2, .slice a3 0 c3, .slice a4 0 c4, .slice a5 0 c5, .slice a6 1 c6, .slice b2 1 d2, .slice b3 0 d3, .slice b4 0 d4, .slice b5 0 d5, .slice b6 1 d6], .agg #[.int .i64 0, .int .i64 0, .int .i64 0]]) ∧ Hid (Wo w' (fun b => w.heap.size ≤ b ∧ b < w'.heap.size) (numX smallM) ⟨⟨a1, a2, a3, a4, a5, a6, c1, c2, c3, c4, c5, c6⟩, b2, b3, b4, b5, b6, d2, d3, d4, d5, d6⟩) ∧ Hid (∃ B, w'.ownsRow B 51 3 (.slice b2 1 d2) 1 [.int .i64 0, .int .i64 1, .int .i64 3]) ∧ Hid (Below w.heap.size w w')
def StS (w : World) (e : Ending) (w' : World) : Prop := ∃ (A1 A2 A3 A4 A5 A6 : Option Addr) (k1 k2 k3 k4 k5 k6 : Nat), e = .returned (.tuple #[.agg #[.int .i64 40, .slice A1 2 k1, .slice A2 1 k2, .slice A3 0 k3, .slice A4 0 k4, .slice A5 0 k5, .slice A6 1 k6], .int .i64 0]) ∧ Hid (Sh w' (fun b => w.heap.size ≤ b ∧ b < w'.heap.size) smallM ⟨A1, A2, A3, A4, A5, A6, k1, k2, k3, k4, k5, k6⟩) ∧ Hid (Below w.heap.size w w')
def SmS (w : World) (e : Ending) (w' : World) : Prop := ∃ (p1 p2 p3 p4 p5 p6 : Option Addr) (q1 q2 q3 q4 q5 q6 : Nat), e = .returned (.agg #[.int .i64 40, .slice p1 2 q1, .slice p2 1 q2, .slice p3 0 q3, .slice p4 0 q4, .slice p5 0 q5, .slice p6 1 q6]) ∧ Hid (Sh w' (fun b => w.heap.size ≤ b ∧ b < w'.heap.size) smallM ⟨p1, p2, p3, p4, p5, p6, q1, q2, q3, q4, q5, q6⟩) ∧ Hid (Below w.heap.size w w')
theorem sm_err : (wrongX smallM).err = 0 := by rw [small_w]
theorem sm_lt : XLt smallM := xlt_of (by decide)
theorem d1_lt : XLt dM1 := xlt_of (by decide)
theorem d2_lt : XLt dM2 := xlt_of (by decide)
def MkN (w : World) (k : WrM) (e : Ending) (w' : World) : Prop := ∃ (a1 a2 a3 a4 a5 a6 b2 b3 b4 b5 b6 : Option Addr) (c1 c2 c3 c4 c5 c6 d2 d3 d4 d5 d6 : Nat), e = .returned (.tuple #[.agg #[.int .i64 0, .slice a1 0 c1, .slice a2 0 c2, .slice a3 0 c3, .slice a4 0 c4, .slice a5 0 c5, .slice a6 0 c6, .slice b2 0 d2, .slice b3 0 d3, .slice b4 0 d4, .slice b5 0 d5, .slice b6 0 d6], wrV k]) ∧ Hid (Below w.heap.size w w')
theorem make_n {x : SheetM} {k : WrM} (hx : wrongX x = k) (hk : k.err ≠ 0) (p : ShA) (w : World) (h : Sh w (· < w.heap.size) x p) (hl : XLt x) : Calls Tryz.prog 10 #[shV x p] w (MkN w k) :=
  (make_no hx hk p w h hl).mono fun e w' he => by
    obtain ⟨⟨⟨a1, a2, a3, a4, a5, a6, c1, c2, c3, c4, c5, c6⟩, b2, b3, b4, b5, b6, d2, d3, d4, d5, d6⟩, h1, h2⟩ := he
    exact ⟨a1, a2, a3, a4, a5, a6, b2, b3, b4, b5, b6, c1, c2, c3, c4, c5, c6, d2, d3, d4, d5, d6, h1, Lib.hid h2⟩
set_option maxRecDepth 100000 in
set_option maxHeartbeats 8000000 in
theorem names_all (w : World) : Calls Tryz.prog 3 #[] w (fun e w' => e = .returned (.bool true) ∧ Below w.heap.size w w') := by
  have HLV := Lib.hid (fun w1 => lives_any w1)
  have HSM : Hid (∀ w1, Calls Tryz.prog 11 #[] w1 (SmS w1)) := Lib.hid (fun w1 => (small_any w1).mono fun e w2 he => by
    obtain ⟨⟨p1, p2, p3, p4, p5, p6, q1, q2, q3, q4, q5, q6⟩, h1, h2, h3⟩ := he
    exact ⟨p1, p2, p3, p4, p5, p6, q1, q2, q3, q4, q5, q6, h1, Lib.hid h2, Lib.hid h3⟩)
  have HMK : Hid (∀ w1 q, Sh w1 (· < w1.heap.size) smallM q → Calls Tryz.prog 10 #[shV smallM q] w1 (MkS w1)) := Lib.hid (fun w1 q hs => (make_own smallM q w1 hs sm_lt).mono fun e w2 he => by
    obtain ⟨⟨⟨a1, a2, a3, a4, a5, a6, c1, c2, c3, c4, c5, c6⟩, b2, b3, b4, b5, b6, d2, d3, d4, d5, d6⟩, h1, h2, h3, B, h4⟩ := he
    rw [(make_back sm_err).1, (wrong_parts sm_err).2.2.2] at h1
    rw [(make_back sm_err).1] at h2 h4
    rw [sm_num] at h1 h4
    exact ⟨a1, a2, a3, a4, a5, a6, b2, b3, b4, b5, b6, c1, c2, c3, c4, c5, c6, d2, d3, d4, d5, d6, h1, Lib.hid h2, Lib.hid ⟨B, h4⟩, Lib.hid h3⟩)
  have HSH : Hid (∀ w1 q, Wo w1 (· < w1.heap.size) (numX smallM) q → Calls Tryz.prog 12 #[woX smallM q] w1 (StS w1)) := Lib.hid (fun w1 q hs => (sheet_good sm_err q w1 hs sm_lt).mono fun e w2 he => he)
  have HF1 := Lib.hid (fun w1 q (hs : Wo w1 (· < w1.heap.size) (numX smallM) q) => find_good [104] 6 0 sm_h q w1 hs sm_lt)
  have HF2 := Lib.hid (fun w1 q (hs : Wo w1 (· < w1.heap.size) (numX smallM) q) => find_good [113] 0 0 sm_q q w1 hs sm_lt)
  have HCK : Hid (∀ w1 q, Wo w1 (· < w1.heap.size) badM q → Calls Tryz.prog 15 #[woX smallM q] w1 (fun e w2 => e = .returned (.agg #[.int .i64 2, .int .i64 0, .int .i64 0]) ∧ Below w1.heap.size w1 w2)) := Lib.hid (fun w1 q hs => by
    have h1 := wcheck_any badM q w1 hs bad_lt
    rw [bad_w] at h1
    exact h1)
  have HK1 := Lib.hid (fun w1 q (hs : Sh w1 (· < w1.heap.size) dM1 q) => make_n dM1_w (by decide) q w1 hs d1_lt)
  have HK2 := Lib.hid (fun w1 q (hs : Sh w1 (· < w1.heap.size) dM2 q) => make_n dM2_w (by decide) q w1 hs d2_lt)
  have HKS := Lib.hid (fun w1 q q' (hs : Sh w1 (· < w1.heap.size) smallM q) (hs' : Sh w1 (· < w1.heap.size) smallM q') => ksheet_d smallM smallM q q' w1 hs hs' sm_lt.few sm_lt.few)
  simp only [decide_true] at HKS
  simp only [shV, woX, smallM, dM1, dM2, List.length_cons, List.length_nil, Nat.zero_add, Nat.reduceAdd] at HMK HSH HF1 HF2 HCK HK1 HK2 HKS
  go_enter Tryz.func3, Tryz.ntmps3
  go_upto_region 4 with (first
    | (go_at_call 9; refine (HLV.out _).mono ?_; rintro e w1 ⟨rfl, hb⟩; have B1 : Hid (Below w.heap.size w w1) := Lib.hid hb; clear hb)
    | (go_at_call 11; refine (HSM.out _).mono ?_; rintro e w2 ⟨p1, p2, p3, p4, p5, p6, q1, q2, q3, q4, q5, q6, rfl, hs, hb⟩; have B2 : Hid (Below w.heap.size w w2) := Lib.hid (keep_trans B1.out hb.out); have HS2 : Hid (Sh w2 (· < w2.heap.size) smallM ⟨p1, p2, p3, p4, p5, p6, q1, q2, q3, q4, q5, q6⟩) := Lib.hid (hs.out.more fun b hk => hk.2); clear hs hb)
    | (go_at_call 10; refine (HMK.out _ ⟨p1, p2, p3, p4, p5, p6, q1, q2, q3, q4, q5, q6⟩ HS2.out).mono ?_; rintro e w3 ⟨a1, a2, a3, a4, a5, a6, b2, b3, b4, b5, b6, c1, c2, c3, c4, c5, c6, d2, d3, d4, d5, d6, rfl, hw, ho, hb⟩; have B3 : Hid (Below w.heap.size w w3) := Lib.hid (keep_trans B2.out hb.out); have HWQ := Lib.hid (hw.out.r2); have HW3 : Hid (Wo w3 (· < w3.heap.size) (numX smallM) ⟨⟨a1, a2, a3, a4, a5, a6, c1, c2, c3, c4, c5, c6⟩, b2, b3, b4, b5, b6, d2, d3, d4, d5, d6⟩) := Lib.hid (hw.out.more fun b hk => hk.2); have HO3 := ho; have Z2 : Hid (w.heap.size ≤ w2.heap.size) := Lib.hid B2.out.size; clear hw hb ho))
  obtain ⟨W4, hW⟩ : ∃ W, W = (w3.alloc (.cells #[.int .i64 40, .slice a1 2 c1, .slice a2 1 c2, .slice a3 0 c3, .slice a4 0 c4, .slice a5 0 c5, .slice a6 1 c6, .slice b2 1 d2, .slice b3 0 d3, .slice b4 0 d4, .slice b5 0 d5, .slice b6 1 d6] 32)).alloc (.cells #[.int .i64 0, .int .i64 0, .int .i64 0] 35) := ⟨_, rfl⟩
  have B34 : Hid (Below w3.heap.size w3 W4) := Lib.hid (by rw [hW]; exact two_box _ _ _)
  have KM : Hid (Blk W4 w3.heap.size 32 [.int .i64 40, .slice a1 2 c1, .slice a2 1 c2, .slice a3 0 c3, .slice a4 0 c4, .slice a5 0 c5, .slice a6 1 c6, .slice b2 1 d2, .slice b3 0 d3, .slice b4 0 d4, .slice b5 0 d5, .slice b6 1 d6]) := Lib.hid (by rw [hW]; exact (Blk.new _ _ _).alloc _)
  have HW4 := Lib.hid (HW3.out.later B34.out)
  have B4 : Hid (Below w.heap.size w W4) := Lib.hid (keep_trans B3.out B34.out)
  rw [← hW]
  clear hW B1 B2 HS2 HW3
  have m0 : W4.cell? ⟨w3.heap.size, 0, none⟩ = some (.int .i64 40) := KM.out.cell 0
  have m1 : W4.cell? ⟨w3.heap.size, 1, none⟩ = some (.slice a1 2 c1) := KM.out.cell 1
  have m2 : W4.cell? ⟨w3.heap.size, 2, none⟩ = some (.slice a2 1 c2) := KM.out.cell 2
  have m3 : W4.cell? ⟨w3.heap.size, 3, none⟩ = some (.slice a3 0 c3) := KM.out.cell 3
  have m4 : W4.cell? ⟨w3.heap.size, 4, none⟩ = some (.slice a4 0 c4) := KM.out.cell 4
  have m5 : W4.cell? ⟨w3.heap.size, 5, none⟩ = some (.slice a5 0 c5) := KM.out.cell 5
  have m6 : W4.cell? ⟨w3.heap.size, 6, none⟩ = some (.slice a6 1 c6) := KM.out.cell 6
  have m7 : W4.cell? ⟨w3.heap.size, 7, none⟩ = some (.slice b2 1 d2) := KM.out.cell 7
  have m8 : W4.cell? ⟨w3.heap.size, 8, none⟩ = some (.slice b3 0 d3) := KM.out.cell 8
  have m9 : W4.cell? ⟨w3.heap.size, 9, none⟩ = some (.slice b4 0 d4) := KM.out.cell 9
  have m10 : W4.cell? ⟨w3.heap.size, 10, none⟩ = some (.slice b5 0 d5) := KM.out.cell 10
  have m11 : W4.cell? ⟨w3.heap.size, 11, none⟩ = some (.slice b6 1 d6) := KM.out.cell 11
  go_upto_region 7 with (go_at_call 12; refine (HSH.out _ ⟨⟨a1, a2, a3, a4, a5, a6, c1, c2, c3, c4, c5, c6⟩, b2, b3, b4, b5, b6, d2, d3, d4, d5, d6⟩ HW4.out).mono ?_; rintro e w5 ⟨A1, A2, A3, A4, A5, A6, k1, k2, k3, k4, k5, k6, rfl, hs, hb⟩; have B45 := hb; have HY5 := hs; clear hb hs)
  obtain ⟨W6, hW⟩ : ∃ W, W = w5.alloc (.cells #[.int .i64 40, .slice A1 2 k1, .slice A2 1 k2, .slice A3 0 k3, .slice A4 0 k4, .slice A5 0 k5, .slice A6 1 k6] 44) := ⟨_, rfl⟩
  have B46 : Hid (Below W4.heap.size W4 W6) := Lib.hid (by rw [hW]; exact keep_trans B45.out (one_box _ _))
  have KY : Hid (Blk W6 w5.heap.size 44 [.int .i64 40, .slice A1 2 k1, .slice A2 1 k2, .slice A3 0 k3, .slice A4 0 k4, .slice A5 0 k5, .slice A6 1 k6]) := Lib.hid (by rw [hW]; exact Blk.new _ _ _)
  have HY6 : Hid (Sh W6 (fun b => W4.heap.size ≤ b ∧ b < W6.heap.size) smallM ⟨A1, A2, A3, A4, A5, A6, k1, k2, k3, k4, k5, k6⟩) := Lib.hid (by rw [hW]; exact (HY5.out.keep fun b hk => (one_box _ _).block b hk.2).more fun b hk => ⟨hk.1, by have := hk.2; simp; omega⟩)
  have Z5 : Hid (W4.heap.size ≤ w5.heap.size) := Lib.hid B45.out.size
  rw [← hW]
  clear hW B45 HY5 m0 m1 m2 m3 m4 m5 m6 m7 m8 m9 m10 m11
  have KM6 := Lib.hid (KM.out.after B46.out)
  have HW6 := Lib.hid (HW4.out.later B46.out)
  have m0 : W6.cell? ⟨w3.heap.size, 0, none⟩ = some (.int .i64 40) := KM6.out.cell 0
  have m1 : W6.cell? ⟨w3.heap.size, 1, none⟩ = some (.slice a1 2 c1) := KM6.out.cell 1
  have m2 : W6.cell? ⟨w3.heap.size, 2, none⟩ = some (.slice a2 1 c2) := KM6.out.cell 2
  have m3 : W6.cell? ⟨w3.heap.size, 3, none⟩ = some (.slice a3 0 c3) := KM6.out.cell 3
  have m4 : W6.cell? ⟨w3.heap.size, 4, none⟩ = some (.slice a4 0 c4) := KM6.out.cell 4
  have m5 : W6.cell? ⟨w3.heap.size, 5, none⟩ = some (.slice a5 0 c5) := KM6.out.cell 5
  have m6 : W6.cell? ⟨w3.heap.size, 6, none⟩ = some (.slice a6 1 c6) := KM6.out.cell 6
  have m7 : W6.cell? ⟨w3.heap.size, 7, none⟩ = some (.slice b2 1 d2) := KM6.out.cell 7
  have m8 : W6.cell? ⟨w3.heap.size, 8, none⟩ = some (.slice b3 0 d3) := KM6.out.cell 8
  have m9 : W6.cell? ⟨w3.heap.size, 9, none⟩ = some (.slice b4 0 d4) := KM6.out.cell 9
  have m10 : W6.cell? ⟨w3.heap.size, 10, none⟩ = some (.slice b5 0 d5) := KM6.out.cell 10
  have m11 : W6.cell? ⟨w3.heap.size, 11, none⟩ = some (.slice b6 1 d6) := KM6.out.cell 11
  go_upto_region 9 with (first
    | (go_at_call 13; (with_reducible refine (HF1.out _ ⟨⟨a1, a2, a3, a4, a5, a6, c1, c2, c3, c4, c5, c6⟩, b2, b3, b4, b5, b6, d2, d3, d4, d5, d6⟩ HW6.out).mono ?_); rintro e w7 ⟨rfl, hb⟩; have B67 := Lib.hid hb; have HW7 := Lib.hid (HW6.out.later hb); have KM7 := Lib.hid (KM6.out.after hb); clear hb m0 m1 m2 m3 m4 m5 m6 m7 m8 m9 m10 m11; have m0 : w7.cell? ⟨w3.heap.size, 0, none⟩ = some (.int .i64 40) := KM7.out.cell 0; have m1 : w7.cell? ⟨w3.heap.size, 1, none⟩ = some (.slice a1 2 c1) := KM7.out.cell 1; have m2 : w7.cell? ⟨w3.heap.size, 2, none⟩ = some (.slice a2 1 c2) := KM7.out.cell 2; have m3 : w7.cell? ⟨w3.heap.size, 3, none⟩ = some (.slice a3 0 c3) := KM7.out.cell 3; have m4 : w7.cell? ⟨w3.heap.size, 4, none⟩ = some (.slice a4 0 c4) := KM7.out.cell 4; have m5 : w7.cell? ⟨w3.heap.size, 5, none⟩ = some (.slice a5 0 c5) := KM7.out.cell 5; have m6 : w7.cell? ⟨w3.heap.size, 6, none⟩ = some (.slice a6 1 c6) := KM7.out.cell 6; have m7 : w7.cell? ⟨w3.heap.size, 7, none⟩ = some (.slice b2 1 d2) := KM7.out.cell 7; have m8 : w7.cell? ⟨w3.heap.size, 8, none⟩ = some (.slice b3 0 d3) := KM7.out.cell 8; have m9 : w7.cell? ⟨w3.heap.size, 9, none⟩ = some (.slice b4 0 d4) := KM7.out.cell 9; have m10 : w7.cell? ⟨w3.heap.size, 10, none⟩ = some (.slice b5 0 d5) := KM7.out.cell 10; have m11 : w7.cell? ⟨w3.heap.size, 11, none⟩ = some (.slice b6 1 d6) := KM7.out.cell 11)
    | (go_at_call 13; (with_reducible refine (HF2.out _ ⟨⟨a1, a2, a3, a4, a5, a6, c1, c2, c3, c4, c5, c6⟩, b2, b3, b4, b5, b6, d2, d3, d4, d5, d6⟩ HW7.out).mono ?_); rintro e w8 ⟨rfl, hb⟩; have B78 := Lib.hid hb; clear hb m0 m1 m2 m3 m4 m5 m6 m7 m8 m9 m10 m11))
  have B68 : Hid (Below W6.heap.size W6 w8) := Lib.hid (keep_trans B67.out B78.out)
  have HW8 := Lib.hid (HW6.out.later B68.out)
  have KM8 := Lib.hid (KM6.out.after B68.out)
  have KY8 := Lib.hid (KY.out.after B68.out)
  have HY8 : Hid (Sh w8 (fun b => W4.heap.size ≤ b ∧ b < w8.heap.size) smallM ⟨A1, A2, A3, A4, A5, A6, k1, k2, k3, k4, k5, k6⟩) := Lib.hid ((HY6.out.keep fun b hk => B68.out.block b hk.2).more fun b hk => ⟨hk.1, Nat.lt_of_lt_of_le hk.2 B68.out.size⟩)
  clear B67 B78 HW7 KM7 HW6 KM6 HY6
  obtain ⟨OB, hOw⟩ := HO3.out
  have hrd := HWQ.out
  rw [sm_num] at hrd
  obtain ⟨ad, rfl, hS, hcc⟩ := hrd (by simp [cs, poC])
  obtain ⟨g, cur, rfl, hgb⟩ := own_at9 hOw
  have hg1 : w.heap.size ≤ g := Nat.le_trans Z2.out hS.1
  have hg2 : g < w3.heap.size := hS.2
  have B48 : Hid (Below W4.heap.size W4 w8) := Lib.hid (keep_trans B46.out B68.out)
  have B38 : Hid (Below w3.heap.size w3 w8) := Lib.hid (keep_trans B34.out B48.out)
  have hc1 : w8.cell? ⟨g, 1, none⟩ = some (.int .i64 1) := (cell_keep (p := ⟨g, 1, none⟩) B38.out hg2).trans (hcc 1 _ rfl)
  have hfz : w8.frozen? ⟨g, 1, none⟩ = false := by have hh := (B38.out.block g hg2).trans hgb; simp [World.frozen?, hh]
  have zp : w8.cell? ⟨w3.heap.size, 7, none⟩ = some (.slice (some ⟨g, 0, none⟩) 1 d2) := KM8.out.cell 7
  have HG1 := Lib.hid hg1
  have HG2 := Lib.hid hg2
  have Z34 : Hid (w3.heap.size < W4.heap.size) := Lib.hid KM.out.lt
  clear hOw hcc HO3 HWQ hrd hS hgb hg1 hg2
  go_upto_region 10 with fail
  obtain ⟨W9, hW⟩ : ∃ W, W = w8.setCell ⟨g, 1, none⟩ (.int .i64 2) := ⟨_, rfl⟩
  have HB9 : Hid (Wo W9 (· < W9.heap.size) badM ⟨⟨a1, a2, a3, a4, a5, a6, c1, c2, c3, c4, c5, c6⟩, some ⟨g, 0, none⟩, b3, b4, b5, b6, d2, d3, d4, d5, d6⟩) := Lib.hid (by rw [hW]; exact (wo_mod (ad := ⟨g, 0, none⟩) HW8.out rfl).more fun b hb => by simpa using hb)
  have KM9 : Hid (Blk W9 w3.heap.size 32 [.int .i64 40, .slice a1 2 c1, .slice a2 1 c2, .slice a3 0 c3, .slice a4 0 c4, .slice a5 0 c5, .slice a6 1 c6, .slice (some ⟨g, 0, none⟩) 1 d2, .slice b3 0 d3, .slice b4 0 d4, .slice b5 0 d5, .slice b6 1 d6]) := Lib.hid (by rw [hW]; exact KM8.out.far (p := ⟨g, 1, none⟩) (by have := HG2.out; show _ ≠ g; omega) _)
  have KY9 : Hid (Blk W9 w5.heap.size 44 [.int .i64 40, .slice A1 2 k1, .slice A2 1 k2, .slice A3 0 k3, .slice A4 0 k4, .slice A5 0 k5, .slice A6 1 k6]) := Lib.hid (by rw [hW]; exact KY8.out.far (p := ⟨g, 1, none⟩) (by have := HG2.out; have := Z34.out; have := Z5.out; show _ ≠ g; omega) _)
  have HY9 : Hid (Sh W9 (· < W9.heap.size) smallM ⟨A1, A2, A3, A4, A5, A6, k1, k2, k3, k4, k5, k6⟩) := Lib.hid (by rw [hW]; exact (HY8.out.keep fun b hk => Below.heap_setCell _ _ _ _ (by have := HG2.out; have := Z34.out; show b ≠ g; omega)).more fun b hk => by simpa using hk.2)
  have B9 : Hid (Below w.heap.size w W9) := Lib.hid (by rw [hW]; exact below_set1 (p := ⟨g, 1, none⟩) (keep_trans B4.out B48.out) HG1.out _)
  rw [← hW]
  clear hW hc1 hfz zp HW8 KM8 KY8 HY8 B38 B48 HW4 KM KY B46 B68
  go_upto_region 11 with (go_at_call 11; refine (HSM.out _).mono ?_; rintro e wa ⟨p1', p2', p3', p4', p5', p6', q1', q2', q3', q4', q5', q6', rfl, hs, hb⟩; have B9a := hb; have HSa := hs; clear hs hb)
  obtain ⟨Wb, hW⟩ : ∃ W, W = wa.alloc (.cells #[.int .i64 40, .slice p1' 2 q1', .slice p2' 1 q2', .slice p3' 0 q3', .slice p4' 0 q4', .slice p5' 0 q5', .slice p6' 1 q6'] 44) := ⟨_, rfl⟩
  have B9b : Hid (Below W9.heap.size W9 Wb) := Lib.hid (by rw [hW]; exact keep_trans B9a.out (one_box _ _))
  have KD : Hid (Blk Wb wa.heap.size 44 [.int .i64 40, .slice p1' 2 q1', .slice p2' 1 q2', .slice p3' 0 q3', .slice p4' 0 q4', .slice p5' 0 q5', .slice p6' 1 q6']) := Lib.hid (by rw [hW]; exact Blk.new _ _ _)
  have HSb : Hid (Sh Wb (fun b => W9.heap.size ≤ b ∧ b < wa.heap.size) smallM ⟨p1', p2', p3', p4', p5', p6', q1', q2', q3', q4', q5', q6'⟩) := Lib.hid (by rw [hW]; exact HSa.out.keep fun b hk => (one_box _ _).block b hk.2)
  have Zab : Hid (wa.heap.size < Wb.heap.size) := Lib.hid KD.out.lt
  have Z9a : Hid (W9.heap.size ≤ wa.heap.size) := Lib.hid B9a.out.size
  rw [← hW]
  clear hW B9a HSa
  have s0 : Wb.cell? ⟨wa.heap.size, 0, none⟩ = some (.int .i64 40) := KD.out.cell 0
  have s1 : Wb.cell? ⟨wa.heap.size, 1, none⟩ = some (.slice p1' 2 q1') := KD.out.cell 1
  have s2 : Wb.cell? ⟨wa.heap.size, 2, none⟩ = some (.slice p2' 1 q2') := KD.out.cell 2
  have s3 : Wb.cell? ⟨wa.heap.size, 3, none⟩ = some (.slice p3' 0 q3') := KD.out.cell 3
  have s4 : Wb.cell? ⟨wa.heap.size, 4, none⟩ = some (.slice p4' 0 q4') := KD.out.cell 4
  have s5 : Wb.cell? ⟨wa.heap.size, 5, none⟩ = some (.slice p5' 0 q5') := KD.out.cell 5
  have s6 : Wb.cell? ⟨wa.heap.size, 6, none⟩ = some (.slice p6' 1 q6') := KD.out.cell 6
  have sf : ∀ i, Wb.frozen? ⟨wa.heap.size, i, none⟩ = false := fun i => KD.out.frozen i
  have lt1 : wa.heap.size < Wb.heap.size := Zab.out
  have ne1 : ¬ (wa.heap.size = Wb.heap.size) := by have := Zab.out; omega
  have ne2 : ¬ (Wb.heap.size = wa.heap.size) := by have := Zab.out; omega
  go_upto_region 12 with fail
  obtain ⟨Wc, hV⟩ : ∃ W, W = (Wb.setCell ⟨wa.heap.size, 3, none⟩ (.slice (some ⟨Wb.heap.size, 0, none⟩) 1 1)).alloc (.cells #[.string ⟨#[112]⟩, .string ⟨#[97]⟩, .string ⟨#[98]⟩, .int .i64 1, .int .i64 0, .int .i64 0, .int .i64 1] 55) := ⟨_, rfl⟩
  have hW : Wc = (Wb.alloc (.cells #[.string ⟨#[112]⟩, .string ⟨#[97]⟩, .string ⟨#[98]⟩, .int .i64 1, .int .i64 0, .int .i64 0, .int .i64 1] 55)).setCell ⟨wa.heap.size, 3, none⟩ (.slice (some ⟨Wb.heap.size, 0, none⟩) 1 1) := hV.trans (World.setCell_alloc_past _ _ _ _ Zab.out).symm
  have KDc : Hid (Blk Wc wa.heap.size 44 [.int .i64 40, .slice p1' 2 q1', .slice p2' 1 q2', .slice (some ⟨Wb.heap.size, 0, none⟩) 1 1, .slice p4' 0 q4', .slice p5' 0 q5', .slice p6' 1 q6']) := Lib.hid (by rw [hW]; exact (KD.out.alloc _).set_ 3 _)
  have KRc : Hid (Blk Wc Wb.heap.size 55 [.string ⟨#[112]⟩, .string ⟨#[97]⟩, .string ⟨#[98]⟩, .int .i64 1, .int .i64 0, .int .i64 0, .int .i64 1]) := Lib.hid (by rw [hW]; exact (Blk.new Wb _ _).far (p := ⟨wa.heap.size, 3, none⟩) (by have := Zab.out; show _ ≠ wa.heap.size; omega) _)
  have HSc : Hid (Sh Wc (fun b => W9.heap.size ≤ b ∧ b < wa.heap.size) smallM ⟨p1', p2', p3', p4', p5', p6', q1', q2', q3', q4', q5', q6'⟩) := Lib.hid (by rw [hW]; exact (HSb.out.keep fun b hk => (one_box _ _).block b (by have := Zab.out; have := hk.2; omega)).keep fun b hk => Below.heap_setCell _ _ _ _ (by have := hk.2; show b ≠ wa.heap.size; omega))
  have B9c : Hid (Below W9.heap.size W9 Wc) := Lib.hid (by rw [hW]; exact below_set1 (p := ⟨wa.heap.size, 3, none⟩) (B9b.out.alloc B9b.out.size _) Z9a.out _)
  rw [← hV]
  clear hV hW s0 s1 s2 s3 s4 s5 s6 sf HSb KD lt1 ne1 ne2
  have HQ1 : Hid (Sh Wc (· < Wc.heap.size) dM1 ⟨p1', p2', some ⟨Wb.heap.size, 0, none⟩, p4', p5', p6', q1', q2', 1, q4', q5', q6'⟩) := Lib.hid (by have hm := HSc.out.more (S' := (· < Wc.heap.size)) fun b hk => Nat.lt_trans hk.2 KDc.out.lt; exact ⟨hm.r1, hm.r2, KRc.out.rd (S := (· < Wc.heap.size)) KRc.out.lt 0, hm.r4, hm.r5, hm.r6⟩)
  have s0 : Wc.cell? ⟨wa.heap.size, 0, none⟩ = some (.int .i64 40) := KDc.out.cell 0
  have s1 : Wc.cell? ⟨wa.heap.size, 1, none⟩ = some (.slice p1' 2 q1') := KDc.out.cell 1
  have s2 : Wc.cell? ⟨wa.heap.size, 2, none⟩ = some (.slice p2' 1 q2') := KDc.out.cell 2
  have s3 : Wc.cell? ⟨wa.heap.size, 3, none⟩ = some (.slice (some ⟨Wb.heap.size, 0, none⟩) 1 1) := KDc.out.cell 3
  have s4 : Wc.cell? ⟨wa.heap.size, 4, none⟩ = some (.slice p4' 0 q4') := KDc.out.cell 4
  have s5 : Wc.cell? ⟨wa.heap.size, 5, none⟩ = some (.slice p5' 0 q5') := KDc.out.cell 5
  have s6 : Wc.cell? ⟨wa.heap.size, 6, none⟩ = some (.slice p6' 1 q6') := KDc.out.cell 6
  go_upto_region 13 with (go_at_call 10; refine (HK1.out _ ⟨p1', p2', some ⟨Wb.heap.size, 0, none⟩, p4', p5', p6', q1', q2', 1, q4', q5', q6'⟩ HQ1.out).mono ?_; rintro e wd ⟨a1'', a2'', a3'', a4'', a5'', a6'', b2'', b3'', b4'', b5'', b6'', c1'', c2'', c3'', c4'', c5'', c6'', d2'', d3'', d4'', d5'', d6'', rfl, hb⟩; have Bcd := hb; clear hb)
  obtain ⟨We, hW⟩ : ∃ W, W = (wd.alloc (.cells #[.int .i64 0, .slice a1'' 0 c1'', .slice a2'' 0 c2'', .slice a3'' 0 c3'', .slice a4'' 0 c4'', .slice a5'' 0 c5'', .slice a6'' 0 c6'', .slice b2'' 0 d2'', .slice b3'' 0 d3'', .slice b4'' 0 d4'', .slice b5'' 0 d5'', .slice b6'' 0 d6''] 32)).alloc (.cells #[.int .i64 6, .int .i64 3, .int .i64 0] 35) := ⟨_, rfl⟩
  have Bce : Hid (Below Wc.heap.size Wc We) := Lib.hid (by rw [hW]; exact keep_trans Bcd.out (two_box _ _ _))
  have KE1 : Hid (Blk We (wd.heap.size + 1) 35 [.int .i64 6, .int .i64 3, .int .i64 0]) := Lib.hid (by rw [hW]; exact Blk.new2 _ _ _ _)
  have Zcd : Hid (Wc.heap.size ≤ wd.heap.size) := Lib.hid Bcd.out.size
  have Zc : Hid (wa.heap.size < Wc.heap.size ∧ Wb.heap.size < Wc.heap.size) := Lib.hid ⟨KDc.out.lt, KRc.out.lt⟩
  have KDe := Lib.hid (KDc.out.after Bce.out)
  have KRe := Lib.hid (KRc.out.after Bce.out)
  have HSe : Hid (Sh We (fun b => W9.heap.size ≤ b ∧ b < wa.heap.size) smallM ⟨p1', p2', p3', p4', p5', p6', q1', q2', q3', q4', q5', q6'⟩) := Lib.hid (HSc.out.keep fun b hk => Bce.out.block b (by have := Zc.out.1; have := hk.2; omega))
  have B9e : Hid (Below W9.heap.size W9 We) := Lib.hid (keep_trans B9c.out Bce.out)
  rw [← hW]
  clear hW Bcd Bce KDc KRc HSc HQ1 s0 s1 s2 s3 s4 s5 s6 B9b B9c
  have s0 : We.cell? ⟨wa.heap.size, 0, none⟩ = some (.int .i64 40) := KDe.out.cell 0
  have s3 : We.cell? ⟨wa.heap.size, 3, none⟩ = some (.slice (some ⟨Wb.heap.size, 0, none⟩) 1 1) := KDe.out.cell 3
  have sf : ∀ i, We.frozen? ⟨wa.heap.size, i, none⟩ = false := fun i => KDe.out.frozen i
  have r0 : We.cell? ⟨Wb.heap.size, 0, none⟩ = some (.string ⟨#[112]⟩) := KRe.out.cell 0
  have r5 : We.cell? ⟨Wb.heap.size, 5, none⟩ = some (.int .i64 0) := KRe.out.cell 5
  have rf : ∀ i, We.frozen? ⟨Wb.heap.size, i, none⟩ = false := fun i => KRe.out.frozen i
  have ne1 : ¬ (wa.heap.size = Wb.heap.size) := by have := Zab.out; omega
  have ne2 : ¬ (Wb.heap.size = wa.heap.size) := by have := Zab.out; omega
  go_region
  go_upto_region 14 with fail
  have Z3 : Hid (wa.heap.size < We.heap.size ∧ Wb.heap.size < We.heap.size) := Lib.hid ⟨KDe.out.lt, KRe.out.lt⟩
  obtain ⟨Wf, hW⟩ : ∃ W, W = (((We.setCell ⟨Wb.heap.size, 0, none⟩ (.string ⟨#[113]⟩)).setCell ⟨Wb.heap.size, 5, none⟩ (.int .i64 1)).setCell ⟨wa.heap.size, 0, none⟩ (.int .i64 300)).drew := ⟨_, rfl⟩
  have KRf : Hid (Blk Wf Wb.heap.size 55 [.string ⟨#[113]⟩, .string ⟨#[97]⟩, .string ⟨#[98]⟩, .int .i64 1, .int .i64 0, .int .i64 1, .int .i64 1]) := Lib.hid (by rw [hW]; exact (((KRe.out.set_ 0 _).set_ 5 _).far (p := ⟨wa.heap.size, 0, none⟩) (by have := Zab.out; show _ ≠ wa.heap.size; omega) _).after (below_drew (Below.refl _ _)))
  have KDf : Hid (Blk Wf wa.heap.size 44 [.int .i64 300, .slice p1' 2 q1', .slice p2' 1 q2', .slice (some ⟨Wb.heap.size, 0, none⟩) 1 1, .slice p4' 0 q4', .slice p5' 0 q5', .slice p6' 1 q6']) := Lib.hid (by rw [hW]; exact (((KDe.out.far (p := ⟨Wb.heap.size, 0, none⟩) (by have := Zab.out; show _ ≠ Wb.heap.size; omega) _).far (p := ⟨Wb.heap.size, 5, none⟩) (by have := Zab.out; show _ ≠ Wb.heap.size; omega) _).set_ 0 _).after (below_drew (Below.refl _ _)))
  have HSf : Hid (Sh Wf (fun b => W9.heap.size ≤ b ∧ b < wa.heap.size) smallM ⟨p1', p2', p3', p4', p5', p6', q1', q2', q3', q4', q5', q6'⟩) := Lib.hid (by rw [hW]; exact (((HSe.out.keep fun b hk => Below.heap_setCell _ _ _ _ (by have := Zab.out; have := hk.2; show b ≠ Wb.heap.size; omega)).keep fun b hk => Below.heap_setCell _ _ _ _ (by have := Zab.out; have := hk.2; show b ≠ Wb.heap.size; omega)).keep fun b hk => Below.heap_setCell _ _ _ _ (by have := hk.2; show b ≠ wa.heap.size; omega)).keep fun b hk => rfl)
  have KEf : Hid (Blk Wf (wd.heap.size + 1) 35 [.int .i64 6, .int .i64 3, .int .i64 0]) := Lib.hid (by rw [hW]; exact (((KE1.out.far (p := ⟨Wb.heap.size, 0, none⟩) (by have := Zc.out; have := Zcd.out; show _ ≠ Wb.heap.size; omega) _).far (p := ⟨Wb.heap.size, 5, none⟩) (by have := Zc.out; have := Zcd.out; show _ ≠ Wb.heap.size; omega) _).far (p := ⟨wa.heap.size, 0, none⟩) (by have := Zc.out; have := Zcd.out; show _ ≠ wa.heap.size; omega) _).after (below_drew (Below.refl _ _)))
  have Z9b : Hid (W9.heap.size ≤ Wb.heap.size) := Lib.hid (by have := Zab.out; have := Z9a.out; omega)
  have B9f : Hid (Below W9.heap.size W9 Wf) := Lib.hid (by rw [hW]; exact below_drew (below_set1 (p := ⟨wa.heap.size, 0, none⟩) (below_set1 (p := ⟨Wb.heap.size, 5, none⟩) (below_set1 (p := ⟨Wb.heap.size, 0, none⟩) B9e.out Z9b.out _) Z9b.out _) Z9a.out _))
  rw [← hW]
  clear hW s0 s3 sf r0 r5 rf KRe KDe HSe KE1 B9e
  have HQ2 : Hid (Sh Wf (· < Wf.heap.size) dM2 ⟨p1', p2', some ⟨Wb.heap.size, 0, none⟩, p4', p5', p6', q1', q2', 1, q4', q5', q6'⟩) := Lib.hid (by have hm := HSf.out.more (S' := (· < Wf.heap.size)) fun b hk => Nat.lt_trans hk.2 KDf.out.lt; exact ⟨hm.r1, hm.r2, KRf.out.rd (S := (· < Wf.heap.size)) KRf.out.lt 0, hm.r4, hm.r5, hm.r6⟩)
  have s0 : Wf.cell? ⟨wa.heap.size, 0, none⟩ = some (.int .i64 300) := KDf.out.cell 0
  have s1 : Wf.cell? ⟨wa.heap.size, 1, none⟩ = some (.slice p1' 2 q1') := KDf.out.cell 1
  have s2 : Wf.cell? ⟨wa.heap.size, 2, none⟩ = some (.slice p2' 1 q2') := KDf.out.cell 2
  have s3 : Wf.cell? ⟨wa.heap.size, 3, none⟩ = some (.slice (some ⟨Wb.heap.size, 0, none⟩) 1 1) := KDf.out.cell 3
  have s4 : Wf.cell? ⟨wa.heap.size, 4, none⟩ = some (.slice p4' 0 q4') := KDf.out.cell 4
  have s5 : Wf.cell? ⟨wa.heap.size, 5, none⟩ = some (.slice p5' 0 q5') := KDf.out.cell 5
  have s6 : Wf.cell? ⟨wa.heap.size, 6, none⟩ = some (.slice p6' 1 q6') := KDf.out.cell 6
  go_upto_region 15 with (go_at_call 10; refine (HK2.out _ ⟨p1', p2', some ⟨Wb.heap.size, 0, none⟩, p4', p5', p6', q1', q2', 1, q4', q5', q6'⟩ HQ2.out).mono ?_; rintro e wg ⟨a1z, a2z, a3z, a4z, a5z, a6z, b2z, b3z, b4z, b5z, b6z, c1z, c2z, c3z, c4z, c5z, c6z, d2z, d3z, d4z, d5z, d6z, rfl, hb⟩; have Bfg := hb; clear hb)
  obtain ⟨Wh, hW⟩ : ∃ W, W = (wg.alloc (.cells #[.int .i64 0, .slice a1z 0 c1z, .slice a2z 0 c2z, .slice a3z 0 c3z, .slice a4z 0 c4z, .slice a5z 0 c5z, .slice a6z 0 c6z, .slice b2z 0 d2z, .slice b3z 0 d3z, .slice b4z 0 d4z, .slice b5z 0 d5z, .slice b6z 0 d6z] 32)).alloc (.cells #[.int .i64 3, .int .i64 3, .int .i64 0] 35) := ⟨_, rfl⟩
  have Bfh : Hid (Below Wf.heap.size Wf Wh) := Lib.hid (by rw [hW]; exact keep_trans Bfg.out (two_box _ _ _))
  have KG : Hid (Blk Wh (wg.heap.size + 1) 35 [.int .i64 3, .int .i64 3, .int .i64 0]) := Lib.hid (by rw [hW]; exact Blk.new2 _ _ _ _)
  have B9h : Hid (Below W9.heap.size W9 Wh) := Lib.hid (keep_trans B9f.out Bfh.out)
  have KEh := Lib.hid (KEf.out.after Bfh.out)
  have KYh := Lib.hid (KY9.out.after B9h.out)
  have KMh := Lib.hid (KM9.out.after B9h.out)
  have HYh := Lib.hid (HY9.out.later B9h.out)
  have HBh := Lib.hid (HB9.out.later B9h.out)
  have Bh : Hid (Below w.heap.size w Wh) := Lib.hid (keep_trans B9.out B9h.out)
  rw [← hW]
  clear hW Bfg Bfh B9h B9f KRf KDf HSf KEf HQ2 KY9 KM9 HY9 HB9 B9 HMK HSH HF1 HF2 HK1 HK2 s0 s1 s2 s3 s4 s5 s6
  have KB : Hid (∀ wr, Below Wh.heap.size Wh wr → (wr.cell? ⟨w5.heap.size, 0, none⟩ = some (.int .i64 40) ∧ wr.cell? ⟨w5.heap.size, 1, none⟩ = some (.slice A1 2 k1) ∧ wr.cell? ⟨w5.heap.size, 2, none⟩ = some (.slice A2 1 k2) ∧ wr.cell? ⟨w5.heap.size, 3, none⟩ = some (.slice A3 0 k3) ∧ wr.cell? ⟨w5.heap.size, 4, none⟩ = some (.slice A4 0 k4) ∧ wr.cell? ⟨w5.heap.size, 5, none⟩ = some (.slice A5 0 k5) ∧ wr.cell? ⟨w5.heap.size, 6, none⟩ = some (.slice A6 1 k6)) ∧ (wr.cell? ⟨w3.heap.size, 0, none⟩ = some (.int .i64 40) ∧ wr.cell? ⟨w3.heap.size, 1, none⟩ = some (.slice a1 2 c1) ∧ wr.cell? ⟨w3.heap.size, 2, none⟩ = some (.slice a2 1 c2) ∧ wr.cell? ⟨w3.heap.size, 3, none⟩ = some (.slice a3 0 c3) ∧ wr.cell? ⟨w3.heap.size, 4, none⟩ = some (.slice a4 0 c4) ∧ wr.cell? ⟨w3.heap.size, 5, none⟩ = some (.slice a5 0 c5) ∧ wr.cell? ⟨w3.heap.size, 6, none⟩ = some (.slice a6 1 c6) ∧ wr.cell? ⟨w3.heap.size, 7, none⟩ = some (.slice (some ⟨g, 0, none⟩) 1 d2) ∧ wr.cell? ⟨w3.heap.size, 8, none⟩ = some (.slice b3 0 d3) ∧ wr.cell? ⟨w3.heap.size, 9, none⟩ = some (.slice b4 0 d4) ∧ wr.cell? ⟨w3.heap.size, 10, none⟩ = some (.slice b5 0 d5) ∧ wr.cell? ⟨w3.heap.size, 11, none⟩ = some (.slice b6 1 d6)) ∧ (wr.cell? ⟨wd.heap.size + 1, 0, none⟩ = some (.int .i64 6) ∧ wr.cell? ⟨wd.heap.size + 1, 1, none⟩ = some (.int .i64 3) ∧ wr.cell? ⟨wd.heap.size + 1, 2, none⟩ = some (.int .i64 0)) ∧ (wr.cell? ⟨wg.heap.size + 1, 0, none⟩ = some (.int .i64 3) ∧ wr.cell? ⟨wg.heap.size + 1, 1, none⟩ = some (.int .i64 3) ∧ wr.cell? ⟨wg.heap.size + 1, 2, none⟩ = some (.int .i64 0))) := Lib.hid (fun wr hb => by
    have a := KYh.out.after hb
    have b := KMh.out.after hb
    have c := KEh.out.after hb
    have d := KG.out.after hb
    exact ⟨⟨a.cell 0, a.cell 1, a.cell 2, a.cell 3, a.cell 4, a.cell 5, a.cell 6⟩, ⟨b.cell 0, b.cell 1, b.cell 2, b.cell 3, b.cell 4, b.cell 5, b.cell 6, b.cell 7, b.cell 8, b.cell 9, b.cell 10, b.cell 11⟩, ⟨c.cell 0, c.cell 1, c.cell 2⟩, ⟨d.cell 0, d.cell 1, d.cell 2⟩⟩)
  refine wp_region_held_drew (S := fun w' => Hid (Below Wh.heap.size Wh w')) (by kernel_rfl) ?_ (fun hHeld => ?_)
  · exact Lib.hid (below_drew (Below.refl _ _))
  have D1 : Hid (Below Wh.heap.size Wh (World.drew Wh)) := Lib.hid (below_drew (Below.refl _ _))
  clear hHeld
  generalize World.drew Wh = vv at *
  refine wpAnyH_ready (rs := [0]) (by kernel_rfl) (by simp) ?_
  refine AllReadyH.cons rfl (fun K hK => ?_) AllReadyH.nil
  go_simp
  go_at_call 9
  refine (HLV.out _).mono ?_
  rintro e v1 ⟨rfl, hb⟩
  have V1 : Hid (Below Wh.heap.size Wh v1) := Lib.hid (keep_trans D1.out hb)
  clear hb D1
  refine hK.out _ _ V1 (fun hHeld => ?_)
  clear hK K
  refine wpAnyH_take (i := 1) (v := ?vbk1) rfl (by kernel_rfl) (by kernel_rfl) (by kernel_rfl) (fun _ _ _ h => h) (Or.inl ⟨by rfl, ?hybk1⟩) (by assumption) ?restbk1
  case hybk1 => (intro w' hSw; clear hSw; go_simp; try with_reducible rfl)
  simp only [Act.put, List.getElem_toArray, List.getElem_cons_zero, List.getElem_cons_succ, List.setIfInBounds_toArray, List.set_cons_zero, List.set_cons_succ]
  refine wpAnyH_take (i := 2) (v := ?vbk2) rfl (by kernel_rfl) (by kernel_rfl) (by kernel_rfl) (fun _ _ _ h => h) (Or.inl ⟨by rfl, ?hybk2⟩) (by assumption) ?restbk2
  case hybk2 => (intro w' hSw; clear hSw; go_simp; try with_reducible rfl)
  simp only [Act.put, List.getElem_toArray, List.getElem_cons_zero, List.getElem_cons_succ, List.setIfInBounds_toArray, List.set_cons_zero, List.set_cons_succ]
  refine wpAnyH_take (i := 3) (v := ?vbk3) rfl (by kernel_rfl) (by kernel_rfl) (by kernel_rfl) (fun _ _ _ h => h) (Or.inl ⟨by rfl, ?hybk3⟩) (by assumption) ?restbk3
  case hybk3 => (intro w' hSw; clear hSw; go_simp; try with_reducible rfl)
  simp only [Act.put, List.getElem_toArray, List.getElem_cons_zero, List.getElem_cons_succ, List.setIfInBounds_toArray, List.set_cons_zero, List.set_cons_succ]
  refine wpAnyH_take (i := 4) (v := ?vbk4) rfl (by kernel_rfl) (by kernel_rfl) (by kernel_rfl) (fun _ _ _ h => h) (Or.inl ⟨by rfl, ?hybk4⟩) (by assumption) ?restbk4
  case hybk4 => (intro w' hSw; clear hSw; go_simp; try with_reducible rfl)
  simp only [Act.put, List.getElem_toArray, List.getElem_cons_zero, List.getElem_cons_succ, List.setIfInBounds_toArray, List.set_cons_zero, List.set_cons_succ]
  refine wpAnyH_take (i := 5) (v := ?vbk5) rfl (by kernel_rfl) (by kernel_rfl) (by kernel_rfl) (fun _ _ _ h => h) (Or.inl ⟨by rfl, ?hybk5⟩) (by assumption) ?restbk5
  case hybk5 => (intro w' hSw; clear hSw; go_simp; try with_reducible rfl)
  simp only [Act.put, List.getElem_toArray, List.getElem_cons_zero, List.getElem_cons_succ, List.setIfInBounds_toArray, List.set_cons_zero, List.set_cons_succ]
  refine wpAnyH_take (i := 6) (v := ?vbk6) rfl (by kernel_rfl) (by kernel_rfl) (by kernel_rfl) (fun _ _ _ h => h) (Or.inl ⟨by rfl, ?hybk6⟩) (by assumption) ?restbk6
  case hybk6 => (intro w' hSw; obtain ⟨⟨x0, x1, x2, x3, x4, x5, x6⟩, ⟨m0, m1, m2, m3, m4, m5, m6, m7, m8, m9, m10, m11⟩, ⟨g0, g1, g2⟩, f0, f1, f2⟩ := KB.out _ hSw.out; clear hSw; go_simp; try with_reducible rfl)
  simp only [Act.put, List.getElem_toArray, List.getElem_cons_zero, List.getElem_cons_succ, List.setIfInBounds_toArray, List.set_cons_zero, List.set_cons_succ]
  clear hHeld
  refine wpAnyH_ready (rs := [7]) (by kernel_rfl) (by simp) ?_
  refine AllReadyH.cons rfl (fun K hK => ?_) AllReadyH.nil
  go_simp
  go_at_call 11
  refine (HSM.out _).mono ?_
  rintro e v2 ⟨p1'', p2'', p3'', p4'', p5'', p6'', q1'', q2'', q3'', q4'', q5'', q6'', rfl, hs, hb⟩
  have V2 : Hid (Below Wh.heap.size Wh v2) := Lib.hid (keep_trans V1.out hb.out)
  have HT : Hid (Sh v2 (· < v2.heap.size) smallM ⟨p1'', p2'', p3'', p4'', p5'', p6'', q1'', q2'', q3'', q4'', q5'', q6''⟩) := Lib.hid (hs.out.more fun b hk => hk.2)
  clear hb hs V1
  refine hK.out _ _ V2 (fun hHeld => ?_)
  clear hK K
  clear hHeld
  refine wpAnyH_ready (rs := [8]) (by kernel_rfl) (by simp) ?_
  refine AllReadyH.cons rfl (fun K hK => ?_) AllReadyH.nil
  go_simp
  go_at_call 14
  refine (HKS.out _ ⟨A1, A2, A3, A4, A5, A6, k1, k2, k3, k4, k5, k6⟩ ⟨p1'', p2'', p3'', p4'', p5'', p6'', q1'', q2'', q3'', q4'', q5'', q6''⟩ (HYh.out.later V2.out) HT.out).mono ?_
  rintro e v3 ⟨rfl, hb⟩
  have V3 : Hid (Below Wh.heap.size Wh v3) := Lib.hid (keep_trans V2.out hb)
  clear hb V2 HT
  refine hK.out _ _ V3 (fun hHeld => ?_)
  clear hK K
  refine wpAnyH_take (i := 9) (v := ?vbk7) rfl (by kernel_rfl) (by kernel_rfl) (by kernel_rfl) (fun _ _ _ h => h) (Or.inl ⟨by rfl, ?hybk7⟩) (by assumption) ?restbk7
  case hybk7 => (intro w' hSw; clear hSw; go_simp; try with_reducible rfl)
  simp only [Act.put, List.getElem_toArray, List.getElem_cons_zero, List.getElem_cons_succ, List.setIfInBounds_toArray, List.set_cons_zero, List.set_cons_succ]
  refine wpAnyH_take (i := 10) (v := ?vbk8) rfl (by kernel_rfl) (by kernel_rfl) (by kernel_rfl) (fun _ _ _ h => h) (Or.inl ⟨by rfl, ?hybk8⟩) (by assumption) ?restbk8
  case hybk8 => (intro w' hSw; clear hSw; go_simp; try with_reducible rfl)
  simp only [Act.put, List.getElem_toArray, List.getElem_cons_zero, List.getElem_cons_succ, List.setIfInBounds_toArray, List.set_cons_zero, List.set_cons_succ]
  refine wpAnyH_take (i := 11) (v := ?vbk9) rfl (by kernel_rfl) (by kernel_rfl) (by kernel_rfl) (fun _ _ _ h => h) (Or.inl ⟨by rfl, ?hybk9⟩) (by assumption) ?restbk9
  case hybk9 => (intro w' hSw; clear hSw; go_simp; try with_reducible rfl)
  simp only [Act.put, List.getElem_toArray, List.getElem_cons_zero, List.getElem_cons_succ, List.setIfInBounds_toArray, List.set_cons_zero, List.set_cons_succ]
  refine wpAnyH_take (i := 12) (v := ?vbk10) rfl (by kernel_rfl) (by kernel_rfl) (by kernel_rfl) (fun _ _ _ h => h) (Or.inl ⟨by rfl, ?hybk10⟩) (by assumption) ?restbk10
  case hybk10 => (intro w' hSw; clear hSw; go_simp; try with_reducible rfl)
  simp only [Act.put, List.getElem_toArray, List.getElem_cons_zero, List.getElem_cons_succ, List.setIfInBounds_toArray, List.set_cons_zero, List.set_cons_succ]
  refine wpAnyH_take (i := 13) (v := ?vbk11) rfl (by kernel_rfl) (by kernel_rfl) (by kernel_rfl) (fun _ _ _ h => h) (Or.inl ⟨by rfl, ?hybk11⟩) (by assumption) ?restbk11
  case hybk11 => (intro w' hSw; clear hSw; go_simp; try with_reducible rfl)
  simp only [Act.put, List.getElem_toArray, List.getElem_cons_zero, List.getElem_cons_succ, List.setIfInBounds_toArray, List.set_cons_zero, List.set_cons_succ]
  refine wpAnyH_take (i := 14) (v := ?vbk12) rfl (by kernel_rfl) (by kernel_rfl) (by kernel_rfl) (fun _ _ _ h => h) (Or.inl ⟨by rfl, ?hybk12⟩) (by assumption) ?restbk12
  case hybk12 => (intro w' hSw; clear hSw; go_simp; try with_reducible rfl)
  simp only [Act.put, List.getElem_toArray, List.getElem_cons_zero, List.getElem_cons_succ, List.setIfInBounds_toArray, List.set_cons_zero, List.set_cons_succ]
  refine wpAnyH_take (i := 15) (v := ?vbk13) rfl (by kernel_rfl) (by kernel_rfl) (by kernel_rfl) (fun _ _ _ h => h) (Or.inl ⟨by rfl, ?hybk13⟩) (by assumption) ?restbk13
  case hybk13 => (intro w' hSw; clear hSw; go_simp; try with_reducible rfl)
  simp only [Act.put, List.getElem_toArray, List.getElem_cons_zero, List.getElem_cons_succ, List.setIfInBounds_toArray, List.set_cons_zero, List.set_cons_succ]
  refine wpAnyH_take (i := 16) (v := ?vbk14) rfl (by kernel_rfl) (by kernel_rfl) (by kernel_rfl) (fun _ _ _ h => h) (Or.inl ⟨by rfl, ?hybk14⟩) (by assumption) ?restbk14
  case hybk14 => (intro w' hSw; clear hSw; go_simp; try with_reducible rfl)
  simp only [Act.put, List.getElem_toArray, List.getElem_cons_zero, List.getElem_cons_succ, List.setIfInBounds_toArray, List.set_cons_zero, List.set_cons_succ]
  refine wpAnyH_take (i := 17) (v := ?vbk15) rfl (by kernel_rfl) (by kernel_rfl) (by kernel_rfl) (fun _ _ _ h => h) (Or.inl ⟨by rfl, ?hybk15⟩) (by assumption) ?restbk15
  case hybk15 => (intro w' hSw; clear hSw; go_simp; try with_reducible rfl)
  simp only [Act.put, List.getElem_toArray, List.getElem_cons_zero, List.getElem_cons_succ, List.setIfInBounds_toArray, List.set_cons_zero, List.set_cons_succ]
  refine wpAnyH_take (i := 18) (v := ?vbk16) rfl (by kernel_rfl) (by kernel_rfl) (by kernel_rfl) (fun _ _ _ h => h) (Or.inl ⟨by rfl, ?hybk16⟩) (by assumption) ?restbk16
  case hybk16 => (intro w' hSw; clear hSw; go_simp; try with_reducible rfl)
  simp only [Act.put, List.getElem_toArray, List.getElem_cons_zero, List.getElem_cons_succ, List.setIfInBounds_toArray, List.set_cons_zero, List.set_cons_succ]
  refine wpAnyH_take (i := 19) (v := ?vbk17) rfl (by kernel_rfl) (by kernel_rfl) (by kernel_rfl) (fun _ _ _ h => h) (Or.inl ⟨by rfl, ?hybk17⟩) (by assumption) ?restbk17
  case hybk17 => (intro w' hSw; clear hSw; go_simp; try with_reducible rfl)
  simp only [Act.put, List.getElem_toArray, List.getElem_cons_zero, List.getElem_cons_succ, List.setIfInBounds_toArray, List.set_cons_zero, List.set_cons_succ]
  refine wpAnyH_take (i := 20) (v := ?vbk18) rfl (by kernel_rfl) (by kernel_rfl) (by kernel_rfl) (fun _ _ _ h => h) (Or.inl ⟨by rfl, ?hybk18⟩) (by assumption) ?restbk18
  case hybk18 => (intro w' hSw; clear hSw; go_simp; try with_reducible rfl)
  simp only [Act.put, List.getElem_toArray, List.getElem_cons_zero, List.getElem_cons_succ, List.setIfInBounds_toArray, List.set_cons_zero, List.set_cons_succ]
  refine wpAnyH_take (i := 21) (v := ?vbk19) rfl (by kernel_rfl) (by kernel_rfl) (by kernel_rfl) (fun _ _ _ h => h) (Or.inl ⟨by rfl, ?hybk19⟩) (by assumption) ?restbk19
  case hybk19 => (intro w' hSw; clear hSw; go_simp; try with_reducible rfl)
  simp only [Act.put, List.getElem_toArray, List.getElem_cons_zero, List.getElem_cons_succ, List.setIfInBounds_toArray, List.set_cons_zero, List.set_cons_succ]
  refine wpAnyH_take (i := 22) (v := ?vbk20) rfl (by kernel_rfl) (by kernel_rfl) (by kernel_rfl) (fun _ _ _ h => h) (Or.inl ⟨by rfl, ?hybk20⟩) (by assumption) ?restbk20
  case hybk20 => (intro w' hSw; clear hSw; go_simp; try with_reducible rfl)
  simp only [Act.put, List.getElem_toArray, List.getElem_cons_zero, List.getElem_cons_succ, List.setIfInBounds_toArray, List.set_cons_zero, List.set_cons_succ]
  refine wpAnyH_take (i := 23) (v := ?vbk21) rfl (by kernel_rfl) (by kernel_rfl) (by kernel_rfl) (fun _ _ _ h => h) (Or.inl ⟨by rfl, ?hybk21⟩) (by assumption) ?restbk21
  case hybk21 => (intro w' hSw; clear hSw; go_simp; try with_reducible rfl)
  simp only [Act.put, List.getElem_toArray, List.getElem_cons_zero, List.getElem_cons_succ, List.setIfInBounds_toArray, List.set_cons_zero, List.set_cons_succ]
  refine wpAnyH_take (i := 24) (v := ?vbk22) rfl (by kernel_rfl) (by kernel_rfl) (by kernel_rfl) (fun _ _ _ h => h) (Or.inl ⟨by rfl, ?hybk22⟩) (by assumption) ?restbk22
  case hybk22 => (intro w' hSw; clear hSw; go_simp; try with_reducible rfl)
  simp only [Act.put, List.getElem_toArray, List.getElem_cons_zero, List.getElem_cons_succ, List.setIfInBounds_toArray, List.set_cons_zero, List.set_cons_succ]
  refine wpAnyH_take (i := 25) (v := ?vbk23) rfl (by kernel_rfl) (by kernel_rfl) (by kernel_rfl) (fun _ _ _ h => h) (Or.inl ⟨by rfl, ?hybk23⟩) (by assumption) ?restbk23
  case hybk23 => (intro w' hSw; clear hSw; go_simp; try with_reducible rfl)
  simp only [Act.put, List.getElem_toArray, List.getElem_cons_zero, List.getElem_cons_succ, List.setIfInBounds_toArray, List.set_cons_zero, List.set_cons_succ]
  refine wpAnyH_take (i := 26) (v := ?vbk24) rfl (by kernel_rfl) (by kernel_rfl) (by kernel_rfl) (fun _ _ _ h => h) (Or.inl ⟨by rfl, ?hybk24⟩) (by assumption) ?restbk24
  case hybk24 => (intro w' hSw; clear hSw; go_simp; try with_reducible rfl)
  simp only [Act.put, List.getElem_toArray, List.getElem_cons_zero, List.getElem_cons_succ, List.setIfInBounds_toArray, List.set_cons_zero, List.set_cons_succ]
  refine wpAnyH_take (i := 27) (v := ?vbk25) rfl (by kernel_rfl) (by kernel_rfl) (by kernel_rfl) (fun _ _ _ h => h) (Or.inl ⟨by rfl, ?hybk25⟩) (by assumption) ?restbk25
  case hybk25 => (intro w' hSw; obtain ⟨⟨x0, x1, x2, x3, x4, x5, x6⟩, ⟨m0, m1, m2, m3, m4, m5, m6, m7, m8, m9, m10, m11⟩, ⟨g0, g1, g2⟩, f0, f1, f2⟩ := KB.out _ hSw.out; clear hSw; go_simp; try with_reducible rfl)
  simp only [Act.put, List.getElem_toArray, List.getElem_cons_zero, List.getElem_cons_succ, List.setIfInBounds_toArray, List.set_cons_zero, List.set_cons_succ]
  refine wpAnyH_take (i := 29) (v := ?vbk26) rfl (by kernel_rfl) (by kernel_rfl) (by kernel_rfl) (fun _ _ _ h => h) (Or.inl ⟨by rfl, ?hybk26⟩) (by assumption) ?restbk26
  case hybk26 => (intro w' hSw; clear hSw; go_simp; try with_reducible rfl)
  simp only [Act.put, List.getElem_toArray, List.getElem_cons_zero, List.getElem_cons_succ, List.setIfInBounds_toArray, List.set_cons_zero, List.set_cons_succ]
  clear hHeld
  refine wpAnyH_ready (rs := [28]) (by kernel_rfl) (by simp) ?_
  refine AllReadyH.cons rfl (fun K hK => ?_) AllReadyH.nil
  go_simp
  go_at_call 15
  refine (HCK.out _ ⟨⟨a1, a2, a3, a4, a5, a6, c1, c2, c3, c4, c5, c6⟩, some ⟨g, 0, none⟩, b3, b4, b5, b6, d2, d3, d4, d5, d6⟩ (HBh.out.later V3.out)).mono ?_
  rintro e v4 ⟨rfl, hb⟩
  have V4 : Hid (Below Wh.heap.size Wh v4) := Lib.hid (keep_trans V3.out hb)
  clear hb V3
  refine hK.out _ _ V4 (fun hHeld => ?_)
  clear hK K
  refine wpAnyH_take (i := 30) (v := ?vbk27) rfl (by kernel_rfl) (by kernel_rfl) (by kernel_rfl) (fun _ _ _ h => h) (Or.inl ⟨by rfl, ?hybk27⟩) (by assumption) ?restbk27
  case hybk27 => (intro w' hSw; clear hSw; go_simp; try with_reducible rfl)
  simp only [Act.put, List.getElem_toArray, List.getElem_cons_zero, List.getElem_cons_succ, List.setIfInBounds_toArray, List.set_cons_zero, List.set_cons_succ]
  refine wpAnyH_take (i := 31) (v := ?vbk28) rfl (by kernel_rfl) (by kernel_rfl) (by kernel_rfl) (fun _ _ _ h => h) (Or.inl ⟨by rfl, ?hybk28⟩) (by assumption) ?restbk28
  case hybk28 => (intro w' hSw; clear hSw; go_simp; try with_reducible rfl)
  simp only [Act.put, List.getElem_toArray, List.getElem_cons_zero, List.getElem_cons_succ, List.setIfInBounds_toArray, List.set_cons_zero, List.set_cons_succ]
  refine wpAnyH_take (i := 32) (v := ?vbk29) rfl (by kernel_rfl) (by kernel_rfl) (by kernel_rfl) (fun _ _ _ h => h) (Or.inl ⟨by rfl, ?hybk29⟩) (by assumption) ?restbk29
  case hybk29 => (intro w' hSw; clear hSw; go_simp; try with_reducible rfl)
  simp only [Act.put, List.getElem_toArray, List.getElem_cons_zero, List.getElem_cons_succ, List.setIfInBounds_toArray, List.set_cons_zero, List.set_cons_succ]
  refine wpAnyH_take (i := 33) (v := ?vbk30) rfl (by kernel_rfl) (by kernel_rfl) (by kernel_rfl) (fun _ _ _ h => h) (Or.inl ⟨by rfl, ?hybk30⟩) (by assumption) ?restbk30
  case hybk30 => (intro w' hSw; obtain ⟨⟨x0, x1, x2, x3, x4, x5, x6⟩, ⟨m0, m1, m2, m3, m4, m5, m6, m7, m8, m9, m10, m11⟩, ⟨g0, g1, g2⟩, f0, f1, f2⟩ := KB.out _ hSw.out; clear hSw; go_simp; try with_reducible rfl)
  simp only [Act.put, List.getElem_toArray, List.getElem_cons_zero, List.getElem_cons_succ, List.setIfInBounds_toArray, List.set_cons_zero, List.set_cons_succ]
  refine wpAnyH_take (i := 34) (v := ?vbk31) rfl (by kernel_rfl) (by kernel_rfl) (by kernel_rfl) (fun _ _ _ h => h) (Or.inl ⟨by rfl, ?hybk31⟩) (by assumption) ?restbk31
  case hybk31 => (intro w' hSw; clear hSw; go_simp; try with_reducible rfl)
  simp only [Act.put, List.getElem_toArray, List.getElem_cons_zero, List.getElem_cons_succ, List.setIfInBounds_toArray, List.set_cons_zero, List.set_cons_succ]
  refine wpAnyH_take (i := 35) (v := ?vbk32) rfl (by kernel_rfl) (by kernel_rfl) (by kernel_rfl) (fun _ _ _ h => h) (Or.inl ⟨by rfl, ?hybk32⟩) (by assumption) ?restbk32
  case hybk32 => (intro w' hSw; clear hSw; go_simp; try with_reducible rfl)
  simp only [Act.put, List.getElem_toArray, List.getElem_cons_zero, List.getElem_cons_succ, List.setIfInBounds_toArray, List.set_cons_zero, List.set_cons_succ]
  refine wpAnyH_take (i := 36) (v := ?vbk33) rfl (by kernel_rfl) (by kernel_rfl) (by kernel_rfl) (fun _ _ _ h => h) (Or.inl ⟨by rfl, ?hybk33⟩) (by assumption) ?restbk33
  case hybk33 => (intro w' hSw; clear hSw; go_simp; try with_reducible rfl)
  simp only [Act.put, List.getElem_toArray, List.getElem_cons_zero, List.getElem_cons_succ, List.setIfInBounds_toArray, List.set_cons_zero, List.set_cons_succ]
  refine wpAnyH_take (i := 37) (v := ?vbk34) rfl (by kernel_rfl) (by kernel_rfl) (by kernel_rfl) (fun _ _ _ h => h) (Or.inl ⟨by rfl, ?hybk34⟩) (by assumption) ?restbk34
  case hybk34 => (intro w' hSw; clear hSw; go_simp; try with_reducible rfl)
  simp only [Act.put, List.getElem_toArray, List.getElem_cons_zero, List.getElem_cons_succ, List.setIfInBounds_toArray, List.set_cons_zero, List.set_cons_succ]
  refine wpAnyH_take (i := 38) (v := ?vbk35) rfl (by kernel_rfl) (by kernel_rfl) (by kernel_rfl) (fun _ _ _ h => h) (Or.inl ⟨by rfl, ?hybk35⟩) (by assumption) ?restbk35
  case hybk35 => (intro w' hSw; obtain ⟨⟨x0, x1, x2, x3, x4, x5, x6⟩, ⟨m0, m1, m2, m3, m4, m5, m6, m7, m8, m9, m10, m11⟩, ⟨g0, g1, g2⟩, f0, f1, f2⟩ := KB.out _ hSw.out; clear hSw; go_simp; try with_reducible rfl)
  simp only [Act.put, List.getElem_toArray, List.getElem_cons_zero, List.getElem_cons_succ, List.setIfInBounds_toArray, List.set_cons_zero, List.set_cons_succ]
  refine wpAnyH_take (i := 39) (v := ?vbk36) rfl (by kernel_rfl) (by kernel_rfl) (by kernel_rfl) (fun _ _ _ h => h) (Or.inl ⟨by rfl, ?hybk36⟩) (by assumption) ?restbk36
  case hybk36 => (intro w' hSw; clear hSw; go_simp; try with_reducible rfl)
  simp only [Act.put, List.getElem_toArray, List.getElem_cons_zero, List.getElem_cons_succ, List.setIfInBounds_toArray, List.set_cons_zero, List.set_cons_succ]
  refine wpAnyH_take (i := 40) (v := ?vbk37) rfl (by kernel_rfl) (by kernel_rfl) (by kernel_rfl) (fun _ _ _ h => h) (Or.inl ⟨by rfl, ?hybk37⟩) (by assumption) ?restbk37
  case hybk37 => (intro w' hSw; clear hSw; go_simp; try with_reducible rfl)
  simp only [Act.put, List.getElem_toArray, List.getElem_cons_zero, List.getElem_cons_succ, List.setIfInBounds_toArray, List.set_cons_zero, List.set_cons_succ]
  refine wpAnyH_take (i := 41) (v := ?vbk38) rfl (by kernel_rfl) (by kernel_rfl) (by kernel_rfl) (fun _ _ _ h => h) (Or.inl ⟨by rfl, ?hybk38⟩) (by assumption) ?restbk38
  case hybk38 => (intro w' hSw; clear hSw; go_simp; try with_reducible rfl)
  simp only [Act.put, List.getElem_toArray, List.getElem_cons_zero, List.getElem_cons_succ, List.setIfInBounds_toArray, List.set_cons_zero, List.set_cons_succ]
  clear hHeld
  refine wpAnyH_ready (rs := [42]) (by kernel_rfl) (by simp) ?_
  refine AllReadyH.cons rfl (fun K hK => ?_) AllReadyH.nil
  go_simp
  refine hK.out _ _ V4 (fun hHeld => ?_)
  clear hK K
  clear hHeld
  refine wpAnyH_done (by kernel_rfl) ?_ _
  go_wp2
  go_ret
  exact ⟨rfl, keep_trans Bh.out V4.out⟩
end Go.Proofs.YtgdanbfglefiiaaGreat.Wo
