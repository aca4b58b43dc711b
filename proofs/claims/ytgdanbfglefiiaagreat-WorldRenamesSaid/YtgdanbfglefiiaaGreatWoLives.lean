/- The chapter's examples, as the laws ask them first: walked. No conditions. -/
import Derived.Test.YtgdanbfglefiiaaGreatWoMake
import Derived.ChangeSlices
import Derived.Deep.Strs
import Derived.Deep.SlicePairs
import Derived.ChangeArms
import Derived.Carry
import Derived.Deep.RegionHeld3
import Derived.Deep.RegionHeldLaw
import Derived.Deep.CutRange
import Derived.StillTailTactics
import Derived.WalkSpells
import Derived.Lib.QuietBelow
import Derived.Deep.QuietTactic
namespace Go.Proofs.YtgdanbfglefiiaaGreat.Wo
open Go.ChangeShapes Go.WideShapes Go.ChangeAt Go.RowKit Go.Maps
open Lx Sh It
set_option linter.unusedVariables false
set_option linter.unusedSimpArgs false
def lv1 : SheetM := ⟨0, [[97], [97]], [], [], [], [], []⟩
def lv2 : SheetM := ⟨0, [[97], [98]], [⟨[112], [97], [98], 0⟩], [], [], [], []⟩
def lv3 : SheetM := ⟨0, [[97]], [], [], [], [], [⟨[104], [110, 111, 98, 111, 100, 121], ⟨0, 0, 1⟩⟩]⟩
def smallM : SheetM := ⟨40, [[97], [98]], [⟨[112], [97], [98], 3⟩], [], [], [], [⟨[104], [112], ⟨1, 0, 2⟩⟩]⟩
theorem lv1_w : wrongX lv1 = ⟨6, 1, 1⟩ := by decide +kernel
theorem lv2_w : wrongX lv2 = ⟨2, 2, 0⟩ := by decide +kernel
theorem lv3_w : wrongX lv3 = ⟨5, 6, 0⟩ := by decide +kernel
theorem small_w : wrongX smallM = okW := by decide +kernel
theorem small_m : makeX smallM = ⟨40, ⟨[[97], [98]], [[112]], [], [], [], [[104]]⟩, [⟨0, 1, 3⟩], [], [], [], [⟨false, 0, ⟨1, 0, 2⟩⟩]⟩ := by decide +kernel

theorem make_no {x : SheetM} {k : WrM} (hx : wrongX x = k) (hk : k.err ≠ 0) (p : ShA) (w : World) (h : Sh w (· < w.heap.size) x p) (hl : XLt x) : Calls Tryz.prog 10 #[shV x p] w (fun e w' => ∃ q : WoA, e = .returned (.tuple #[woF zWo q, wrV k]) ∧ Below w.heap.size w w') :=
  (make_any x p w h hl).mono fun e w' he => by
    obtain ⟨q, h1, -, h3⟩ := he
    have hm : makeX x = zWo := by unfold makeX; rw [hx, if_pos hk]
    rw [hm, hx] at h1
    exact ⟨q, h1, h3⟩
theorem fr0 {w : World} {S : Nat → Prop} {A : Option Addr} : Rd w S A [] := fun h => by simp at h
theorem sml_read {W : World} {n0 : Nat} {a0 a1 a2 a3 a4 a5 a6 : Value} {tmps : Array Value} (h2 : tmps[0]? = some (.pointer (some ⟨n0, 0, none⟩))) (k0 : Blk W n0 44 [a0, a1, a2, a3, a4, a5, a6]) :
    (results Tryz.f11 tmps).run Tryz.prog W = .ok (.agg #[a0, a1, a2, a3, a4, a5, a6]) W := by
  have x0 : W.cell? ⟨n0, 0, none⟩ = some a0 := k0.cell 0
  have x1 : W.cell? ⟨n0, 1, none⟩ = some a1 := k0.cell 1
  have x2 : W.cell? ⟨n0, 2, none⟩ = some a2 := k0.cell 2
  have x3 : W.cell? ⟨n0, 3, none⟩ = some a3 := k0.cell 3
  have x4 : W.cell? ⟨n0, 4, none⟩ = some a4 := k0.cell 4
  have x5 : W.cell? ⟨n0, 5, none⟩ = some a5 := k0.cell 5
  have x6 : W.cell? ⟨n0, 6, none⟩ = some a6 := k0.cell 6
  simp [results, Tryz.results11, go_sem, h2, x0, x1, x2, x3, x4, x5, x6]
def SmPost (w : World) (e : Ending) (w' : World) : Prop := ∃ p : ShA, e = .returned (shV smallM p) ∧ Sh w' (fun b => w.heap.size ≤ b ∧ b < w'.heap.size) smallM p ∧ Below w.heap.size w w'
set_option maxRecDepth 100000 in
set_option maxHeartbeats 2000000 in
theorem small_any (w : World) : Calls Tryz.prog 11 #[] w (SmPost w) := by
  go_enter Tryz.func11, Tryz.ntmps11
  go_wp2
  have K0 := (((Blk.new w 44 [.int .i64 40, .slice (some ⟨w.heap.size + 1, 0, none⟩) 2 2, .slice (some ⟨w.heap.size + 1 + 1, 0, none⟩) 1 1, .slice none 0 0, .slice none 0 0, .slice none 0 0, .slice (some ⟨w.heap.size + 1 + 1 + 1, 0, none⟩) 1 1]).alloc (.cells #[.string ⟨#[97]⟩, .string ⟨#[98]⟩] 9)).alloc (.cells #[.string ⟨#[112]⟩, .string ⟨#[97]⟩, .string ⟨#[98]⟩, .int .i64 3] 65)).alloc (.cells #[.string ⟨#[104]⟩, .string ⟨#[112]⟩, .int .i64 1, .int .i64 0, .int .i64 2] 78)
  have K1 := ((Blk.new2 w (.cells #[.int .i64 40, .slice (some ⟨w.heap.size + 1, 0, none⟩) 2 2, .slice (some ⟨w.heap.size + 1 + 1, 0, none⟩) 1 1, .slice none 0 0, .slice none 0 0, .slice none 0 0, .slice (some ⟨w.heap.size + 1 + 1 + 1, 0, none⟩) 1 1] 44) 9 [.string ⟨#[97]⟩, .string ⟨#[98]⟩]).alloc (.cells #[.string ⟨#[112]⟩, .string ⟨#[97]⟩, .string ⟨#[98]⟩, .int .i64 3] 65)).alloc (.cells #[.string ⟨#[104]⟩, .string ⟨#[112]⟩, .int .i64 1, .int .i64 0, .int .i64 2] 78)
  have K2 := (blk3 w (.cells #[.int .i64 40, .slice (some ⟨w.heap.size + 1, 0, none⟩) 2 2, .slice (some ⟨w.heap.size + 1 + 1, 0, none⟩) 1 1, .slice none 0 0, .slice none 0 0, .slice none 0 0, .slice (some ⟨w.heap.size + 1 + 1 + 1, 0, none⟩) 1 1] 44) (.cells #[.string ⟨#[97]⟩, .string ⟨#[98]⟩] 9) 65 [.string ⟨#[112]⟩, .string ⟨#[97]⟩, .string ⟨#[98]⟩, .int .i64 3]).alloc (.cells #[.string ⟨#[104]⟩, .string ⟨#[112]⟩, .int .i64 1, .int .i64 0, .int .i64 2] 78)
  have K3 := blk3 (w.alloc (.cells #[.int .i64 40, .slice (some ⟨w.heap.size + 1, 0, none⟩) 2 2, .slice (some ⟨w.heap.size + 1 + 1, 0, none⟩) 1 1, .slice none 0 0, .slice none 0 0, .slice none 0 0, .slice (some ⟨w.heap.size + 1 + 1 + 1, 0, none⟩) 1 1] 44)) (.cells #[.string ⟨#[97]⟩, .string ⟨#[98]⟩] 9) (.cells #[.string ⟨#[112]⟩, .string ⟨#[97]⟩, .string ⟨#[98]⟩, .int .i64 3] 65) 78 [.string ⟨#[104]⟩, .string ⟨#[112]⟩, .int .i64 1, .int .i64 0, .int .i64 2]
  have hb : Below w.heap.size w ((((w.alloc (.cells #[.int .i64 40, .slice (some ⟨w.heap.size + 1, 0, none⟩) 2 2, .slice (some ⟨w.heap.size + 1 + 1, 0, none⟩) 1 1, .slice none 0 0, .slice none 0 0, .slice none 0 0, .slice (some ⟨w.heap.size + 1 + 1 + 1, 0, none⟩) 1 1] 44)).alloc (.cells #[.string ⟨#[97]⟩, .string ⟨#[98]⟩] 9)).alloc (.cells #[.string ⟨#[112]⟩, .string ⟨#[97]⟩, .string ⟨#[98]⟩, .int .i64 3] 65)).alloc (.cells #[.string ⟨#[104]⟩, .string ⟨#[112]⟩, .int .i64 1, .int .i64 0, .int .i64 2] 78)) := (box3 w _ _ _).alloc (by simp; omega) _
  change Blk ((((w.alloc (.cells #[.int .i64 40, .slice (some ⟨w.heap.size + 1, 0, none⟩) 2 2, .slice (some ⟨w.heap.size + 1 + 1, 0, none⟩) 1 1, .slice none 0 0, .slice none 0 0, .slice none 0 0, .slice (some ⟨w.heap.size + 1 + 1 + 1, 0, none⟩) 1 1] 44)).alloc (.cells #[.string ⟨#[97]⟩, .string ⟨#[98]⟩] 9)).alloc (.cells #[.string ⟨#[112]⟩, .string ⟨#[97]⟩, .string ⟨#[98]⟩, .int .i64 3] 65)).alloc (.cells #[.string ⟨#[104]⟩, .string ⟨#[112]⟩, .int .i64 1, .int .i64 0, .int .i64 2] 78)) _ _ _ at K0 K1 K2 K3
  generalize (((w.alloc (.cells #[.int .i64 40, .slice (some ⟨w.heap.size + 1, 0, none⟩) 2 2, .slice (some ⟨w.heap.size + 1 + 1, 0, none⟩) 1 1, .slice none 0 0, .slice none 0 0, .slice none 0 0, .slice (some ⟨w.heap.size + 1 + 1 + 1, 0, none⟩) 1 1] 44)).alloc (.cells #[.string ⟨#[97]⟩, .string ⟨#[98]⟩] 9)).alloc (.cells #[.string ⟨#[112]⟩, .string ⟨#[97]⟩, .string ⟨#[98]⟩, .int .i64 3] 65)).alloc (.cells #[.string ⟨#[104]⟩, .string ⟨#[112]⟩, .int .i64 1, .int .i64 0, .int .i64 2] 78) = W at *
  rw [show (w.alloc (.cells #[.int .i64 40, .slice (some ⟨w.heap.size + 1, 0, none⟩) 2 2, .slice (some ⟨w.heap.size + 1 + 1, 0, none⟩) 1 1, .slice none 0 0, .slice none 0 0, .slice none 0 0, .slice (some ⟨w.heap.size + 1 + 1 + 1, 0, none⟩) 1 1] 44)).heap.size = w.heap.size + 1 by simp] at K3
  refine bodyPost_ret (sml_read rfl K0) rfl ?_
  refine ⟨⟨some ⟨w.heap.size + 1, 0, none⟩, some ⟨w.heap.size + 1 + 1, 0, none⟩, none, none, none, some ⟨w.heap.size + 1 + 1 + 1, 0, none⟩, 2, 1, 0, 0, 0, 1⟩, rfl, ⟨K1.rd (S := fun b => w.heap.size ≤ b ∧ b < W.heap.size) ⟨by omega, K1.lt⟩ 0, K2.rd (S := fun b => w.heap.size ≤ b ∧ b < W.heap.size) ⟨by omega, K2.lt⟩ 0, fr0, ⟨[], fr0, rfl⟩, fr0, K3.rd (S := fun b => w.heap.size ≤ b ∧ b < W.heap.size) ⟨by omega, K3.lt⟩ 0⟩, hb⟩
theorem xlt_of {x : SheetM} (h : decide (x.stops.length ≤ 400 ∧ x.paths.length ≤ 400 ∧ x.doors.length ≤ 400 ∧ x.routes.length = 0 ∧ x.trips.length ≤ 400 ∧ x.hazards.length ≤ 400) = true) : XLt x := by
  simp only [decide_eq_true_eq] at h
  obtain ⟨h1, h2, h3, h4, h5, h6⟩ := h
  refine ⟨h1, h2, h3, by omega, h5, h6, fun r hr => ?_⟩
  have := List.length_pos_of_mem hr
  omega
theorem bel2 {w w1 : World} (h : Below w.heap.size w w1) (o p : Obj) : Below w.heap.size w ((w1.alloc o).alloc p) := (h.alloc h.size o).alloc (by have := h.size; simp; omega) p
set_option maxRecDepth 100000 in
set_option maxHeartbeats 4000000 in
theorem lives_any (w : World) : Calls Tryz.prog 9 #[] w (fun e w' => e = .returned (.bool true) ∧ Below w.heap.size w w') := by
  have HM1 : Hid (∀ w' b, Rd w' (· < w'.heap.size) (some ⟨b, 0, none⟩) [.string ⟨#[97]⟩, .string ⟨#[97]⟩] → Calls Tryz.prog 10 #[.agg #[.int .i64 0, .slice (some ⟨b, 0, none⟩) 2 2, .slice none 0 0, .slice none 0 0, .slice none 0 0, .slice none 0 0, .slice none 0 0]] w' (fun e w'' => ∃ q : WoA, e = .returned (.tuple #[woF zWo q, .agg #[.int .i64 6, .int .i64 1, .int .i64 1]]) ∧ Below w'.heap.size w' w'')) := Lib.hid (fun w' b hr => make_no (x := lv1) lv1_w (by decide) ⟨some ⟨b, 0, none⟩, none, none, none, none, none, 2, 0, 0, 0, 0, 0⟩ w' ⟨hr, fr0, fr0, ⟨[], fr0, rfl⟩, fr0, fr0⟩ (xlt_of (by decide)))
  have HM2 : Hid (∀ w' b c, Rd w' (· < w'.heap.size) (some ⟨b, 0, none⟩) [.string ⟨#[97]⟩, .string ⟨#[98]⟩] → Rd w' (· < w'.heap.size) (some ⟨c, 0, none⟩) [.string ⟨#[112]⟩, .string ⟨#[97]⟩, .string ⟨#[98]⟩, .int .i64 0] → Calls Tryz.prog 10 #[.agg #[.int .i64 0, .slice (some ⟨b, 0, none⟩) 2 2, .slice (some ⟨c, 0, none⟩) 1 1, .slice none 0 0, .slice none 0 0, .slice none 0 0, .slice none 0 0]] w' (fun e w'' => ∃ q : WoA, e = .returned (.tuple #[woF zWo q, .agg #[.int .i64 2, .int .i64 2, .int .i64 0]]) ∧ Below w'.heap.size w' w'')) := Lib.hid (fun w' b c hr hp => make_no (x := lv2) lv2_w (by decide) ⟨some ⟨b, 0, none⟩, some ⟨c, 0, none⟩, none, none, none, none, 2, 1, 0, 0, 0, 0⟩ w' ⟨hr, hp, fr0, ⟨[], fr0, rfl⟩, fr0, fr0⟩ (xlt_of (by decide)))
  have HM3 : Hid (∀ w' b c, Rd w' (· < w'.heap.size) (some ⟨b, 0, none⟩) [.string ⟨#[97]⟩] → Rd w' (· < w'.heap.size) (some ⟨c, 0, none⟩) [.string ⟨#[104]⟩, .string ⟨#[110, 111, 98, 111, 100, 121]⟩, .int .i64 0, .int .i64 0, .int .i64 1] → Calls Tryz.prog 10 #[.agg #[.int .i64 0, .slice (some ⟨b, 0, none⟩) 1 1, .slice none 0 0, .slice none 0 0, .slice none 0 0, .slice none 0 0, .slice (some ⟨c, 0, none⟩) 1 1]] w' (fun e w'' => ∃ q : WoA, e = .returned (.tuple #[woF zWo q, .agg #[.int .i64 5, .int .i64 6, .int .i64 0]]) ∧ Below w'.heap.size w' w'')) := Lib.hid (fun w' b c hr hp => make_no (x := lv3) lv3_w (by decide) ⟨some ⟨b, 0, none⟩, none, none, none, none, some ⟨c, 0, none⟩, 1, 0, 0, 0, 0, 1⟩ w' ⟨hr, fr0, fr0, ⟨[], fr0, rfl⟩, fr0, hp⟩ (xlt_of (by decide)))
  have HSM := Lib.hid (fun w' => small_any w')
  have HM4 : Hid (∀ w' (p : ShA), Sh w' (· < w'.heap.size) smallM p → Calls Tryz.prog 10 #[.agg #[.int .i64 40, .slice p.a1 2 p.c1, .slice p.a2 1 p.c2, .slice p.a3 0 p.c3, .slice p.a4 0 p.c4, .slice p.a5 0 p.c5, .slice p.a6 1 p.c6]] w' (fun e w'' => ∃ q : WoA, e = .returned (.tuple #[.agg #[.int .i64 40, .slice q.n.a1 2 q.n.c1, .slice q.n.a2 1 q.n.c2, .slice q.n.a3 0 q.n.c3, .slice q.n.a4 0 q.n.c4, .slice q.n.a5 0 q.n.c5, .slice q.n.a6 1 q.n.c6, .slice q.b2 1 q.d2, .slice q.b3 0 q.d3, .slice q.b4 0 q.d4, .slice q.b5 0 q.d5, .slice q.b6 1 q.d6], .agg #[.int .i64 0, .int .i64 0, .int .i64 0]]) ∧ Hid (Rd w'' (· < w''.heap.size) q.b2 [.int .i64 0, .int .i64 1, .int .i64 3]) ∧ Hid (Below w'.heap.size w' w''))) := Lib.hid (fun w' p hs => (make_any smallM p w' hs (xlt_of (by decide))).mono fun e w'' he => by
    obtain ⟨q, h1, h2, h3⟩ := he
    rw [small_m] at h1 h2
    rw [small_w] at h1
    exact ⟨q, h1, Lib.hid (h2.r2.more fun b hb => hb.2), Lib.hid h3⟩)
  go_enter Tryz.func9, Tryz.ntmps9
  go_upto_region 2 with (go_at_call 10; refine (HM1.out _ _ (Sh.lit_rd _ _ _ _ rfl)).mono ?_; rintro e w1 ⟨q, rfl, hb⟩; obtain ⟨⟨a1, a2, a3, a4, a5, a6, c1, c2, c3, c4, c5, c6⟩, b2, b3, b4, b5, b6, d2, d3, d4, d5, d6⟩ := q; have HB1 : Hid (Below w.heap.size w w1) := Lib.hid (keep_trans (one_box _ _) hb); clear hb)
  obtain ⟨W1, hW⟩ : ∃ W, W = (w1.alloc (.cells #[.int .i64 0, .slice a1 0 c1, .slice a2 0 c2, .slice a3 0 c3, .slice a4 0 c4, .slice a5 0 c5, .slice a6 0 c6, .slice b2 0 d2, .slice b3 0 d3, .slice b4 0 d4, .slice b5 0 d5, .slice b6 0 d6] 32)).alloc (.cells #[.int .i64 6, .int .i64 1, .int .i64 1] 35) := ⟨_, rfl⟩
  have KB1 : Hid (Blk W1 (w1.heap.size + 1) 35 [.int .i64 6, .int .i64 1, .int .i64 1]) := Lib.hid (by rw [hW]; exact Blk.new2 _ _ _ _)
  have BW1 : Hid (Below w.heap.size w W1) := Lib.hid (by rw [hW]; exact bel2 HB1.out _ _)
  rw [← hW]
  clear hW
  go_upto_region 3 with (go_at_call 10; refine (HM2.out _ _ _ (((Blk.new _ _ _).alloc _).rd (S := fun b => b < _) (by simp; omega) 0) (((Blk.new2 _ _ _ _)).rd (S := fun b => b < _) (by simp) 0)).mono ?_; rintro e w2 ⟨q, rfl, hb⟩; obtain ⟨⟨a1, a2, a3, a4, a5, a6, c1, c2, c3, c4, c5, c6⟩, b2, b3, b4, b5, b6, d2, d3, d4, d5, d6⟩ := q; have HB2 : Hid (Below w.heap.size w w2) := Lib.hid (keep_trans BW1.out (keep_trans (two_box _ _ _) hb)); have KB1 := Lib.hid (KB1.out.after (keep_trans (two_box _ _ _) hb)); clear hb)
  obtain ⟨W2, hW⟩ : ∃ W, W = (w2.alloc (.cells #[.int .i64 0, .slice a1 0 c1, .slice a2 0 c2, .slice a3 0 c3, .slice a4 0 c4, .slice a5 0 c5, .slice a6 0 c6, .slice b2 0 d2, .slice b3 0 d3, .slice b4 0 d4, .slice b5 0 d5, .slice b6 0 d6] 32)).alloc (.cells #[.int .i64 2, .int .i64 2, .int .i64 0] 35) := ⟨_, rfl⟩
  have KB2 : Hid (Blk W2 (w2.heap.size + 1) 35 [.int .i64 2, .int .i64 2, .int .i64 0]) := Lib.hid (by rw [hW]; exact Blk.new2 _ _ _ _)
  have KB1 : Hid (Blk W2 (w1.heap.size + 1) 35 [.int .i64 6, .int .i64 1, .int .i64 1]) := Lib.hid (by rw [hW]; exact (KB1.out.alloc _).alloc _)
  have BW2 : Hid (Below w.heap.size w W2) := Lib.hid (by rw [hW]; exact bel2 HB2.out _ _)
  rw [← hW]
  clear hW
  go_upto_region 4 with (go_at_call 10; refine (HM3.out _ _ _ (((Blk.new _ _ _).alloc _).rd (S := fun b => b < _) (by simp; omega) 0) (((Blk.new2 _ _ _ _)).rd (S := fun b => b < _) (by simp) 0)).mono ?_; rintro e w3 ⟨q, rfl, hb⟩; obtain ⟨⟨a1, a2, a3, a4, a5, a6, c1, c2, c3, c4, c5, c6⟩, b2, b3, b4, b5, b6, d2, d3, d4, d5, d6⟩ := q; have HB3 : Hid (Below w.heap.size w w3) := Lib.hid (keep_trans BW2.out (keep_trans (two_box _ _ _) hb)); have KB1 := Lib.hid (KB1.out.after (keep_trans (two_box _ _ _) hb)); have KB2 := Lib.hid (KB2.out.after (keep_trans (two_box _ _ _) hb)); clear hb)
  obtain ⟨W3, hW⟩ : ∃ W, W = (w3.alloc (.cells #[.int .i64 0, .slice a1 0 c1, .slice a2 0 c2, .slice a3 0 c3, .slice a4 0 c4, .slice a5 0 c5, .slice a6 0 c6, .slice b2 0 d2, .slice b3 0 d3, .slice b4 0 d4, .slice b5 0 d5, .slice b6 0 d6] 32)).alloc (.cells #[.int .i64 5, .int .i64 6, .int .i64 0] 35) := ⟨_, rfl⟩
  have KB3 : Hid (Blk W3 (w3.heap.size + 1) 35 [.int .i64 5, .int .i64 6, .int .i64 0]) := Lib.hid (by rw [hW]; exact Blk.new2 _ _ _ _)
  have KB1 : Hid (Blk W3 (w1.heap.size + 1) 35 [.int .i64 6, .int .i64 1, .int .i64 1]) := Lib.hid (by rw [hW]; exact (KB1.out.alloc _).alloc _)
  have KB2 : Hid (Blk W3 (w2.heap.size + 1) 35 [.int .i64 2, .int .i64 2, .int .i64 0]) := Lib.hid (by rw [hW]; exact (KB2.out.alloc _).alloc _)
  have BW3 : Hid (Below w.heap.size w W3) := Lib.hid (by rw [hW]; exact bel2 HB3.out _ _)
  rw [← hW]
  clear hW
  go_upto_region 5 with (first
    | (go_at_call 11; refine (HSM.out _).mono ?_; rintro e ws ⟨sp, rfl, hs, hb⟩; have HS := Lib.hid (hs.more (S' := (· < ws.heap.size)) fun b h => h.2); have BS : Hid (Below W3.heap.size W3 ws) := Lib.hid hb; clear hb hs)
    | (go_at_call 10; refine (HM4.out _ sp HS.out).mono ?_; rintro e w4 ⟨q, rfl, hr, hb⟩; obtain ⟨⟨a1, a2, a3, a4, a5, a6, c1, c2, c3, c4, c5, c6⟩, b2, b3, b4, b5, b6, d2, d3, d4, d5, d6⟩ := q; have HR := hr; have B4 : Hid (Below W3.heap.size W3 w4) := Lib.hid (keep_trans BS.out hb.out); clear hb hr))
  obtain ⟨ad, hb2, -, hcell⟩ := HR.out (by simp)
  try dsimp only at hb2
  subst hb2
  have hadlt : ad.block < w4.heap.size := World.block_lt_of_cell? w4 _ (hcell 0 _ rfl)
  obtain ⟨W4, hW⟩ : ∃ W, W = (w4.alloc (.cells #[.int .i64 40, .slice a1 2 c1, .slice a2 1 c2, .slice a3 0 c3, .slice a4 0 c4, .slice a5 0 c5, .slice a6 1 c6, .slice (some ad) 1 d2, .slice b3 0 d3, .slice b4 0 d4, .slice b5 0 d5, .slice b6 1 d6] 32)).alloc (.cells #[.int .i64 0, .int .i64 0, .int .i64 0] 35) := ⟨_, rfl⟩
  have B4W : Hid (Below w4.heap.size w4 W4) := Lib.hid (by rw [hW]; exact two_box _ _ _)
  have KB4 : Hid (Blk W4 (w4.heap.size + 1) 35 [.int .i64 0, .int .i64 0, .int .i64 0]) := Lib.hid (by rw [hW]; exact Blk.new2 _ _ _ _)
  have KW4 : Hid (Blk W4 w4.heap.size 32 [.int .i64 40, .slice a1 2 c1, .slice a2 1 c2, .slice a3 0 c3, .slice a4 0 c4, .slice a5 0 c5, .slice a6 1 c6, .slice (some ad) 1 d2, .slice b3 0 d3, .slice b4 0 d4, .slice b5 0 d5, .slice b6 1 d6]) := Lib.hid (by rw [hW]; exact (Blk.new _ _ _).alloc _)
  have BW4 : Hid (Below w.heap.size w W4) := Lib.hid (keep_trans BW3.out (keep_trans B4.out B4W.out))
  have hc1 : W4.cell? ⟨ad.block, ad.off + 1, none⟩ = some (.int .i64 1) := (cell_keep (p := ⟨ad.block, ad.off + 1, none⟩) B4W.out hadlt).trans (hcell 1 _ rfl)
  rw [← hW]
  clear hW hcell hadlt
  have KB1 := Lib.hid (KB1.out.after (keep_trans B4.out B4W.out))
  have KB2 := Lib.hid (KB2.out.after (keep_trans B4.out B4W.out))
  have KB3 := Lib.hid (KB3.out.after (keep_trans B4.out B4W.out))
  have z10 : W4.cell? ⟨w1.heap.size + 1, 0, none⟩ = some (.int .i64 6) := KB1.out.cell 0
  have z11 : W4.cell? ⟨w1.heap.size + 1, 1, none⟩ = some (.int .i64 1) := KB1.out.cell 1
  have z12 : W4.cell? ⟨w1.heap.size + 1, 2, none⟩ = some (.int .i64 1) := KB1.out.cell 2
  have z20 : W4.cell? ⟨w2.heap.size + 1, 0, none⟩ = some (.int .i64 2) := KB2.out.cell 0
  have z21 : W4.cell? ⟨w2.heap.size + 1, 1, none⟩ = some (.int .i64 2) := KB2.out.cell 1
  have z22 : W4.cell? ⟨w2.heap.size + 1, 2, none⟩ = some (.int .i64 0) := KB2.out.cell 2
  have z30 : W4.cell? ⟨w3.heap.size + 1, 0, none⟩ = some (.int .i64 5) := KB3.out.cell 0
  have z31 : W4.cell? ⟨w3.heap.size + 1, 1, none⟩ = some (.int .i64 6) := KB3.out.cell 1
  have z32 : W4.cell? ⟨w3.heap.size + 1, 2, none⟩ = some (.int .i64 0) := KB3.out.cell 2
  have z40 : W4.cell? ⟨w4.heap.size + 1, 0, none⟩ = some (.int .i64 0) := KB4.out.cell 0
  have z41 : W4.cell? ⟨w4.heap.size + 1, 1, none⟩ = some (.int .i64 0) := KB4.out.cell 1
  have z42 : W4.cell? ⟨w4.heap.size + 1, 2, none⟩ = some (.int .i64 0) := KB4.out.cell 2
  have zp : W4.cell? ⟨w4.heap.size, 7, none⟩ = some (.slice (some ad) 1 d2) := KW4.out.cell 7
  go_wp2
  go_ret
  exact ⟨rfl, BW4.out⟩
end Go.Proofs.YtgdanbfglefiiaaGreat.Wo
