/- Package world's Check and Sheet: what is wrong with a world, the sheet whose world it is; proved by walking their texts. Conditions: at most 400 things of a kind. -/
import Derived.Test.YtgdanbfglefiiaaGreatWoJd
import Derived.ChangeSlices
import Derived.Deep.Strs
import Derived.Deep.SlicePairs
import Derived.ChangeArms
import Derived.Carry
import Derived.Deep.RegionHeld3
import Derived.Deep.RegionHeldLaw
import Derived.Deep.CutRange
import Derived.StillTailTactics
import Derived.WalkSpells
import Derived.Lib.QuietBelow
import Derived.Deep.QuietTactic
namespace Go.Proofs.YtgdanbfglefiiaaGreat.Wo
open Go.ChangeShapes Go.WideShapes Go.ChangeAt Go.RowKit Go.Maps
open Lx Sh It
set_option linter.unusedVariables false
set_option linter.unusedSimpArgs false
def ckW (k : WrM) : List Value := [.int .i64 k.err, .int .i64 k.kind, .int .i64 k.at_]
theorem ck_read {W : World} {n0 : Nat} {b0 b1 b2 : Value} {tmps : Array Value} (h2 : tmps[2]? = some (.pointer (some ⟨n0, 0, none⟩))) (k1 : Blk W n0 35 [b0, b1, b2]) :
    (results Tryz.f15 tmps).run Tryz.prog W = .ok (.agg #[b0, b1, b2]) W := by
  have y0 : W.cell? ⟨n0, 0, none⟩ = some b0 := k1.cell 0
  have y1 : W.cell? ⟨n0, 1, none⟩ = some b1 := k1.cell 1
  have y2 : W.cell? ⟨n0, 2, none⟩ = some b2 := k1.cell 2
  simp [results, Tryz.results15, go_sem, h2, y0, y1, y2]
theorem st_read {W : World} {n0 : Nat} {a0 a1 a2 a3 a4 a5 a6 b0 : Value} {tmps : Array Value} (h2 : tmps[2]? = some (.pointer (some ⟨n0, 0, none⟩))) (h3 : tmps[3]? = some b0) (k0 : Blk W n0 44 [a0, a1, a2, a3, a4, a5, a6]) :
    (results Tryz.f12 tmps).run Tryz.prog W = .ok (.tuple #[.agg #[a0, a1, a2, a3, a4, a5, a6], b0]) W := by
  have x0 : W.cell? ⟨n0, 0, none⟩ = some a0 := k0.cell 0
  have x1 : W.cell? ⟨n0, 1, none⟩ = some a1 := k0.cell 1
  have x2 : W.cell? ⟨n0, 2, none⟩ = some a2 := k0.cell 2
  have x3 : W.cell? ⟨n0, 3, none⟩ = some a3 := k0.cell 3
  have x4 : W.cell? ⟨n0, 4, none⟩ = some a4 := k0.cell 4
  have x5 : W.cell? ⟨n0, 5, none⟩ = some a5 := k0.cell 5
  have x6 : W.cell? ⟨n0, 6, none⟩ = some a6 := k0.cell 6
  simp [results, Tryz.results12, go_sem, h2, h3, x0, x1, x2, x3, x4, x5, x6]
theorem seven_sto {w : World} {g b : Nat} {u0 u1 u2 u3 u4 u5 u6 : Value} (h1 : b ≠ g) : (((((((w.setCell ⟨g, 0, none⟩ u0).setCell ⟨g, 1, none⟩ u1).setCell ⟨g, 2, none⟩ u2).setCell ⟨g, 3, none⟩ u3).setCell ⟨g, 4, none⟩ u4).setCell ⟨g, 5, none⟩ u5).setCell ⟨g, 6, none⟩ u6).heap[b]? = w.heap[b]? :=
  ((Below.heap_setCell _ _ _ _ h1).trans ((Below.heap_setCell _ _ _ _ h1).trans ((Below.heap_setCell _ _ _ _ h1).trans ((Below.heap_setCell _ _ _ _ h1).trans ((Below.heap_setCell _ _ _ _ h1).trans ((Below.heap_setCell _ _ _ _ h1).trans (Below.heap_setCell _ _ _ _ h1)))))))
theorem sh_drew {V : World} {lo : Nat} {y : SheetM} {q : ShA} (h : Sh V (fun b => lo ≤ b ∧ b < V.heap.size) y q) : Sh V.drew (fun b => lo ≤ b ∧ b < V.drew.heap.size) y q := (h.keep (w' := V.drew) fun b hk => rfl).more fun b hk => hk
theorem sh_seven {W w2 : World} {B lo g : Nat} {y : SheetM} {q : ShA} {u0 u1 u2 u3 u4 u5 u6 : Value} (hS : Sh w2 (fun b => B ≤ b ∧ b < w2.heap.size) y q) (hb : Below w2.heap.size w2 W) (hg : ∀ b, B ≤ b → g < b) (hlo : ∀ b, B ≤ b → lo ≤ b) :
    Sh (((((((W.setCell ⟨g, 0, none⟩ u0).setCell ⟨g, 1, none⟩ u1).setCell ⟨g, 2, none⟩ u2).setCell ⟨g, 3, none⟩ u3).setCell ⟨g, 4, none⟩ u4).setCell ⟨g, 5, none⟩ u5).setCell ⟨g, 6, none⟩ u6) (fun b => lo ≤ b ∧ b < (((((((W.setCell ⟨g, 0, none⟩ u0).setCell ⟨g, 1, none⟩ u1).setCell ⟨g, 2, none⟩ u2).setCell ⟨g, 3, none⟩ u3).setCell ⟨g, 4, none⟩ u4).setCell ⟨g, 5, none⟩ u5).setCell ⟨g, 6, none⟩ u6).heap.size) y q := by
  have h1 := hb.size
  exact (hS.keep fun b hk => (seven_sto (by have := hg b hk.1; omega)).trans (hb.block b hk.2)).more fun b hk => ⟨hlo b hk.1, by simp; omega⟩
def JdL (w : World) (y : SheetM) (ke kk ka : Int) (e : Ending) (w' : World) : Prop := ∃ (z : Int) (A1 A2 A3 A4 A5 A6 : Option Addr) (n1 n2 n3 n4 n5 n6 c1 c2 c3 c4 c5 c6 : Nat), e = .returned (.tuple #[.agg #[.int .i64 z, .slice A1 n1 c1, .slice A2 n2 c2, .slice A3 n3 c3, .slice A4 n4 c4, .slice A5 n5 c5, .slice A6 n6 c6], .agg #[.int .i64 ke, .int .i64 kk, .int .i64 ka]]) ∧ Hid (z = y.horizon ∧ n1 = y.stops.length ∧ n2 = y.paths.length ∧ n3 = y.doors.length ∧ n4 = y.routes.length ∧ n5 = y.trips.length ∧ n6 = y.hazards.length) ∧ Hid (Sh w' (fun b => w.heap.size ≤ b ∧ b < w'.heap.size) y ⟨A1, A2, A3, A4, A5, A6, c1, c2, c3, c4, c5, c6⟩) ∧ Hid (Below w.heap.size w w')
theorem jd_l {w : World} {x : WorldM} {e : Ending} {w' : World} (h : JdPost w x e w') : JdL w (sheetW x) (wrongW x).err (wrongW x).kind (wrongW x).at_ e w' := by
  obtain ⟨⟨A1, A2, A3, A4, A5, A6, c1, c2, c3, c4, c5, c6⟩, h1, h2, h3⟩ := h
  exact ⟨_, A1, A2, A3, A4, A5, A6, _, _, _, _, _, _, c1, c2, c3, c4, c5, c6, h1, Lib.hid ⟨rfl, rfl, rfl, rfl, rfl, rfl, rfl⟩, Lib.hid h2, Lib.hid h3⟩
set_option maxRecDepth 100000 in
set_option maxHeartbeats 4000000 in
theorem wcheck_any (x : WorldM) (p : WoA) (w : World) (h : Wo w (· < w.heap.size) x p) (hl : WLt x) : Calls Tryz.prog 15 #[woG x p] w (fun e w' => e = .returned (wrV (wrongW x)) ∧ Below w.heap.size w w') := by
  have HJ := Lib.hid (fun w' (hb : Below w.heap.size w w') => (judged_any x p w' (h.later hb) hl).mono fun e w2 he => jd_l he)
  clear h hl
  dsimp only [woG] at HJ ⊢
  generalize x.names.stops.length = L1 at *
  generalize x.names.paths.length = L2 at *
  generalize x.names.doors.length = L3 at *
  generalize x.names.routes.length = L4 at *
  generalize x.names.trips.length = L5 at *
  generalize x.names.hazards.length = L6 at *
  generalize x.paths.length = P2 at *
  generalize x.doors.length = P3 at *
  generalize x.routes.length = P4 at *
  generalize x.trips.length = P5 at *
  generalize x.hazards.length = P6 at *
  generalize x.horizon = hz at *
  generalize sheetW x = y at *
  generalize wrongW x = kw at *
  obtain ⟨ke, kk, ka⟩ := kw
  obtain ⟨⟨a1, a2, a3, a4, a5, a6, c1, c2, c3, c4, c5, c6⟩, b2, b3, b4, b5, b6, d2, d3, d4, d5, d6⟩ := p
  dsimp only at HJ ⊢
  go_enter Tryz.func15, Tryz.ntmps15
  go_upto_region 2 with (go_at_call 35; (with_reducible refine (HJ.out _ (two_box _ _ _)).mono ?_); rintro e w2 ⟨z, A1, A2, A3, A4, A5, A6, n1, n2, n3, n4, n5, n6, e1, e2, e3, e4, e5, e6, rfl, -, -, hb⟩; have HB := Lib.hid (keep_trans (two_box _ _ _) hb.out); have KR := Lib.hid ((Blk.new2 w (.cells #[.int .i64 hz, .slice a1 L1 c1, .slice a2 L2 c2, .slice a3 L3 c3, .slice a4 L4 c4, .slice a5 L5 c5, .slice a6 L6 c6, .slice b2 P2 d2, .slice b3 P3 d3, .slice b4 P4 d4, .slice b5 P5 d5, .slice b6 P6 d6] 32) 35 [.int .i64 0, .int .i64 0, .int .i64 0]).after hb.out); clear hb)
  obtain ⟨W, hW⟩ : ∃ W, W = (w2.alloc (.cells #[.int .i64 z, .slice A1 n1 e1, .slice A2 n2 e2, .slice A3 n3 e3, .slice A4 n4 e4, .slice A5 n5 e5, .slice A6 n6 e6] 44)).alloc (.cells #[.int .i64 ke, .int .i64 kk, .int .i64 ka] 35) := ⟨_, rfl⟩
  have BW : Hid (Below w2.heap.size w2 W) := Lib.hid (by rw [hW]; exact two_box _ _ _)
  have KE : Blk W (w2.heap.size + 1) 35 [.int .i64 ke, .int .i64 kk, .int .i64 ka] := by rw [hW]; exact Blk.new2 _ _ _ _
  rw [← hW]
  clear hW
  have KR := Lib.hid (KR.out.after BW.out)
  have z0 : W.cell? ⟨w2.heap.size + 1, 0, none⟩ = some (.int .i64 ke) := KE.cell 0
  have z1 : W.cell? ⟨w2.heap.size + 1, 1, none⟩ = some (.int .i64 kk) := KE.cell 1
  have z2 : W.cell? ⟨w2.heap.size + 1, 2, none⟩ = some (.int .i64 ka) := KE.cell 2
  have y0 : W.cell? ⟨w.heap.size + 1, 0, none⟩ = some (.int .i64 0) := KR.out.cell 0
  have y1 : W.cell? ⟨w.heap.size + 1, 1, none⟩ = some (.int .i64 0) := KR.out.cell 1
  have y2 : W.cell? ⟨w.heap.size + 1, 2, none⟩ = some (.int .i64 0) := KR.out.cell 2
  have yf : ∀ i, W.frozen? ⟨w.heap.size + 1, i, none⟩ = false := fun i => KR.out.frozen i
  clear KE
  go_wp2
  refine bodyPost_ret (ck_read rfl (((KR.out.set_ 0 (.int .i64 ke)).set_ 1 (.int .i64 kk)).set_ 2 (.int .i64 ka))) rfl ?_
  exact ⟨rfl, below_set1 (below_set1 (below_set1 (keep_trans HB.out BW.out) (by simp) _) (by simp) _) (by simp) _⟩
def StPost (w : World) (x : WorldM) (e : Ending) (w' : World) : Prop :=
  ∃ q : ShA, e = .returned (.tuple #[shV (sheetW x) q, .int .i64 (wrongW x).err]) ∧ Sh w' (fun b => w.heap.size ≤ b ∧ b < w'.heap.size) (sheetW x) q ∧ Below w.heap.size w w'
set_option maxRecDepth 100000 in
set_option maxHeartbeats 4000000 in
theorem sheet_any (x : WorldM) (p : WoA) (w : World) (h : Wo w (· < w.heap.size) x p) (hl : WLt x) : Calls Tryz.prog 12 #[woG x p] w (StPost w x) := by
  unfold StPost
  have HJ := Lib.hid (fun w' (hb : Below w.heap.size w w') => (judged_any x p w' (h.later hb) hl).mono fun e w2 he => jd_l he)
  clear h hl
  dsimp only [woG] at HJ ⊢
  generalize x.names.stops.length = L1 at *
  generalize x.names.paths.length = L2 at *
  generalize x.names.doors.length = L3 at *
  generalize x.names.routes.length = L4 at *
  generalize x.names.trips.length = L5 at *
  generalize x.names.hazards.length = L6 at *
  generalize x.paths.length = P2 at *
  generalize x.doors.length = P3 at *
  generalize x.routes.length = P4 at *
  generalize x.trips.length = P5 at *
  generalize x.hazards.length = P6 at *
  generalize x.horizon = hz at *
  generalize sheetW x = y at *
  generalize wrongW x = kw at *
  obtain ⟨ke, kk, ka⟩ := kw
  obtain ⟨⟨a1, a2, a3, a4, a5, a6, c1, c2, c3, c4, c5, c6⟩, b2, b3, b4, b5, b6, d2, d3, d4, d5, d6⟩ := p
  dsimp only at HJ ⊢
  go_enter Tryz.func12, Tryz.ntmps12
  go_upto_region 2 with (go_at_call 35; (with_reducible refine (HJ.out _ (two_box _ _ _)).mono ?_); rintro e w2 ⟨z, A1, A2, A3, A4, A5, A6, n1, n2, n3, n4, n5, n6, e1, e2, e3, e4, e5, e6, rfl, hn, hs, hb⟩; have HNS := hn; have HSS := hs; have HZ : Hid (w.heap.size + 1 < w2.heap.size) := Lib.hid (by have := hb.out.size; simp at this; omega); have HZ2 : Hid (∀ b, ((w.alloc (.cells #[.int .i64 hz, .slice a1 L1 c1, .slice a2 L2 c2, .slice a3 L3 c3, .slice a4 L4 c4, .slice a5 L5 c5, .slice a6 L6 c6, .slice b2 P2 d2, .slice b3 P3 d3, .slice b4 P4 d4, .slice b5 P5 d5, .slice b6 P6 d6] 32)).alloc (.cells #[.int .i64 0, .slice none 0 0, .slice none 0 0, .slice none 0 0, .slice none 0 0, .slice none 0 0, .slice none 0 0] 44)).heap.size ≤ b → w.heap.size + 1 < b) := Lib.hid (fun b hq => by simp at hq; omega); have HB := Lib.hid (keep_trans (two_box _ _ _) hb.out); have KR := Lib.hid ((Blk.new2 w (.cells #[.int .i64 hz, .slice a1 L1 c1, .slice a2 L2 c2, .slice a3 L3 c3, .slice a4 L4 c4, .slice a5 L5 c5, .slice a6 L6 c6, .slice b2 P2 d2, .slice b3 P3 d3, .slice b4 P4 d4, .slice b5 P5 d5, .slice b6 P6 d6] 32) 44 [.int .i64 0, .slice none 0 0, .slice none 0 0, .slice none 0 0, .slice none 0 0, .slice none 0 0, .slice none 0 0]).after hb.out); clear hb hn hs)
  obtain ⟨W, hW⟩ : ∃ W, W = (w2.alloc (.cells #[.int .i64 z, .slice A1 n1 e1, .slice A2 n2 e2, .slice A3 n3 e3, .slice A4 n4 e4, .slice A5 n5 e5, .slice A6 n6 e6] 44)).alloc (.cells #[.int .i64 ke, .int .i64 kk, .int .i64 ka] 35) := ⟨_, rfl⟩
  have BW : Hid (Below w2.heap.size w2 W) := Lib.hid (by rw [hW]; exact two_box _ _ _)
  have KE : Blk W (w2.heap.size + 1) 35 [.int .i64 ke, .int .i64 kk, .int .i64 ka] := by rw [hW]; exact Blk.new2 _ _ _ _
  have KT : Blk W w2.heap.size 44 [.int .i64 z, .slice A1 n1 e1, .slice A2 n2 e2, .slice A3 n3 e3, .slice A4 n4 e4, .slice A5 n5 e5, .slice A6 n6 e6] := by rw [hW]; exact (Blk.new _ _ _).alloc _
  rw [← hW]
  clear hW
  have KR := Lib.hid (KR.out.after BW.out)
  have z0 : W.cell? ⟨w2.heap.size + 1, 0, none⟩ = some (.int .i64 ke) := KE.cell 0
  have t0 : W.cell? ⟨w2.heap.size, 0, none⟩ = some (.int .i64 z) := KT.cell 0
  have t1 : W.cell? ⟨w2.heap.size, 1, none⟩ = some (.slice A1 n1 e1) := KT.cell 1
  have t2 : W.cell? ⟨w2.heap.size, 2, none⟩ = some (.slice A2 n2 e2) := KT.cell 2
  have t3 : W.cell? ⟨w2.heap.size, 3, none⟩ = some (.slice A3 n3 e3) := KT.cell 3
  have t4 : W.cell? ⟨w2.heap.size, 4, none⟩ = some (.slice A4 n4 e4) := KT.cell 4
  have t5 : W.cell? ⟨w2.heap.size, 5, none⟩ = some (.slice A5 n5 e5) := KT.cell 5
  have t6 : W.cell? ⟨w2.heap.size, 6, none⟩ = some (.slice A6 n6 e6) := KT.cell 6
  have y0 : W.cell? ⟨w.heap.size + 1, 0, none⟩ = some (.int .i64 0) := KR.out.cell 0
  have y1 : W.cell? ⟨w.heap.size + 1, 1, none⟩ = some (.slice none 0 0) := KR.out.cell 1
  have y2 : W.cell? ⟨w.heap.size + 1, 2, none⟩ = some (.slice none 0 0) := KR.out.cell 2
  have y3 : W.cell? ⟨w.heap.size + 1, 3, none⟩ = some (.slice none 0 0) := KR.out.cell 3
  have y4 : W.cell? ⟨w.heap.size + 1, 4, none⟩ = some (.slice none 0 0) := KR.out.cell 4
  have y5 : W.cell? ⟨w.heap.size + 1, 5, none⟩ = some (.slice none 0 0) := KR.out.cell 5
  have y6 : W.cell? ⟨w.heap.size + 1, 6, none⟩ = some (.slice none 0 0) := KR.out.cell 6
  have yf : ∀ i, W.frozen? ⟨w.heap.size + 1, i, none⟩ = false := fun i => KR.out.frozen i
  have ne1 : ¬ (w2.heap.size = w.heap.size) := by have := HZ.out; omega
  have ne2 : ¬ (w.heap.size = w2.heap.size) := by have := HZ.out; omega
  have ne3 : ¬ (w2.heap.size = w.heap.size + 1) := by have := HZ.out; omega
  have ne4 : ¬ (w.heap.size + 1 = w2.heap.size) := by have := HZ.out; omega
  have ne5 : ¬ (w2.heap.size + 1 = w.heap.size + 1) := by have := HZ.out; omega
  have ne6 : ¬ (w.heap.size + 1 = w2.heap.size + 1) := by have := HZ.out; omega
  clear KE KT
  go_region
  all_goals
    go_wp2
    obtain ⟨g0, g1, g2, g3, g4, g5, g6⟩ := HNS.out
    refine bodyPost_ret (v := .tuple #[.agg #[.int .i64 z, .slice A1 n1 e1, .slice A2 n2 e2, .slice A3 n3 e3, .slice A4 n4 e4, .slice A5 n5 e5, .slice A6 n6 e6], .int .i64 ke]) (st_read rfl rfl (blk_dr (((((((KR.out.set_ 0 _).set_ 1 _).set_ 2 _).set_ 3 _).set_ 4 _).set_ 5 _).set_ 6 _))) rfl ?_
    have HSF := sh_seven (W := W) (lo := w.heap.size) (g := w.heap.size + 1) (u0 := .int .i64 z) (u1 := .slice A1 n1 e1) (u2 := .slice A2 n2 e2) (u3 := .slice A3 n3 e3) (u4 := .slice A4 n4 e4) (u5 := .slice A5 n5 e5) (u6 := .slice A6 n6 e6) HSS.out BW.out (fun b hb => HZ2.out b hb) (fun b hb => by have := HZ2.out b hb; omega)
    refine ⟨⟨A1, A2, A3, A4, A5, A6, e1, e2, e3, e4, e5, e6⟩, by dsimp only [shV]; rw [g0, g1, g2, g3, g4, g5, g6], sh_drew HSF, ?_⟩
    exact below_drew (below_set1 (below_set1 (below_set1 (below_set1 (below_set1 (below_set1 (below_set1 (keep_trans HB.out BW.out) (by simp) _) (by simp) _) (by simp) _) (by simp) _) (by simp) _) (by simp) _) (by simp) _)
end Go.Proofs.YtgdanbfglefiiaaGreat.Wo
