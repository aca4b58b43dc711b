/- Package world's Check and Sheet: what is wrong with a world, the sheet whose world it is; proved by walking their texts. Conditions: at most 400 things of a kind. -/
import Derived.Test.YtfefnfifeaihhaaGreatWoJd
set_option linter.unusedVariables false
set_option linter.unusedSimpArgs false
set_option maxHeartbeats 4000000
set_option maxRecDepth 100000
namespace Go.Proofs.YtfefnfifeaihhaaGreat.Wo
open Go.ChangeShapes Go.WideShapes Go.ChangeAt Go.RowKit Go.Maps
open Lx Sh It
theorem ck_read {W : World} {n0 : Nat} {b0 b1 b2 : Value} {tmps : Array Value} (h2 : tmps[2]? = some (.pointer (some ⟨n0, 0, none⟩))) (k1 : Blk W n0 52 [b0, b1, b2]) :
    (results Tryz.f53 tmps).run Tryz.prog W = .ok (.agg #[b0, b1, b2]) W := by
  have y0 : W.cell? ⟨n0, 0, none⟩ = some b0 := k1.cell 0
  have y1 : W.cell? ⟨n0, 1, none⟩ = some b1 := k1.cell 1
  have y2 : W.cell? ⟨n0, 2, none⟩ = some b2 := k1.cell 2
  simp [results, Tryz.results53, go_sem, h2, y0, y1, y2]
def JdL (w : World) (y : SheetM) (ke kk ka : Int) (e : Ending) (w' : World) : Prop := ∃ (z : Int) (A1 A2 A3 A4 A5 A6 : Option Addr) (n1 n2 n3 n4 n5 n6 c1 c2 c3 c4 c5 c6 : Nat), e = .returned (.tuple #[.agg #[.int .i64 z, .slice A1 n1 c1, .slice A2 n2 c2, .slice A3 n3 c3, .slice A4 n4 c4, .slice A5 n5 c5, .slice A6 n6 c6], .agg #[.int .i64 ke, .int .i64 kk, .int .i64 ka]]) ∧ Hid (z = y.horizon ∧ n1 = y.stops.length ∧ n2 = y.paths.length ∧ n3 = y.doors.length ∧ n4 = y.routes.length ∧ n5 = y.trips.length ∧ n6 = y.hazards.length) ∧ Hid (Sh w' (fun b => w.heap.size ≤ b ∧ b < w'.heap.size) y ⟨A1, A2, A3, A4, A5, A6, c1, c2, c3, c4, c5, c6⟩) ∧ Hid (Below w.heap.size w w')
theorem jd_l {w : World} {x : WorldM} {e : Ending} {w' : World} (h : JdPost w x e w') : JdL w (sheetW x) (wrongW x).err (wrongW x).kind (wrongW x).at_ e w' := by
  obtain ⟨⟨A1, A2, A3, A4, A5, A6, c1, c2, c3, c4, c5, c6⟩, h1, h2, h3⟩ := h
  exact ⟨_, A1, A2, A3, A4, A5, A6, _, _, _, _, _, _, c1, c2, c3, c4, c5, c6, h1, HH ⟨rfl, rfl, rfl, rfl, rfl, rfl, rfl⟩, HH h2, HH h3⟩
theorem wcheck_any (x : WorldM) (p : WoA) (w : World) (h : Wo w (· < w.heap.size) x p) (hl : WLt x) : Calls Tryz.prog 53 #[woG x p] w (fun e w' => e = .returned (wrV (wrongW x)) ∧ Below w.heap.size w w') := by
  have HJ := HH (fun w' (hb : Below w.heap.size w w') => (judged_any x p w' (h.later hb) hl).mono fun e w2 he => jd_l he)
  clear h hl
  dsimp only [woG] at HJ ⊢
  generalize x.names.stops.length = L1 at *
  generalize x.names.paths.length = L2 at *
  generalize x.names.doors.length = L3 at *
  generalize x.names.routes.length = L4 at *
  generalize x.names.trips.length = L5 at *
  generalize x.names.hazards.length = L6 at *
  generalize x.paths.length = P2 at *
  generalize x.doors.length = P3 at *
  generalize x.routes.length = P4 at *
  generalize x.trips.length = P5 at *
  generalize x.hazards.length = P6 at *
  generalize x.horizon = hz at *
  generalize sheetW x = y at *
  generalize wrongW x = kw at *
  obtain ⟨ke, kk, ka⟩ := kw
  obtain ⟨⟨a1, a2, a3, a4, a5, a6, c1, c2, c3, c4, c5, c6⟩, b2, b3, b4, b5, b6, d2, d3, d4, d5, d6⟩ := p
  dsimp only at HJ ⊢
  go_enter Tryz.func53, Tryz.ntmps53
  go_upto_region 2 with (go_at_call 66; (with_reducible refine (HJ.out _ (two_box _ _ _)).mono ?_); rintro e w2 ⟨z, A1, A2, A3, A4, A5, A6, n1, n2, n3, n4, n5, n6, e1, e2, e3, e4, e5, e6, rfl, -, -, hb⟩; have HB := HH (keep_trans (two_box _ _ _) hb.out); have KR := HH ((Blk.new2 w (.cells #[.int .i64 hz, .slice a1 L1 c1, .slice a2 L2 c2, .slice a3 L3 c3, .slice a4 L4 c4, .slice a5 L5 c5, .slice a6 L6 c6, .slice b2 P2 d2, .slice b3 P3 d3, .slice b4 P4 d4, .slice b5 P5 d5, .slice b6 P6 d6] 37) 52 [.int .i64 0, .int .i64 0, .int .i64 0]).after hb.out); clear hb)
  obtain ⟨W, hW⟩ : ∃ W, W = (w2.alloc (.cells #[.int .i64 z, .slice A1 n1 e1, .slice A2 n2 e2, .slice A3 n3 e3, .slice A4 n4 e4, .slice A5 n5 e5, .slice A6 n6 e6] 88)).alloc (.cells #[.int .i64 ke, .int .i64 kk, .int .i64 ka] 52) := ⟨_, rfl⟩
  have BW : Hid (Below w2.heap.size w2 W) := HH (by rw [hW]; exact two_box _ _ _)
  have KE : Blk W (w2.heap.size + 1) 52 [.int .i64 ke, .int .i64 kk, .int .i64 ka] := by rw [hW]; exact Blk.new2 _ _ _ _
  rw [← hW]
  clear hW
  have KR := HH (KR.out.after BW.out)
  have z0 : W.cell? ⟨w2.heap.size + 1, 0, none⟩ = some (.int .i64 ke) := KE.cell 0
  have z1 : W.cell? ⟨w2.heap.size + 1, 1, none⟩ = some (.int .i64 kk) := KE.cell 1
  have z2 : W.cell? ⟨w2.heap.size + 1, 2, none⟩ = some (.int .i64 ka) := KE.cell 2
  have y0 : W.cell? ⟨w.heap.size + 1, 0, none⟩ = some (.int .i64 0) := KR.out.cell 0
  have y1 : W.cell? ⟨w.heap.size + 1, 1, none⟩ = some (.int .i64 0) := KR.out.cell 1
  have y2 : W.cell? ⟨w.heap.size + 1, 2, none⟩ = some (.int .i64 0) := KR.out.cell 2
  have yf : ∀ i, W.frozen? ⟨w.heap.size + 1, i, none⟩ = false := fun i => KR.out.frozen i
  clear KE
  go_wp2
  refine bodyPost_ret (ck_read rfl (((KR.out.set_ 0 (.int .i64 ke)).set_ 1 (.int .i64 kk)).set_ 2 (.int .i64 ka))) rfl ?_
  exact ⟨rfl, below_set1 (below_set1 (below_set1 (keep_trans HB.out BW.out) (by simp) _) (by simp) _) (by simp) _⟩
end Go.Proofs.YtfefnfifeaihhaaGreat.Wo
