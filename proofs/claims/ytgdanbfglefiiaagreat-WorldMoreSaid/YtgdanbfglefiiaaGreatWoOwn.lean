/- The kit's OwnWorld: a world in memory of the call's own, walked. Conditions: the world is light (WLt). -/
import Derived.Test.YtgdanbfglefiiaaGreatWoOwB
import Derived.ChangeSlices
import Derived.Deep.Strs
import Derived.Deep.SlicePairs
import Derived.ChangeArms
import Derived.Carry
import Derived.Deep.RegionHeld3
import Derived.Deep.RegionHeldLaw
import Derived.Deep.CutRange
import Derived.StillTailTactics
import Derived.WalkSpells
import Derived.Lib.QuietBelow
import Derived.Deep.QuietTactic
namespace Go.Proofs.YtgdanbfglefiiaaGreat.Wo
open Go.ChangeShapes Go.WideShapes Go.ChangeAt Go.RowKit Go.Maps
open Lx Sh It
set_option linter.unusedVariables false
set_option linter.unusedSimpArgs false
def OwnWoPost (w : World) (x : WorldM) (e : Ending) (w' : World) : Prop :=
  ∃ q : WoA, e = .returned (woF x q) ∧ OwW w' (w.heap.size + 2) w'.heap.size x q ∧ Below w.heap.size w w'
theorem own_wo_read {W : World} {n0 : Nat} {a0 a1 a2 a3 a4 a5 a6 a7 a8 a9 a10 a11 : Value} {tmps : Array Value} (h2 : tmps[2]? = some (.pointer (some ⟨n0, 0, none⟩))) (k0 : Blk W n0 32 [a0, a1, a2, a3, a4, a5, a6, a7, a8, a9, a10, a11]) :
    (results Tryz.f20 tmps).run Tryz.prog W = .ok (.agg #[a0, a1, a2, a3, a4, a5, a6, a7, a8, a9, a10, a11]) W := by
  have x0 : W.cell? ⟨n0, 0, none⟩ = some a0 := k0.cell 0
  have x1 : W.cell? ⟨n0, 1, none⟩ = some a1 := k0.cell 1
  have x2 : W.cell? ⟨n0, 2, none⟩ = some a2 := k0.cell 2
  have x3 : W.cell? ⟨n0, 3, none⟩ = some a3 := k0.cell 3
  have x4 : W.cell? ⟨n0, 4, none⟩ = some a4 := k0.cell 4
  have x5 : W.cell? ⟨n0, 5, none⟩ = some a5 := k0.cell 5
  have x6 : W.cell? ⟨n0, 6, none⟩ = some a6 := k0.cell 6
  have x7 : W.cell? ⟨n0, 7, none⟩ = some a7 := k0.cell 7
  have x8 : W.cell? ⟨n0, 8, none⟩ = some a8 := k0.cell 8
  have x9 : W.cell? ⟨n0, 9, none⟩ = some a9 := k0.cell 9
  have x10 : W.cell? ⟨n0, 10, none⟩ = some a10 := k0.cell 10
  have x11 : W.cell? ⟨n0, 11, none⟩ = some a11 := k0.cell 11
  simp [results, Tryz.results20, go_sem, h2, x0, x1, x2, x3, x4, x5, x6, x7, x8, x9, x10, x11]
set_option maxRecDepth 100000 in
set_option maxHeartbeats 8000000 in
theorem own_world (x : WorldM) (p : WoA) (w : World) (h : Wo w (· < w.heap.size) x p) (hf : WLt x) : Calls Tryz.prog 20 #[woF x p] w (OwnWoPost w x) := by
  have HH := Lib.hid h
  have HF := Lib.hid hf
  clear h hf
  dsimp only [woF]
  go_enter Tryz.func20, Tryz.ntmps20
  go_upto_region 2 with fail
  obtain ⟨W, hW⟩ : ∃ W, W = ((w.alloc (.cells #[.int .i64 x.horizon, .slice p.n.a1 x.names.stops.length p.n.c1, .slice p.n.a2 x.names.paths.length p.n.c2, .slice p.n.a3 x.names.doors.length p.n.c3, .slice p.n.a4 x.names.routes.length p.n.c4, .slice p.n.a5 x.names.trips.length p.n.c5, .slice p.n.a6 x.names.hazards.length p.n.c6, .slice p.b2 x.paths.length p.d2, .slice p.b3 x.doors.length p.d3, .slice p.b4 x.routes.length p.d4, .slice p.b5 x.trips.length p.d5, .slice p.b6 x.hazards.length p.d6] 32)).alloc (.cells #[.int .i64 0, .slice none 0 0, .slice none 0 0, .slice none 0 0, .slice none 0 0, .slice none 0 0, .slice none 0 0, .slice none 0 0, .slice none 0 0, .slice none 0 0, .slice none 0 0, .slice none 0 0] 32)).alloc (.cells #[.slice p.n.a1 x.names.stops.length p.n.c1, .slice p.n.a2 x.names.paths.length p.n.c2, .slice p.n.a3 x.names.doors.length p.n.c3, .slice p.n.a4 x.names.routes.length p.n.c4, .slice p.n.a5 x.names.trips.length p.n.c5, .slice p.n.a6 x.names.hazards.length p.n.c6] 25) := ⟨_, rfl⟩
  have HW0 : Hid (Below w.heap.size w W) := Lib.hid (by rw [hW]; exact box3 _ _ _ _)
  have K0 : Hid (Blk W w.heap.size 32 [.int .i64 x.horizon, .slice p.n.a1 x.names.stops.length p.n.c1, .slice p.n.a2 x.names.paths.length p.n.c2, .slice p.n.a3 x.names.doors.length p.n.c3, .slice p.n.a4 x.names.routes.length p.n.c4, .slice p.n.a5 x.names.trips.length p.n.c5, .slice p.n.a6 x.names.hazards.length p.n.c6, .slice p.b2 x.paths.length p.d2, .slice p.b3 x.doors.length p.d3, .slice p.b4 x.routes.length p.d4, .slice p.b5 x.trips.length p.d5, .slice p.b6 x.hazards.length p.d6]) := Lib.hid (by rw [hW]; exact ((Blk.new w _ _).alloc _).alloc _)
  have K1 : Hid (Blk W (w.heap.size + 1) 32 [.int .i64 0, .slice none 0 0, .slice none 0 0, .slice none 0 0, .slice none 0 0, .slice none 0 0, .slice none 0 0, .slice none 0 0, .slice none 0 0, .slice none 0 0, .slice none 0 0, .slice none 0 0]) := Lib.hid (by rw [hW]; exact (Blk.new2 w _ _ _).alloc _)
  have K2 : Hid (Blk W (w.heap.size + 1 + 1) 25 [.slice p.n.a1 x.names.stops.length p.n.c1, .slice p.n.a2 x.names.paths.length p.n.c2, .slice p.n.a3 x.names.doors.length p.n.c3, .slice p.n.a4 x.names.routes.length p.n.c4, .slice p.n.a5 x.names.trips.length p.n.c5, .slice p.n.a6 x.names.hazards.length p.n.c6]) := Lib.hid (by rw [hW]; have := Blk.new2 (w.alloc (.cells #[.int .i64 x.horizon, .slice p.n.a1 x.names.stops.length p.n.c1, .slice p.n.a2 x.names.paths.length p.n.c2, .slice p.n.a3 x.names.doors.length p.n.c3, .slice p.n.a4 x.names.routes.length p.n.c4, .slice p.n.a5 x.names.trips.length p.n.c5, .slice p.n.a6 x.names.hazards.length p.n.c6, .slice p.b2 x.paths.length p.d2, .slice p.b3 x.doors.length p.d3, .slice p.b4 x.routes.length p.d4, .slice p.b5 x.trips.length p.d5, .slice p.b6 x.hazards.length p.d6] 32)) (.cells #[.int .i64 0, .slice none 0 0, .slice none 0 0, .slice none 0 0, .slice none 0 0, .slice none 0 0, .slice none 0 0, .slice none 0 0, .slice none 0 0, .slice none 0 0, .slice none 0 0, .slice none 0 0] 32) 25 [.slice p.n.a1 x.names.stops.length p.n.c1, .slice p.n.a2 x.names.paths.length p.n.c2, .slice p.n.a3 x.names.doors.length p.n.c3, .slice p.n.a4 x.names.routes.length p.n.c4, .slice p.n.a5 x.names.trips.length p.n.c5, .slice p.n.a6 x.names.hazards.length p.n.c6]; simpa using this)
  have HWZ : Hid (W.heap.size = w.heap.size + 3) := Lib.hid (by rw [hW]; simp)
  rw [← hW]
  clear hW
  have KC : Hid (∀ w', Below W.heap.size W w' → (w'.cell? ⟨w.heap.size, 0, none⟩ = some (.int .i64 x.horizon) ∧ w'.cell? ⟨w.heap.size, 1, none⟩ = some (.slice p.n.a1 x.names.stops.length p.n.c1) ∧ w'.cell? ⟨w.heap.size, 2, none⟩ = some (.slice p.n.a2 x.names.paths.length p.n.c2) ∧ w'.cell? ⟨w.heap.size, 3, none⟩ = some (.slice p.n.a3 x.names.doors.length p.n.c3) ∧ w'.cell? ⟨w.heap.size, 4, none⟩ = some (.slice p.n.a4 x.names.routes.length p.n.c4) ∧ w'.cell? ⟨w.heap.size, 5, none⟩ = some (.slice p.n.a5 x.names.trips.length p.n.c5) ∧ w'.cell? ⟨w.heap.size, 6, none⟩ = some (.slice p.n.a6 x.names.hazards.length p.n.c6) ∧ w'.cell? ⟨w.heap.size, 7, none⟩ = some (.slice p.b2 x.paths.length p.d2) ∧ w'.cell? ⟨w.heap.size, 8, none⟩ = some (.slice p.b3 x.doors.length p.d3) ∧ w'.cell? ⟨w.heap.size, 9, none⟩ = some (.slice p.b4 x.routes.length p.d4) ∧ w'.cell? ⟨w.heap.size, 10, none⟩ = some (.slice p.b5 x.trips.length p.d5) ∧ w'.cell? ⟨w.heap.size, 11, none⟩ = some (.slice p.b6 x.hazards.length p.d6)) ∧ w'.cell? ⟨w.heap.size + 1 + 1, 0, none⟩ = some (.slice p.n.a1 x.names.stops.length p.n.c1) ∧ w'.cell? ⟨w.heap.size + 1 + 1, 1, none⟩ = some (.slice p.n.a2 x.names.paths.length p.n.c2) ∧ w'.cell? ⟨w.heap.size + 1 + 1, 2, none⟩ = some (.slice p.n.a3 x.names.doors.length p.n.c3) ∧ w'.cell? ⟨w.heap.size + 1 + 1, 3, none⟩ = some (.slice p.n.a4 x.names.routes.length p.n.c4) ∧ w'.cell? ⟨w.heap.size + 1 + 1, 4, none⟩ = some (.slice p.n.a5 x.names.trips.length p.n.c5) ∧ w'.cell? ⟨w.heap.size + 1 + 1, 5, none⟩ = some (.slice p.n.a6 x.names.hazards.length p.n.c6)) := Lib.hid (fun w' hb => by
    have a := K0.out.after hb
    have b := K2.out.after hb
    exact ⟨⟨a.cell 0, a.cell 1, a.cell 2, a.cell 3, a.cell 4, a.cell 5, a.cell 6, a.cell 7, a.cell 8, a.cell 9, a.cell 10, a.cell 11⟩, b.cell 0, b.cell 1, b.cell 2, b.cell 3, b.cell 4, b.cell 5⟩)
  have CP : Hid (∀ w', Below W.heap.size W w' → Calls Tryz.prog 53 #[.slice p.b2 x.paths.length p.d2] w' (NewRow w' 51 3 (cs poC x.paths) x.paths.length)) := Lib.hid (fun w' hb => own_poO w' p.b2 x.paths.length p.d2 x.paths (Lib.hid rfl) (by have := HF.out.l2; omega) (rd_later HH.out.r2 (keep_trans HW0.out hb)))
  have CD : Hid (∀ w', Below W.heap.size W w' → Calls Tryz.prog 54 #[.slice p.b3 x.doors.length p.d3] w' (NewRow w' 121 6 (cs dooC x.doors) x.doors.length)) := Lib.hid (fun w' hb => own_dooO w' p.b3 x.doors.length p.d3 x.doors (Lib.hid rfl) (by have := HF.out.l3; omega) (rd_later HH.out.r3 (keep_trans HW0.out hb)))
  have CT : Hid (∀ w', Below W.heap.size W w' → Calls Tryz.prog 55 #[.slice p.b5 x.trips.length p.d5] w' (NewRow w' 69 4 (cs toC x.trips) x.trips.length)) := Lib.hid (fun w' hb => own_toO w' p.b5 x.trips.length p.d5 x.trips (Lib.hid rfl) (by have := HF.out.l5; omega) (rd_later HH.out.r5 (keep_trans HW0.out hb)))
  have CH : Hid (∀ w', Below W.heap.size W w' → Calls Tryz.prog 56 #[.slice p.b6 x.hazards.length p.d6] w' (NewRow w' 125 5 (cs hoC x.hazards) x.hazards.length)) := Lib.hid (fun w' hb => own_hoO w' p.b6 x.hazards.length p.d6 x.hazards (Lib.hid rfl) (by have := HF.out.l6; omega) (rd_later HH.out.r6 (keep_trans HW0.out hb)))
  have N1 : Hid (∀ w', Below W.heap.size W w' → Calls Tryz.prog 45 #[.slice p.n.a1 x.names.stops.length p.n.c1] w' (NewRow w' 9 1 (cs strC x.names.stops) x.names.stops.length)) := Lib.hid (fun w' hb => own_str w' p.n.a1 x.names.stops.length p.n.c1 x.names.stops (Lib.hid rfl) (by have := HF.out.n1; omega) (rd_later HH.out.r1.r1 (keep_trans HW0.out hb)))
  have N2 : Hid (∀ w', Below W.heap.size W w' → Calls Tryz.prog 45 #[.slice p.n.a2 x.names.paths.length p.n.c2] w' (NewRow w' 9 1 (cs strC x.names.paths) x.names.paths.length)) := Lib.hid (fun w' hb => own_str w' p.n.a2 x.names.paths.length p.n.c2 x.names.paths (Lib.hid rfl) (by have := HF.out.n2; omega) (rd_later HH.out.r1.r2 (keep_trans HW0.out hb)))
  have N3 : Hid (∀ w', Below W.heap.size W w' → Calls Tryz.prog 45 #[.slice p.n.a3 x.names.doors.length p.n.c3] w' (NewRow w' 9 1 (cs strC x.names.doors) x.names.doors.length)) := Lib.hid (fun w' hb => own_str w' p.n.a3 x.names.doors.length p.n.c3 x.names.doors (Lib.hid rfl) (by have := HF.out.n3; omega) (rd_later HH.out.r1.r3 (keep_trans HW0.out hb)))
  have N4 : Hid (∀ w', Below W.heap.size W w' → Calls Tryz.prog 45 #[.slice p.n.a4 x.names.routes.length p.n.c4] w' (NewRow w' 9 1 (cs strC x.names.routes) x.names.routes.length)) := Lib.hid (fun w' hb => own_str w' p.n.a4 x.names.routes.length p.n.c4 x.names.routes (Lib.hid rfl) (by have := HF.out.n4; omega) (rd_later HH.out.r1.r4 (keep_trans HW0.out hb)))
  have N5 : Hid (∀ w', Below W.heap.size W w' → Calls Tryz.prog 45 #[.slice p.n.a5 x.names.trips.length p.n.c5] w' (NewRow w' 9 1 (cs strC x.names.trips) x.names.trips.length)) := Lib.hid (fun w' hb => own_str w' p.n.a5 x.names.trips.length p.n.c5 x.names.trips (Lib.hid rfl) (by have := HF.out.n5; omega) (rd_later HH.out.r1.r5 (keep_trans HW0.out hb)))
  have N6 : Hid (∀ w', Below W.heap.size W w' → Calls Tryz.prog 45 #[.slice p.n.a6 x.names.hazards.length p.n.c6] w' (NewRow w' 9 1 (cs strC x.names.hazards) x.names.hazards.length)) := Lib.hid (fun w' hb => own_str w' p.n.a6 x.names.hazards.length p.n.c6 x.names.hazards (Lib.hid rfl) (by have := HF.out.n6; omega) (rd_later HH.out.r1.r6 (keep_trans HW0.out hb)))
  go_cut [4] from 9 to 23 (fun v4 wc => ∃ (s : Nat) (AP AD AT AH : Option Addr) (cP cD cT cH : Nat), v4 = .pointer (some ⟨s, 0, none⟩) ∧ Hid (W.heap.size ≤ s) ∧ Hid (Blk wc s 32 [.int .i64 x.horizon, .slice none 0 0, .slice none 0 0, .slice none 0 0, .slice none 0 0, .slice none 0 0, .slice none 0 0, .slice AP x.paths.length cP, .slice AD x.doors.length cD, .slice none 0 0, .slice AT x.trips.length cT, .slice AH x.hazards.length cH]) ∧ Hid (wc.ownsRow W.heap.size 51 3 (.slice AP x.paths.length cP) x.paths.length (cs poC x.paths)) ∧ Hid (wc.ownsRow W.heap.size 121 6 (.slice AD x.doors.length cD) x.doors.length (cs dooC x.doors)) ∧ Hid (wc.ownsRow W.heap.size 69 4 (.slice AT x.trips.length cT) x.trips.length (cs toC x.trips)) ∧ Hid (wc.ownsRow W.heap.size 125 5 (.slice AH x.hazards.length cH) x.hazards.length (cs hoC x.hazards)) ∧ Hid (Below W.heap.size W wc))
  case first =>
    refine wp_region_held_drew (S := fun w' => Hid (Below W.heap.size W w')) (by kernel_rfl) ?_ (fun hHeld => ?_)
    · exact Lib.hid (below_drew (Below.refl _ _))
    refine wpAnyH_take (i := 0) (v := ?vow1) rfl (by kernel_rfl) (by kernel_rfl) (by kernel_rfl) (fun _ _ _ h => h) (Or.inl ⟨by rfl, ?hyow1⟩) (by assumption) ?restow1
    case hyow1 => (intro w' hSw; clear hSw; go_simp; try with_reducible rfl)
    simp only [Act.put, List.getElem_toArray, List.getElem_cons_zero, List.getElem_cons_succ, List.setIfInBounds_toArray, List.set_cons_zero, List.set_cons_succ]
    refine wpAnyH_take (i := 1) (v := ?vow2) rfl (by kernel_rfl) (by kernel_rfl) (by kernel_rfl) (fun _ _ _ h => h) (Or.inl ⟨by rfl, ?hyow2⟩) (by assumption) ?restow2
    case hyow2 => (intro w' hSw; obtain ⟨⟨kx0, kx1, kx2, kx3, kx4, kx5, kx6, kx7, kx8, kx9, kx10, kx11⟩, -⟩ := KC.out w' hSw.out; clear hSw; go_simp; try with_reducible rfl)
    simp only [Act.put, List.getElem_toArray, List.getElem_cons_zero, List.getElem_cons_succ, List.setIfInBounds_toArray, List.set_cons_zero, List.set_cons_succ]
    refine wpAnyH_take (i := 2) (v := ?vow3) rfl (by kernel_rfl) (by kernel_rfl) (by kernel_rfl) (fun _ _ _ h => h) (Or.inl ⟨by rfl, ?hyow3⟩) (by assumption) ?restow3
    case hyow3 => (intro w' hSw; clear hSw; go_simp; try with_reducible rfl)
    simp only [Act.put, List.getElem_toArray, List.getElem_cons_zero, List.getElem_cons_succ, List.setIfInBounds_toArray, List.set_cons_zero, List.set_cons_succ]
    refine wpAnyH_take (i := 3) (v := ?vow4) rfl (by kernel_rfl) (by kernel_rfl) (by kernel_rfl) (fun _ _ _ h => h) (Or.inl ⟨by rfl, ?hyow4⟩) (by assumption) ?restow4
    case hyow4 => (intro w' hSw; obtain ⟨⟨kx0, kx1, kx2, kx3, kx4, kx5, kx6, kx7, kx8, kx9, kx10, kx11⟩, -⟩ := KC.out w' hSw.out; clear hSw; go_simp; try with_reducible rfl)
    simp only [Act.put, List.getElem_toArray, List.getElem_cons_zero, List.getElem_cons_succ, List.setIfInBounds_toArray, List.set_cons_zero, List.set_cons_succ]
    refine wpAnyH_take (i := 5) (v := ?vow5) rfl (by kernel_rfl) (by kernel_rfl) (by kernel_rfl) (fun _ _ _ h => h) (Or.inl ⟨by rfl, ?hyow5⟩) (by assumption) ?restow5
    case hyow5 => (intro w' hSw; clear hSw; go_simp; try with_reducible rfl)
    simp only [Act.put, List.getElem_toArray, List.getElem_cons_zero, List.getElem_cons_succ, List.setIfInBounds_toArray, List.set_cons_zero, List.set_cons_succ]
    refine wpAnyH_take (i := 6) (v := ?vow6) rfl (by kernel_rfl) (by kernel_rfl) (by kernel_rfl) (fun _ _ _ h => h) (Or.inl ⟨by rfl, ?hyow6⟩) (by assumption) ?restow6
    case hyow6 => (intro w' hSw; obtain ⟨⟨kx0, kx1, kx2, kx3, kx4, kx5, kx6, kx7, kx8, kx9, kx10, kx11⟩, -⟩ := KC.out w' hSw.out; clear hSw; go_simp; try with_reducible rfl)
    simp only [Act.put, List.getElem_toArray, List.getElem_cons_zero, List.getElem_cons_succ, List.setIfInBounds_toArray, List.set_cons_zero, List.set_cons_succ]
    refine wpAnyH_take (i := 8) (v := ?vow7) rfl (by kernel_rfl) (by kernel_rfl) (by kernel_rfl) (fun _ _ _ h => h) (Or.inl ⟨by rfl, ?hyow7⟩) (by assumption) ?restow7
    case hyow7 => (intro w' hSw; clear hSw; go_simp; try with_reducible rfl)
    simp only [Act.put, List.getElem_toArray, List.getElem_cons_zero, List.getElem_cons_succ, List.setIfInBounds_toArray, List.set_cons_zero, List.set_cons_succ]
    refine wpAnyH_take (i := 9) (v := ?vow8) rfl (by kernel_rfl) (by kernel_rfl) (by kernel_rfl) (fun _ _ _ h => h) (Or.inl ⟨by rfl, ?hyow8⟩) (by assumption) ?restow8
    case hyow8 => (intro w' hSw; obtain ⟨⟨kx0, kx1, kx2, kx3, kx4, kx5, kx6, kx7, kx8, kx9, kx10, kx11⟩, -⟩ := KC.out w' hSw.out; clear hSw; go_simp; try with_reducible rfl)
    simp only [Act.put, List.getElem_toArray, List.getElem_cons_zero, List.getElem_cons_succ, List.setIfInBounds_toArray, List.set_cons_zero, List.set_cons_succ]
    refine wpAnyH_take (i := 11) (v := ?vow9) rfl (by kernel_rfl) (by kernel_rfl) (by kernel_rfl) (fun _ _ _ h => h) (Or.inl ⟨by rfl, ?hyow9⟩) (by assumption) ?restow9
    case hyow9 => (intro w' hSw; clear hSw; go_simp; try with_reducible rfl)
    simp only [Act.put, List.getElem_toArray, List.getElem_cons_zero, List.getElem_cons_succ, List.setIfInBounds_toArray, List.set_cons_zero, List.set_cons_succ]
    refine wpAnyH_take (i := 12) (v := ?vow10) rfl (by kernel_rfl) (by kernel_rfl) (by kernel_rfl) (fun _ _ _ h => h) (Or.inl ⟨by rfl, ?hyow10⟩) (by assumption) ?restow10
    case hyow10 => (intro w' hSw; obtain ⟨⟨kx0, kx1, kx2, kx3, kx4, kx5, kx6, kx7, kx8, kx9, kx10, kx11⟩, -⟩ := KC.out w' hSw.out; clear hSw; go_simp; try with_reducible rfl)
    simp only [Act.put, List.getElem_toArray, List.getElem_cons_zero, List.getElem_cons_succ, List.setIfInBounds_toArray, List.set_cons_zero, List.set_cons_succ]
    have D := hHeld
    clear hHeld
    generalize World.drew W = vv at *
    iterate 6
      all_goals
        (first | refine wpAnyH_ready (rs := [4, 15]) (by decide +kernel) (by simp) ?_ | refine wpAnyH_ready (rs := [7, 15]) (by decide +kernel) (by simp) ?_ | refine wpAnyH_ready (rs := [10, 15]) (by decide +kernel) (by simp) ?_ | refine wpAnyH_ready (rs := [13, 15]) (by decide +kernel) (by simp) ?_ | refine wpAnyH_ready (rs := [14, 15]) (by decide +kernel) (by simp) ?_ | refine wpAnyH_ready (rs := [4]) (by decide +kernel) (by simp) ?_ | refine wpAnyH_ready (rs := [7]) (by decide +kernel) (by simp) ?_ | refine wpAnyH_ready (rs := [10]) (by decide +kernel) (by simp) ?_ | refine wpAnyH_ready (rs := [13]) (by decide +kernel) (by simp) ?_ | refine wpAnyH_ready (rs := [14]) (by decide +kernel) (by simp) ?_ | refine wpAnyH_ready (rs := [15]) (by decide +kernel) (by simp) ?_)
        (first | refine AllReadyH.cons rfl (fun K hK => ?_) AllReadyH.nil | refine AllReadyH.cons rfl (fun K hK => ?_) (AllReadyH.cons rfl (fun K hK => ?_) AllReadyH.nil))
      all_goals
        go_simp
        (first
        | (go_at_call 56; (with_reducible refine (CH.out _ D.out).mono ?_); rintro e w1 ⟨AH, cH, rfl, -, ho, hb⟩; have DN : Hid (Below W.heap.size W w1) := Lib.hid (keep_trans D.out hb); (try replace OP := Lib.hid (own_after OP.out (hb))); (try replace OD := Lib.hid (own_after OD.out (hb))); (try replace OT := Lib.hid (own_after OT.out (hb))); (try replace HG := Lib.hid (HG.out.after hb)); have OH : Hid (w1.ownsRow W.heap.size 125 5 (.slice AH x.hazards.length cH) x.hazards.length (cs hoC x.hazards)) := Lib.hid (own_down ho.out D.out.size); clear hb ho; dsimp only; refine hK.out _ _ DN (fun hHeld => ?_); clear hK K hHeld; rename World => vv; have D := DN; clear DN)
        | (go_at_call 55; (with_reducible refine (CT.out _ D.out).mono ?_); rintro e w1 ⟨AT, cT, rfl, -, ho, hb⟩; have DN : Hid (Below W.heap.size W w1) := Lib.hid (keep_trans D.out hb); (try replace OP := Lib.hid (own_after OP.out (hb))); (try replace OD := Lib.hid (own_after OD.out (hb))); (try replace OH := Lib.hid (own_after OH.out (hb))); (try replace HG := Lib.hid (HG.out.after hb)); have OT : Hid (w1.ownsRow W.heap.size 69 4 (.slice AT x.trips.length cT) x.trips.length (cs toC x.trips)) := Lib.hid (own_down ho.out D.out.size); clear hb ho; dsimp only; refine hK.out _ _ DN (fun hHeld => ?_); clear hK K hHeld; rename World => vv; have D := DN; clear DN)
        | (go_at_call 54; (with_reducible refine (CD.out _ D.out).mono ?_); rintro e w1 ⟨AD, cD, rfl, -, ho, hb⟩; have DN : Hid (Below W.heap.size W w1) := Lib.hid (keep_trans D.out hb); (try replace OP := Lib.hid (own_after OP.out (hb))); (try replace OT := Lib.hid (own_after OT.out (hb))); (try replace OH := Lib.hid (own_after OH.out (hb))); (try replace HG := Lib.hid (HG.out.after hb)); have OD : Hid (w1.ownsRow W.heap.size 121 6 (.slice AD x.doors.length cD) x.doors.length (cs dooC x.doors)) := Lib.hid (own_down ho.out D.out.size); clear hb ho; dsimp only; refine hK.out _ _ DN (fun hHeld => ?_); clear hK K hHeld; rename World => vv; have D := DN; clear DN)
        | (go_at_call 53; (with_reducible refine (CP.out _ D.out).mono ?_); rintro e w1 ⟨AP, cP, rfl, -, ho, hb⟩; have DN : Hid (Below W.heap.size W w1) := Lib.hid (keep_trans D.out hb); (try replace OD := Lib.hid (own_after OD.out (hb))); (try replace OT := Lib.hid (own_after OT.out (hb))); (try replace OH := Lib.hid (own_after OH.out (hb))); (try replace HG := Lib.hid (HG.out.after hb)); have OP : Hid (w1.ownsRow W.heap.size 51 3 (.slice AP x.paths.length cP) x.paths.length (cs poC x.paths)) := Lib.hid (own_down ho.out D.out.size); clear hb ho; dsimp only; refine hK.out _ _ DN (fun hHeld => ?_); clear hK K hHeld; rename World => vv; have D := DN; clear DN)
        | (obtain ⟨s, hg⟩ : ∃ g, g = vv.heap.size := ⟨_, rfl⟩; have LS : Hid (W.heap.size ≤ s) := Lib.hid (by rw [hg]; exact D.out.size); have DN : Hid (Below W.heap.size W (vv.alloc (.cells #[.int .i64 0, .slice none 0 0, .slice none 0 0, .slice none 0 0, .slice none 0 0, .slice none 0 0, .slice none 0 0, .slice none 0 0, .slice none 0 0, .slice none 0 0, .slice none 0 0, .slice none 0 0] 32))) := Lib.hid (D.out.alloc D.out.size _); have HG : Hid (Blk (vv.alloc (.cells #[.int .i64 0, .slice none 0 0, .slice none 0 0, .slice none 0 0, .slice none 0 0, .slice none 0 0, .slice none 0 0, .slice none 0 0, .slice none 0 0, .slice none 0 0, .slice none 0 0, .slice none 0 0] 32)) s 32 [.int .i64 0, .slice none 0 0, .slice none 0 0, .slice none 0 0, .slice none 0 0, .slice none 0 0, .slice none 0 0, .slice none 0 0, .slice none 0 0, .slice none 0 0, .slice none 0 0, .slice none 0 0]) := Lib.hid (by rw [hg]; exact Blk.new _ _ _); (try replace OP := Lib.hid (own_after OP.out (one_box _ (.cells #[.int .i64 0, .slice none 0 0, .slice none 0 0, .slice none 0 0, .slice none 0 0, .slice none 0 0, .slice none 0 0, .slice none 0 0, .slice none 0 0, .slice none 0 0, .slice none 0 0, .slice none 0 0] 32)))); (try replace OD := Lib.hid (own_after OD.out (one_box _ (.cells #[.int .i64 0, .slice none 0 0, .slice none 0 0, .slice none 0 0, .slice none 0 0, .slice none 0 0, .slice none 0 0, .slice none 0 0, .slice none 0 0, .slice none 0 0, .slice none 0 0, .slice none 0 0] 32)))); (try replace OT := Lib.hid (own_after OT.out (one_box _ (.cells #[.int .i64 0, .slice none 0 0, .slice none 0 0, .slice none 0 0, .slice none 0 0, .slice none 0 0, .slice none 0 0, .slice none 0 0, .slice none 0 0, .slice none 0 0, .slice none 0 0, .slice none 0 0] 32)))); (try replace OH := Lib.hid (own_after OH.out (one_box _ (.cells #[.int .i64 0, .slice none 0 0, .slice none 0 0, .slice none 0 0, .slice none 0 0, .slice none 0 0, .slice none 0 0, .slice none 0 0, .slice none 0 0, .slice none 0 0, .slice none 0 0, .slice none 0 0] 32)))); rw [← hg]; clear hg; change K _ (vv.alloc (.cells #[.int .i64 0, .slice none 0 0, .slice none 0 0, .slice none 0 0, .slice none 0 0, .slice none 0 0, .slice none 0 0, .slice none 0 0, .slice none 0 0, .slice none 0 0, .slice none 0 0, .slice none 0 0] 32)); generalize vv.alloc (.cells #[.int .i64 0, .slice none 0 0, .slice none 0 0, .slice none 0 0, .slice none 0 0, .slice none 0 0, .slice none 0 0, .slice none 0 0, .slice none 0 0, .slice none 0 0, .slice none 0 0, .slice none 0 0] 32) = vn at *; refine hK.out _ _ DN (fun hHeld => ?_); clear hK K hHeld; rename World => vv; have D := DN; clear DN)
        | (refine hK.out _ _ D (fun hHeld => ?_); clear hK K hHeld))
    all_goals
      refine wpAnyH_ready (rs := [16]) (by kernel_rfl) (by simp) ?_
      refine AllReadyH.cons rfl (fun K hK => ?_) AllReadyH.nil
      have g0 := HG.out.cell 0
      have g1 := HG.out.cell 1
      have g2 := HG.out.cell 2
      have g3 := HG.out.cell 3
      have g4 := HG.out.cell 4
      have g5 := HG.out.cell 5
      have g6 := HG.out.cell 6
      have g7 := HG.out.cell 7
      have g8 := HG.out.cell 8
      have g9 := HG.out.cell 9
      have g10 := HG.out.cell 10
      have g11 := HG.out.cell 11
      have gf := fun i => HG.out.frozen i
      simp only [List.getElem?_cons_zero, List.getElem?_cons_succ] at g0 g1 g2 g3 g4 g5 g6 g7 g8 g9 g10 g11
      go_simp
      clear gf g0 g1 g2 g3 g4 g5 g6 g7 g8 g9 g10 g11
      rw [show (World.setCell (World.setCell (World.setCell (World.setCell (World.setCell (World.setCell (World.setCell (World.setCell (World.setCell (World.setCell (World.setCell (World.setCell vv ⟨s, 0, none⟩ (.int .i64 x.horizon)) ⟨s, 1, none⟩ (.slice none 0 0)) ⟨s, 2, none⟩ (.slice none 0 0)) ⟨s, 3, none⟩ (.slice none 0 0)) ⟨s, 4, none⟩ (.slice none 0 0)) ⟨s, 5, none⟩ (.slice none 0 0)) ⟨s, 6, none⟩ (.slice none 0 0)) ⟨s, 7, none⟩ (.slice AP x.paths.length cP)) ⟨s, 8, none⟩ (.slice AD x.doors.length cD)) ⟨s, 9, none⟩ (.slice none 0 0)) ⟨s, 10, none⟩ (.slice AT x.trips.length cT)) ⟨s, 11, none⟩ (.slice AH x.hazards.length cH)) = sto12 vv s (.int .i64 x.horizon) (.slice none 0 0) (.slice none 0 0) (.slice none 0 0) (.slice none 0 0) (.slice none 0 0) (.slice none 0 0) (.slice AP x.paths.length cP) (.slice AD x.doors.length cD) (.slice none 0 0) (.slice AT x.trips.length cT) (.slice AH x.hazards.length cH) from rfl]
      have DN : Hid (Below W.heap.size W (sto12 vv s (.int .i64 x.horizon) (.slice none 0 0) (.slice none 0 0) (.slice none 0 0) (.slice none 0 0) (.slice none 0 0) (.slice none 0 0) (.slice AP x.paths.length cP) (.slice AD x.doors.length cD) (.slice none 0 0) (.slice AT x.trips.length cT) (.slice AH x.hazards.length cH))) := Lib.hid (sto12_below D.out LS.out)
      have HB := Lib.hid (sto12_blk HG.out (.int .i64 x.horizon) (.slice none 0 0) (.slice none 0 0) (.slice none 0 0) (.slice none 0 0) (.slice none 0 0) (.slice none 0 0) (.slice AP x.paths.length cP) (.slice AD x.doors.length cD) (.slice none 0 0) (.slice AT x.trips.length cT) (.slice AH x.hazards.length cH))
      have QP := Lib.hid ((sto12_ch vv s (.int .i64 x.horizon) (.slice none 0 0) (.slice none 0 0) (.slice none 0 0) (.slice none 0 0) (.slice none 0 0) (.slice none 0 0) (.slice AP x.paths.length cP) (.slice AD x.doors.length cD) (.slice none 0 0) (.slice AT x.trips.length cT) (.slice AH x.hazards.length cH)).own OP.out (own_ne_blk OP.out HG.out (by decide)))
      have QD := Lib.hid ((sto12_ch vv s (.int .i64 x.horizon) (.slice none 0 0) (.slice none 0 0) (.slice none 0 0) (.slice none 0 0) (.slice none 0 0) (.slice none 0 0) (.slice AP x.paths.length cP) (.slice AD x.doors.length cD) (.slice none 0 0) (.slice AT x.trips.length cT) (.slice AH x.hazards.length cH)).own OD.out (own_ne_blk OD.out HG.out (by decide)))
      have QT := Lib.hid ((sto12_ch vv s (.int .i64 x.horizon) (.slice none 0 0) (.slice none 0 0) (.slice none 0 0) (.slice none 0 0) (.slice none 0 0) (.slice none 0 0) (.slice AP x.paths.length cP) (.slice AD x.doors.length cD) (.slice none 0 0) (.slice AT x.trips.length cT) (.slice AH x.hazards.length cH)).own OT.out (own_ne_blk OT.out HG.out (by decide)))
      have QH := Lib.hid ((sto12_ch vv s (.int .i64 x.horizon) (.slice none 0 0) (.slice none 0 0) (.slice none 0 0) (.slice none 0 0) (.slice none 0 0) (.slice none 0 0) (.slice AP x.paths.length cP) (.slice AD x.doors.length cD) (.slice none 0 0) (.slice AT x.trips.length cT) (.slice AH x.hazards.length cH)).own OH.out (own_ne_blk OH.out HG.out (by decide)))
      generalize sto12 vv s (.int .i64 x.horizon) (.slice none 0 0) (.slice none 0 0) (.slice none 0 0) (.slice none 0 0) (.slice none 0 0) (.slice none 0 0) (.slice AP x.paths.length cP) (.slice AD x.doors.length cD) (.slice none 0 0) (.slice AT x.trips.length cT) (.slice AH x.hazards.length cH) = vn at *
      refine hK.out _ _ DN (fun hHeld => ?_)
      clear hK K hHeld
      refine wpAnyH_done (by kernel_rfl) ?_ _
      go_wp2_with fail
      go_meet
      exact ⟨s, AP, AD, AT, AH, cP, cD, cT, cH, rfl, LS, HB, QP, QD, QT, QH, DN⟩
  case rest =>
    obtain ⟨s, AP, AD, AT, AH, cP, cD, cT, cH, rfl, LS, HB, OP, OD, OT, OH, BW⟩ := hcut
    go_upto_region 3 with fail
    refine wp_region_held_drew (S := fun w' => Hid (Below W.heap.size W w')) (by kernel_rfl) ?_ (fun hHeld => ?_)
    · exact Lib.hid (below_drew BW.out)
    refine wpAnyH_take (i := 0) (v := ?vow11) rfl (by kernel_rfl) (by kernel_rfl) (by kernel_rfl) (fun _ _ _ h => h) (Or.inl ⟨by rfl, ?hyow11⟩) (by assumption) ?restow11
    case hyow11 => (intro w' hSw; clear hSw; go_simp; try with_reducible rfl)
    simp only [Act.put, List.getElem_toArray, List.getElem_cons_zero, List.getElem_cons_succ, List.setIfInBounds_toArray, List.set_cons_zero, List.set_cons_succ]
    refine wpAnyH_take (i := 1) (v := ?vow12) rfl (by kernel_rfl) (by kernel_rfl) (by kernel_rfl) (fun _ _ _ h => h) (Or.inl ⟨by rfl, ?hyow12⟩) (by assumption) ?restow12
    case hyow12 => (intro w' hSw; obtain ⟨-, kn0, kn1, kn2, kn3, kn4, kn5⟩ := KC.out w' hSw.out; clear hSw; go_simp; try with_reducible rfl)
    simp only [Act.put, List.getElem_toArray, List.getElem_cons_zero, List.getElem_cons_succ, List.setIfInBounds_toArray, List.set_cons_zero, List.set_cons_succ]
    refine wpAnyH_take (i := 3) (v := ?vow13) rfl (by kernel_rfl) (by kernel_rfl) (by kernel_rfl) (fun _ _ _ h => h) (Or.inl ⟨by rfl, ?hyow13⟩) (by assumption) ?restow13
    case hyow13 => (intro w' hSw; clear hSw; go_simp; try with_reducible rfl)
    simp only [Act.put, List.getElem_toArray, List.getElem_cons_zero, List.getElem_cons_succ, List.setIfInBounds_toArray, List.set_cons_zero, List.set_cons_succ]
    refine wpAnyH_take (i := 4) (v := ?vow14) rfl (by kernel_rfl) (by kernel_rfl) (by kernel_rfl) (fun _ _ _ h => h) (Or.inl ⟨by rfl, ?hyow14⟩) (by assumption) ?restow14
    case hyow14 => (intro w' hSw; obtain ⟨-, kn0, kn1, kn2, kn3, kn4, kn5⟩ := KC.out w' hSw.out; clear hSw; go_simp; try with_reducible rfl)
    simp only [Act.put, List.getElem_toArray, List.getElem_cons_zero, List.getElem_cons_succ, List.setIfInBounds_toArray, List.set_cons_zero, List.set_cons_succ]
    refine wpAnyH_take (i := 6) (v := ?vow15) rfl (by kernel_rfl) (by kernel_rfl) (by kernel_rfl) (fun _ _ _ h => h) (Or.inl ⟨by rfl, ?hyow15⟩) (by assumption) ?restow15
    case hyow15 => (intro w' hSw; clear hSw; go_simp; try with_reducible rfl)
    simp only [Act.put, List.getElem_toArray, List.getElem_cons_zero, List.getElem_cons_succ, List.setIfInBounds_toArray, List.set_cons_zero, List.set_cons_succ]
    refine wpAnyH_take (i := 7) (v := ?vow16) rfl (by kernel_rfl) (by kernel_rfl) (by kernel_rfl) (fun _ _ _ h => h) (Or.inl ⟨by rfl, ?hyow16⟩) (by assumption) ?restow16
    case hyow16 => (intro w' hSw; obtain ⟨-, kn0, kn1, kn2, kn3, kn4, kn5⟩ := KC.out w' hSw.out; clear hSw; go_simp; try with_reducible rfl)
    simp only [Act.put, List.getElem_toArray, List.getElem_cons_zero, List.getElem_cons_succ, List.setIfInBounds_toArray, List.set_cons_zero, List.set_cons_succ]
    refine wpAnyH_take (i := 9) (v := ?vow17) rfl (by kernel_rfl) (by kernel_rfl) (by kernel_rfl) (fun _ _ _ h => h) (Or.inl ⟨by rfl, ?hyow17⟩) (by assumption) ?restow17
    case hyow17 => (intro w' hSw; clear hSw; go_simp; try with_reducible rfl)
    simp only [Act.put, List.getElem_toArray, List.getElem_cons_zero, List.getElem_cons_succ, List.setIfInBounds_toArray, List.set_cons_zero, List.set_cons_succ]
    refine wpAnyH_take (i := 10) (v := ?vow18) rfl (by kernel_rfl) (by kernel_rfl) (by kernel_rfl) (fun _ _ _ h => h) (Or.inl ⟨by rfl, ?hyow18⟩) (by assumption) ?restow18
    case hyow18 => (intro w' hSw; obtain ⟨-, kn0, kn1, kn2, kn3, kn4, kn5⟩ := KC.out w' hSw.out; clear hSw; go_simp; try with_reducible rfl)
    simp only [Act.put, List.getElem_toArray, List.getElem_cons_zero, List.getElem_cons_succ, List.setIfInBounds_toArray, List.set_cons_zero, List.set_cons_succ]
    refine wpAnyH_take (i := 12) (v := ?vow19) rfl (by kernel_rfl) (by kernel_rfl) (by kernel_rfl) (fun _ _ _ h => h) (Or.inl ⟨by rfl, ?hyow19⟩) (by assumption) ?restow19
    case hyow19 => (intro w' hSw; clear hSw; go_simp; try with_reducible rfl)
    simp only [Act.put, List.getElem_toArray, List.getElem_cons_zero, List.getElem_cons_succ, List.setIfInBounds_toArray, List.set_cons_zero, List.set_cons_succ]
    refine wpAnyH_take (i := 13) (v := ?vow20) rfl (by kernel_rfl) (by kernel_rfl) (by kernel_rfl) (fun _ _ _ h => h) (Or.inl ⟨by rfl, ?hyow20⟩) (by assumption) ?restow20
    case hyow20 => (intro w' hSw; obtain ⟨-, kn0, kn1, kn2, kn3, kn4, kn5⟩ := KC.out w' hSw.out; clear hSw; go_simp; try with_reducible rfl)
    simp only [Act.put, List.getElem_toArray, List.getElem_cons_zero, List.getElem_cons_succ, List.setIfInBounds_toArray, List.set_cons_zero, List.set_cons_succ]
    refine wpAnyH_take (i := 15) (v := ?vow21) rfl (by kernel_rfl) (by kernel_rfl) (by kernel_rfl) (fun _ _ _ h => h) (Or.inl ⟨by rfl, ?hyow21⟩) (by assumption) ?restow21
    case hyow21 => (intro w' hSw; clear hSw; go_simp; try with_reducible rfl)
    simp only [Act.put, List.getElem_toArray, List.getElem_cons_zero, List.getElem_cons_succ, List.setIfInBounds_toArray, List.set_cons_zero, List.set_cons_succ]
    refine wpAnyH_take (i := 16) (v := ?vow22) rfl (by kernel_rfl) (by kernel_rfl) (by kernel_rfl) (fun _ _ _ h => h) (Or.inl ⟨by rfl, ?hyow22⟩) (by assumption) ?restow22
    case hyow22 => (intro w' hSw; obtain ⟨-, kn0, kn1, kn2, kn3, kn4, kn5⟩ := KC.out w' hSw.out; clear hSw; go_simp; try with_reducible rfl)
    simp only [Act.put, List.getElem_toArray, List.getElem_cons_zero, List.getElem_cons_succ, List.setIfInBounds_toArray, List.set_cons_zero, List.set_cons_succ]
    have E0 := hHeld
    clear hHeld
    have D0 : Hid (Below wc.heap.size wc (World.drew wc)) := Lib.hid (below_drew (Below.refl _ _))
    have Z0 : Hid (wc.heap.size ≤ (World.drew wc).heap.size) := Lib.hid (Nat.le_refl _)
    generalize World.drew wc = v0 at *
    refine wpAnyH_ready (rs := [2]) (by kernel_rfl) (by simp) ?_
    refine AllReadyH.cons rfl (fun K hK => ?_) AllReadyH.nil
    go_simp
    go_at_call 45
    (with_reducible refine (N1.out _ E0.out).mono ?_)
    rintro e v1 ⟨A1, k1, rfl, -, ho, hb⟩
    have D1 : Hid (Below wc.heap.size wc v1) := Lib.hid (keep_trans D0.out hb)
    have E1 : Hid (Below W.heap.size W v1) := Lib.hid (keep_trans E0.out hb)
    have Z1 : Hid (v0.heap.size ≤ v1.heap.size) := Lib.hid hb.size
    have L1 : Hid (∀ b, (Value.slice A1 x.names.stops.length k1).ownBlock = some b → v0.heap.size ≤ b ∧ b < v1.heap.size) := Lib.hid (fun b e => ho.out.lt b e)
    have S1 := ho
    clear hb ho
    dsimp only
    refine hK.out _ _ E1 (fun hHeld => ?_)
    clear hK K
    clear hHeld
    refine wpAnyH_ready (rs := [5]) (by kernel_rfl) (by simp) ?_
    refine AllReadyH.cons rfl (fun K hK => ?_) AllReadyH.nil
    go_simp
    go_at_call 45
    (with_reducible refine (N2.out _ E1.out).mono ?_)
    rintro e v2 ⟨A2, k2, rfl, -, ho, hb⟩
    have D2 : Hid (Below wc.heap.size wc v2) := Lib.hid (keep_trans D1.out hb)
    have E2 : Hid (Below W.heap.size W v2) := Lib.hid (keep_trans E1.out hb)
    have Z2 : Hid (v1.heap.size ≤ v2.heap.size) := Lib.hid hb.size
    have L2 : Hid (∀ b, (Value.slice A2 x.names.paths.length k2).ownBlock = some b → v1.heap.size ≤ b ∧ b < v2.heap.size) := Lib.hid (fun b e => ho.out.lt b e)
    replace S1 := Lib.hid (own_after S1.out hb)
    have S2 := ho
    clear hb ho
    dsimp only
    refine hK.out _ _ E2 (fun hHeld => ?_)
    clear hK K
    clear hHeld
    refine wpAnyH_ready (rs := [8]) (by kernel_rfl) (by simp) ?_
    refine AllReadyH.cons rfl (fun K hK => ?_) AllReadyH.nil
    go_simp
    go_at_call 45
    (with_reducible refine (N3.out _ E2.out).mono ?_)
    rintro e v3 ⟨A3, k3, rfl, -, ho, hb⟩
    have D3 : Hid (Below wc.heap.size wc v3) := Lib.hid (keep_trans D2.out hb)
    have E3 : Hid (Below W.heap.size W v3) := Lib.hid (keep_trans E2.out hb)
    have Z3 : Hid (v2.heap.size ≤ v3.heap.size) := Lib.hid hb.size
    have L3 : Hid (∀ b, (Value.slice A3 x.names.doors.length k3).ownBlock = some b → v2.heap.size ≤ b ∧ b < v3.heap.size) := Lib.hid (fun b e => ho.out.lt b e)
    replace S1 := Lib.hid (own_after S1.out hb)
    replace S2 := Lib.hid (own_after S2.out hb)
    have S3 := ho
    clear hb ho
    dsimp only
    refine hK.out _ _ E3 (fun hHeld => ?_)
    clear hK K
    clear hHeld
    refine wpAnyH_ready (rs := [11]) (by kernel_rfl) (by simp) ?_
    refine AllReadyH.cons rfl (fun K hK => ?_) AllReadyH.nil
    go_simp
    go_at_call 45
    (with_reducible refine (N4.out _ E3.out).mono ?_)
    rintro e v4 ⟨Q4, k4, rfl, -, ho, hb⟩
    have D4 : Hid (Below wc.heap.size wc v4) := Lib.hid (keep_trans D3.out hb)
    have E4 : Hid (Below W.heap.size W v4) := Lib.hid (keep_trans E3.out hb)
    have Z4 : Hid (v3.heap.size ≤ v4.heap.size) := Lib.hid hb.size
    have L4 : Hid (∀ b, (Value.slice Q4 x.names.routes.length k4).ownBlock = some b → v3.heap.size ≤ b ∧ b < v4.heap.size) := Lib.hid (fun b e => ho.out.lt b e)
    replace S1 := Lib.hid (own_after S1.out hb)
    replace S2 := Lib.hid (own_after S2.out hb)
    replace S3 := Lib.hid (own_after S3.out hb)
    have S4 := ho
    clear hb ho
    dsimp only
    refine hK.out _ _ E4 (fun hHeld => ?_)
    clear hK K
    clear hHeld
    refine wpAnyH_ready (rs := [14]) (by kernel_rfl) (by simp) ?_
    refine AllReadyH.cons rfl (fun K hK => ?_) AllReadyH.nil
    go_simp
    go_at_call 45
    (with_reducible refine (N5.out _ E4.out).mono ?_)
    rintro e v5 ⟨A5, k5, rfl, -, ho, hb⟩
    have D5 : Hid (Below wc.heap.size wc v5) := Lib.hid (keep_trans D4.out hb)
    have E5 : Hid (Below W.heap.size W v5) := Lib.hid (keep_trans E4.out hb)
    have Z5 : Hid (v4.heap.size ≤ v5.heap.size) := Lib.hid hb.size
    have L5 : Hid (∀ b, (Value.slice A5 x.names.trips.length k5).ownBlock = some b → v4.heap.size ≤ b ∧ b < v5.heap.size) := Lib.hid (fun b e => ho.out.lt b e)
    replace S1 := Lib.hid (own_after S1.out hb)
    replace S2 := Lib.hid (own_after S2.out hb)
    replace S3 := Lib.hid (own_after S3.out hb)
    replace S4 := Lib.hid (own_after S4.out hb)
    have S5 := ho
    clear hb ho
    dsimp only
    refine hK.out _ _ E5 (fun hHeld => ?_)
    clear hK K
    clear hHeld
    refine wpAnyH_ready (rs := [17]) (by kernel_rfl) (by simp) ?_
    refine AllReadyH.cons rfl (fun K hK => ?_) AllReadyH.nil
    go_simp
    go_at_call 45
    (with_reducible refine (N6.out _ E5.out).mono ?_)
    rintro e v6 ⟨A6, k6, rfl, -, ho, hb⟩
    have D6 : Hid (Below wc.heap.size wc v6) := Lib.hid (keep_trans D5.out hb)
    have E6 : Hid (Below W.heap.size W v6) := Lib.hid (keep_trans E5.out hb)
    have Z6 : Hid (v5.heap.size ≤ v6.heap.size) := Lib.hid hb.size
    have L6 : Hid (∀ b, (Value.slice A6 x.names.hazards.length k6).ownBlock = some b → v5.heap.size ≤ b ∧ b < v6.heap.size) := Lib.hid (fun b e => ho.out.lt b e)
    replace S1 := Lib.hid (own_after S1.out hb)
    replace S2 := Lib.hid (own_after S2.out hb)
    replace S3 := Lib.hid (own_after S3.out hb)
    replace S4 := Lib.hid (own_after S4.out hb)
    replace S5 := Lib.hid (own_after S5.out hb)
    have S6 := ho
    clear hb ho
    dsimp only
    refine hK.out _ _ E6 (fun hHeld => ?_)
    clear hK K
    refine wpAnyH_take (i := 18) (v := ?vow23) rfl (by kernel_rfl) (by kernel_rfl) (by kernel_rfl) (fun _ _ _ h => h) (Or.inl ⟨by rfl, ?hyow23⟩) (by assumption) ?restow23
    case hyow23 => (intro w' hSw; clear hSw; go_simp; try with_reducible rfl)
    simp only [Act.put, List.getElem_toArray, List.getElem_cons_zero, List.getElem_cons_succ, List.setIfInBounds_toArray, List.set_cons_zero, List.set_cons_succ]
    refine wpAnyH_take (i := 19) (v := ?vow24) rfl (by kernel_rfl) (by kernel_rfl) (by kernel_rfl) (fun _ _ _ h => h) (Or.inl ⟨by rfl, ?hyow24⟩) (by assumption) ?restow24
    case hyow24 => (intro w' hSw; clear hSw; go_simp; try with_reducible rfl)
    simp only [Act.put, List.getElem_toArray, List.getElem_cons_zero, List.getElem_cons_succ, List.setIfInBounds_toArray, List.set_cons_zero, List.set_cons_succ]
    clear hHeld
    refine wpAnyH_ready (rs := [20]) (by kernel_rfl) (by simp) ?_
    refine AllReadyH.cons rfl (fun K hK => ?_) AllReadyH.nil
    have HB6 := Lib.hid (HB.out.after D6.out)
    have g1 : v6.cell? ⟨s, 1, none⟩ = some (.slice none 0 0) := HB6.out.cell 1
    have g2 : v6.cell? ⟨s, 2, none⟩ = some (.slice none 0 0) := HB6.out.cell 2
    have g3 : v6.cell? ⟨s, 3, none⟩ = some (.slice none 0 0) := HB6.out.cell 3
    have g4 : v6.cell? ⟨s, 4, none⟩ = some (.slice none 0 0) := HB6.out.cell 4
    have g5 : v6.cell? ⟨s, 5, none⟩ = some (.slice none 0 0) := HB6.out.cell 5
    have g6 : v6.cell? ⟨s, 6, none⟩ = some (.slice none 0 0) := HB6.out.cell 6
    have gf : ∀ i, v6.frozen? ⟨s, i, none⟩ = false := fun i => HB6.out.frozen i
    go_simp
    clear gf g1 g2 g3 g4 g5 g6
    change K _ (sto6n v6 s (.slice A1 x.names.stops.length k1) (.slice A2 x.names.paths.length k2) (.slice A3 x.names.doors.length k3) (.slice Q4 x.names.routes.length k4) (.slice A5 x.names.trips.length k5) (.slice A6 x.names.hazards.length k6))
    have HBF : Hid (Blk (sto6n v6 s (.slice A1 x.names.stops.length k1) (.slice A2 x.names.paths.length k2) (.slice A3 x.names.doors.length k3) (.slice Q4 x.names.routes.length k4) (.slice A5 x.names.trips.length k5) (.slice A6 x.names.hazards.length k6)) s 32 [.int .i64 x.horizon, .slice A1 x.names.stops.length k1, .slice A2 x.names.paths.length k2, .slice A3 x.names.doors.length k3, .slice Q4 x.names.routes.length k4, .slice A5 x.names.trips.length k5, .slice A6 x.names.hazards.length k6, .slice AP x.paths.length cP, .slice AD x.doors.length cD, .slice none 0 0, .slice AT x.trips.length cT, .slice AH x.hazards.length cH]) := Lib.hid (sto6n_blk HB6.out _ _ _ _ _ _)
    have HCF : Hid (Ch (· = s) v6 (sto6n v6 s (.slice A1 x.names.stops.length k1) (.slice A2 x.names.paths.length k2) (.slice A3 x.names.doors.length k3) (.slice Q4 x.names.routes.length k4) (.slice A5 x.names.trips.length k5) (.slice A6 x.names.hazards.length k6))) := Lib.hid (sto6n_ch _ _ _ _ _ _ _ _)
    generalize sto6n v6 s (.slice A1 x.names.stops.length k1) (.slice A2 x.names.paths.length k2) (.slice A3 x.names.doors.length k3) (.slice Q4 x.names.routes.length k4) (.slice A5 x.names.trips.length k5) (.slice A6 x.names.hazards.length k6) = W3 at *
    replace S1 := Lib.hid (HCF.out.own S1.out (own_ne_blk S1.out HB6.out (by decide)))
    replace S2 := Lib.hid (HCF.out.own S2.out (own_ne_blk S2.out HB6.out (by decide)))
    replace S3 := Lib.hid (HCF.out.own S3.out (own_ne_blk S3.out HB6.out (by decide)))
    replace S4 := Lib.hid (HCF.out.own S4.out (own_ne_blk S4.out HB6.out (by decide)))
    replace S5 := Lib.hid (HCF.out.own S5.out (own_ne_blk S5.out HB6.out (by decide)))
    replace S6 := Lib.hid (HCF.out.own S6.out (own_ne_blk S6.out HB6.out (by decide)))
    have MP : Hid (∀ b, (Value.slice AP x.paths.length cP).ownBlock = some b → W.heap.size ≤ b ∧ b < wc.heap.size) := Lib.hid (fun b e => OP.out.lt b e)
    replace OP := Lib.hid (HCF.out.own (own_after OP.out D6.out) (own_ne_blk (own_after OP.out D6.out) HB6.out (by decide)))
    have MD : Hid (∀ b, (Value.slice AD x.doors.length cD).ownBlock = some b → W.heap.size ≤ b ∧ b < wc.heap.size) := Lib.hid (fun b e => OD.out.lt b e)
    replace OD := Lib.hid (HCF.out.own (own_after OD.out D6.out) (own_ne_blk (own_after OD.out D6.out) HB6.out (by decide)))
    have MT : Hid (∀ b, (Value.slice AT x.trips.length cT).ownBlock = some b → W.heap.size ≤ b ∧ b < wc.heap.size) := Lib.hid (fun b e => OT.out.lt b e)
    replace OT := Lib.hid (HCF.out.own (own_after OT.out D6.out) (own_ne_blk (own_after OT.out D6.out) HB6.out (by decide)))
    have MH : Hid (∀ b, (Value.slice AH x.hazards.length cH).ownBlock = some b → W.heap.size ≤ b ∧ b < wc.heap.size) := Lib.hid (fun b e => OH.out.lt b e)
    replace OH := Lib.hid (HCF.out.own (own_after OH.out D6.out) (own_ne_blk (own_after OH.out D6.out) HB6.out (by decide)))
    have LSC : Hid (s < wc.heap.size) := Lib.hid HB.out.lt
    have B03 : Hid (Below W.heap.size W W3) := Lib.hid ((keep_trans BW.out D6.out).trans (HCF.out.below (keep_trans BW.out D6.out).size (fun k e => e ▸ LS.out)))
    have Z7 : Hid (v6.heap.size ≤ W3.heap.size) := Lib.hid HCF.out.size
    have HOW : Hid (OwW W3 (w.heap.size + 2) s { x with routes := [] } ⟨⟨A1, A2, A3, Q4, A5, A6, k1, k2, k3, k4, k5, k6⟩, AP, AD, none, AT, AH, cP, cD, 0, cT, cH⟩) := Lib.hid (by
      have z := HWZ.out
      have z0 := Z0.out
      have z1 := Z1.out
      have z2 := Z2.out
      have z3 := Z3.out
      have z4 := Z4.out
      have z5 := Z5.out
      have z6 := Z6.out
      have z7 := Z7.out
      have zb := BW.out.size
      have zs := LSC.out
      have a1 : ∀ b, v2.heap.size ≤ b ∧ b < W3.heap.size → Away W3 (w.heap.size + 2) [Value.slice A1 x.names.stops.length k1, Value.slice A2 x.names.paths.length k2, Value.slice AP x.paths.length cP, bxV s] b := fun b hb => by
        refine ⟨by omega, hb.2, fun v hv e => ?_⟩
        simp only [List.mem_cons, List.not_mem_nil, or_false] at hv
        rcases hv with rfl | rfl | rfl | rfl
        · have := (L1.out b e).2; omega
        · have := (L2.out b e).2; omega
        · have := (MP.out b e).2; omega
        · have e2 : (some s : Option Nat) = some b := e; injection e2 with e2; omega
      have a2 : ∀ (v : Value) (b : Nat), v.ownBlock = some b → (W.heap.size ≤ b ∧ b < wc.heap.size) → (∀ k, v.ownBlock = some k → (Value.slice AP x.paths.length cP).ownBlock ≠ some k) → (∀ k, v.ownBlock = some k → k ≠ s) → Away W3 (w.heap.size + 2) [Value.slice A1 x.names.stops.length k1, Value.slice A2 x.names.paths.length k2, Value.slice AP x.paths.length cP, bxV s] b := fun v b hv hb h1 h2 => by
        refine ⟨by omega, by omega, fun u hu e => ?_⟩
        simp only [List.mem_cons, List.not_mem_nil, or_false] at hu
        rcases hu with rfl | rfl | rfl | rfl
        · have := (L1.out b e).1; omega
        · have := (L2.out b e).1; omega
        · exact h1 b hv e
        · have e2 : (some s : Option Nat) = some b := e; injection e2 with e2; exact h2 b hv e2.symm
      refine ⟨own_down S1.out (by omega), own_down S2.out (by omega), own_down OP.out (by omega), fun k e e' => ?_, ⟨(own_rd S3.out).more fun b hb => a1 b ⟨by omega, hb.2⟩, (own_rd S4.out).more fun b hb => a1 b ⟨by omega, hb.2⟩, (own_rd S5.out).more fun b hb => a1 b ⟨by omega, hb.2⟩, (own_rd S6.out).more fun b hb => a1 b ⟨by omega, hb.2⟩, (own_rd1 OD.out).more fun b hb => a2 _ b hb (MD.out b hb) (own_ne OD.out OP.out (by decide)) (own_ne_blk OD.out HBF.out (by decide)), ⟨[], fun h => absurd h (by simp), rfl⟩, (own_rd1 OT.out).more fun b hb => a2 _ b hb (MT.out b hb) (own_ne OT.out OP.out (by decide)) (own_ne_blk OT.out HBF.out (by decide)), (own_rd1 OH.out).more fun b hb => a2 _ b hb (MH.out b hb) (own_ne OH.out OP.out (by decide)) (own_ne_blk OH.out HBF.out (by decide))⟩⟩
      have p1 := (L1.out k e).2
      have p2 := (L2.out k e').1
      omega)
    refine hK.out _ _ B03 (fun hHeld => ?_)
    clear hK K hHeld
    refine wpAnyH_done (by kernel_rfl) ?_ _
    have Z3 : Hid (W.heap.size ≤ W3.heap.size) := Lib.hid B03.out.size
    have LS3 : Hid (s < W3.heap.size) := Lib.hid HBF.out.lt
    clear S1 L1 E1 D1 Z1 S2 L2 E2 D2 Z2 S4 L4 E4 D4 Z4 S5 L5 E5 D5 Z5 S6 L6 E6 D6 Z6 S3 L3 E3 D3 OP MP CP OD MD CD OT MT CT OH MH CH N1 N2 N3 N4 N5 N6 E0 D0 Z0 Z7 HB HB6 HCF BW LSC
    have hn4 := HF.out.l4
    go_wp2_with fail
    go_loopw [5] (fun v wr => ∃ (i : Nat) (A4 : Option Addr) (c4 : Nat) (cr : List Value), v = .int .i64 (i : Int) ∧ i ≤ x.routes.length ∧ Hid (Blk wr s 32 [.int .i64 x.horizon, .slice A1 x.names.stops.length k1, .slice A2 x.names.paths.length k2, .slice A3 x.names.doors.length k3, .slice Q4 x.names.routes.length k4, .slice A5 x.names.trips.length k5, .slice A6 x.names.hazards.length k6, .slice AP x.paths.length cP, .slice AD x.doors.length cD, .slice A4 i c4, .slice AT x.trips.length cT, .slice AH x.hazards.length cH]) ∧ Hid (wr.ownsRow W3.heap.size 111 3 (.slice A4 i c4) i cr) ∧ Hid (Rtos wr (fun b => W3.heap.size ≤ b ∧ b < wr.heap.size ∧ (Value.slice A4 i c4).ownBlock ≠ some b) (x.routes.take i) cr) ∧ Hid (Ch (· = s) W3 wr)) (fun v _ => x.routes.length - (intOf v).toNat)
    case atStart => exact ⟨0, none, 0, [], rfl, by omega, HBF, Lib.hid own_nil, Lib.hid rfl, Lib.hid (Ch.refl _ _)⟩
    case round =>
      obtain ⟨i, A4, c4, cr, rfl, hi, KB, O4, R4, HC⟩ := hrel
      have HWr : Hid (Below W.heap.size W wr) := Lib.hid (B03.out.trans (HC.out.below Z3.out (fun k e => by rw [e]; exact LS.out)))
      have HWw : Hid (Below w.heap.size w wr) := Lib.hid (keep_trans HW0.out HWr.out)
      have kb := (KC.out _ HWr.out).1.2.2.2.2.2.2.2.2.2.1
      by_cases hlt : i < x.routes.length
      · as_aux_lemma =>
          have hi1 : (i : Int) < (x.routes.length : Int) := by omega
          have hi0 : ¬ ((i : Int) < 0) := by omega
          obtain ⟨r, hr⟩ : ∃ r, x.routes[i]? = some r := ⟨_, List.getElem?_eq_getElem hlt⟩
          obtain ⟨ccr, hq4, hq4'⟩ := HH.out.r4
          obtain ⟨ad, hA4, hS, sa, sc, ra, rc, ya, yc, x0, x1, x2, hro⟩ := rtos_at (hq4.below HWw.out) (Rtos.keep (fun b hb => HWw.out.block b hb) hq4') hr
          have HRO : Hid (RoAt wr (· < wr.heap.size) r sa ra ya) := Lib.hid (hro.more fun b h => Nat.lt_of_lt_of_le h HWw.out.size)
          have HFR := Lib.hid (HF.out.lr r (List.mem_of_getElem? hr))
          have HTK : Hid (x.routes.take (i + 1) = x.routes.take i ++ [r]) := Lib.hid (by rw [List.take_add_one, hr]; rfl)
          obtain ⟨n1, hn1⟩ : ∃ z, z = r.stops.length := ⟨_, rfl⟩
          obtain ⟨n2, hn2⟩ : ∃ z, z = r.rides.length := ⟨_, rfl⟩
          obtain ⟨n3, hn3⟩ : ∃ z, z = r.stays.length := ⟨_, rfl⟩
          have CI : Hid (∀ w', Below wr.heap.size wr w' → Calls Tryz.prog 57 #[.slice sa n1 sc] w' (NewRow w' 3 1 (cs intC r.stops) n1)) := Lib.hid (fun w' hb => own_intI w' sa n1 sc r.stops (Lib.hid hn1) (by have := HFR.out.1; omega) (rd_later HRO.out.hs hb))
          have CR : Hid (∀ w', Below wr.heap.size wr w' → Calls Tryz.prog 58 #[.slice ra n2 rc] w' (NewRow w' 2 1 (cs intC r.rides) n2)) := Lib.hid (fun w' hb => own_int w' ra n2 rc r.rides (Lib.hid hn2) (by have := HFR.out.2.1; omega) (rd_later HRO.out.hr hb))
          have CY : Hid (∀ w', Below wr.heap.size wr w' → Calls Tryz.prog 58 #[.slice ya n3 yc] w' (NewRow w' 2 1 (cs intC r.stays) n3)) := Lib.hid (fun w' hb => own_int w' ya n3 yc r.stays (Lib.hid hn3) (by have := HFR.out.2.2; omega) (rd_later HRO.out.hy hb))
          rw [← hn1] at x0
          rw [← hn2] at x1
          rw [← hn3] at x2
          have HNN := Lib.hid (And.intro hn1 (And.intro hn2 hn3))
          have kb9 : wr.cell? ⟨w.heap.size, 9, none⟩ = some (.slice (some ad) x.routes.length p.d4) := by rw [← hA4]; exact kb
          clear hr hq4 hq4' hro hn1 hn2 hn3 kb hA4 hS HFR
          go_upto_region 8 with fail
          obtain ⟨Wb, hW⟩ : ∃ W, W = wr.alloc (.cells #[.slice sa n1 sc, .slice ra n2 rc, .slice ya n3 yc] 111) := ⟨_, rfl⟩
          have Bb : Hid (Below wr.heap.size wr Wb) := Lib.hid (by rw [hW]; exact one_box _ _)
          have KT : Hid (Blk Wb wr.heap.size 111 [.slice sa n1 sc, .slice ra n2 rc, .slice ya n3 yc]) := Lib.hid (by rw [hW]; exact Blk.new _ _ _)
          have KBb : Hid (Blk Wb s 32 [.int .i64 x.horizon, .slice A1 x.names.stops.length k1, .slice A2 x.names.paths.length k2, .slice A3 x.names.doors.length k3, .slice Q4 x.names.routes.length k4, .slice A5 x.names.trips.length k5, .slice A6 x.names.hazards.length k6, .slice AP x.paths.length cP, .slice AD x.doors.length cD, .slice A4 i c4, .slice AT x.trips.length cT, .slice AH x.hazards.length cH]) := Lib.hid (KB.out.after Bb.out)
          have O4b : Hid (Wb.ownsRow W3.heap.size 111 3 (.slice A4 i c4) i cr) := Lib.hid (own_after O4.out Bb.out)
          have R4b : Hid (Rtos Wb (fun b => W3.heap.size ≤ b ∧ b < Wb.heap.size ∧ (Value.slice A4 i c4).ownBlock ≠ some b) (x.routes.take i) cr) := Lib.hid (Rtos.more (fun b hb => ⟨hb.1, by have := Bb.out.size; omega, hb.2.2⟩) (Rtos.keep (fun b hb => Bb.out.block b hb.2.1) R4.out))
          have HCb : Hid (Ch (· = s) W3 Wb) := Lib.hid (HC.out.trans (.of_below Bb.out))
          have Zb : Hid (W3.heap.size ≤ Wb.heap.size ∧ wr.heap.size < Wb.heap.size) := Lib.hid ⟨HCb.out.size, KT.out.lt⟩
          have ZO : Hid (∀ k, (Value.slice A4 i c4).ownBlock = some k → k < wr.heap.size) := Lib.hid (fun k e => (O4.out.lt k e).2)
          have ZW : Hid (W3.heap.size ≤ wr.heap.size) := Lib.hid HC.out.size
          rw [← hW]
          clear hW kb9 x0 x1 x2 hi0 O4 R4 HC KB
          have HCL : Hid (∀ w', Blk w' wr.heap.size 111 [.slice sa n1 sc, .slice ra n2 rc, .slice ya n3 yc] → w'.cell? ⟨wr.heap.size, 0, none⟩ = some (.slice sa n1 sc) ∧ w'.cell? ⟨wr.heap.size, 1, none⟩ = some (.slice ra n2 rc) ∧ w'.cell? ⟨wr.heap.size, 2, none⟩ = some (.slice ya n3 yc)) := Lib.hid (fun w' h => ⟨h.cell 0, h.cell 1, h.cell 2⟩)
          refine wp_region_held_drew (S := fun w' => Hid (Blk w' wr.heap.size 111 [.slice sa n1 sc, .slice ra n2 rc, .slice ya n3 yc])) (by kernel_rfl) ?_ (fun hHeld => ?_)
          · exact KT
          refine wpAnyH_take (i := 0) (v := ?vow25) rfl (by kernel_rfl) (by kernel_rfl) (by kernel_rfl) (fun _ _ _ h => h) (Or.inl ⟨by rfl, ?hyow25⟩) (by assumption) ?restow25
          case hyow25 => (intro w' hSw; clear hSw; go_simp; try with_reducible rfl)
          simp only [Act.put, List.getElem_toArray, List.getElem_cons_zero, List.getElem_cons_succ, List.setIfInBounds_toArray, List.set_cons_zero, List.set_cons_succ]
          refine wpAnyH_take (i := 2) (v := ?vow26) rfl (by kernel_rfl) (by kernel_rfl) (by kernel_rfl) (fun _ _ _ h => h) (Or.inl ⟨by rfl, ?hyow26⟩) (by assumption) ?restow26
          case hyow26 => (intro w' hSw; clear hSw; go_simp; try with_reducible rfl)
          simp only [Act.put, List.getElem_toArray, List.getElem_cons_zero, List.getElem_cons_succ, List.setIfInBounds_toArray, List.set_cons_zero, List.set_cons_succ]
          refine wpAnyH_take (i := 3) (v := ?vow27) rfl (by kernel_rfl) (by kernel_rfl) (by kernel_rfl) (fun _ _ _ h => h) (Or.inl ⟨by rfl, ?hyow27⟩) (by assumption) ?restow27
          case hyow27 => (intro w' hSw; obtain ⟨kt0, kt1, kt2⟩ := HCL.out w' hSw.out; clear hSw; go_simp; try with_reducible rfl)
          simp only [Act.put, List.getElem_toArray, List.getElem_cons_zero, List.getElem_cons_succ, List.setIfInBounds_toArray, List.set_cons_zero, List.set_cons_succ]
          refine wpAnyH_take (i := 5) (v := ?vow28) rfl (by kernel_rfl) (by kernel_rfl) (by kernel_rfl) (fun _ _ _ h => h) (Or.inl ⟨by rfl, ?hyow28⟩) (by assumption) ?restow28
          case hyow28 => (intro w' hSw; clear hSw; go_simp; try with_reducible rfl)
          simp only [Act.put, List.getElem_toArray, List.getElem_cons_zero, List.getElem_cons_succ, List.setIfInBounds_toArray, List.set_cons_zero, List.set_cons_succ]
          refine wpAnyH_take (i := 6) (v := ?vow29) rfl (by kernel_rfl) (by kernel_rfl) (by kernel_rfl) (fun _ _ _ h => h) (Or.inl ⟨by rfl, ?hyow29⟩) (by assumption) ?restow29
          case hyow29 => (intro w' hSw; obtain ⟨kt0, kt1, kt2⟩ := HCL.out w' hSw.out; clear hSw; go_simp; try with_reducible rfl)
          simp only [Act.put, List.getElem_toArray, List.getElem_cons_zero, List.getElem_cons_succ, List.setIfInBounds_toArray, List.set_cons_zero, List.set_cons_succ]
          refine wpAnyH_take (i := 8) (v := ?vow30) rfl (by kernel_rfl) (by kernel_rfl) (by kernel_rfl) (fun _ _ _ h => h) (Or.inl ⟨by rfl, ?hyow30⟩) (by assumption) ?restow30
          case hyow30 => (intro w' hSw; clear hSw; go_simp; try with_reducible rfl)
          simp only [Act.put, List.getElem_toArray, List.getElem_cons_zero, List.getElem_cons_succ, List.setIfInBounds_toArray, List.set_cons_zero, List.set_cons_succ]
          refine wpAnyH_take (i := 9) (v := ?vow31) rfl (by kernel_rfl) (by kernel_rfl) (by kernel_rfl) (fun _ _ _ h => h) (Or.inl ⟨by rfl, ?hyow31⟩) (by assumption) ?restow31
          case hyow31 => (intro w' hSw; obtain ⟨kt0, kt1, kt2⟩ := HCL.out w' hSw.out; clear hSw; go_simp; try with_reducible rfl)
          simp only [Act.put, List.getElem_toArray, List.getElem_cons_zero, List.getElem_cons_succ, List.setIfInBounds_toArray, List.set_cons_zero, List.set_cons_succ]
          have KTv := hHeld
          clear hHeld
          have D : Hid (Below Wb.heap.size Wb (World.drew Wb)) := Lib.hid (below_drew (Below.refl _ _))
          have KBv : Hid (Blk (World.drew Wb) s 32 [.int .i64 x.horizon, .slice A1 x.names.stops.length k1, .slice A2 x.names.paths.length k2, .slice A3 x.names.doors.length k3, .slice Q4 x.names.routes.length k4, .slice A5 x.names.trips.length k5, .slice A6 x.names.hazards.length k6, .slice AP x.paths.length cP, .slice AD x.doors.length cD, .slice A4 i c4, .slice AT x.trips.length cT, .slice AH x.hazards.length cH]) := Lib.hid (KBb.out.after D.out)
          generalize World.drew Wb = vv at *
          iterate 6
            all_goals
              (first | refine wpAnyH_ready (rs := [1, 4]) (by decide +kernel) (by simp) ?_ | refine wpAnyH_ready (rs := [1, 7]) (by decide +kernel) (by simp) ?_ | refine wpAnyH_ready (rs := [1, 10]) (by decide +kernel) (by simp) ?_ | refine wpAnyH_ready (rs := [1, 11]) (by decide +kernel) (by simp) ?_ | refine wpAnyH_ready (rs := [1, 12]) (by decide +kernel) (by simp) ?_ | refine wpAnyH_ready (rs := [4]) (by decide +kernel) (by simp) ?_ | refine wpAnyH_ready (rs := [7]) (by decide +kernel) (by simp) ?_ | refine wpAnyH_ready (rs := [10]) (by decide +kernel) (by simp) ?_ | refine wpAnyH_ready (rs := [11]) (by decide +kernel) (by simp) ?_ | refine wpAnyH_ready (rs := [12]) (by decide +kernel) (by simp) ?_ | refine wpAnyH_ready (rs := [1]) (by decide +kernel) (by simp) ?_)
              (first | refine AllReadyH.cons rfl (fun K hK => ?_) AllReadyH.nil | refine AllReadyH.cons rfl (fun K hK => ?_) (AllReadyH.cons rfl (fun K hK => ?_) AllReadyH.nil))
            all_goals
              have q9 : vv.cell? ⟨s, 9, none⟩ = some (.slice A4 i c4) := KBv.out.cell 9
              go_simp
              clear q9
              (first
        | (go_at_call 57; (with_reducible refine (CI.out _ (keep_trans Bb.out D.out)).mono ?_); rintro e w1 ⟨G1, f1, rfl, -, ho, hb⟩; have DN : Hid (Below Wb.heap.size Wb w1) := Lib.hid (keep_trans D.out hb); have KTn := Lib.hid (KTv.out.after hb); have KBn := Lib.hid (KBv.out.after hb); (try replace T2 := Lib.hid (own_after T2.out hb)); (try replace T3 := Lib.hid (own_after T3.out hb)); have T1 : Hid (w1.ownsRow Wb.heap.size 3 1 (.slice G1 n1 f1) n1 (cs intC r.stops)) := Lib.hid (own_down ho.out D.out.size); clear hb ho; dsimp only; refine hK.out _ _ KTn (fun hHeld => ?_); clear hK K hHeld; rename World => vv; have D := DN; clear DN; have KTv := KTn; clear KTn; have KBv := KBn; clear KBn)
        | (go_at_call 58; (with_reducible refine (CR.out _ (keep_trans Bb.out D.out)).mono ?_); rintro e w1 ⟨G2, f2, rfl, -, ho, hb⟩; have DN : Hid (Below Wb.heap.size Wb w1) := Lib.hid (keep_trans D.out hb); have KTn := Lib.hid (KTv.out.after hb); have KBn := Lib.hid (KBv.out.after hb); (try replace T1 := Lib.hid (own_after T1.out hb)); (try replace T3 := Lib.hid (own_after T3.out hb)); have T2 : Hid (w1.ownsRow Wb.heap.size 2 1 (.slice G2 n2 f2) n2 (cs intC r.rides)) := Lib.hid (own_down ho.out D.out.size); clear hb ho; dsimp only; refine hK.out _ _ KTn (fun hHeld => ?_); clear hK K hHeld; rename World => vv; have D := DN; clear DN; have KTv := KTn; clear KTn; have KBv := KBn; clear KBn)
        | (go_at_call 58; (with_reducible refine (CY.out _ (keep_trans Bb.out D.out)).mono ?_); rintro e w1 ⟨G3, f3, rfl, -, ho, hb⟩; have DN : Hid (Below Wb.heap.size Wb w1) := Lib.hid (keep_trans D.out hb); have KTn := Lib.hid (KTv.out.after hb); have KBn := Lib.hid (KBv.out.after hb); (try replace T1 := Lib.hid (own_after T1.out hb)); (try replace T2 := Lib.hid (own_after T2.out hb)); have T3 : Hid (w1.ownsRow Wb.heap.size 2 1 (.slice G3 n3 f3) n3 (cs intC r.stays)) := Lib.hid (own_down ho.out D.out.size); clear hb ho; dsimp only; refine hK.out _ _ KTn (fun hHeld => ?_); clear hK K hHeld; rename World => vv; have D := DN; clear DN; have KTv := KTn; clear KTn; have KBv := KBn; clear KBn)
        | (obtain ⟨gl, hgl⟩ : ∃ g, g = vv.heap.size := ⟨_, rfl⟩; have HLI : Hid (Rd (vv.alloc (.cells #[.slice G1 n1 f1, .slice G2 n2 f2, .slice G3 n3 f3] 111)) (· < (vv.alloc (.cells #[.slice G1 n1 f1, .slice G2 n2 f2, .slice G3 n3 f3] 111)).heap.size) (some ⟨gl, 0, none⟩) [.slice G1 n1 f1, .slice G2 n2 f2, .slice G3 n3 f3]) := Lib.hid (lit_at _ _ _ _ _ hgl rfl); rw [← hgl]; clear hgl; have DN : Hid (Below Wb.heap.size Wb (vv.alloc (.cells #[.slice G1 n1 f1, .slice G2 n2 f2, .slice G3 n3 f3] 111))) := Lib.hid (D.out.alloc D.out.size _); have KTn := Lib.hid (KTv.out.after (one_box _ (.cells #[.slice G1 n1 f1, .slice G2 n2 f2, .slice G3 n3 f3] 111))); have KBn := Lib.hid (KBv.out.after (one_box _ (.cells #[.slice G1 n1 f1, .slice G2 n2 f2, .slice G3 n3 f3] 111))); replace T1 := Lib.hid (own_after T1.out (one_box _ (.cells #[.slice G1 n1 f1, .slice G2 n2 f2, .slice G3 n3 f3] 111))); replace T2 := Lib.hid (own_after T2.out (one_box _ (.cells #[.slice G1 n1 f1, .slice G2 n2 f2, .slice G3 n3 f3] 111))); replace T3 := Lib.hid (own_after T3.out (one_box _ (.cells #[.slice G1 n1 f1, .slice G2 n2 f2, .slice G3 n3 f3] 111))); change K _ (vv.alloc (.cells #[.slice G1 n1 f1, .slice G2 n2 f2, .slice G3 n3 f3] 111)); generalize vv.alloc (.cells #[.slice G1 n1 f1, .slice G2 n2 f2, .slice G3 n3 f3] 111) = vn at *; refine hK.out _ _ KTn (fun hHeld => ?_); clear hK K hHeld; rename World => vv; have D := DN; clear DN; have KTv := KTn; clear KTn; have KBv := KBn; clear KBn)
        | (refine hK.out _ _ KTv (fun hHeld => ?_); clear hK K hHeld))
          all_goals
            refine wpAnyH_ready (rs := [13]) (by kernel_rfl) (by simp) ?_
            refine AllReadyH.cons rfl (fun K hK => ?_) AllReadyH.nil
            have O4v := Lib.hid (own_after O4b.out D.out)
            refine step_append_g (by rfl) (.tmp 57) (.tmp 68) 28 (by rfl) W3.heap.size 111 _ 3 72 Tryz.underlying28 info_RouteO rfl (by omega) (by omega) (.slice A4 i c4) i cr (by rfl) O4v _ _ 1 1 _ (by rfl) (Lib.hid rfl) HLI (by intro u hu; simp at hu; rcases hu with rfl | rfl | rfl <;> rfl) (by omega) (by have := Zb.out; have := D.out.size; omega) ?_
            intro v' u5 hown hg hor
            obtain ⟨A4', c4', rfl, hcap, -⟩ := own_form hown.out
            have KTn : Hid (Blk u5 wr.heap.size 111 [.slice sa n1 sc, .slice ra n2 rc, .slice ya n3 yc]) := Lib.hid (KTv.out.grown hg.out fun e => by have := ZO.out _ e.symm; omega)
            have KBn : Hid (Blk u5 s 32 [.int .i64 x.horizon, .slice A1 x.names.stops.length k1, .slice A2 x.names.paths.length k2, .slice A3 x.names.doors.length k3, .slice Q4 x.names.routes.length k4, .slice A5 x.names.trips.length k5, .slice A6 x.names.hazards.length k6, .slice AP x.paths.length cP, .slice AD x.doors.length cD, .slice A4 i c4, .slice AT x.trips.length cT, .slice AH x.hazards.length cH]) := Lib.hid (KBv.out.grown hg.out fun e => own_ne_blk O4v.out KBv.out (by decide) s e.symm rfl)
            refine hK.out _ _ KTn (fun hHeld => ?_)
            clear hK K hHeld
            refine wpAnyH_ready (rs := [14]) (by kernel_rfl) (by simp) ?_
            refine AllReadyH.cons rfl (fun K hK => ?_) AllReadyH.nil
            go_simp
            refine hK.out _ _ KTn (fun hHeld => ?_)
            clear hK K hHeld
            refine wpAnyH_ready (rs := [15]) (by kernel_rfl) (by simp) ?_
            refine AllReadyH.cons rfl (fun K hK => ?_) AllReadyH.nil
            have q9 : u5.cell? ⟨s, 9, none⟩ = some (.slice A4 i c4) := KBn.out.cell 9
            have qf : u5.frozen? ⟨s, 9, none⟩ = false := KBn.out.frozen 9
            go_simp
            clear q9 qf
            have hW : Hid (Ch (· = s) u5 (u5.setCell ⟨s, 9, none⟩ (.slice A4' (i + 1) c4'))) := Lib.hid ((Ch.refl (· = s) _).setCell (p := ⟨s, 9, none⟩) (.inl rfl) _)
            have NR : Hid (RoAt vv (fun b => Wb.heap.size ≤ b ∧ b < vv.heap.size) r G1 G2 G3) := Lib.hid ⟨own_rd T1.out, own_rd T2.out, own_rd T3.out⟩
            have NB : Hid (Blk (u5.setCell ⟨s, 9, none⟩ (.slice A4' (i + 1) c4')) s 32 [.int .i64 x.horizon, .slice A1 x.names.stops.length k1, .slice A2 x.names.paths.length k2, .slice A3 x.names.doors.length k3, .slice Q4 x.names.routes.length k4, .slice A5 x.names.trips.length k5, .slice A6 x.names.hazards.length k6, .slice AP x.paths.length cP, .slice AD x.doors.length cD, .slice A4' (i + 1) c4', .slice AT x.trips.length cT, .slice AH x.hazards.length cH]) := Lib.hid (KBn.out.set_ 9 _)
            have NO : Hid ((u5.setCell ⟨s, 9, none⟩ (.slice A4' (i + 1) c4')).ownsRow W3.heap.size 111 3 (.slice A4' (i + 1) c4') (i + 1) (cr ++ [.slice G1 n1 f1, .slice G2 n2 f2, .slice G3 n3 f3])) := Lib.hid (hW.out.own hown.out (own_ne_blk hown.out KBn.out (by decide)))
            have NT := Lib.hid (rtos_next (v4' := .slice A4' (i + 1) c4') (sc := f1) (rc := f2) (yc := f3) O4b.out R4b.out D.out NR.out hg.out hor.out Zb.out.1 LS3.out hW.out HNN.out.1 HNN.out.2.1 HNN.out.2.2 HTK.out)
            have NC : Hid (Ch (· = s) W3 (u5.setCell ⟨s, 9, none⟩ (.slice A4' (i + 1) c4'))) := Lib.hid (((HCb.out.trans (.of_below D.out)).trans' (Ch.of_grown (X := fun b => some b = (Value.slice A4 i c4).ownBlock) hg.out fun k e => e) (fun k hk e => absurd (O4v.out.lt k e.symm).1 (by omega))).trans hW.out)
            refine hK.out _ _ (Lib.hid (hW.out.blk KTn.out (fun e => by have e2 : wr.heap.size = s := e; have := LS3.out; have := ZW.out; omega))) (fun hHeld => ?_)
            clear hK K hHeld
            refine wpAnyH_done (by kernel_rfl) ?_ _
            generalize u5.setCell ⟨s, 9, none⟩ (.slice A4' (i + 1) c4') = u6 at *
            go_wp2
            go_roundw
            case rel => exact ⟨i + 1, A4', c4', _, by go_num, by omega, NB, NO, NT, NC⟩
            case measure => simp [intOf]; omega
      · obtain rfl : i = x.routes.length := by omega
        have hi1 : ¬ (x.routes.length : Int) < (x.routes.length : Int) := by omega
        have HK1 := Lib.hid ((K1.out.after HWr.out))
        have r0 : wr.cell? ⟨s, 0, none⟩ = some (.int .i64 x.horizon) := KB.out.cell 0
        have r1 : wr.cell? ⟨s, 1, none⟩ = some (.slice A1 x.names.stops.length k1) := KB.out.cell 1
        have r2 : wr.cell? ⟨s, 2, none⟩ = some (.slice A2 x.names.paths.length k2) := KB.out.cell 2
        have r3 : wr.cell? ⟨s, 3, none⟩ = some (.slice A3 x.names.doors.length k3) := KB.out.cell 3
        have r4 : wr.cell? ⟨s, 4, none⟩ = some (.slice Q4 x.names.routes.length k4) := KB.out.cell 4
        have r5 : wr.cell? ⟨s, 5, none⟩ = some (.slice A5 x.names.trips.length k5) := KB.out.cell 5
        have r6 : wr.cell? ⟨s, 6, none⟩ = some (.slice A6 x.names.hazards.length k6) := KB.out.cell 6
        have r7 : wr.cell? ⟨s, 7, none⟩ = some (.slice AP x.paths.length cP) := KB.out.cell 7
        have r8 : wr.cell? ⟨s, 8, none⟩ = some (.slice AD x.doors.length cD) := KB.out.cell 8
        have r9 : wr.cell? ⟨s, 9, none⟩ = some (.slice A4 x.routes.length c4) := KB.out.cell 9
        have r10 : wr.cell? ⟨s, 10, none⟩ = some (.slice AT x.trips.length cT) := KB.out.cell 10
        have r11 : wr.cell? ⟨s, 11, none⟩ = some (.slice AH x.hazards.length cH) := KB.out.cell 11
        have t0 : wr.cell? ⟨w.heap.size + 1, 0, none⟩ = some (.int .i64 0) := HK1.out.cell 0
        have t1 : wr.cell? ⟨w.heap.size + 1, 1, none⟩ = some (.slice none 0 0) := HK1.out.cell 1
        have t2 : wr.cell? ⟨w.heap.size + 1, 2, none⟩ = some (.slice none 0 0) := HK1.out.cell 2
        have t3 : wr.cell? ⟨w.heap.size + 1, 3, none⟩ = some (.slice none 0 0) := HK1.out.cell 3
        have t4 : wr.cell? ⟨w.heap.size + 1, 4, none⟩ = some (.slice none 0 0) := HK1.out.cell 4
        have t5 : wr.cell? ⟨w.heap.size + 1, 5, none⟩ = some (.slice none 0 0) := HK1.out.cell 5
        have t6 : wr.cell? ⟨w.heap.size + 1, 6, none⟩ = some (.slice none 0 0) := HK1.out.cell 6
        have t7 : wr.cell? ⟨w.heap.size + 1, 7, none⟩ = some (.slice none 0 0) := HK1.out.cell 7
        have t8 : wr.cell? ⟨w.heap.size + 1, 8, none⟩ = some (.slice none 0 0) := HK1.out.cell 8
        have t9 : wr.cell? ⟨w.heap.size + 1, 9, none⟩ = some (.slice none 0 0) := HK1.out.cell 9
        have t10 : wr.cell? ⟨w.heap.size + 1, 10, none⟩ = some (.slice none 0 0) := HK1.out.cell 10
        have t11 : wr.cell? ⟨w.heap.size + 1, 11, none⟩ = some (.slice none 0 0) := HK1.out.cell 11
        have tf : ∀ i, wr.frozen? ⟨w.heap.size + 1, i, none⟩ = false := fun i => HK1.out.frozen i
        go_wp2_with fail
        clear tf t0 r0 t1 r1 t2 r2 t3 r3 t4 r4 t5 r5 t6 r6 t7 r7 t8 r8 t9 r9 t10 r10 t11 r11 kb
        have HF12 := Lib.hid (sto12_blk HK1.out (.int .i64 x.horizon) (.slice A1 x.names.stops.length k1) (.slice A2 x.names.paths.length k2) (.slice A3 x.names.doors.length k3) (.slice Q4 x.names.routes.length k4) (.slice A5 x.names.trips.length k5) (.slice A6 x.names.hazards.length k6) (.slice AP x.paths.length cP) (.slice AD x.doors.length cD) (.slice A4 x.routes.length c4) (.slice AT x.trips.length cT) (.slice AH x.hazards.length cH))
        refine bodyPost_ret (v := .agg #[.int .i64 x.horizon, .slice A1 x.names.stops.length k1, .slice A2 x.names.paths.length k2, .slice A3 x.names.doors.length k3, .slice Q4 x.names.routes.length k4, .slice A5 x.names.trips.length k5, .slice A6 x.names.hazards.length k6, .slice AP x.paths.length cP, .slice AD x.doors.length cD, .slice A4 x.routes.length c4, .slice AT x.trips.length cT, .slice AH x.hazards.length cH]) (own_wo_read rfl HF12.out) rfl ?_
        refine ⟨⟨⟨A1, A2, A3, Q4, A5, A6, k1, k2, k3, k4, k5, k6⟩, AP, AD, A4, AT, AH, cP, cD, c4, cT, cH⟩, rfl, ?_, sto12_below HWw.out (by omega)⟩
        have hq : OwW wr (w.heap.size + 2) s x ⟨⟨A1, A2, A3, Q4, A5, A6, k1, k2, k3, k4, k5, k6⟩, AP, AD, A4, AT, AH, cP, cD, c4, cT, cH⟩ := OwW.fin HOW.out HBF.out HC.out (by have := Z3.out; have := HWZ.out; omega) O4.out (by have hh := R4.out; rw [List.take_length] at hh; exact Rtos.more (fun b hb => ⟨hb.1, hb.2.1⟩) hh)
        exact (hq.low (sto12_ch _ _ (.int .i64 x.horizon) (.slice A1 x.names.stops.length k1) (.slice A2 x.names.paths.length k2) (.slice A3 x.names.doors.length k3) (.slice Q4 x.names.routes.length k4) (.slice A5 x.names.trips.length k5) (.slice A6 x.names.hazards.length k6) (.slice AP x.paths.length cP) (.slice AD x.doors.length cD) (.slice A4 x.routes.length c4) (.slice AT x.trips.length cT) (.slice AH x.hazards.length cH)) (fun k e => by have e2 : k = w.heap.size + 1 := e; omega)).at_ (Nat.le_refl _)
end Go.Proofs.YtgdanbfglefiiaaGreat.Wo
