/- Package world's told: the sheet of a world that is whole; proved by walking its text. Conditions: at most 400 things of a kind. -/
import Derived.Test.YtfefnfifeaihhaaGreatWoWith
import Derived.Test.YtfefnfifeaihhaaGreatWoAst
import Derived.Test.YtfefnfifeaihhaaGreatBaI
import Derived.Test.YtfefnfifeaihhaaGreatWoNames
import Derived.Test.YtfefnfifeaihhaaGreatWoTell
import Derived.Laws.EntriesVeiled
set_option linter.unusedVariables false
set_option linter.unusedSimpArgs false
set_option maxHeartbeats 8000000
set_option maxRecDepth 100000
namespace Go.Proofs.YtfefnfifeaihhaaGreat.Wo
open Go.ChangeShapes Go.WideShapes Go.ChangeAt Go.RowKit Go.Maps
open Lx Sh It
theorem whole_parts {x : WorldM} (h : wholeB x = true) : x.names.paths.length = x.paths.length ∧ x.names.doors.length = x.doors.length ∧ x.names.routes.length = x.routes.length ∧ x.names.trips.length = x.trips.length ∧ x.names.hazards.length = x.hazards.length ∧ (∀ p ∈ x.paths, inB p.a x.names.stops = true ∧ inB p.b x.names.stops = true) ∧ (∀ p ∈ x.doors, inB p.a x.names.stops = true ∧ inB p.b x.names.stops = true) ∧ (∀ r ∈ x.routes, ∀ i ∈ r.stops, inB i x.names.stops = true) ∧ (∀ t ∈ x.trips, inB t.route x.names.routes = true) ∧ (∀ h ∈ x.hazards, inB h.on_ (clW x.names h.stop) = true) := by
  unfold wholeB at h
  simp only [Bool.and_eq_true, decide_eq_true_eq, List.all_eq_true] at h
  obtain ⟨⟨h1, h2, h3, h4, h5⟩, h6, h7, h8, h9, h10⟩ := h
  exact ⟨h1, h2, h3, h4, h5, h6, h7, h8, h9, h10⟩
theorem size3b (w : World) (o p q : Obj) : (((w.alloc o).alloc p).alloc q).heap.size = w.heap.size + 1 + 1 + 1 := by simp
theorem box3b (w : World) (o p q : Obj) : Below w.heap.size w (((w.alloc o).alloc p).alloc q) := (two_box w o p).alloc (by simp; omega) q
theorem blk3b (w : World) (o p : Obj) (t : TypeId) (l : List Value) : Blk (((w.alloc o).alloc p).alloc (.cells l.toArray t)) (w.heap.size + 1 + 1) t l := by
  have := Blk.new ((w.alloc o).alloc p) t l
  simpa using this
theorem blk2b (w : World) (o q : Obj) (t : TypeId) (l : List Value) : Blk (((w.alloc o).alloc (.cells l.toArray t)).alloc q) (w.heap.size + 1) t l := (Blk.new2 w o t l).alloc q
theorem blk1b (w : World) (p q : Obj) (t : TypeId) (l : List Value) : Blk (((w.alloc (.cells l.toArray t)).alloc p).alloc q) w.heap.size t l := ((Blk.new w t l).alloc p).alloc q
def ToPost (w : World) (y : SheetM) (e : Ending) (w' : World) : Prop := ∃ q : ShA, e = .returned (shV y q) ∧ Sh w' (fun b => w.heap.size ≤ b ∧ b < w'.heap.size) y q ∧ Below w.heap.size w w'
theorem to_read {W : World} {n0 : Nat} {a0 a1 a2 a3 a4 a5 a6 : Value} {tmps : Array Value} (h2 : tmps[2]? = some (.pointer (some ⟨n0, 0, none⟩))) (k0 : Blk W n0 88 [a0, a1, a2, a3, a4, a5, a6]) :
    (results Tryz.f87 tmps).run Tryz.prog W = .ok (.agg #[a0, a1, a2, a3, a4, a5, a6]) W := by
  have x0 : W.cell? ⟨n0, 0, none⟩ = some a0 := k0.cell 0
  have x1 : W.cell? ⟨n0, 1, none⟩ = some a1 := k0.cell 1
  have x2 : W.cell? ⟨n0, 2, none⟩ = some a2 := k0.cell 2
  have x3 : W.cell? ⟨n0, 3, none⟩ = some a3 := k0.cell 3
  have x4 : W.cell? ⟨n0, 4, none⟩ = some a4 := k0.cell 4
  have x5 : W.cell? ⟨n0, 5, none⟩ = some a5 := k0.cell 5
  have x6 : W.cell? ⟨n0, 6, none⟩ = some a6 := k0.cell 6
  simp [results, Tryz.results87, go_sem, h2, x0, x1, x2, x3, x4, x5, x6]
theorem told_any (x : WorldM) (p : WoA) (w : World) (h : Wo w (· < w.heap.size) x p) (hl : WLt x) (hw : wholeB x = true) : Calls Tryz.prog 87 #[woG x p] w (ToPost w (toldW x)) := by
  obtain ⟨e2, e3, e4, e5, e6, g2, g3, g4, g5, g6⟩ := whole_parts hw
  obtain ⟨cr, s4, s4'⟩ := h.r4
  have hle : Hid ((toldW x).stops.length = x.names.stops.length ∧ (toldW x).paths.length = x.paths.length ∧ (toldW x).doors.length = x.doors.length ∧ (toldW x).routes.length = x.routes.length ∧ (toldW x).trips.length = x.trips.length ∧ (toldW x).hazards.length = x.hazards.length) := HH (by
    simp only [toldW, List.length_zipWith, true_and]
    omega)
  obtain ⟨l1, l2, l3, l4, l5, l6, m2, m3, m4, m5, m6, lr⟩ := hl
  have GN : Hid (∀ w' gN, Below w.heap.size w w' → Blk w' gN 30 (naL x.names p.n) → True) := HH fun _ _ _ _ => trivial
  clear GN
  have C1 := HH (fun w' (hb : Below w.heap.size w w') => clone_rstr w' p.n.a1 x.names.stops.length p.n.c1 x.names.stops (HH rfl) (by omega) (rd_later h.r1.r1 hb))
  have C2 := HH (fun w' g gN (hb : Below w.heap.size w w') (hf : Blk w' g 159 [stF gN]) (hn : Blk w' gN 30 (naL x.names p.n)) => wn_po w' p.b2 p.n.a2 x.paths.length p.d2 p.n.c2 g x.paths x.names.paths (tPath x.names) (HH rfl) (HH e2.symm) (by omega) (rd_later h.r2 hb) (rd_later h.r1.r2 hb) (HH fun s a ha w2 h2 => told2_any s a g gN x.names p.n w2 (hf.after h2) (hn.after h2) (rd_later h.r1.r1 (keep_trans hb h2)) (g2 a ha).1 (g2 a ha).2))
  have C3 := HH (fun w' g gN (hb : Below w.heap.size w w') (hf : Blk w' g 159 [stF gN]) (hn : Blk w' gN 30 (naL x.names p.n)) => wn_dof w' p.b3 p.n.a3 x.doors.length p.d3 p.n.c3 g x.doors x.names.doors (tDoor x.names) (HH rfl) (HH e3.symm) (by omega) (rd_later h.r3 hb) (rd_later h.r1.r3 hb) (HH fun s a ha w2 h2 => told3_any s a g gN x.names p.n w2 (hf.after h2) (hn.after h2) (rd_later h.r1.r1 (keep_trans hb h2)) (g3 a ha).1 (g3 a ha).2))
  have C4 := HH (fun w' g gN (hb : Below w.heap.size w w') (hf : Blk w' g 159 [stF gN]) (hn : Blk w' gN 30 (naL x.names p.n)) => wn_ro w' p.b4 p.n.a4 x.routes.length p.d4 p.n.c4 g x.routes cr x.names.routes (tRoute x.names) (HH rfl) (HH e4.symm) (by omega) (rd_later s4 hb) (s4'.later hb) (rd_later h.r1.r4 hb) (HH fun s a ha w2 sa sc ra rc ya yc h2 hro => told4_any s a sa ra ya sc rc yc g gN x.names p.n w2 (hf.after h2) (hn.after h2) (rd_later h.r1.r1 (keep_trans hb h2)) hro (g4 a ha) (lr a ha)))
  have C5 := HH (fun w' gN (hb : Below w.heap.size w w') (hn : Blk w' gN 30 (naL x.names p.n)) => wn_to w' p.b5 p.n.a5 x.trips.length p.d5 p.n.c5 gN x.trips x.names.trips (tTrip x.names) (HH rfl) (HH e5.symm) (by omega) (rd_later h.r5 hb) (rd_later h.r1.r5 hb) (HH fun s a ha w2 h2 => told5_any s a gN x.names p.n w2 (hn.after h2) (rd_later h.r1.r4 (keep_trans hb h2)) (g5 a ha)))
  have C6 := HH (fun w' gN (hb : Below w.heap.size w w') (hn : Blk w' gN 30 (naL x.names p.n)) => wn_ho w' p.b6 p.n.a6 x.hazards.length p.d6 p.n.c6 gN x.hazards x.names.hazards (tHaz x.names) (HH rfl) (HH e6.symm) (by omega) (rd_later h.r6 hb) (rd_later h.r1.r6 hb) (HH fun s a ha w2 h2 => told6_any s a gN x.names p.n w2 (hn.after h2) (h.r1.later (keep_trans hb h2)) (g6 a ha)))
  dsimp only [naL] at C2 C3 C4 C5 C6
  dsimp only [woG]
  rw [e2] at C2 C3 C4 C5 C6 ⊢
  rw [e3] at C2 C3 C4 C5 C6 ⊢
  rw [e4] at C2 C3 C4 C5 C6 ⊢
  rw [e5] at C2 C3 C4 C5 C6 ⊢
  rw [e6] at C2 C3 C4 C5 C6 ⊢
  clear h hw e2 e3 e4 e5 e6 g2 g3 g4 g5 g6 s4 s4' l1 l2 l3 l4 l5 l6 m2 m3 m4 m5 m6 lr
  obtain ⟨hz, ⟨n1, n2, n3, n4, n5, n6⟩, pa, dos, ro, tr, ha⟩ := x
  obtain ⟨⟨a1, a2, a3, a4, a5, a6, c1, c2, c3, c4, c5, c6⟩, b2, b3, b4, b5, b6, d2, d3, d4, d5, d6⟩ := p
  dsimp only at C1 C2 C3 C4 C5 C6 hle ⊢
  generalize n1.length = L1 at *
  generalize pa.length = P2 at *
  generalize dos.length = P3 at *
  generalize ro.length = P4 at *
  generalize tr.length = P5 at *
  generalize ha.length = P6 at *
  go_enter Tryz.func87, Tryz.ntmps87
  go_upto_region 3 with fail
  obtain ⟨wN, hwN⟩ : ∃ n, n = w.heap.size := ⟨_, rfl⟩
  obtain ⟨W, hW⟩ : ∃ W, W = (((w.alloc (.cells #[.int .i64 hz, .slice a1 L1 c1, .slice a2 P2 c2, .slice a3 P3 c3, .slice a4 P4 c4, .slice a5 P5 c5, .slice a6 P6 c6, .slice b2 P2 d2, .slice b3 P3 d3, .slice b4 P4 d4, .slice b5 P5 d5, .slice b6 P6 d6] 37)).alloc (.cells #[.int .i64 0, .slice none 0 0, .slice none 0 0, .slice none 0 0, .slice none 0 0, .slice none 0 0, .slice none 0 0] 88)).alloc (.cells #[.slice a1 L1 c1, .slice a2 P2 c2, .slice a3 P3 c3, .slice a4 P4 c4, .slice a5 P5 c5, .slice a6 P6 c6] 30)).alloc (.cells #[stF (w.heap.size + 1 + 1)] 159) := ⟨_, rfl⟩
  have HW0 : Hid (Below w.heap.size w W) := HH (by rw [hW]; exact (box3b w _ _ _).alloc (by simp; omega) _)
  have KW : Hid (Blk W wN 37 [.int .i64 hz, .slice a1 L1 c1, .slice a2 P2 c2, .slice a3 P3 c3, .slice a4 P4 c4, .slice a5 P5 c5, .slice a6 P6 c6, .slice b2 P2 d2, .slice b3 P3 d3, .slice b4 P4 d4, .slice b5 P5 d5, .slice b6 P6 d6]) := HH (by rw [hW, hwN]; exact (blk1b w _ _ _ _).alloc _)
  have KS : Hid (Blk W (wN + 1) 88 [.int .i64 0, .slice none 0 0, .slice none 0 0, .slice none 0 0, .slice none 0 0, .slice none 0 0, .slice none 0 0]) := HH (by rw [hW, hwN]; exact (blk2b w _ _ _ _).alloc _)
  have KN : Hid (Blk W (wN + 1 + 1) 30 [.slice a1 L1 c1, .slice a2 P2 c2, .slice a3 P3 c3, .slice a4 P4 c4, .slice a5 P5 c5, .slice a6 P6 c6]) := HH (by rw [hW, hwN]; exact (blk3b w _ _ _ _).alloc _)
  have KF : Hid (Blk W (wN + 1 + 1 + 1) 159 [stF (wN + 1 + 1)]) := HH (by rw [hW, hwN]; have := Blk.new (((w.alloc (.cells #[.int .i64 hz, .slice a1 L1 c1, .slice a2 P2 c2, .slice a3 P3 c3, .slice a4 P4 c4, .slice a5 P5 c5, .slice a6 P6 c6, .slice b2 P2 d2, .slice b3 P3 d3, .slice b4 P4 d4, .slice b5 P5 d5, .slice b6 P6 d6] 37)).alloc (.cells #[.int .i64 0, .slice none 0 0, .slice none 0 0, .slice none 0 0, .slice none 0 0, .slice none 0 0, .slice none 0 0] 88)).alloc (.cells #[.slice a1 L1 c1, .slice a2 P2 c2, .slice a3 P3 c3, .slice a4 P4 c4, .slice a5 P5 c5, .slice a6 P6 c6] 30)) 159 [stF (w.heap.size + 1 + 1)]; rw [size3b] at this; exact this)
  rw [← hW]
  rw [← hwN]
  have HWN := HH hwN
  clear hW hwN
  have KC : Hid (∀ w', Ch (fun k => k = wN + 1) W w' → w'.cell? ⟨wN, 0, none⟩ = some (.int .i64 hz) ∧ w'.cell? ⟨wN, 1, none⟩ = some (.slice a1 L1 c1) ∧ w'.cell? ⟨wN, 2, none⟩ = some (.slice a2 P2 c2) ∧ w'.cell? ⟨wN, 3, none⟩ = some (.slice a3 P3 c3) ∧ w'.cell? ⟨wN, 4, none⟩ = some (.slice a4 P4 c4) ∧ w'.cell? ⟨wN, 5, none⟩ = some (.slice a5 P5 c5) ∧ w'.cell? ⟨wN, 6, none⟩ = some (.slice a6 P6 c6) ∧ w'.cell? ⟨wN, 7, none⟩ = some (.slice b2 P2 d2) ∧ w'.cell? ⟨wN, 8, none⟩ = some (.slice b3 P3 d3) ∧ w'.cell? ⟨wN, 9, none⟩ = some (.slice b4 P4 d4) ∧ w'.cell? ⟨wN, 10, none⟩ = some (.slice b5 P5 d5) ∧ w'.cell? ⟨wN, 11, none⟩ = some (.slice b6 P6 d6) ∧ w'.cell? ⟨wN + 1 + 1, 0, none⟩ = some (.slice a1 L1 c1) ∧ w'.cell? ⟨wN + 1 + 1, 1, none⟩ = some (.slice a2 P2 c2) ∧ w'.cell? ⟨wN + 1 + 1, 2, none⟩ = some (.slice a3 P3 c3) ∧ w'.cell? ⟨wN + 1 + 1, 3, none⟩ = some (.slice a4 P4 c4) ∧ w'.cell? ⟨wN + 1 + 1, 4, none⟩ = some (.slice a5 P5 c5) ∧ w'.cell? ⟨wN + 1 + 1, 5, none⟩ = some (.slice a6 P6 c6) ∧ w'.cell? ⟨wN + 1 + 1 + 1, 0, none⟩ = some (stF (wN + 1 + 1))) := HH (fun w' hb => by
    have a := hb.blk KW.out (by omega)
    have b := hb.blk KN.out (by omega)
    have c := hb.blk KF.out (by omega)
    exact ⟨a.cell 0, a.cell 1, a.cell 2, a.cell 3, a.cell 4, a.cell 5, a.cell 6, a.cell 7, a.cell 8, a.cell 9, a.cell 10, a.cell 11, b.cell 0, b.cell 1, b.cell 2, b.cell 3, b.cell 4, b.cell 5, c.cell 0⟩)
  refine wp_region_held_drew (S := fun w' => Hid (Ch (fun k => k = wN + 1) W w')) (by kernel_rfl) ?_ (fun hHeld => ?_)
  · exact HH ((Ch.refl _ _).drew)
  refine tak 0 ?vtd1 rfl ?hytd1 ?resttd1
  case hytd1 => (intro w' hSw; clear hSw; go_simp; try with_reducible rfl)
  simp only [ptk]
  refine tak 1 ?vtd2 rfl ?hytd2 ?resttd2
  case hytd2 => (intro w' hSw; obtain ⟨kc0, -, -, -, -, -, -, -, -, -, -, -, -, -, -, -, -, -, -⟩ := KC.out w' hSw.out; clear hSw; go_simp; try with_reducible rfl)
  simp only [ptk]
  refine tak 2 ?vtd3 rfl ?hytd3 ?resttd3
  case hytd3 => (intro w' hSw; clear hSw; go_simp; try with_reducible rfl)
  simp only [ptk]
  refine tak 3 ?vtd4 rfl ?hytd4 ?resttd4
  case hytd4 => (intro w' hSw; obtain ⟨-, -, -, -, -, -, -, -, -, -, -, -, kc12, -, -, -, -, -, -⟩ := KC.out w' hSw.out; clear hSw; go_simp; try with_reducible rfl)
  simp only [ptk]
  refine tak 5 ?vtd5 rfl ?hytd5 ?resttd5
  case hytd5 => (intro w' hSw; clear hSw; go_simp; try with_reducible rfl)
  simp only [ptk]
  refine tak 6 ?vtd6 rfl ?hytd6 ?resttd6
  case hytd6 => (intro w' hSw; obtain ⟨-, -, -, -, -, -, -, -, -, -, -, -, -, kc13, -, -, -, -, -⟩ := KC.out w' hSw.out; clear hSw; go_simp; try with_reducible rfl)
  simp only [ptk]
  refine tak 7 ?vtd7 rfl ?hytd7 ?resttd7
  case hytd7 => (intro w' hSw; clear hSw; go_simp; try with_reducible rfl)
  simp only [ptk]
  refine tak 8 ?vtd8 rfl ?hytd8 ?resttd8
  case hytd8 => (intro w' hSw; obtain ⟨-, -, -, -, -, -, -, kc7, -, -, -, -, -, -, -, -, -, -, -⟩ := KC.out w' hSw.out; clear hSw; go_simp; try with_reducible rfl)
  simp only [ptk]
  refine tak 9 ?vtd9 rfl ?hytd9 ?resttd9
  case hytd9 => (intro w' hSw; clear hSw; go_simp; try with_reducible rfl)
  simp only [ptk]
  refine tak 11 ?vtd10 rfl ?hytd10 ?resttd10
  case hytd10 => (intro w' hSw; clear hSw; go_simp; try with_reducible rfl)
  simp only [ptk]
  refine tak 12 ?vtd11 rfl ?hytd11 ?resttd11
  case hytd11 => (intro w' hSw; obtain ⟨-, -, -, -, -, -, -, -, -, -, -, -, -, -, kc14, -, -, -, -⟩ := KC.out w' hSw.out; clear hSw; go_simp; try with_reducible rfl)
  simp only [ptk]
  refine tak 13 ?vtd12 rfl ?hytd12 ?resttd12
  case hytd12 => (intro w' hSw; clear hSw; go_simp; try with_reducible rfl)
  simp only [ptk]
  refine tak 14 ?vtd13 rfl ?hytd13 ?resttd13
  case hytd13 => (intro w' hSw; obtain ⟨-, -, -, -, -, -, -, -, kc8, -, -, -, -, -, -, -, -, -, -⟩ := KC.out w' hSw.out; clear hSw; go_simp; try with_reducible rfl)
  simp only [ptk]
  refine tak 15 ?vtd14 rfl ?hytd14 ?resttd14
  case hytd14 => (intro w' hSw; clear hSw; go_simp; try with_reducible rfl)
  simp only [ptk]
  refine tak 17 ?vtd15 rfl ?hytd15 ?resttd15
  case hytd15 => (intro w' hSw; clear hSw; go_simp; try with_reducible rfl)
  simp only [ptk]
  refine tak 18 ?vtd16 rfl ?hytd16 ?resttd16
  case hytd16 => (intro w' hSw; obtain ⟨-, -, -, -, -, -, -, -, -, -, -, -, -, -, -, kc15, -, -, -⟩ := KC.out w' hSw.out; clear hSw; go_simp; try with_reducible rfl)
  simp only [ptk]
  refine tak 19 ?vtd17 rfl ?hytd17 ?resttd17
  case hytd17 => (intro w' hSw; clear hSw; go_simp; try with_reducible rfl)
  simp only [ptk]
  refine tak 20 ?vtd18 rfl ?hytd18 ?resttd18
  case hytd18 => (intro w' hSw; obtain ⟨-, -, -, -, -, -, -, -, -, kc9, -, -, -, -, -, -, -, -, -⟩ := KC.out w' hSw.out; clear hSw; go_simp; try with_reducible rfl)
  simp only [ptk]
  refine tak 21 ?vtd19 rfl ?hytd19 ?resttd19
  case hytd19 => (intro w' hSw; clear hSw; go_simp; try with_reducible rfl)
  simp only [ptk]
  refine tak 23 ?vtd20 rfl ?hytd20 ?resttd20
  case hytd20 => (intro w' hSw; clear hSw; go_simp; try with_reducible rfl)
  simp only [ptk]
  refine tak 24 ?vtd21 rfl ?hytd21 ?resttd21
  case hytd21 => (intro w' hSw; obtain ⟨-, -, -, -, -, -, -, -, -, -, -, -, -, -, -, -, kc16, -, -⟩ := KC.out w' hSw.out; clear hSw; go_simp; try with_reducible rfl)
  simp only [ptk]
  refine tak 25 ?vtd22 rfl ?hytd22 ?resttd22
  case hytd22 => (intro w' hSw; clear hSw; go_simp; try with_reducible rfl)
  simp only [ptk]
  refine tak 26 ?vtd23 rfl ?hytd23 ?resttd23
  case hytd23 => (intro w' hSw; obtain ⟨-, -, -, -, -, -, -, -, -, -, kc10, -, -, -, -, -, -, -, -⟩ := KC.out w' hSw.out; clear hSw; go_simp; try with_reducible rfl)
  simp only [ptk]
  refine tak 27 ?vtd24 rfl ?hytd24 ?resttd24
  case hytd24 => (intro w' hSw; clear hSw; go_simp; try with_reducible rfl)
  simp only [ptk]
  refine tak 29 ?vtd25 rfl ?hytd25 ?resttd25
  case hytd25 => (intro w' hSw; clear hSw; go_simp; try with_reducible rfl)
  simp only [ptk]
  refine tak 30 ?vtd26 rfl ?hytd26 ?resttd26
  case hytd26 => (intro w' hSw; obtain ⟨-, -, -, -, -, -, -, -, -, -, -, -, -, -, -, -, -, kc17, -⟩ := KC.out w' hSw.out; clear hSw; go_simp; try with_reducible rfl)
  simp only [ptk]
  refine tak 31 ?vtd27 rfl ?hytd27 ?resttd27
  case hytd27 => (intro w' hSw; clear hSw; go_simp; try with_reducible rfl)
  simp only [ptk]
  refine tak 32 ?vtd28 rfl ?hytd28 ?resttd28
  case hytd28 => (intro w' hSw; obtain ⟨-, -, -, -, -, -, -, -, -, -, -, kc11, -, -, -, -, -, -, -⟩ := KC.out w' hSw.out; clear hSw; go_simp; try with_reducible rfl)
  simp only [ptk]
  refine tak 33 ?vtd29 rfl ?hytd29 ?resttd29
  case hytd29 => (intro w' hSw; clear hSw; go_simp; try with_reducible rfl)
  simp only [ptk]
  have D : Hid (Below W.heap.size W (World.drew W)) := HH (below_drew (Below.refl _ _))
  clear hHeld
  generalize World.drew W = vv at *
  refine rdy [4] ?_
  refine AllReadyH.cons rfl (fun K hK => ?_) AllReadyH.nil
  go_simp
  go_at_call 107
  refine (C1.out _ (keep_trans HW0.out D.out)).mono ?_
  rintro e' w1 ⟨A1, k1, rfl, hc1, hO1, hb⟩
  have Q1 : Hid (Below W.heap.size W w1) := HH (below_then D.out hb D.out.size)
  have O1 := HH (own_base hO1.out (D.out.size))
  clear hb hO1
  refine hK.out _ _ (HH (Ch.of_below Q1.out)) (fun hHeld => ?_)
  clear hK K hHeld
  refine rdy [10] ?_
  refine AllReadyH.cons rfl (fun K hK => ?_) AllReadyH.nil
  go_simp
  go_at_call 108
  refine (C2.out _ _ _ (keep_trans HW0.out Q1.out) (KF.out.after Q1.out) (KN.out.after Q1.out)).mono ?_
  rintro e' w2 ⟨A2, k2, rfl, hc2, hO2, hb⟩
  have Q2 : Hid (Below W.heap.size W w2) := HH (below_then Q1.out hb Q1.out.size); have O1 := HH (own_after O1.out hb)
  have O2 := HH (own_base hO2.out (Q1.out.size))
  clear hb hO2
  refine hK.out _ _ (HH (Ch.of_below Q2.out)) (fun hHeld => ?_)
  clear hK K hHeld
  refine rdy [16] ?_
  refine AllReadyH.cons rfl (fun K hK => ?_) AllReadyH.nil
  go_simp
  go_at_call 110
  refine (C3.out _ _ _ (keep_trans HW0.out Q2.out) (KF.out.after Q2.out) (KN.out.after Q2.out)).mono ?_
  rintro e' w3 ⟨A3, k3, rfl, hc3, hO3, hb⟩
  have Q3 : Hid (Below W.heap.size W w3) := HH (below_then Q2.out hb Q2.out.size); have O1 := HH (own_after O1.out hb); have O2 := HH (own_after O2.out hb)
  have O3 := HH (own_base hO3.out (Q2.out.size))
  clear hb hO3
  refine hK.out _ _ (HH (Ch.of_below Q3.out)) (fun hHeld => ?_)
  clear hK K hHeld
  refine rdy [22] ?_
  refine AllReadyH.cons rfl (fun K hK => ?_) AllReadyH.nil
  go_simp
  go_at_call 112
  refine (C4.out _ _ _ (keep_trans HW0.out Q3.out) (KF.out.after Q3.out) (KN.out.after Q3.out)).mono ?_
  rintro e' w4 ⟨A4, k4, cl, rfl, hO4, hrt, hb⟩
  have Q4 : Hid (Below W.heap.size W w4) := HH (below_then Q3.out hb Q3.out.size); have O1 := HH (own_after O1.out hb); have O2 := HH (own_after O2.out hb); have O3 := HH (own_after O3.out hb)
  have O4 := HH (own_base hO4.out (Q3.out.size))
  have RT := HH (hrt.out.more (S' := fun b => W.heap.size ≤ b ∧ b < w4.heap.size) fun b hk => ⟨Nat.le_trans Q3.out.size hk.1, hk.2⟩)
  clear hb hO4 hrt
  refine hK.out _ _ (HH (Ch.of_below Q4.out)) (fun hHeld => ?_)
  clear hK K hHeld
  refine rdy [28] ?_
  refine AllReadyH.cons rfl (fun K hK => ?_) AllReadyH.nil
  go_simp
  go_at_call 115
  refine (C5.out _ _ (keep_trans HW0.out Q4.out) (KN.out.after Q4.out)).mono ?_
  rintro e' w5 ⟨A5, k5, rfl, hc5, hO5, hb⟩
  have Q5 : Hid (Below W.heap.size W w5) := HH (below_then Q4.out hb Q4.out.size); have O1 := HH (own_after O1.out hb); have O2 := HH (own_after O2.out hb); have O3 := HH (own_after O3.out hb); have O4 := HH (own_after O4.out hb); have RT := HH ((RT.out.keep fun b hk => hb.block b hk.2).more (S' := fun b => W.heap.size ≤ b ∧ b < w5.heap.size) fun b hk => ⟨hk.1, Nat.lt_of_lt_of_le hk.2 hb.size⟩)
  have O5 := HH (own_base hO5.out (Q4.out.size))
  clear hb hO5
  refine hK.out _ _ (HH (Ch.of_below Q5.out)) (fun hHeld => ?_)
  clear hK K hHeld
  refine rdy [34] ?_
  refine AllReadyH.cons rfl (fun K hK => ?_) AllReadyH.nil
  go_simp
  go_at_call 117
  refine (C6.out _ _ (keep_trans HW0.out Q5.out) (KN.out.after Q5.out)).mono ?_
  rintro e' w6 ⟨A6, k6, rfl, hc6, hO6, hb⟩
  have Q6 : Hid (Below W.heap.size W w6) := HH (below_then Q5.out hb Q5.out.size); have O1 := HH (own_after O1.out hb); have O2 := HH (own_after O2.out hb); have O3 := HH (own_after O3.out hb); have O4 := HH (own_after O4.out hb); have O5 := HH (own_after O5.out hb); have RT := HH ((RT.out.keep fun b hk => hb.block b hk.2).more (S' := fun b => W.heap.size ≤ b ∧ b < w6.heap.size) fun b hk => ⟨hk.1, Nat.lt_of_lt_of_le hk.2 hb.size⟩)
  have O6 := HH (own_base hO6.out (Q5.out.size))
  clear hb hO6
  refine hK.out _ _ (HH (Ch.of_below Q6.out)) (fun hHeld => ?_)
  clear hK K hHeld
  have hHeld := HH (Ch.of_below (X := fun k => k = wN + 1) Q6.out)
  refine tak 35 ?vtd30 rfl ?hytd30 ?resttd30
  case hytd30 => (intro w' hSw; clear hSw; go_simp; try with_reducible rfl)
  simp only [ptk]
  clear hHeld
  have KY := HH (KS.out.after Q6.out)
  have y0 : w6.cell? ⟨wN + 1, 0, none⟩ = some (.int .i64 0) := KY.out.cell 0
  have y1 : w6.cell? ⟨wN + 1, 1, none⟩ = some (.slice none 0 0) := KY.out.cell 1
  have y2 : w6.cell? ⟨wN + 1, 2, none⟩ = some (.slice none 0 0) := KY.out.cell 2
  have y3 : w6.cell? ⟨wN + 1, 3, none⟩ = some (.slice none 0 0) := KY.out.cell 3
  have y4 : w6.cell? ⟨wN + 1, 4, none⟩ = some (.slice none 0 0) := KY.out.cell 4
  have y5 : w6.cell? ⟨wN + 1, 5, none⟩ = some (.slice none 0 0) := KY.out.cell 5
  have y6 : w6.cell? ⟨wN + 1, 6, none⟩ = some (.slice none 0 0) := KY.out.cell 6
  have yf : ∀ i, w6.frozen? ⟨wN + 1, i, none⟩ = false := fun i => KY.out.frozen i
  refine rdy [36] ?_
  refine AllReadyH.cons rfl (fun K hK => ?_) AllReadyH.nil
  go_simp
  clear y0 y1 y2 y3 y4 y5 y6 yf KY
  refine hK.out _ _ (HH ((Ch.of_below Q6.out).trans (ch_set7 w6 (wN + 1) _ _ _ _ _ _ _))) (fun hHeld => ?_)
  clear hK K hHeld
  refine wpAnyH_done (by kernel_rfl) ?_ _
  have KZ := HH (KS.out.after Q6.out)
  have hz1 := KS.out.lt
  have z6 := Q6.out.size
  have zw := HW0.out.size
  generalize w6 = W6 at *
  have HC := HH (ch_set7 W6 (wN + 1) (.int .i64 hz) (.slice A1 L1 k1) (.slice A2 P2 k2) (.slice A3 P3 k3) (.slice A4 P4 k4) (.slice A5 P5 k5) (.slice A6 P6 k6))
  have HBF : Hid (Below w.heap.size w W6) := HH (keep_trans HW0.out Q6.out)
  go_wp2
  refine bodyPost_ret (to_read rfl (((((((KZ.out.set_ 0 _).set_ 1 _).set_ 2 _).set_ 3 _).set_ 4 _).set_ 5 _).set_ 6 _)) rfl ?_
  obtain ⟨g1, g2, g3, g4, g5, g6⟩ := hle.out
  have zc := HC.out.size
  refine ⟨⟨A1, A2, A3, A4, A5, A6, k1, k2, k3, k4, k5, k6⟩, ?_, ⟨((own_rd O1.out).keep fun b hb => HC.out.block b hb.2 (by omega)).more fun b hb => ⟨by omega, by omega⟩, ((own_rd O2.out).keep fun b hb => HC.out.block b hb.2 (by omega)).more fun b hb => ⟨by omega, by omega⟩, ((own_rd O3.out).keep fun b hb => HC.out.block b hb.2 (by omega)).more fun b hb => ⟨by omega, by omega⟩, ⟨cl, ((own_rd O4.out).keep fun b hb => HC.out.block b hb.2 (by omega)).more fun b hb => ⟨by omega, by omega⟩, (RT.out.keep fun b hb => HC.out.block b hb.2 (by omega)).more fun b hb => ⟨by omega, by omega⟩⟩, ((own_rd O5.out).keep fun b hb => HC.out.block b hb.2 (by omega)).more fun b hb => ⟨by omega, by omega⟩, ((own_rd O6.out).keep fun b hb => HC.out.block b hb.2 (by omega)).more fun b hb => ⟨by omega, by omega⟩⟩, ?_⟩
  · dsimp only [shV]
    rw [g1, g2, g3, g4, g5, g6]
    rfl
  · exact below_ch HBF.out (by omega) HC.out (by have := HWN.out; omega)
end Go.Proofs.YtfefnfifeaihhaaGreat.Wo
