/- Package world's namesOf: all names of a sheet, kind by kind, proved by walking its text. Conditions: at most 400 things of a kind. -/
import Derived.Test.YtfefnfifeaihhaaGreatWoEach
set_option linter.unusedVariables false
set_option linter.unusedSimpArgs false
set_option maxHeartbeats 4000000
set_option maxRecDepth 100000
namespace Go.Proofs.YtfefnfifeaihhaaGreat.Wo
open Go.ChangeShapes Go.WideShapes Go.ChangeAt Go.RowKit Go.Maps
open Lx Sh
/-- sheets of little -/
structure XLt (x : SheetM) : Prop where
  l1 : x.stops.length ≤ 400
  l2 : x.paths.length ≤ 400
  l3 : x.doors.length ≤ 400
  l4 : x.routes.length ≤ 400
  l5 : x.trips.length ≤ 400
  l6 : x.hazards.length ≤ 400
  lr : ∀ r ∈ x.routes, r.stops.length ≤ 400 ∧ r.rides.length ≤ 400 ∧ r.stays.length ≤ 400
theorem XLt.few {x : SheetM} (h : XLt x) : ShFew x := ⟨by have := h.l1; omega, by have := h.l2; omega, by have := h.l3; omega, by have := h.l4; omega, by have := h.l5; omega, by have := h.l6; omega, fun r hr => by obtain ⟨h1, h2, h3⟩ := h.lr r hr; exact ⟨by omega, by omega, by omega⟩⟩
def NaPost (w : World) (n : NamesM) (e : Ending) (w' : World) : Prop := ∃ p : NaA, e = .returned (naV n p) ∧ NaF w' w.heap.size n p ∧ Below w.heap.size w w'
theorem na_read {W : World} {n0 : Nat} {a1 a2 a3 a4 a5 a6 : Value} {tmps : Array Value} (h2 : tmps[2]? = some (.pointer (some ⟨n0, 0, none⟩))) (k0 : Blk W n0 30 [a1, a2, a3, a4, a5, a6]) :
    (results Tryz.f121 tmps).run Tryz.prog W = .ok (.agg #[a1, a2, a3, a4, a5, a6]) W := by
  have x1 : W.cell? ⟨n0, 0, none⟩ = some a1 := k0.cell 0
  have x2 : W.cell? ⟨n0, 1, none⟩ = some a2 := k0.cell 1
  have x3 : W.cell? ⟨n0, 2, none⟩ = some a3 := k0.cell 2
  have x4 : W.cell? ⟨n0, 3, none⟩ = some a4 := k0.cell 3
  have x5 : W.cell? ⟨n0, 4, none⟩ = some a5 := k0.cell 4
  have x6 : W.cell? ⟨n0, 5, none⟩ = some a6 := k0.cell 5
  simp [results, Tryz.results121, go_sem, h2, x1, x2, x3, x4, x5, x6]
/-- six cells of a block -/
def sto6 (w : World) (g : Nat) (u1 u2 u3 u4 u5 u6 : Value) : World := (((((w.setCell ⟨g, 0, none⟩ u1).setCell ⟨g, 1, none⟩ u2).setCell ⟨g, 2, none⟩ u3).setCell ⟨g, 3, none⟩ u4).setCell ⟨g, 4, none⟩ u5).setCell ⟨g, 5, none⟩ u6
theorem sto6_ch (w : World) (g : Nat) (u1 u2 u3 u4 u5 u6 : Value) : Ch (· = g) w (sto6 w g u1 u2 u3 u4 u5 u6) := by
  unfold sto6
  exact ((((((Ch.refl (· = g) w).setCell (p := ⟨g, 0, none⟩) (.inl rfl) u1).setCell (p := ⟨g, 1, none⟩) (.inl rfl) u2).setCell (p := ⟨g, 2, none⟩) (.inl rfl) u3).setCell (p := ⟨g, 3, none⟩) (.inl rfl) u4).setCell (p := ⟨g, 4, none⟩) (.inl rfl) u5).setCell (p := ⟨g, 5, none⟩) (.inl rfl) u6
theorem sto6_blk {w : World} {g : Nat} {t : TypeId} {a1 a2 a3 a4 a5 a6 : Value} (h : Blk w g t [a1, a2, a3, a4, a5, a6]) (u1 u2 u3 u4 u5 u6 : Value) : Blk (sto6 w g u1 u2 u3 u4 u5 u6) g t [u1, u2, u3, u4, u5, u6] := by
  unfold sto6
  exact (((((h.set_ 0 u1).set_ 1 u2).set_ 2 u3).set_ 3 u4).set_ 4 u5).set_ 5 u6
theorem below_ch {B : Nat} {w w' w'' : World} {g : Nat} (h : Below B w w') (hB : B ≤ w'.heap.size) (hc : Ch (· = g) w' w'') (hg : B ≤ g) : Below B w w'' := h.trans (hc.below hB fun k e => by omega)
theorem namesOf_any (x : SheetM) (p : ShA) (w : World) (h : Sh w (· < w.heap.size) x p) (hf : XLt x) : Calls Tryz.prog 121 #[shV x p] w (NaPost w (namesX x)) := by
  obtain ⟨cr, h4, h4'⟩ := h.r4
  have C1 := HH (fun w' (hb : Below w.heap.size w w') => clone_rstr w' p.a1 x.stops.length p.c1 x.stops (HH rfl) (by have := hf.l1; omega) (rd_later h.r1 hb))
  have C2 := HH (fun w' (hb : Below w.heap.size w w') => each_nmPath w' p.a2 x.paths.length p.c2 x.paths (HH rfl) hf.l2 (rd_later h.r2 hb))
  have C3 := HH (fun w' (hb : Below w.heap.size w w') => each_nmDoor w' p.a3 x.doors.length p.c3 x.doors (HH rfl) hf.l3 (rd_later h.r3 hb))
  have C4 := HH (fun w' (hb : Below w.heap.size w w') => each_nmRoute w' p.a4 x.routes.length p.c4 x.routes cr (HH rfl) hf.l4 (rd_later h4 hb) (h4'.later hb))
  have C5 := HH (fun w' (hb : Below w.heap.size w w') => each_nmTrip w' p.a5 x.trips.length p.c5 x.trips (HH rfl) hf.l5 (rd_later h.r5 hb))
  have C6 := HH (fun w' (hb : Below w.heap.size w w') => each_nmHaz w' p.a6 x.hazards.length p.c6 x.hazards (HH rfl) hf.l6 (rd_later h.r6 hb))
  clear h4 h4' h hf
  dsimp only [shV]
  generalize x.horizon = hz
  obtain ⟨n1, hn1⟩ : ∃ n, n = x.stops.length := ⟨_, rfl⟩
  obtain ⟨n2, hn2⟩ : ∃ n, n = x.paths.length := ⟨_, rfl⟩
  obtain ⟨n3, hn3⟩ : ∃ n, n = x.doors.length := ⟨_, rfl⟩
  obtain ⟨n4, hn4⟩ : ∃ n, n = x.routes.length := ⟨_, rfl⟩
  obtain ⟨n5, hn5⟩ : ∃ n, n = x.trips.length := ⟨_, rfl⟩
  obtain ⟨n6, hn6⟩ : ∃ n, n = x.hazards.length := ⟨_, rfl⟩
  rw [← hn1, ← hn2, ← hn3, ← hn4, ← hn5, ← hn6]
  rw [← hn1] at C1
  rw [← hn2] at C2
  rw [← hn3] at C3
  rw [← hn4] at C4
  rw [← hn5] at C5
  rw [← hn6] at C6
  have N1 := HH hn1
  have N2 := HH hn2
  have N3 := HH hn3
  have N4 := HH hn4
  have N5 := HH hn5
  have N6 := HH hn6
  clear hn1 hn2 hn3 hn4 hn5 hn6
  obtain ⟨a1, a2, a3, a4, a5, a6, c1, c2, c3, c4, c5, c6⟩ := p
  dsimp only at *
  go_enter Tryz.func121, Tryz.ntmps121
  go_wp2_with fail
  obtain ⟨W, hW⟩ : ∃ W, W = (w.alloc (.cells #[.int .i64 hz, .slice a1 n1 c1, .slice a2 n2 c2, .slice a3 n3 c3, .slice a4 n4 c4, .slice a5 n5 c5, .slice a6 n6 c6] 88)).alloc (.cells #[.slice none 0 0, .slice none 0 0, .slice none 0 0, .slice none 0 0, .slice none 0 0, .slice none 0 0] 30) := ⟨_, rfl⟩
  have HW0 : Hid (Below w.heap.size w W) := HH (by rw [hW]; exact two_box _ _ _)
  have K0 : Hid (Blk W w.heap.size 88 [.int .i64 hz, .slice a1 n1 c1, .slice a2 n2 c2, .slice a3 n3 c3, .slice a4 n4 c4, .slice a5 n5 c5, .slice a6 n6 c6]) := HH (by rw [hW]; exact (Blk.new w _ _).alloc _)
  have K1 : Hid (Blk W (w.heap.size + 1) 30 [.slice none 0 0, .slice none 0 0, .slice none 0 0, .slice none 0 0, .slice none 0 0, .slice none 0 0]) := HH (by rw [hW]; exact Blk.new2 w _ _ _)
  have HWZ : Hid (W.heap.size = w.heap.size + 2) := HH (by rw [hW]; simp)
  rw [← hW]
  clear hW
  have KC : Hid (∀ w', Below (w.heap.size + 1) W w' → w'.cell? ⟨w.heap.size, 1, none⟩ = some (.slice a1 n1 c1) ∧ w'.cell? ⟨w.heap.size, 2, none⟩ = some (.slice a2 n2 c2) ∧ w'.cell? ⟨w.heap.size, 3, none⟩ = some (.slice a3 n3 c3) ∧ w'.cell? ⟨w.heap.size, 4, none⟩ = some (.slice a4 n4 c4) ∧ w'.cell? ⟨w.heap.size, 5, none⟩ = some (.slice a5 n5 c5) ∧ w'.cell? ⟨w.heap.size, 6, none⟩ = some (.slice a6 n6 c6)) := HH (fun w' hb => by
    have a := K0.out.below hb (by omega)
    exact ⟨a.cell 1, a.cell 2, a.cell 3, a.cell 4, a.cell 5, a.cell 6⟩)
  refine wp_region_held_drew (S := fun w' => Hid (Below (w.heap.size + 1) W w')) (by kernel_rfl) ?_ (fun hHeld => ?_)
  · exact HH (below_drew (Below.refl _ _))
  refine tak 0 ?vu1 rfl ?hyu1 ?restu1
  case hyu1 => (intro w' hSw; obtain ⟨kc1, kc2, kc3, kc4, kc5, kc6⟩ := KC.out w' hSw.out; clear hSw; go_simp; try with_reducible rfl)
  simp only [ptk]
  refine tak 1 ?vu2 rfl ?hyu2 ?restu2
  case hyu2 => (intro w' hSw; obtain ⟨kc1, kc2, kc3, kc4, kc5, kc6⟩ := KC.out w' hSw.out; clear hSw; go_simp; try with_reducible rfl)
  simp only [ptk]
  refine tak 3 ?vu3 rfl ?hyu3 ?restu3
  case hyu3 => (intro w' hSw; obtain ⟨kc1, kc2, kc3, kc4, kc5, kc6⟩ := KC.out w' hSw.out; clear hSw; go_simp; try with_reducible rfl)
  simp only [ptk]
  refine tak 4 ?vu4 rfl ?hyu4 ?restu4
  case hyu4 => (intro w' hSw; obtain ⟨kc1, kc2, kc3, kc4, kc5, kc6⟩ := KC.out w' hSw.out; clear hSw; go_simp; try with_reducible rfl)
  simp only [ptk]
  refine tak 6 ?vu5 rfl ?hyu5 ?restu5
  case hyu5 => (intro w' hSw; obtain ⟨kc1, kc2, kc3, kc4, kc5, kc6⟩ := KC.out w' hSw.out; clear hSw; go_simp; try with_reducible rfl)
  simp only [ptk]
  refine tak 7 ?vu6 rfl ?hyu6 ?restu6
  case hyu6 => (intro w' hSw; obtain ⟨kc1, kc2, kc3, kc4, kc5, kc6⟩ := KC.out w' hSw.out; clear hSw; go_simp; try with_reducible rfl)
  simp only [ptk]
  refine tak 9 ?vu7 rfl ?hyu7 ?restu7
  case hyu7 => (intro w' hSw; obtain ⟨kc1, kc2, kc3, kc4, kc5, kc6⟩ := KC.out w' hSw.out; clear hSw; go_simp; try with_reducible rfl)
  simp only [ptk]
  refine tak 10 ?vu8 rfl ?hyu8 ?restu8
  case hyu8 => (intro w' hSw; obtain ⟨kc1, kc2, kc3, kc4, kc5, kc6⟩ := KC.out w' hSw.out; clear hSw; go_simp; try with_reducible rfl)
  simp only [ptk]
  refine tak 12 ?vu9 rfl ?hyu9 ?restu9
  case hyu9 => (intro w' hSw; obtain ⟨kc1, kc2, kc3, kc4, kc5, kc6⟩ := KC.out w' hSw.out; clear hSw; go_simp; try with_reducible rfl)
  simp only [ptk]
  refine tak 13 ?vu10 rfl ?hyu10 ?restu10
  case hyu10 => (intro w' hSw; obtain ⟨kc1, kc2, kc3, kc4, kc5, kc6⟩ := KC.out w' hSw.out; clear hSw; go_simp; try with_reducible rfl)
  simp only [ptk]
  refine tak 15 ?vu11 rfl ?hyu11 ?restu11
  case hyu11 => (intro w' hSw; obtain ⟨kc1, kc2, kc3, kc4, kc5, kc6⟩ := KC.out w' hSw.out; clear hSw; go_simp; try with_reducible rfl)
  simp only [ptk]
  refine tak 16 ?vu12 rfl ?hyu12 ?restu12
  case hyu12 => (intro w' hSw; obtain ⟨kc1, kc2, kc3, kc4, kc5, kc6⟩ := KC.out w' hSw.out; clear hSw; go_simp; try with_reducible rfl)
  simp only [ptk]
  have R0 := hHeld
  clear hHeld
  have K1 : Hid (Blk (World.drew W) (w.heap.size + 1) 30 [.slice none 0 0, .slice none 0 0, .slice none 0 0, .slice none 0 0, .slice none 0 0, .slice none 0 0]) := K1
  have HWZ : Hid ((World.drew W).heap.size = w.heap.size + 2) := HWZ
  generalize World.drew W = v0 at *
  have z0 : Hid (w.heap.size + 2 ≤ v0.heap.size) := HH (by have := HWZ.out; omega)
  refine rdy [2] ?_
  refine AllReadyH.cons rfl (fun K hK => ?_) AllReadyH.nil
  go_simp
  go_at_call 107
  refine (C1.out v0 (HW0.out.trans (R0.out.mono (by omega)))).mono ?_
  rintro e' v1 ⟨A1, d1, rfl, hd, hO, hb⟩
  have R1 : Hid (Below (w.heap.size + 1) W v1) := HH (R0.out.trans (hb.mono (by have := z0.out; omega)))
  have z1 : Hid (w.heap.size + 2 ≤ v1.heap.size) := HH (Nat.le_trans z0.out hb.size)
  have K1 := HH (K1.out.after hb)
  have F1 : Hid (Fr v1 (w.heap.size + 2) A1 (cs strC (x.stops))) := HH (fr_own hO.out z0.out)
  clear hb hO hd
  dsimp only
  refine hK.out _ _ R1 (fun hHeld => ?_)
  clear hK K
  refine rdy [5] ?_
  refine AllReadyH.cons rfl (fun K hK => ?_) AllReadyH.nil
  go_simp
  go_at_call 142
  refine (C2.out v1 (HW0.out.trans (R1.out.mono (by omega)))).mono ?_
  rintro e' v2 ⟨A2, d2, rfl, hd, hO, hb⟩
  have R2 : Hid (Below (w.heap.size + 1) W v2) := HH (R1.out.trans (hb.mono (by have := z1.out; omega)))
  have z2 : Hid (w.heap.size + 2 ≤ v2.heap.size) := HH (Nat.le_trans z1.out hb.size)
  have K1 := HH (K1.out.after hb)
  have F1 := HH (F1.out.later hb)
  have F2 : Hid (Fr v2 (w.heap.size + 2) A2 (cs strC (x.paths.map (·.name)))) := HH (fr_own hO.out z1.out)
  clear hb hO hd
  dsimp only
  refine hK.out _ _ R2 (fun hHeld => ?_)
  clear hK K
  refine rdy [8] ?_
  refine AllReadyH.cons rfl (fun K hK => ?_) AllReadyH.nil
  go_simp
  go_at_call 144
  refine (C3.out v2 (HW0.out.trans (R2.out.mono (by omega)))).mono ?_
  rintro e' v3 ⟨A3, d3, rfl, hd, hO, hb⟩
  have R3 : Hid (Below (w.heap.size + 1) W v3) := HH (R2.out.trans (hb.mono (by have := z2.out; omega)))
  have z3 : Hid (w.heap.size + 2 ≤ v3.heap.size) := HH (Nat.le_trans z2.out hb.size)
  have K1 := HH (K1.out.after hb)
  have F1 := HH (F1.out.later hb)
  have F2 := HH (F2.out.later hb)
  have F3 : Hid (Fr v3 (w.heap.size + 2) A3 (cs strC (x.doors.map (·.name)))) := HH (fr_own hO.out z2.out)
  clear hb hO hd
  dsimp only
  refine hK.out _ _ R3 (fun hHeld => ?_)
  clear hK K
  refine rdy [11] ?_
  refine AllReadyH.cons rfl (fun K hK => ?_) AllReadyH.nil
  go_simp
  go_at_call 146
  refine (C4.out v3 (HW0.out.trans (R3.out.mono (by omega)))).mono ?_
  rintro e' v4 ⟨A4, d4, rfl, hd, hO, hb⟩
  have R4 : Hid (Below (w.heap.size + 1) W v4) := HH (R3.out.trans (hb.mono (by have := z3.out; omega)))
  have z4 : Hid (w.heap.size + 2 ≤ v4.heap.size) := HH (Nat.le_trans z3.out hb.size)
  have K1 := HH (K1.out.after hb)
  have F1 := HH (F1.out.later hb)
  have F2 := HH (F2.out.later hb)
  have F3 := HH (F3.out.later hb)
  have F4 : Hid (Fr v4 (w.heap.size + 2) A4 (cs strC (x.routes.map (·.name)))) := HH (fr_own hO.out z3.out)
  clear hb hO hd
  dsimp only
  refine hK.out _ _ R4 (fun hHeld => ?_)
  clear hK K
  refine rdy [14] ?_
  refine AllReadyH.cons rfl (fun K hK => ?_) AllReadyH.nil
  go_simp
  go_at_call 148
  refine (C5.out v4 (HW0.out.trans (R4.out.mono (by omega)))).mono ?_
  rintro e' v5 ⟨A5, d5, rfl, hd, hO, hb⟩
  have R5 : Hid (Below (w.heap.size + 1) W v5) := HH (R4.out.trans (hb.mono (by have := z4.out; omega)))
  have z5 : Hid (w.heap.size + 2 ≤ v5.heap.size) := HH (Nat.le_trans z4.out hb.size)
  have K1 := HH (K1.out.after hb)
  have F1 := HH (F1.out.later hb)
  have F2 := HH (F2.out.later hb)
  have F3 := HH (F3.out.later hb)
  have F4 := HH (F4.out.later hb)
  have F5 : Hid (Fr v5 (w.heap.size + 2) A5 (cs strC (x.trips.map (·.name)))) := HH (fr_own hO.out z4.out)
  clear hb hO hd
  dsimp only
  refine hK.out _ _ R5 (fun hHeld => ?_)
  clear hK K
  refine rdy [17] ?_
  refine AllReadyH.cons rfl (fun K hK => ?_) AllReadyH.nil
  go_simp
  go_at_call 150
  refine (C6.out v5 (HW0.out.trans (R5.out.mono (by omega)))).mono ?_
  rintro e' v6 ⟨A6, d6, rfl, hd, hO, hb⟩
  have R6 : Hid (Below (w.heap.size + 1) W v6) := HH (R5.out.trans (hb.mono (by have := z5.out; omega)))
  have z6 : Hid (w.heap.size + 2 ≤ v6.heap.size) := HH (Nat.le_trans z5.out hb.size)
  have K1 := HH (K1.out.after hb)
  have F1 := HH (F1.out.later hb)
  have F2 := HH (F2.out.later hb)
  have F3 := HH (F3.out.later hb)
  have F4 := HH (F4.out.later hb)
  have F5 := HH (F5.out.later hb)
  have F6 : Hid (Fr v6 (w.heap.size + 2) A6 (cs strC (x.hazards.map (·.name)))) := HH (fr_own hO.out z5.out)
  clear hb hO hd
  dsimp only
  refine hK.out _ _ R6 (fun hHeld => ?_)
  clear hK K
  refine tak 18 ?vu13 rfl ?hyu13 ?restu13
  case hyu13 => (intro w' hSw; clear hSw; go_simp; try with_reducible rfl)
  simp only [ptk]
  refine rdy [19] ?_
  refine AllReadyH.cons rfl (fun K hK => ?_) AllReadyH.nil
  have q0 : v6.cell? ⟨w.heap.size + 1, 0, none⟩ = some (.slice none 0 0) := K1.out.cell 0
  have q1 : v6.cell? ⟨w.heap.size + 1, 1, none⟩ = some (.slice none 0 0) := K1.out.cell 1
  have q2 : v6.cell? ⟨w.heap.size + 1, 2, none⟩ = some (.slice none 0 0) := K1.out.cell 2
  have q3 : v6.cell? ⟨w.heap.size + 1, 3, none⟩ = some (.slice none 0 0) := K1.out.cell 3
  have q4 : v6.cell? ⟨w.heap.size + 1, 4, none⟩ = some (.slice none 0 0) := K1.out.cell 4
  have q5 : v6.cell? ⟨w.heap.size + 1, 5, none⟩ = some (.slice none 0 0) := K1.out.cell 5
  have qf : ∀ i, v6.frozen? ⟨w.heap.size + 1, i, none⟩ = false := fun i => K1.out.frozen i
  go_simp
  clear qf q0 q1 q2 q3 q4 q5
  change K _ (sto6 v6 (w.heap.size + 1) (.slice A1 n1 d1) (.slice A2 n2 d2) (.slice A3 n3 d3) (.slice A4 n4 d4) (.slice A5 n5 d5) (.slice A6 n6 d6))
  have HC : Hid (Ch (· = w.heap.size + 1) v6 (sto6 v6 (w.heap.size + 1) (.slice A1 n1 d1) (.slice A2 n2 d2) (.slice A3 n3 d3) (.slice A4 n4 d4) (.slice A5 n5 d5) (.slice A6 n6 d6))) := HH (sto6_ch _ _ _ _ _ _ _ _)
  have R7 : Hid (Below (w.heap.size + 1) W (sto6 v6 (w.heap.size + 1) (.slice A1 n1 d1) (.slice A2 n2 d2) (.slice A3 n3 d3) (.slice A4 n4 d4) (.slice A5 n5 d5) (.slice A6 n6 d6))) := HH (below_ch R6.out (by have := z6.out; omega) HC.out (Nat.le_refl _))
  have K2 : Hid (Blk (sto6 v6 (w.heap.size + 1) (.slice A1 n1 d1) (.slice A2 n2 d2) (.slice A3 n3 d3) (.slice A4 n4 d4) (.slice A5 n5 d5) (.slice A6 n6 d6)) (w.heap.size + 1) 30 [.slice A1 n1 d1, .slice A2 n2 d2, .slice A3 n3 d3, .slice A4 n4 d4, .slice A5 n5 d5, .slice A6 n6 d6]) := HH (sto6_blk K1.out _ _ _ _ _ _)
  have F1 := HH (F1.out.low HC.out (fun k e => by omega))
  have F2 := HH (F2.out.low HC.out (fun k e => by omega))
  have F3 := HH (F3.out.low HC.out (fun k e => by omega))
  have F4 := HH (F4.out.low HC.out (fun k e => by omega))
  have F5 := HH (F5.out.low HC.out (fun k e => by omega))
  have F6 := HH (F6.out.low HC.out (fun k e => by omega))
  generalize (sto6 v6 (w.heap.size + 1) (.slice A1 n1 d1) (.slice A2 n2 d2) (.slice A3 n3 d3) (.slice A4 n4 d4) (.slice A5 n5 d5) (.slice A6 n6 d6)) = v7 at *
  refine hK.out _ _ R7 (fun hHeld => ?_)
  clear hK K hHeld
  refine wpAnyH_done (by kernel_rfl) ?_ _
  go_wp2_with fail
  refine bodyPost_ret (na_read rfl K2.out) rfl ?_
  refine ⟨⟨A1, A2, A3, A4, A5, A6, d1, d2, d3, d4, d5, d6⟩, ?_, ?_, HW0.out.trans (R7.out.mono (by omega))⟩
  · simp only [namesX, naV, List.length_map, N1.out, N2.out, N3.out, N4.out, N5.out, N6.out]
  · exact ⟨F1.out.down (by omega), F2.out.down (by omega), F3.out.down (by omega), F4.out.down (by omega), F5.out.down (by omega), F6.out.down (by omega)⟩
end Go.Proofs.YtfefnfifeaihhaaGreat.Wo
