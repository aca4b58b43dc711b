/- The kit's OwnSheet: a sheet in memory of the call's own, all rows apart, proved by walking its text. Conditions: the sheet's rows have at most a million things. -/
import Derived.Test.YtgdanbfglefiiaaGreatWoRnA
namespace Go.Proofs.YtgdanbfglefiiaaGreat.Sh
open Go.ChangeShapes Go.WideShapes Go.ChangeAt Go.RowKit
open Lx
set_option linter.unusedVariables false
set_option linter.unusedSimpArgs false
def OwnShX (w : World) (x : SheetM) (e : Ending) (w' : World) : Prop :=
  ∃ (A1 A2 A3 A4 A5 A6 : Option Addr) (c1 c2 c3 c4 c5 c6 : Nat), e = .returned (shV x ⟨A1, A2, A3, A4, A5, A6, c1, c2, c3, c4, c5, c6⟩) ∧ (∃ s, OwX w' (w.heap.size + 1) s x (.slice A1 x.stops.length c1) (.slice A2 x.paths.length c2) (.slice A3 x.doors.length c3) (.slice A4 x.routes.length c4) (.slice A5 x.trips.length c5) (.slice A6 x.hazards.length c6)) ∧ Below w.heap.size w w'
def OwLoopX (w W : World) (x : SheetM) (s : Nat) (A1 A2 A3 A5 A6 : Option Addr) (c1 c2 c3 c5 c6 : Nat) (v4 : Value) (wr : World) : Prop :=
  ∃ (i : Nat) (A4 : Option Addr) (c4 : Nat), v4 = .int .i64 i ∧ i ≤ x.routes.length ∧ Hid (Blk wr s 44 [.int .i64 x.horizon, .slice A1 x.stops.length c1, .slice A2 x.paths.length c2, .slice A3 x.doors.length c3, .slice A4 i c4, .slice A5 x.trips.length c5, .slice A6 x.hazards.length c6]) ∧ Hid (OwX wr (w.heap.size + 1) s { x with routes := x.routes.take i } (.slice A1 x.stops.length c1) (.slice A2 x.paths.length c2) (.slice A3 x.doors.length c3) (.slice A4 i c4) (.slice A5 x.trips.length c5) (.slice A6 x.hazards.length c6)) ∧ Hid (Below (w.heap.size + 2) W wr)
theorem sh_readX {W : World} {n0 : Nat} {a0 a1 a2 a3 a4 a5 a6 : Value} {tmps : Array Value} (h2 : tmps[2]? = some (.pointer (some ⟨n0, 0, none⟩))) (k0 : Blk W n0 44 [a0, a1, a2, a3, a4, a5, a6]) :
    (results Tryz.f18 tmps).run Tryz.prog W = .ok (.agg #[a0, a1, a2, a3, a4, a5, a6]) W := by
  have x0 : W.cell? ⟨n0, 0, none⟩ = some a0 := k0.cell 0
  have x1 : W.cell? ⟨n0, 1, none⟩ = some a1 := k0.cell 1
  have x2 : W.cell? ⟨n0, 2, none⟩ = some a2 := k0.cell 2
  have x3 : W.cell? ⟨n0, 3, none⟩ = some a3 := k0.cell 3
  have x4 : W.cell? ⟨n0, 4, none⟩ = some a4 := k0.cell 4
  have x5 : W.cell? ⟨n0, 5, none⟩ = some a5 := k0.cell 5
  have x6 : W.cell? ⟨n0, 6, none⟩ = some a6 := k0.cell 6
  simp [results, Tryz.results18, go_sem, h2, x0, x1, x2, x3, x4, x5, x6]
theorem below_upX {B : Nat} {a w w' : World} (h : Below a.heap.size a w) (h2 : Below B w w') (hB : a.heap.size ≤ B) : Below a.heap.size a w' := h.trans (h2.mono hB)
set_option maxRecDepth 100000 in
set_option maxHeartbeats 40000000 in
theorem own_sheetX (x : SheetM) (p : ShA) (w : World) (h : Sh w (· < w.heap.size) x p) (hf : ShFew x) : Calls Tryz.prog 18 #[shV x p] w (OwnShX w x) := by
  have HH := Lib.hid h
  have HF := Lib.hid hf
  clear h hf
  dsimp only [shV]
  go_enter Tryz.func18, Tryz.ntmps18
  go_wp2_with fail
  obtain ⟨W, hW⟩ : ∃ W, W = (w.alloc (.cells #[.int .i64 x.horizon, .slice p.a1 x.stops.length p.c1, .slice p.a2 x.paths.length p.c2, .slice p.a3 x.doors.length p.c3, .slice p.a4 x.routes.length p.c4, .slice p.a5 x.trips.length p.c5, .slice p.a6 x.hazards.length p.c6] 44)).alloc (.cells #[.int .i64 0, .slice none 0 0, .slice none 0 0, .slice none 0 0, .slice none 0 0, .slice none 0 0, .slice none 0 0] 44) := ⟨_, rfl⟩
  have HW0 : Hid (Below w.heap.size w W) := Lib.hid (by rw [hW]; exact two_box _ _ _)
  have K0 : Hid (Blk W w.heap.size 44 [.int .i64 x.horizon, .slice p.a1 x.stops.length p.c1, .slice p.a2 x.paths.length p.c2, .slice p.a3 x.doors.length p.c3, .slice p.a4 x.routes.length p.c4, .slice p.a5 x.trips.length p.c5, .slice p.a6 x.hazards.length p.c6]) := Lib.hid (by rw [hW]; exact (Blk.new w _ _).alloc _)
  have K1 : Hid (Blk W (w.heap.size + 1) 44 [.int .i64 0, .slice none 0 0, .slice none 0 0, .slice none 0 0, .slice none 0 0, .slice none 0 0, .slice none 0 0]) := Lib.hid (by rw [hW]; exact Blk.new2 w _ _ _)
  have HWZ : Hid (W.heap.size = w.heap.size + 2) := Lib.hid (by rw [hW]; simp)
  rw [← hW]
  clear hW
  have KC : Hid (∀ w', Below (w.heap.size + 2) W w' → w'.cell? ⟨w.heap.size, 0, none⟩ = some (.int .i64 x.horizon) ∧ w'.cell? ⟨w.heap.size, 1, none⟩ = some (.slice p.a1 x.stops.length p.c1) ∧ w'.cell? ⟨w.heap.size, 2, none⟩ = some (.slice p.a2 x.paths.length p.c2) ∧ w'.cell? ⟨w.heap.size, 3, none⟩ = some (.slice p.a3 x.doors.length p.c3) ∧ w'.cell? ⟨w.heap.size, 5, none⟩ = some (.slice p.a5 x.trips.length p.c5) ∧ w'.cell? ⟨w.heap.size, 6, none⟩ = some (.slice p.a6 x.hazards.length p.c6)) := Lib.hid (fun w' hb => by
    have a := K0.out.below hb (by omega)
    exact ⟨a.cell 0, a.cell 1, a.cell 2, a.cell 3, a.cell 5, a.cell 6⟩)
  have C1 : Hid (∀ w', Below (w.heap.size + 2) W w' → Calls Tryz.prog 45 #[.slice p.a1 x.stops.length p.c1] w' (NewRow w' 9 1 (cs strC x.stops) x.stops.length)) := Lib.hid (fun w' hb => own_str w' p.a1 x.stops.length p.c1 x.stops (Lib.hid rfl) HF.out.l1 (rd_later HH.out.r1 (below_upX HW0.out hb (by omega))))
  have C2 : Hid (∀ w', Below (w.heap.size + 2) W w' → Calls Tryz.prog 46 #[.slice p.a2 x.paths.length p.c2] w' (NewRow w' 65 4 (cs paC x.paths) x.paths.length)) := Lib.hid (fun w' hb => own_path w' p.a2 x.paths.length p.c2 x.paths (Lib.hid rfl) HF.out.l2 (rd_later HH.out.r2 (below_upX HW0.out hb (by omega))))
  have C3 : Hid (∀ w', Below (w.heap.size + 2) W w' → Calls Tryz.prog 29 #[.slice p.a3 x.doors.length p.c3] w' (NewRow w' 55 7 (cs doC x.doors) x.doors.length)) := Lib.hid (fun w' hb => own_door w' p.a3 x.doors.length p.c3 x.doors (Lib.hid rfl) HF.out.l3 (rd_later HH.out.r3 (below_upX HW0.out hb (by omega))))
  have C5 : Hid (∀ w', Below (w.heap.size + 2) W w' → Calls Tryz.prog 27 #[.slice p.a5 x.trips.length p.c5] w' (NewRow w' 67 5 (cs trC x.trips) x.trips.length)) := Lib.hid (fun w' hb => own_trip w' p.a5 x.trips.length p.c5 x.trips (Lib.hid rfl) HF.out.l5 (rd_later HH.out.r5 (below_upX HW0.out hb (by omega))))
  have C6 : Hid (∀ w', Below (w.heap.size + 2) W w' → Calls Tryz.prog 28 #[.slice p.a6 x.hazards.length p.c6] w' (NewRow w' 78 5 (cs haC x.hazards) x.hazards.length)) := Lib.hid (fun w' hb => own_haz w' p.a6 x.hazards.length p.c6 x.hazards (Lib.hid rfl) HF.out.l6 (rd_later HH.out.r6 (below_upX HW0.out hb (by omega))))
  go_cut [3] from 5 to 22 (fun v3 wc => ∃ (s : Nat) (A1 A2 A3 A5 A6 : Option Addr) (c1 c2 c3 c5 c6 : Nat), v3 = .pointer (some ⟨s, 0, none⟩) ∧ Hid (w.heap.size + 1 < s) ∧ Hid (Blk wc s 44 [.int .i64 x.horizon, .slice A1 x.stops.length c1, .slice A2 x.paths.length c2, .slice A3 x.doors.length c3, .slice none 0 0, .slice A5 x.trips.length c5, .slice A6 x.hazards.length c6]) ∧ Hid (wc.ownsRow (w.heap.size + 2) 9 1 (.slice A1 x.stops.length c1) x.stops.length (cs strC x.stops)) ∧ Hid (wc.ownsRow (w.heap.size + 2) 65 4 (.slice A2 x.paths.length c2) x.paths.length (cs paC x.paths)) ∧ Hid (wc.ownsRow (w.heap.size + 2) 55 7 (.slice A3 x.doors.length c3) x.doors.length (cs doC x.doors)) ∧ Hid (wc.ownsRow (w.heap.size + 2) 67 5 (.slice A5 x.trips.length c5) x.trips.length (cs trC x.trips)) ∧ Hid (wc.ownsRow (w.heap.size + 2) 78 5 (.slice A6 x.hazards.length c6) x.hazards.length (cs haC x.hazards)) ∧ Hid (Below (w.heap.size + 2) W wc))
  case first =>
    refine wp_region_held_drew (S := fun w' => Hid (Below (w.heap.size + 2) W w')) (by kernel_rfl) ?_ (fun hHeld => ?_)
    · exact Lib.hid (below_drew (Below.refl _ _))
    refine wpAnyH_take (i := 0) (v := ?vu1) rfl (by kernel_rfl) (by kernel_rfl) (by kernel_rfl) (fun _ _ _ h => h) (Or.inl ⟨by rfl, ?hyu1⟩) (by assumption) ?restu1
    case hyu1 => (intro w' hSw; obtain ⟨kc0, kc1, kc2, kc3, kc5, kc6⟩ := KC.out w' hSw.out; clear hSw; go_simp; try with_reducible rfl)
    try simp only [Act.put, List.setIfInBounds_toArray, List.set_cons_zero, List.set_cons_succ]
    refine wpAnyH_take (i := 1) (v := ?vu2) rfl (by kernel_rfl) (by kernel_rfl) (by kernel_rfl) (fun _ _ _ h => h) (Or.inl ⟨by rfl, ?hyu2⟩) (by assumption) ?restu2
    case hyu2 => (intro w' hSw; obtain ⟨kc0, kc1, kc2, kc3, kc5, kc6⟩ := KC.out w' hSw.out; clear hSw; go_simp; try with_reducible rfl)
    try simp only [Act.put, List.setIfInBounds_toArray, List.set_cons_zero, List.set_cons_succ]
    refine wpAnyH_take (i := 2) (v := ?vu3) rfl (by kernel_rfl) (by kernel_rfl) (by kernel_rfl) (fun _ _ _ h => h) (Or.inl ⟨by rfl, ?hyu3⟩) (by assumption) ?restu3
    case hyu3 => (intro w' hSw; obtain ⟨kc0, kc1, kc2, kc3, kc5, kc6⟩ := KC.out w' hSw.out; clear hSw; go_simp; try with_reducible rfl)
    try simp only [Act.put, List.setIfInBounds_toArray, List.set_cons_zero, List.set_cons_succ]
    refine wpAnyH_take (i := 3) (v := ?vu4) rfl (by kernel_rfl) (by kernel_rfl) (by kernel_rfl) (fun _ _ _ h => h) (Or.inl ⟨by rfl, ?hyu4⟩) (by assumption) ?restu4
    case hyu4 => (intro w' hSw; obtain ⟨kc0, kc1, kc2, kc3, kc5, kc6⟩ := KC.out w' hSw.out; clear hSw; go_simp; try with_reducible rfl)
    try simp only [Act.put, List.setIfInBounds_toArray, List.set_cons_zero, List.set_cons_succ]
    refine wpAnyH_take (i := 5) (v := ?vu5) rfl (by kernel_rfl) (by kernel_rfl) (by kernel_rfl) (fun _ _ _ h => h) (Or.inl ⟨by rfl, ?hyu5⟩) (by assumption) ?restu5
    case hyu5 => (intro w' hSw; obtain ⟨kc0, kc1, kc2, kc3, kc5, kc6⟩ := KC.out w' hSw.out; clear hSw; go_simp; try with_reducible rfl)
    try simp only [Act.put, List.setIfInBounds_toArray, List.set_cons_zero, List.set_cons_succ]
    refine wpAnyH_take (i := 6) (v := ?vu6) rfl (by kernel_rfl) (by kernel_rfl) (by kernel_rfl) (fun _ _ _ h => h) (Or.inl ⟨by rfl, ?hyu6⟩) (by assumption) ?restu6
    case hyu6 => (intro w' hSw; obtain ⟨kc0, kc1, kc2, kc3, kc5, kc6⟩ := KC.out w' hSw.out; clear hSw; go_simp; try with_reducible rfl)
    try simp only [Act.put, List.setIfInBounds_toArray, List.set_cons_zero, List.set_cons_succ]
    refine wpAnyH_take (i := 8) (v := ?vu7) rfl (by kernel_rfl) (by kernel_rfl) (by kernel_rfl) (fun _ _ _ h => h) (Or.inl ⟨by rfl, ?hyu7⟩) (by assumption) ?restu7
    case hyu7 => (intro w' hSw; obtain ⟨kc0, kc1, kc2, kc3, kc5, kc6⟩ := KC.out w' hSw.out; clear hSw; go_simp; try with_reducible rfl)
    try simp only [Act.put, List.setIfInBounds_toArray, List.set_cons_zero, List.set_cons_succ]
    refine wpAnyH_take (i := 9) (v := ?vu8) rfl (by kernel_rfl) (by kernel_rfl) (by kernel_rfl) (fun _ _ _ h => h) (Or.inl ⟨by rfl, ?hyu8⟩) (by assumption) ?restu8
    case hyu8 => (intro w' hSw; obtain ⟨kc0, kc1, kc2, kc3, kc5, kc6⟩ := KC.out w' hSw.out; clear hSw; go_simp; try with_reducible rfl)
    try simp only [Act.put, List.setIfInBounds_toArray, List.set_cons_zero, List.set_cons_succ]
    refine wpAnyH_take (i := 11) (v := ?vu9) rfl (by kernel_rfl) (by kernel_rfl) (by kernel_rfl) (fun _ _ _ h => h) (Or.inl ⟨by rfl, ?hyu9⟩) (by assumption) ?restu9
    case hyu9 => (intro w' hSw; obtain ⟨kc0, kc1, kc2, kc3, kc5, kc6⟩ := KC.out w' hSw.out; clear hSw; go_simp; try with_reducible rfl)
    try simp only [Act.put, List.setIfInBounds_toArray, List.set_cons_zero, List.set_cons_succ]
    refine wpAnyH_take (i := 12) (v := ?vu10) rfl (by kernel_rfl) (by kernel_rfl) (by kernel_rfl) (fun _ _ _ h => h) (Or.inl ⟨by rfl, ?hyu10⟩) (by assumption) ?restu10
    case hyu10 => (intro w' hSw; obtain ⟨kc0, kc1, kc2, kc3, kc5, kc6⟩ := KC.out w' hSw.out; clear hSw; go_simp; try with_reducible rfl)
    try simp only [Act.put, List.setIfInBounds_toArray, List.set_cons_zero, List.set_cons_succ]
    refine wpAnyH_take (i := 14) (v := ?vu11) rfl (by kernel_rfl) (by kernel_rfl) (by kernel_rfl) (fun _ _ _ h => h) (Or.inl ⟨by rfl, ?hyu11⟩) (by assumption) ?restu11
    case hyu11 => (intro w' hSw; obtain ⟨kc0, kc1, kc2, kc3, kc5, kc6⟩ := KC.out w' hSw.out; clear hSw; go_simp; try with_reducible rfl)
    try simp only [Act.put, List.setIfInBounds_toArray, List.set_cons_zero, List.set_cons_succ]
    refine wpAnyH_take (i := 15) (v := ?vu12) rfl (by kernel_rfl) (by kernel_rfl) (by kernel_rfl) (fun _ _ _ h => h) (Or.inl ⟨by rfl, ?hyu12⟩) (by assumption) ?restu12
    case hyu12 => (intro w' hSw; obtain ⟨kc0, kc1, kc2, kc3, kc5, kc6⟩ := KC.out w' hSw.out; clear hSw; go_simp; try with_reducible rfl)
    try simp only [Act.put, List.setIfInBounds_toArray, List.set_cons_zero, List.set_cons_succ]
    have D0 := hHeld
    clear hHeld
    have z0 : Hid (W.heap.size ≤ (World.drew W).heap.size) := Lib.hid (Nat.le_refl _)
    generalize World.drew W = v0 at *
    refine wpAnyH_ready (rs := [4, 18]) (by kernel_rfl) (by simp) ?_
    refine AllReadyH.cons rfl (fun K hK => ?_) ?_
    · go_simp
      go_at_call 45
      refine (C1.out _ D0.out).mono ?_
      rintro e' v13 ⟨A1, c1, rfl, hc1, hO, hb⟩
      have D14 : Hid (Below (w.heap.size + 2) W v13) := Lib.hid (D0.out.trans (hb.mono (by have := HWZ.out; have := z0.out; omega)))
      have z15 : Hid (v0.heap.size ≤ v13.heap.size) := Lib.hid hb.size
      have O16 : Hid (v13.ownsRow (w.heap.size + 2) 9 1 (.slice A1 x.stops.length c1) x.stops.length (cs strC x.stops)) := Lib.hid (own_down hO.out (by have := HWZ.out; have := z0.out; omega))
      clear hb hO
      dsimp only
      refine hK.out _ _ D14 (fun hHeld => ?_)
      clear hK K
      refine wpAnyH_ready (rs := [7, 18]) (by kernel_rfl) (by simp) ?_
      refine AllReadyH.cons rfl (fun K hK => ?_) ?_
      · go_simp
        go_at_call 46
        refine (C2.out _ D14.out).mono ?_
        rintro e' v17 ⟨A2, c2, rfl, hc2, hO, hb⟩
        have D18 : Hid (Below (w.heap.size + 2) W v17) := Lib.hid (D14.out.trans (hb.mono (by have := HWZ.out; have := z0.out; have := z15.out; omega)))
        have z19 : Hid (v13.heap.size ≤ v17.heap.size) := Lib.hid hb.size
        have O20 : Hid (v17.ownsRow (w.heap.size + 2) 65 4 (.slice A2 x.paths.length c2) x.paths.length (cs paC x.paths)) := Lib.hid (own_down hO.out (by have := HWZ.out; have := z0.out; have := z15.out; omega))
        have O21 := Lib.hid (own_after O16.out hb)
        clear hb hO
        dsimp only
        refine hK.out _ _ D18 (fun hHeld => ?_)
        clear hK K
        refine wpAnyH_ready (rs := [10, 18]) (by kernel_rfl) (by simp) ?_
        refine AllReadyH.cons rfl (fun K hK => ?_) ?_
        · go_simp
          go_at_call 29
          refine (C3.out _ D18.out).mono ?_
          rintro e' v22 ⟨A3, c3, rfl, hc3, hO, hb⟩
          have D23 : Hid (Below (w.heap.size + 2) W v22) := Lib.hid (D18.out.trans (hb.mono (by have := HWZ.out; have := z0.out; have := z15.out; have := z19.out; omega)))
          have z24 : Hid (v17.heap.size ≤ v22.heap.size) := Lib.hid hb.size
          have O25 : Hid (v22.ownsRow (w.heap.size + 2) 55 7 (.slice A3 x.doors.length c3) x.doors.length (cs doC x.doors)) := Lib.hid (own_down hO.out (by have := HWZ.out; have := z0.out; have := z15.out; have := z19.out; omega))
          have O26 := Lib.hid (own_after O21.out hb)
          have O27 := Lib.hid (own_after O20.out hb)
          clear hb hO
          dsimp only
          refine hK.out _ _ D23 (fun hHeld => ?_)
          clear hK K
          refine wpAnyH_ready (rs := [13, 18]) (by kernel_rfl) (by simp) ?_
          refine AllReadyH.cons rfl (fun K hK => ?_) ?_
          · go_simp
            go_at_call 27
            refine (C5.out _ D23.out).mono ?_
            rintro e' v28 ⟨A5, c5, rfl, hc5, hO, hb⟩
            have D29 : Hid (Below (w.heap.size + 2) W v28) := Lib.hid (D23.out.trans (hb.mono (by have := HWZ.out; have := z0.out; have := z15.out; have := z19.out; have := z24.out; omega)))
            have z30 : Hid (v22.heap.size ≤ v28.heap.size) := Lib.hid hb.size
            have O31 : Hid (v28.ownsRow (w.heap.size + 2) 67 5 (.slice A5 x.trips.length c5) x.trips.length (cs trC x.trips)) := Lib.hid (own_down hO.out (by have := HWZ.out; have := z0.out; have := z15.out; have := z19.out; have := z24.out; omega))
            have O32 := Lib.hid (own_after O26.out hb)
            have O33 := Lib.hid (own_after O27.out hb)
            have O34 := Lib.hid (own_after O25.out hb)
            clear hb hO
            dsimp only
            refine hK.out _ _ D29 (fun hHeld => ?_)
            clear hK K
            refine wpAnyH_ready (rs := [16, 18]) (by kernel_rfl) (by simp) ?_
            refine AllReadyH.cons rfl (fun K hK => ?_) ?_
            · go_simp
              go_at_call 28
              refine (C6.out _ D29.out).mono ?_
              rintro e' v35 ⟨A6, c6, rfl, hc6, hO, hb⟩
              have D36 : Hid (Below (w.heap.size + 2) W v35) := Lib.hid (D29.out.trans (hb.mono (by have := HWZ.out; have := z0.out; have := z15.out; have := z19.out; have := z24.out; have := z30.out; omega)))
              have z37 : Hid (v28.heap.size ≤ v35.heap.size) := Lib.hid hb.size
              have O38 : Hid (v35.ownsRow (w.heap.size + 2) 78 5 (.slice A6 x.hazards.length c6) x.hazards.length (cs haC x.hazards)) := Lib.hid (own_down hO.out (by have := HWZ.out; have := z0.out; have := z15.out; have := z19.out; have := z24.out; have := z30.out; omega))
              have O39 := Lib.hid (own_after O32.out hb)
              have O40 := Lib.hid (own_after O33.out hb)
              have O41 := Lib.hid (own_after O34.out hb)
              have O42 := Lib.hid (own_after O31.out hb)
              clear hb hO
              dsimp only
              refine hK.out _ _ D36 (fun hHeld => ?_)
              clear hK K
              refine wpAnyH_take (i := 17) (v := ?vu43) rfl (by kernel_rfl) (by kernel_rfl) (by kernel_rfl) (fun _ _ _ h => h) (Or.inl ⟨by rfl, ?hyu43⟩) (by assumption) ?restu43
              case hyu43 => (intro w' hSw; clear hSw; go_simp; try with_reducible rfl)
              try simp only [Act.put, List.setIfInBounds_toArray, List.set_cons_zero, List.set_cons_succ]
              refine wpAnyH_ready (rs := [18]) (by kernel_rfl) (by simp) ?_
              refine AllReadyH.cons rfl (fun K hK => ?_) ?_
              · go_simp
                have D45 : Hid (Below (w.heap.size + 2) W (v35.alloc (.cells #[.int .i64 0, .slice none 0 0, .slice none 0 0, .slice none 0 0, .slice none 0 0, .slice none 0 0, .slice none 0 0] 44))) := Lib.hid (D36.out.alloc (by have := HWZ.out; have := z0.out; have := z15.out; have := z19.out; have := z24.out; have := z30.out; have := z37.out; omega) _)
                have z46 : Hid (v35.heap.size + 1 = (v35.alloc (.cells #[.int .i64 0, .slice none 0 0, .slice none 0 0, .slice none 0 0, .slice none 0 0, .slice none 0 0, .slice none 0 0] 44)).heap.size) := Lib.hid (by simp)
                have K47 : Hid (Blk (v35.alloc (.cells #[.int .i64 0, .slice none 0 0, .slice none 0 0, .slice none 0 0, .slice none 0 0, .slice none 0 0, .slice none 0 0] 44)) v35.heap.size 44 [.int .i64 0, .slice none 0 0, .slice none 0 0, .slice none 0 0, .slice none 0 0, .slice none 0 0, .slice none 0 0]) := Lib.hid (Blk.new v35 _ _)
                have O48 := Lib.hid (own_after (w' := v35.alloc (.cells #[.int .i64 0, .slice none 0 0, .slice none 0 0, .slice none 0 0, .slice none 0 0, .slice none 0 0, .slice none 0 0] 44)) O39.out (one_box _ _))
                have O49 := Lib.hid (own_after (w' := v35.alloc (.cells #[.int .i64 0, .slice none 0 0, .slice none 0 0, .slice none 0 0, .slice none 0 0, .slice none 0 0, .slice none 0 0] 44)) O40.out (one_box _ _))
                have O50 := Lib.hid (own_after (w' := v35.alloc (.cells #[.int .i64 0, .slice none 0 0, .slice none 0 0, .slice none 0 0, .slice none 0 0, .slice none 0 0, .slice none 0 0] 44)) O41.out (one_box _ _))
                have O51 := Lib.hid (own_after (w' := v35.alloc (.cells #[.int .i64 0, .slice none 0 0, .slice none 0 0, .slice none 0 0, .slice none 0 0, .slice none 0 0, .slice none 0 0] 44)) O42.out (one_box _ _))
                have O52 := Lib.hid (own_after (w' := v35.alloc (.cells #[.int .i64 0, .slice none 0 0, .slice none 0 0, .slice none 0 0, .slice none 0 0, .slice none 0 0, .slice none 0 0] 44)) O38.out (one_box _ _))
                generalize v35.alloc (.cells #[.int .i64 0, .slice none 0 0, .slice none 0 0, .slice none 0 0, .slice none 0 0, .slice none 0 0, .slice none 0 0] 44) = v44 at *
                refine hK.out _ _ D45 (fun hHeld => ?_)
                clear hK K
                refine wpAnyH_ready (rs := [19]) (by kernel_rfl) (by simp) ?_
                refine AllReadyH.cons rfl (fun K hK => ?_) AllReadyH.nil
                have q0 : v44.cell? ⟨v35.heap.size, 0, none⟩ = some (.int .i64 0) := K47.out.cell 0
                have q1 : v44.cell? ⟨v35.heap.size, 1, none⟩ = some (.slice none 0 0) := K47.out.cell 1
                have q2 : v44.cell? ⟨v35.heap.size, 2, none⟩ = some (.slice none 0 0) := K47.out.cell 2
                have q3 : v44.cell? ⟨v35.heap.size, 3, none⟩ = some (.slice none 0 0) := K47.out.cell 3
                have q4 : v44.cell? ⟨v35.heap.size, 4, none⟩ = some (.slice none 0 0) := K47.out.cell 4
                have q5 : v44.cell? ⟨v35.heap.size, 5, none⟩ = some (.slice none 0 0) := K47.out.cell 5
                have q6 : v44.cell? ⟨v35.heap.size, 6, none⟩ = some (.slice none 0 0) := K47.out.cell 6
                have qf : ∀ i, v44.frozen? ⟨v35.heap.size, i, none⟩ = false := fun i => K47.out.frozen i
                go_simp
                clear qf q0 q1 q2 q3 q4 q5 q6
                change K _ (sto7 v44 (v35.heap.size) (.int .i64 x.horizon) (.slice A1 x.stops.length c1) (.slice A2 x.paths.length c2) (.slice A3 x.doors.length c3) (.slice none 0 0) (.slice A5 x.trips.length c5) (.slice A6 x.hazards.length c6))
                have D53 : Hid (Below (w.heap.size + 2) W (sto7 v44 (v35.heap.size) (.int .i64 x.horizon) (.slice A1 x.stops.length c1) (.slice A2 x.paths.length c2) (.slice A3 x.doors.length c3) (.slice none 0 0) (.slice A5 x.trips.length c5) (.slice A6 x.hazards.length c6))) := Lib.hid (sto7_below D45.out (by have := HWZ.out; have := z0.out; have := z15.out; have := z19.out; have := z24.out; have := z30.out; have := z37.out; have := z46.out; omega))
                have K54 : Hid (Blk (sto7 v44 (v35.heap.size) (.int .i64 x.horizon) (.slice A1 x.stops.length c1) (.slice A2 x.paths.length c2) (.slice A3 x.doors.length c3) (.slice none 0 0) (.slice A5 x.trips.length c5) (.slice A6 x.hazards.length c6)) (v35.heap.size) 44 [.int .i64 x.horizon, .slice A1 x.stops.length c1, .slice A2 x.paths.length c2, .slice A3 x.doors.length c3, .slice none 0 0, .slice A5 x.trips.length c5, .slice A6 x.hazards.length c6]) := Lib.hid (sto7_blk K47.out)
                have O55 := Lib.hid (sto7_ch.own (w' := (sto7 v44 (v35.heap.size) (.int .i64 x.horizon) (.slice A1 x.stops.length c1) (.slice A2 x.paths.length c2) (.slice A3 x.doors.length c3) (.slice none 0 0) (.slice A5 x.trips.length c5) (.slice A6 x.hazards.length c6))) O48.out (own_ne_blk O48.out K47.out (by decide)))
                have O56 := Lib.hid (sto7_ch.own (w' := (sto7 v44 (v35.heap.size) (.int .i64 x.horizon) (.slice A1 x.stops.length c1) (.slice A2 x.paths.length c2) (.slice A3 x.doors.length c3) (.slice none 0 0) (.slice A5 x.trips.length c5) (.slice A6 x.hazards.length c6))) O49.out (own_ne_blk O49.out K47.out (by decide)))
                have O57 := Lib.hid (sto7_ch.own (w' := (sto7 v44 (v35.heap.size) (.int .i64 x.horizon) (.slice A1 x.stops.length c1) (.slice A2 x.paths.length c2) (.slice A3 x.doors.length c3) (.slice none 0 0) (.slice A5 x.trips.length c5) (.slice A6 x.hazards.length c6))) O50.out (own_ne_blk O50.out K47.out (by decide)))
                have O58 := Lib.hid (sto7_ch.own (w' := (sto7 v44 (v35.heap.size) (.int .i64 x.horizon) (.slice A1 x.stops.length c1) (.slice A2 x.paths.length c2) (.slice A3 x.doors.length c3) (.slice none 0 0) (.slice A5 x.trips.length c5) (.slice A6 x.hazards.length c6))) O51.out (own_ne_blk O51.out K47.out (by decide)))
                have O59 := Lib.hid (sto7_ch.own (w' := (sto7 v44 (v35.heap.size) (.int .i64 x.horizon) (.slice A1 x.stops.length c1) (.slice A2 x.paths.length c2) (.slice A3 x.doors.length c3) (.slice none 0 0) (.slice A5 x.trips.length c5) (.slice A6 x.hazards.length c6))) O52.out (own_ne_blk O52.out K47.out (by decide)))
                generalize (sto7 v44 (v35.heap.size) (.int .i64 x.horizon) (.slice A1 x.stops.length c1) (.slice A2 x.paths.length c2) (.slice A3 x.doors.length c3) (.slice none 0 0) (.slice A5 x.trips.length c5) (.slice A6 x.hazards.length c6)) = v60 at *
                refine hK.out _ _ D53 (fun hHeld => ?_)
                clear hK K
                refine wpAnyH_done (by kernel_rfl) ?_ _
                go_wp2_with fail
                go_meet
                exact ⟨_, _, _, _, _, _, _, _, _, _, _, rfl, Lib.hid (by have := HWZ.out; have := z0.out; have := z15.out; have := z19.out; have := z24.out; have := z30.out; have := z37.out; have := z46.out; omega), K54, O55, O56, O57, O58, O59, D53⟩
              exact AllReadyH.nil
            refine AllReadyH.cons rfl (fun K hK => ?_) ?_
            · go_simp
              have D62 : Hid (Below (w.heap.size + 2) W (v28.alloc (.cells #[.int .i64 0, .slice none 0 0, .slice none 0 0, .slice none 0 0, .slice none 0 0, .slice none 0 0, .slice none 0 0] 44))) := Lib.hid (D29.out.alloc (by have := HWZ.out; have := z0.out; have := z15.out; have := z19.out; have := z24.out; have := z30.out; omega) _)
              have z63 : Hid (v28.heap.size + 1 = (v28.alloc (.cells #[.int .i64 0, .slice none 0 0, .slice none 0 0, .slice none 0 0, .slice none 0 0, .slice none 0 0, .slice none 0 0] 44)).heap.size) := Lib.hid (by simp)
              have K64 : Hid (Blk (v28.alloc (.cells #[.int .i64 0, .slice none 0 0, .slice none 0 0, .slice none 0 0, .slice none 0 0, .slice none 0 0, .slice none 0 0] 44)) v28.heap.size 44 [.int .i64 0, .slice none 0 0, .slice none 0 0, .slice none 0 0, .slice none 0 0, .slice none 0 0, .slice none 0 0]) := Lib.hid (Blk.new v28 _ _)
              have O65 := Lib.hid (own_after (w' := v28.alloc (.cells #[.int .i64 0, .slice none 0 0, .slice none 0 0, .slice none 0 0, .slice none 0 0, .slice none 0 0, .slice none 0 0] 44)) O32.out (one_box _ _))
              have O66 := Lib.hid (own_after (w' := v28.alloc (.cells #[.int .i64 0, .slice none 0 0, .slice none 0 0, .slice none 0 0, .slice none 0 0, .slice none 0 0, .slice none 0 0] 44)) O33.out (one_box _ _))
              have O67 := Lib.hid (own_after (w' := v28.alloc (.cells #[.int .i64 0, .slice none 0 0, .slice none 0 0, .slice none 0 0, .slice none 0 0, .slice none 0 0, .slice none 0 0] 44)) O34.out (one_box _ _))
              have O68 := Lib.hid (own_after (w' := v28.alloc (.cells #[.int .i64 0, .slice none 0 0, .slice none 0 0, .slice none 0 0, .slice none 0 0, .slice none 0 0, .slice none 0 0] 44)) O31.out (one_box _ _))
              generalize v28.alloc (.cells #[.int .i64 0, .slice none 0 0, .slice none 0 0, .slice none 0 0, .slice none 0 0, .slice none 0 0, .slice none 0 0] 44) = v61 at *
              refine hK.out _ _ D62 (fun hHeld => ?_)
              clear hK K
              refine wpAnyH_ready (rs := [16]) (by kernel_rfl) (by simp) ?_
              refine AllReadyH.cons rfl (fun K hK => ?_) ?_
              · go_simp
                go_at_call 28
                refine (C6.out _ D62.out).mono ?_
                rintro e' v69 ⟨A6, c6, rfl, hc6, hO, hb⟩
                have D70 : Hid (Below (w.heap.size + 2) W v69) := Lib.hid (D62.out.trans (hb.mono (by have := HWZ.out; have := z0.out; have := z15.out; have := z19.out; have := z24.out; have := z30.out; have := z63.out; omega)))
                have z71 : Hid (v61.heap.size ≤ v69.heap.size) := Lib.hid hb.size
                have O72 : Hid (v69.ownsRow (w.heap.size + 2) 78 5 (.slice A6 x.hazards.length c6) x.hazards.length (cs haC x.hazards)) := Lib.hid (own_down hO.out (by have := HWZ.out; have := z0.out; have := z15.out; have := z19.out; have := z24.out; have := z30.out; have := z63.out; omega))
                have O73 := Lib.hid (own_after O65.out hb)
                have O74 := Lib.hid (own_after O66.out hb)
                have O75 := Lib.hid (own_after O67.out hb)
                have O76 := Lib.hid (own_after O68.out hb)
                have K77 := Lib.hid (K64.out.after hb)
                clear hb hO
                dsimp only
                refine hK.out _ _ D70 (fun hHeld => ?_)
                clear hK K
                refine wpAnyH_take (i := 17) (v := ?vu78) rfl (by kernel_rfl) (by kernel_rfl) (by kernel_rfl) (fun _ _ _ h => h) (Or.inl ⟨by rfl, ?hyu78⟩) (by assumption) ?restu78
                case hyu78 => (intro w' hSw; clear hSw; go_simp; try with_reducible rfl)
                try simp only [Act.put, List.setIfInBounds_toArray, List.set_cons_zero, List.set_cons_succ]
                refine wpAnyH_ready (rs := [19]) (by kernel_rfl) (by simp) ?_
                refine AllReadyH.cons rfl (fun K hK => ?_) AllReadyH.nil
                have q0 : v69.cell? ⟨v28.heap.size, 0, none⟩ = some (.int .i64 0) := K77.out.cell 0
                have q1 : v69.cell? ⟨v28.heap.size, 1, none⟩ = some (.slice none 0 0) := K77.out.cell 1
                have q2 : v69.cell? ⟨v28.heap.size, 2, none⟩ = some (.slice none 0 0) := K77.out.cell 2
                have q3 : v69.cell? ⟨v28.heap.size, 3, none⟩ = some (.slice none 0 0) := K77.out.cell 3
                have q4 : v69.cell? ⟨v28.heap.size, 4, none⟩ = some (.slice none 0 0) := K77.out.cell 4
                have q5 : v69.cell? ⟨v28.heap.size, 5, none⟩ = some (.slice none 0 0) := K77.out.cell 5
                have q6 : v69.cell? ⟨v28.heap.size, 6, none⟩ = some (.slice none 0 0) := K77.out.cell 6
                have qf : ∀ i, v69.frozen? ⟨v28.heap.size, i, none⟩ = false := fun i => K77.out.frozen i
                go_simp
                clear qf q0 q1 q2 q3 q4 q5 q6
                change K _ (sto7 v69 (v28.heap.size) (.int .i64 x.horizon) (.slice A1 x.stops.length c1) (.slice A2 x.paths.length c2) (.slice A3 x.doors.length c3) (.slice none 0 0) (.slice A5 x.trips.length c5) (.slice A6 x.hazards.length c6))
                have D79 : Hid (Below (w.heap.size + 2) W (sto7 v69 (v28.heap.size) (.int .i64 x.horizon) (.slice A1 x.stops.length c1) (.slice A2 x.paths.length c2) (.slice A3 x.doors.length c3) (.slice none 0 0) (.slice A5 x.trips.length c5) (.slice A6 x.hazards.length c6))) := Lib.hid (sto7_below D70.out (by have := HWZ.out; have := z0.out; have := z15.out; have := z19.out; have := z24.out; have := z30.out; have := z63.out; have := z71.out; omega))
                have K80 : Hid (Blk (sto7 v69 (v28.heap.size) (.int .i64 x.horizon) (.slice A1 x.stops.length c1) (.slice A2 x.paths.length c2) (.slice A3 x.doors.length c3) (.slice none 0 0) (.slice A5 x.trips.length c5) (.slice A6 x.hazards.length c6)) (v28.heap.size) 44 [.int .i64 x.horizon, .slice A1 x.stops.length c1, .slice A2 x.paths.length c2, .slice A3 x.doors.length c3, .slice none 0 0, .slice A5 x.trips.length c5, .slice A6 x.hazards.length c6]) := Lib.hid (sto7_blk K77.out)
                have O81 := Lib.hid (sto7_ch.own (w' := (sto7 v69 (v28.heap.size) (.int .i64 x.horizon) (.slice A1 x.stops.length c1) (.slice A2 x.paths.length c2) (.slice A3 x.doors.length c3) (.slice none 0 0) (.slice A5 x.trips.length c5) (.slice A6 x.hazards.length c6))) O73.out (own_ne_blk O73.out K77.out (by decide)))
                have O82 := Lib.hid (sto7_ch.own (w' := (sto7 v69 (v28.heap.size) (.int .i64 x.horizon) (.slice A1 x.stops.length c1) (.slice A2 x.paths.length c2) (.slice A3 x.doors.length c3) (.slice none 0 0) (.slice A5 x.trips.length c5) (.slice A6 x.hazards.length c6))) O74.out (own_ne_blk O74.out K77.out (by decide)))
                have O83 := Lib.hid (sto7_ch.own (w' := (sto7 v69 (v28.heap.size) (.int .i64 x.horizon) (.slice A1 x.stops.length c1) (.slice A2 x.paths.length c2) (.slice A3 x.doors.length c3) (.slice none 0 0) (.slice A5 x.trips.length c5) (.slice A6 x.hazards.length c6))) O75.out (own_ne_blk O75.out K77.out (by decide)))
                have O84 := Lib.hid (sto7_ch.own (w' := (sto7 v69 (v28.heap.size) (.int .i64 x.horizon) (.slice A1 x.stops.length c1) (.slice A2 x.paths.length c2) (.slice A3 x.doors.length c3) (.slice none 0 0) (.slice A5 x.trips.length c5) (.slice A6 x.hazards.length c6))) O76.out (own_ne_blk O76.out K77.out (by decide)))
                have O85 := Lib.hid (sto7_ch.own (w' := (sto7 v69 (v28.heap.size) (.int .i64 x.horizon) (.slice A1 x.stops.length c1) (.slice A2 x.paths.length c2) (.slice A3 x.doors.length c3) (.slice none 0 0) (.slice A5 x.trips.length c5) (.slice A6 x.hazards.length c6))) O72.out (own_ne_blk O72.out K77.out (by decide)))
                generalize (sto7 v69 (v28.heap.size) (.int .i64 x.horizon) (.slice A1 x.stops.length c1) (.slice A2 x.paths.length c2) (.slice A3 x.doors.length c3) (.slice none 0 0) (.slice A5 x.trips.length c5) (.slice A6 x.hazards.length c6)) = v86 at *
                refine hK.out _ _ D79 (fun hHeld => ?_)
                clear hK K
                refine wpAnyH_done (by kernel_rfl) ?_ _
                go_wp2_with fail
                go_meet
                exact ⟨_, _, _, _, _, _, _, _, _, _, _, rfl, Lib.hid (by have := HWZ.out; have := z0.out; have := z15.out; have := z19.out; have := z24.out; have := z30.out; have := z63.out; have := z71.out; omega), K80, O81, O82, O83, O84, O85, D79⟩
              exact AllReadyH.nil
            exact AllReadyH.nil
          refine AllReadyH.cons rfl (fun K hK => ?_) ?_
          · go_simp
            have D88 : Hid (Below (w.heap.size + 2) W (v22.alloc (.cells #[.int .i64 0, .slice none 0 0, .slice none 0 0, .slice none 0 0, .slice none 0 0, .slice none 0 0, .slice none 0 0] 44))) := Lib.hid (D23.out.alloc (by have := HWZ.out; have := z0.out; have := z15.out; have := z19.out; have := z24.out; omega) _)
            have z89 : Hid (v22.heap.size + 1 = (v22.alloc (.cells #[.int .i64 0, .slice none 0 0, .slice none 0 0, .slice none 0 0, .slice none 0 0, .slice none 0 0, .slice none 0 0] 44)).heap.size) := Lib.hid (by simp)
            have K90 : Hid (Blk (v22.alloc (.cells #[.int .i64 0, .slice none 0 0, .slice none 0 0, .slice none 0 0, .slice none 0 0, .slice none 0 0, .slice none 0 0] 44)) v22.heap.size 44 [.int .i64 0, .slice none 0 0, .slice none 0 0, .slice none 0 0, .slice none 0 0, .slice none 0 0, .slice none 0 0]) := Lib.hid (Blk.new v22 _ _)
            have O91 := Lib.hid (own_after (w' := v22.alloc (.cells #[.int .i64 0, .slice none 0 0, .slice none 0 0, .slice none 0 0, .slice none 0 0, .slice none 0 0, .slice none 0 0] 44)) O26.out (one_box _ _))
            have O92 := Lib.hid (own_after (w' := v22.alloc (.cells #[.int .i64 0, .slice none 0 0, .slice none 0 0, .slice none 0 0, .slice none 0 0, .slice none 0 0, .slice none 0 0] 44)) O27.out (one_box _ _))
            have O93 := Lib.hid (own_after (w' := v22.alloc (.cells #[.int .i64 0, .slice none 0 0, .slice none 0 0, .slice none 0 0, .slice none 0 0, .slice none 0 0, .slice none 0 0] 44)) O25.out (one_box _ _))
            generalize v22.alloc (.cells #[.int .i64 0, .slice none 0 0, .slice none 0 0, .slice none 0 0, .slice none 0 0, .slice none 0 0, .slice none 0 0] 44) = v87 at *
            refine hK.out _ _ D88 (fun hHeld => ?_)
            clear hK K
            refine wpAnyH_ready (rs := [13]) (by kernel_rfl) (by simp) ?_
            refine AllReadyH.cons rfl (fun K hK => ?_) ?_
            · go_simp
              go_at_call 27
              refine (C5.out _ D88.out).mono ?_
              rintro e' v94 ⟨A5, c5, rfl, hc5, hO, hb⟩
              have D95 : Hid (Below (w.heap.size + 2) W v94) := Lib.hid (D88.out.trans (hb.mono (by have := HWZ.out; have := z0.out; have := z15.out; have := z19.out; have := z24.out; have := z89.out; omega)))
              have z96 : Hid (v87.heap.size ≤ v94.heap.size) := Lib.hid hb.size
              have O97 : Hid (v94.ownsRow (w.heap.size + 2) 67 5 (.slice A5 x.trips.length c5) x.trips.length (cs trC x.trips)) := Lib.hid (own_down hO.out (by have := HWZ.out; have := z0.out; have := z15.out; have := z19.out; have := z24.out; have := z89.out; omega))
              have O98 := Lib.hid (own_after O91.out hb)
              have O99 := Lib.hid (own_after O92.out hb)
              have O100 := Lib.hid (own_after O93.out hb)
              have K101 := Lib.hid (K90.out.after hb)
              clear hb hO
              dsimp only
              refine hK.out _ _ D95 (fun hHeld => ?_)
              clear hK K
              refine wpAnyH_ready (rs := [16]) (by kernel_rfl) (by simp) ?_
              refine AllReadyH.cons rfl (fun K hK => ?_) ?_
              · go_simp
                go_at_call 28
                refine (C6.out _ D95.out).mono ?_
                rintro e' v102 ⟨A6, c6, rfl, hc6, hO, hb⟩
                have D103 : Hid (Below (w.heap.size + 2) W v102) := Lib.hid (D95.out.trans (hb.mono (by have := HWZ.out; have := z0.out; have := z15.out; have := z19.out; have := z24.out; have := z89.out; have := z96.out; omega)))
                have z104 : Hid (v94.heap.size ≤ v102.heap.size) := Lib.hid hb.size
                have O105 : Hid (v102.ownsRow (w.heap.size + 2) 78 5 (.slice A6 x.hazards.length c6) x.hazards.length (cs haC x.hazards)) := Lib.hid (own_down hO.out (by have := HWZ.out; have := z0.out; have := z15.out; have := z19.out; have := z24.out; have := z89.out; have := z96.out; omega))
                have O106 := Lib.hid (own_after O98.out hb)
                have O107 := Lib.hid (own_after O99.out hb)
                have O108 := Lib.hid (own_after O100.out hb)
                have O109 := Lib.hid (own_after O97.out hb)
                have K110 := Lib.hid (K101.out.after hb)
                clear hb hO
                dsimp only
                refine hK.out _ _ D103 (fun hHeld => ?_)
                clear hK K
                refine wpAnyH_take (i := 17) (v := ?vu111) rfl (by kernel_rfl) (by kernel_rfl) (by kernel_rfl) (fun _ _ _ h => h) (Or.inl ⟨by rfl, ?hyu111⟩) (by assumption) ?restu111
                case hyu111 => (intro w' hSw; clear hSw; go_simp; try with_reducible rfl)
                try simp only [Act.put, List.setIfInBounds_toArray, List.set_cons_zero, List.set_cons_succ]
                refine wpAnyH_ready (rs := [19]) (by kernel_rfl) (by simp) ?_
                refine AllReadyH.cons rfl (fun K hK => ?_) AllReadyH.nil
                have q0 : v102.cell? ⟨v22.heap.size, 0, none⟩ = some (.int .i64 0) := K110.out.cell 0
                have q1 : v102.cell? ⟨v22.heap.size, 1, none⟩ = some (.slice none 0 0) := K110.out.cell 1
                have q2 : v102.cell? ⟨v22.heap.size, 2, none⟩ = some (.slice none 0 0) := K110.out.cell 2
                have q3 : v102.cell? ⟨v22.heap.size, 3, none⟩ = some (.slice none 0 0) := K110.out.cell 3
                have q4 : v102.cell? ⟨v22.heap.size, 4, none⟩ = some (.slice none 0 0) := K110.out.cell 4
                have q5 : v102.cell? ⟨v22.heap.size, 5, none⟩ = some (.slice none 0 0) := K110.out.cell 5
                have q6 : v102.cell? ⟨v22.heap.size, 6, none⟩ = some (.slice none 0 0) := K110.out.cell 6
                have qf : ∀ i, v102.frozen? ⟨v22.heap.size, i, none⟩ = false := fun i => K110.out.frozen i
                go_simp
                clear qf q0 q1 q2 q3 q4 q5 q6
                change K _ (sto7 v102 (v22.heap.size) (.int .i64 x.horizon) (.slice A1 x.stops.length c1) (.slice A2 x.paths.length c2) (.slice A3 x.doors.length c3) (.slice none 0 0) (.slice A5 x.trips.length c5) (.slice A6 x.hazards.length c6))
                have D112 : Hid (Below (w.heap.size + 2) W (sto7 v102 (v22.heap.size) (.int .i64 x.horizon) (.slice A1 x.stops.length c1) (.slice A2 x.paths.length c2) (.slice A3 x.doors.length c3) (.slice none 0 0) (.slice A5 x.trips.length c5) (.slice A6 x.hazards.length c6))) := Lib.hid (sto7_below D103.out (by have := HWZ.out; have := z0.out; have := z15.out; have := z19.out; have := z24.out; have := z89.out; have := z96.out; have := z104.out; omega))
                have K113 : Hid (Blk (sto7 v102 (v22.heap.size) (.int .i64 x.horizon) (.slice A1 x.stops.length c1) (.slice A2 x.paths.length c2) (.slice A3 x.doors.length c3) (.slice none 0 0) (.slice A5 x.trips.length c5) (.slice A6 x.hazards.length c6)) (v22.heap.size) 44 [.int .i64 x.horizon, .slice A1 x.stops.length c1, .slice A2 x.paths.length c2, .slice A3 x.doors.length c3, .slice none 0 0, .slice A5 x.trips.length c5, .slice A6 x.hazards.length c6]) := Lib.hid (sto7_blk K110.out)
                have O114 := Lib.hid (sto7_ch.own (w' := (sto7 v102 (v22.heap.size) (.int .i64 x.horizon) (.slice A1 x.stops.length c1) (.slice A2 x.paths.length c2) (.slice A3 x.doors.length c3) (.slice none 0 0) (.slice A5 x.trips.length c5) (.slice A6 x.hazards.length c6))) O106.out (own_ne_blk O106.out K110.out (by decide)))
                have O115 := Lib.hid (sto7_ch.own (w' := (sto7 v102 (v22.heap.size) (.int .i64 x.horizon) (.slice A1 x.stops.length c1) (.slice A2 x.paths.length c2) (.slice A3 x.doors.length c3) (.slice none 0 0) (.slice A5 x.trips.length c5) (.slice A6 x.hazards.length c6))) O107.out (own_ne_blk O107.out K110.out (by decide)))
                have O116 := Lib.hid (sto7_ch.own (w' := (sto7 v102 (v22.heap.size) (.int .i64 x.horizon) (.slice A1 x.stops.length c1) (.slice A2 x.paths.length c2) (.slice A3 x.doors.length c3) (.slice none 0 0) (.slice A5 x.trips.length c5) (.slice A6 x.hazards.length c6))) O108.out (own_ne_blk O108.out K110.out (by decide)))
                have O117 := Lib.hid (sto7_ch.own (w' := (sto7 v102 (v22.heap.size) (.int .i64 x.horizon) (.slice A1 x.stops.length c1) (.slice A2 x.paths.length c2) (.slice A3 x.doors.length c3) (.slice none 0 0) (.slice A5 x.trips.length c5) (.slice A6 x.hazards.length c6))) O109.out (own_ne_blk O109.out K110.out (by decide)))
                have O118 := Lib.hid (sto7_ch.own (w' := (sto7 v102 (v22.heap.size) (.int .i64 x.horizon) (.slice A1 x.stops.length c1) (.slice A2 x.paths.length c2) (.slice A3 x.doors.length c3) (.slice none 0 0) (.slice A5 x.trips.length c5) (.slice A6 x.hazards.length c6))) O105.out (own_ne_blk O105.out K110.out (by decide)))
                generalize (sto7 v102 (v22.heap.size) (.int .i64 x.horizon) (.slice A1 x.stops.length c1) (.slice A2 x.paths.length c2) (.slice A3 x.doors.length c3) (.slice none 0 0) (.slice A5 x.trips.length c5) (.slice A6 x.hazards.length c6)) = v119 at *
                refine hK.out _ _ D112 (fun hHeld => ?_)
                clear hK K
                refine wpAnyH_done (by kernel_rfl) ?_ _
                go_wp2_with fail
                go_meet
                exact ⟨_, _, _, _, _, _, _, _, _, _, _, rfl, Lib.hid (by have := HWZ.out; have := z0.out; have := z15.out; have := z19.out; have := z24.out; have := z89.out; have := z96.out; have := z104.out; omega), K113, O114, O115, O116, O117, O118, D112⟩
              exact AllReadyH.nil
            exact AllReadyH.nil
          exact AllReadyH.nil
        refine AllReadyH.cons rfl (fun K hK => ?_) ?_
        · go_simp
          have D121 : Hid (Below (w.heap.size + 2) W (v17.alloc (.cells #[.int .i64 0, .slice none 0 0, .slice none 0 0, .slice none 0 0, .slice none 0 0, .slice none 0 0, .slice none 0 0] 44))) := Lib.hid (D18.out.alloc (by have := HWZ.out; have := z0.out; have := z15.out; have := z19.out; omega) _)
          have z122 : Hid (v17.heap.size + 1 = (v17.alloc (.cells #[.int .i64 0, .slice none 0 0, .slice none 0 0, .slice none 0 0, .slice none 0 0, .slice none 0 0, .slice none 0 0] 44)).heap.size) := Lib.hid (by simp)
          have K123 : Hid (Blk (v17.alloc (.cells #[.int .i64 0, .slice none 0 0, .slice none 0 0, .slice none 0 0, .slice none 0 0, .slice none 0 0, .slice none 0 0] 44)) v17.heap.size 44 [.int .i64 0, .slice none 0 0, .slice none 0 0, .slice none 0 0, .slice none 0 0, .slice none 0 0, .slice none 0 0]) := Lib.hid (Blk.new v17 _ _)
          have O124 := Lib.hid (own_after (w' := v17.alloc (.cells #[.int .i64 0, .slice none 0 0, .slice none 0 0, .slice none 0 0, .slice none 0 0, .slice none 0 0, .slice none 0 0] 44)) O21.out (one_box _ _))
          have O125 := Lib.hid (own_after (w' := v17.alloc (.cells #[.int .i64 0, .slice none 0 0, .slice none 0 0, .slice none 0 0, .slice none 0 0, .slice none 0 0, .slice none 0 0] 44)) O20.out (one_box _ _))
          generalize v17.alloc (.cells #[.int .i64 0, .slice none 0 0, .slice none 0 0, .slice none 0 0, .slice none 0 0, .slice none 0 0, .slice none 0 0] 44) = v120 at *
          refine hK.out _ _ D121 (fun hHeld => ?_)
          clear hK K
          refine wpAnyH_ready (rs := [10]) (by kernel_rfl) (by simp) ?_
          refine AllReadyH.cons rfl (fun K hK => ?_) ?_
          · go_simp
            go_at_call 29
            refine (C3.out _ D121.out).mono ?_
            rintro e' v126 ⟨A3, c3, rfl, hc3, hO, hb⟩
            have D127 : Hid (Below (w.heap.size + 2) W v126) := Lib.hid (D121.out.trans (hb.mono (by have := HWZ.out; have := z0.out; have := z15.out; have := z19.out; have := z122.out; omega)))
            have z128 : Hid (v120.heap.size ≤ v126.heap.size) := Lib.hid hb.size
            have O129 : Hid (v126.ownsRow (w.heap.size + 2) 55 7 (.slice A3 x.doors.length c3) x.doors.length (cs doC x.doors)) := Lib.hid (own_down hO.out (by have := HWZ.out; have := z0.out; have := z15.out; have := z19.out; have := z122.out; omega))
            have O130 := Lib.hid (own_after O124.out hb)
            have O131 := Lib.hid (own_after O125.out hb)
            have K132 := Lib.hid (K123.out.after hb)
            clear hb hO
            dsimp only
            refine hK.out _ _ D127 (fun hHeld => ?_)
            clear hK K
            refine wpAnyH_ready (rs := [13]) (by kernel_rfl) (by simp) ?_
            refine AllReadyH.cons rfl (fun K hK => ?_) ?_
            · go_simp
              go_at_call 27
              refine (C5.out _ D127.out).mono ?_
              rintro e' v133 ⟨A5, c5, rfl, hc5, hO, hb⟩
              have D134 : Hid (Below (w.heap.size + 2) W v133) := Lib.hid (D127.out.trans (hb.mono (by have := HWZ.out; have := z0.out; have := z15.out; have := z19.out; have := z122.out; have := z128.out; omega)))
              have z135 : Hid (v126.heap.size ≤ v133.heap.size) := Lib.hid hb.size
              have O136 : Hid (v133.ownsRow (w.heap.size + 2) 67 5 (.slice A5 x.trips.length c5) x.trips.length (cs trC x.trips)) := Lib.hid (own_down hO.out (by have := HWZ.out; have := z0.out; have := z15.out; have := z19.out; have := z122.out; have := z128.out; omega))
              have O137 := Lib.hid (own_after O130.out hb)
              have O138 := Lib.hid (own_after O131.out hb)
              have O139 := Lib.hid (own_after O129.out hb)
              have K140 := Lib.hid (K132.out.after hb)
              clear hb hO
              dsimp only
              refine hK.out _ _ D134 (fun hHeld => ?_)
              clear hK K
              refine wpAnyH_ready (rs := [16]) (by kernel_rfl) (by simp) ?_
              refine AllReadyH.cons rfl (fun K hK => ?_) ?_
              · go_simp
                go_at_call 28
                refine (C6.out _ D134.out).mono ?_
                rintro e' v141 ⟨A6, c6, rfl, hc6, hO, hb⟩
                have D142 : Hid (Below (w.heap.size + 2) W v141) := Lib.hid (D134.out.trans (hb.mono (by have := HWZ.out; have := z0.out; have := z15.out; have := z19.out; have := z122.out; have := z128.out; have := z135.out; omega)))
                have z143 : Hid (v133.heap.size ≤ v141.heap.size) := Lib.hid hb.size
                have O144 : Hid (v141.ownsRow (w.heap.size + 2) 78 5 (.slice A6 x.hazards.length c6) x.hazards.length (cs haC x.hazards)) := Lib.hid (own_down hO.out (by have := HWZ.out; have := z0.out; have := z15.out; have := z19.out; have := z122.out; have := z128.out; have := z135.out; omega))
                have O145 := Lib.hid (own_after O137.out hb)
                have O146 := Lib.hid (own_after O138.out hb)
                have O147 := Lib.hid (own_after O139.out hb)
                have O148 := Lib.hid (own_after O136.out hb)
                have K149 := Lib.hid (K140.out.after hb)
                clear hb hO
                dsimp only
                refine hK.out _ _ D142 (fun hHeld => ?_)
                clear hK K
                refine wpAnyH_take (i := 17) (v := ?vu150) rfl (by kernel_rfl) (by kernel_rfl) (by kernel_rfl) (fun _ _ _ h => h) (Or.inl ⟨by rfl, ?hyu150⟩) (by assumption) ?restu150
                case hyu150 => (intro w' hSw; clear hSw; go_simp; try with_reducible rfl)
                try simp only [Act.put, List.setIfInBounds_toArray, List.set_cons_zero, List.set_cons_succ]
                refine wpAnyH_ready (rs := [19]) (by kernel_rfl) (by simp) ?_
                refine AllReadyH.cons rfl (fun K hK => ?_) AllReadyH.nil
                have q0 : v141.cell? ⟨v17.heap.size, 0, none⟩ = some (.int .i64 0) := K149.out.cell 0
                have q1 : v141.cell? ⟨v17.heap.size, 1, none⟩ = some (.slice none 0 0) := K149.out.cell 1
                have q2 : v141.cell? ⟨v17.heap.size, 2, none⟩ = some (.slice none 0 0) := K149.out.cell 2
                have q3 : v141.cell? ⟨v17.heap.size, 3, none⟩ = some (.slice none 0 0) := K149.out.cell 3
                have q4 : v141.cell? ⟨v17.heap.size, 4, none⟩ = some (.slice none 0 0) := K149.out.cell 4
                have q5 : v141.cell? ⟨v17.heap.size, 5, none⟩ = some (.slice none 0 0) := K149.out.cell 5
                have q6 : v141.cell? ⟨v17.heap.size, 6, none⟩ = some (.slice none 0 0) := K149.out.cell 6
                have qf : ∀ i, v141.frozen? ⟨v17.heap.size, i, none⟩ = false := fun i => K149.out.frozen i
                go_simp
                clear qf q0 q1 q2 q3 q4 q5 q6
                change K _ (sto7 v141 (v17.heap.size) (.int .i64 x.horizon) (.slice A1 x.stops.length c1) (.slice A2 x.paths.length c2) (.slice A3 x.doors.length c3) (.slice none 0 0) (.slice A5 x.trips.length c5) (.slice A6 x.hazards.length c6))
                have D151 : Hid (Below (w.heap.size + 2) W (sto7 v141 (v17.heap.size) (.int .i64 x.horizon) (.slice A1 x.stops.length c1) (.slice A2 x.paths.length c2) (.slice A3 x.doors.length c3) (.slice none 0 0) (.slice A5 x.trips.length c5) (.slice A6 x.hazards.length c6))) := Lib.hid (sto7_below D142.out (by have := HWZ.out; have := z0.out; have := z15.out; have := z19.out; have := z122.out; have := z128.out; have := z135.out; have := z143.out; omega))
                have K152 : Hid (Blk (sto7 v141 (v17.heap.size) (.int .i64 x.horizon) (.slice A1 x.stops.length c1) (.slice A2 x.paths.length c2) (.slice A3 x.doors.length c3) (.slice none 0 0) (.slice A5 x.trips.length c5) (.slice A6 x.hazards.length c6)) (v17.heap.size) 44 [.int .i64 x.horizon, .slice A1 x.stops.length c1, .slice A2 x.paths.length c2, .slice A3 x.doors.length c3, .slice none 0 0, .slice A5 x.trips.length c5, .slice A6 x.hazards.length c6]) := Lib.hid (sto7_blk K149.out)
                have O153 := Lib.hid (sto7_ch.own (w' := (sto7 v141 (v17.heap.size) (.int .i64 x.horizon) (.slice A1 x.stops.length c1) (.slice A2 x.paths.length c2) (.slice A3 x.doors.length c3) (.slice none 0 0) (.slice A5 x.trips.length c5) (.slice A6 x.hazards.length c6))) O145.out (own_ne_blk O145.out K149.out (by decide)))
                have O154 := Lib.hid (sto7_ch.own (w' := (sto7 v141 (v17.heap.size) (.int .i64 x.horizon) (.slice A1 x.stops.length c1) (.slice A2 x.paths.length c2) (.slice A3 x.doors.length c3) (.slice none 0 0) (.slice A5 x.trips.length c5) (.slice A6 x.hazards.length c6))) O146.out (own_ne_blk O146.out K149.out (by decide)))
                have O155 := Lib.hid (sto7_ch.own (w' := (sto7 v141 (v17.heap.size) (.int .i64 x.horizon) (.slice A1 x.stops.length c1) (.slice A2 x.paths.length c2) (.slice A3 x.doors.length c3) (.slice none 0 0) (.slice A5 x.trips.length c5) (.slice A6 x.hazards.length c6))) O147.out (own_ne_blk O147.out K149.out (by decide)))
                have O156 := Lib.hid (sto7_ch.own (w' := (sto7 v141 (v17.heap.size) (.int .i64 x.horizon) (.slice A1 x.stops.length c1) (.slice A2 x.paths.length c2) (.slice A3 x.doors.length c3) (.slice none 0 0) (.slice A5 x.trips.length c5) (.slice A6 x.hazards.length c6))) O148.out (own_ne_blk O148.out K149.out (by decide)))
                have O157 := Lib.hid (sto7_ch.own (w' := (sto7 v141 (v17.heap.size) (.int .i64 x.horizon) (.slice A1 x.stops.length c1) (.slice A2 x.paths.length c2) (.slice A3 x.doors.length c3) (.slice none 0 0) (.slice A5 x.trips.length c5) (.slice A6 x.hazards.length c6))) O144.out (own_ne_blk O144.out K149.out (by decide)))
                generalize (sto7 v141 (v17.heap.size) (.int .i64 x.horizon) (.slice A1 x.stops.length c1) (.slice A2 x.paths.length c2) (.slice A3 x.doors.length c3) (.slice none 0 0) (.slice A5 x.trips.length c5) (.slice A6 x.hazards.length c6)) = v158 at *
                refine hK.out _ _ D151 (fun hHeld => ?_)
                clear hK K
                refine wpAnyH_done (by kernel_rfl) ?_ _
                go_wp2_with fail
                go_meet
                exact ⟨_, _, _, _, _, _, _, _, _, _, _, rfl, Lib.hid (by have := HWZ.out; have := z0.out; have := z15.out; have := z19.out; have := z122.out; have := z128.out; have := z135.out; have := z143.out; omega), K152, O153, O154, O155, O156, O157, D151⟩
              exact AllReadyH.nil
            exact AllReadyH.nil
          exact AllReadyH.nil
        exact AllReadyH.nil
      refine AllReadyH.cons rfl (fun K hK => ?_) ?_
      · go_simp
        have D160 : Hid (Below (w.heap.size + 2) W (v13.alloc (.cells #[.int .i64 0, .slice none 0 0, .slice none 0 0, .slice none 0 0, .slice none 0 0, .slice none 0 0, .slice none 0 0] 44))) := Lib.hid (D14.out.alloc (by have := HWZ.out; have := z0.out; have := z15.out; omega) _)
        have z161 : Hid (v13.heap.size + 1 = (v13.alloc (.cells #[.int .i64 0, .slice none 0 0, .slice none 0 0, .slice none 0 0, .slice none 0 0, .slice none 0 0, .slice none 0 0] 44)).heap.size) := Lib.hid (by simp)
        have K162 : Hid (Blk (v13.alloc (.cells #[.int .i64 0, .slice none 0 0, .slice none 0 0, .slice none 0 0, .slice none 0 0, .slice none 0 0, .slice none 0 0] 44)) v13.heap.size 44 [.int .i64 0, .slice none 0 0, .slice none 0 0, .slice none 0 0, .slice none 0 0, .slice none 0 0, .slice none 0 0]) := Lib.hid (Blk.new v13 _ _)
        have O163 := Lib.hid (own_after (w' := v13.alloc (.cells #[.int .i64 0, .slice none 0 0, .slice none 0 0, .slice none 0 0, .slice none 0 0, .slice none 0 0, .slice none 0 0] 44)) O16.out (one_box _ _))
        generalize v13.alloc (.cells #[.int .i64 0, .slice none 0 0, .slice none 0 0, .slice none 0 0, .slice none 0 0, .slice none 0 0, .slice none 0 0] 44) = v159 at *
        refine hK.out _ _ D160 (fun hHeld => ?_)
        clear hK K
        refine wpAnyH_ready (rs := [7]) (by kernel_rfl) (by simp) ?_
        refine AllReadyH.cons rfl (fun K hK => ?_) ?_
        · go_simp
          go_at_call 46
          refine (C2.out _ D160.out).mono ?_
          rintro e' v164 ⟨A2, c2, rfl, hc2, hO, hb⟩
          have D165 : Hid (Below (w.heap.size + 2) W v164) := Lib.hid (D160.out.trans (hb.mono (by have := HWZ.out; have := z0.out; have := z15.out; have := z161.out; omega)))
          have z166 : Hid (v159.heap.size ≤ v164.heap.size) := Lib.hid hb.size
          have O167 : Hid (v164.ownsRow (w.heap.size + 2) 65 4 (.slice A2 x.paths.length c2) x.paths.length (cs paC x.paths)) := Lib.hid (own_down hO.out (by have := HWZ.out; have := z0.out; have := z15.out; have := z161.out; omega))
          have O168 := Lib.hid (own_after O163.out hb)
          have K169 := Lib.hid (K162.out.after hb)
          clear hb hO
          dsimp only
          refine hK.out _ _ D165 (fun hHeld => ?_)
          clear hK K
          refine wpAnyH_ready (rs := [10]) (by kernel_rfl) (by simp) ?_
          refine AllReadyH.cons rfl (fun K hK => ?_) ?_
          · go_simp
            go_at_call 29
            refine (C3.out _ D165.out).mono ?_
            rintro e' v170 ⟨A3, c3, rfl, hc3, hO, hb⟩
            have D171 : Hid (Below (w.heap.size + 2) W v170) := Lib.hid (D165.out.trans (hb.mono (by have := HWZ.out; have := z0.out; have := z15.out; have := z161.out; have := z166.out; omega)))
            have z172 : Hid (v164.heap.size ≤ v170.heap.size) := Lib.hid hb.size
            have O173 : Hid (v170.ownsRow (w.heap.size + 2) 55 7 (.slice A3 x.doors.length c3) x.doors.length (cs doC x.doors)) := Lib.hid (own_down hO.out (by have := HWZ.out; have := z0.out; have := z15.out; have := z161.out; have := z166.out; omega))
            have O174 := Lib.hid (own_after O168.out hb)
            have O175 := Lib.hid (own_after O167.out hb)
            have K176 := Lib.hid (K169.out.after hb)
            clear hb hO
            dsimp only
            refine hK.out _ _ D171 (fun hHeld => ?_)
            clear hK K
            refine wpAnyH_ready (rs := [13]) (by kernel_rfl) (by simp) ?_
            refine AllReadyH.cons rfl (fun K hK => ?_) ?_
            · go_simp
              go_at_call 27
              refine (C5.out _ D171.out).mono ?_
              rintro e' v177 ⟨A5, c5, rfl, hc5, hO, hb⟩
              have D178 : Hid (Below (w.heap.size + 2) W v177) := Lib.hid (D171.out.trans (hb.mono (by have := HWZ.out; have := z0.out; have := z15.out; have := z161.out; have := z166.out; have := z172.out; omega)))
              have z179 : Hid (v170.heap.size ≤ v177.heap.size) := Lib.hid hb.size
              have O180 : Hid (v177.ownsRow (w.heap.size + 2) 67 5 (.slice A5 x.trips.length c5) x.trips.length (cs trC x.trips)) := Lib.hid (own_down hO.out (by have := HWZ.out; have := z0.out; have := z15.out; have := z161.out; have := z166.out; have := z172.out; omega))
              have O181 := Lib.hid (own_after O174.out hb)
              have O182 := Lib.hid (own_after O175.out hb)
              have O183 := Lib.hid (own_after O173.out hb)
              have K184 := Lib.hid (K176.out.after hb)
              clear hb hO
              dsimp only
              refine hK.out _ _ D178 (fun hHeld => ?_)
              clear hK K
              refine wpAnyH_ready (rs := [16]) (by kernel_rfl) (by simp) ?_
              refine AllReadyH.cons rfl (fun K hK => ?_) ?_
              · go_simp
                go_at_call 28
                refine (C6.out _ D178.out).mono ?_
                rintro e' v185 ⟨A6, c6, rfl, hc6, hO, hb⟩
                have D186 : Hid (Below (w.heap.size + 2) W v185) := Lib.hid (D178.out.trans (hb.mono (by have := HWZ.out; have := z0.out; have := z15.out; have := z161.out; have := z166.out; have := z172.out; have := z179.out; omega)))
                have z187 : Hid (v177.heap.size ≤ v185.heap.size) := Lib.hid hb.size
                have O188 : Hid (v185.ownsRow (w.heap.size + 2) 78 5 (.slice A6 x.hazards.length c6) x.hazards.length (cs haC x.hazards)) := Lib.hid (own_down hO.out (by have := HWZ.out; have := z0.out; have := z15.out; have := z161.out; have := z166.out; have := z172.out; have := z179.out; omega))
                have O189 := Lib.hid (own_after O181.out hb)
                have O190 := Lib.hid (own_after O182.out hb)
                have O191 := Lib.hid (own_after O183.out hb)
                have O192 := Lib.hid (own_after O180.out hb)
                have K193 := Lib.hid (K184.out.after hb)
                clear hb hO
                dsimp only
                refine hK.out _ _ D186 (fun hHeld => ?_)
                clear hK K
                refine wpAnyH_take (i := 17) (v := ?vu194) rfl (by kernel_rfl) (by kernel_rfl) (by kernel_rfl) (fun _ _ _ h => h) (Or.inl ⟨by rfl, ?hyu194⟩) (by assumption) ?restu194
                case hyu194 => (intro w' hSw; clear hSw; go_simp; try with_reducible rfl)
                try simp only [Act.put, List.setIfInBounds_toArray, List.set_cons_zero, List.set_cons_succ]
                refine wpAnyH_ready (rs := [19]) (by kernel_rfl) (by simp) ?_
                refine AllReadyH.cons rfl (fun K hK => ?_) AllReadyH.nil
                have q0 : v185.cell? ⟨v13.heap.size, 0, none⟩ = some (.int .i64 0) := K193.out.cell 0
                have q1 : v185.cell? ⟨v13.heap.size, 1, none⟩ = some (.slice none 0 0) := K193.out.cell 1
                have q2 : v185.cell? ⟨v13.heap.size, 2, none⟩ = some (.slice none 0 0) := K193.out.cell 2
                have q3 : v185.cell? ⟨v13.heap.size, 3, none⟩ = some (.slice none 0 0) := K193.out.cell 3
                have q4 : v185.cell? ⟨v13.heap.size, 4, none⟩ = some (.slice none 0 0) := K193.out.cell 4
                have q5 : v185.cell? ⟨v13.heap.size, 5, none⟩ = some (.slice none 0 0) := K193.out.cell 5
                have q6 : v185.cell? ⟨v13.heap.size, 6, none⟩ = some (.slice none 0 0) := K193.out.cell 6
                have qf : ∀ i, v185.frozen? ⟨v13.heap.size, i, none⟩ = false := fun i => K193.out.frozen i
                go_simp
                clear qf q0 q1 q2 q3 q4 q5 q6
                change K _ (sto7 v185 (v13.heap.size) (.int .i64 x.horizon) (.slice A1 x.stops.length c1) (.slice A2 x.paths.length c2) (.slice A3 x.doors.length c3) (.slice none 0 0) (.slice A5 x.trips.length c5) (.slice A6 x.hazards.length c6))
                have D195 : Hid (Below (w.heap.size + 2) W (sto7 v185 (v13.heap.size) (.int .i64 x.horizon) (.slice A1 x.stops.length c1) (.slice A2 x.paths.length c2) (.slice A3 x.doors.length c3) (.slice none 0 0) (.slice A5 x.trips.length c5) (.slice A6 x.hazards.length c6))) := Lib.hid (sto7_below D186.out (by have := HWZ.out; have := z0.out; have := z15.out; have := z161.out; have := z166.out; have := z172.out; have := z179.out; have := z187.out; omega))
                have K196 : Hid (Blk (sto7 v185 (v13.heap.size) (.int .i64 x.horizon) (.slice A1 x.stops.length c1) (.slice A2 x.paths.length c2) (.slice A3 x.doors.length c3) (.slice none 0 0) (.slice A5 x.trips.length c5) (.slice A6 x.hazards.length c6)) (v13.heap.size) 44 [.int .i64 x.horizon, .slice A1 x.stops.length c1, .slice A2 x.paths.length c2, .slice A3 x.doors.length c3, .slice none 0 0, .slice A5 x.trips.length c5, .slice A6 x.hazards.length c6]) := Lib.hid (sto7_blk K193.out)
                have O197 := Lib.hid (sto7_ch.own (w' := (sto7 v185 (v13.heap.size) (.int .i64 x.horizon) (.slice A1 x.stops.length c1) (.slice A2 x.paths.length c2) (.slice A3 x.doors.length c3) (.slice none 0 0) (.slice A5 x.trips.length c5) (.slice A6 x.hazards.length c6))) O189.out (own_ne_blk O189.out K193.out (by decide)))
                have O198 := Lib.hid (sto7_ch.own (w' := (sto7 v185 (v13.heap.size) (.int .i64 x.horizon) (.slice A1 x.stops.length c1) (.slice A2 x.paths.length c2) (.slice A3 x.doors.length c3) (.slice none 0 0) (.slice A5 x.trips.length c5) (.slice A6 x.hazards.length c6))) O190.out (own_ne_blk O190.out K193.out (by decide)))
                have O199 := Lib.hid (sto7_ch.own (w' := (sto7 v185 (v13.heap.size) (.int .i64 x.horizon) (.slice A1 x.stops.length c1) (.slice A2 x.paths.length c2) (.slice A3 x.doors.length c3) (.slice none 0 0) (.slice A5 x.trips.length c5) (.slice A6 x.hazards.length c6))) O191.out (own_ne_blk O191.out K193.out (by decide)))
                have O200 := Lib.hid (sto7_ch.own (w' := (sto7 v185 (v13.heap.size) (.int .i64 x.horizon) (.slice A1 x.stops.length c1) (.slice A2 x.paths.length c2) (.slice A3 x.doors.length c3) (.slice none 0 0) (.slice A5 x.trips.length c5) (.slice A6 x.hazards.length c6))) O192.out (own_ne_blk O192.out K193.out (by decide)))
                have O201 := Lib.hid (sto7_ch.own (w' := (sto7 v185 (v13.heap.size) (.int .i64 x.horizon) (.slice A1 x.stops.length c1) (.slice A2 x.paths.length c2) (.slice A3 x.doors.length c3) (.slice none 0 0) (.slice A5 x.trips.length c5) (.slice A6 x.hazards.length c6))) O188.out (own_ne_blk O188.out K193.out (by decide)))
                generalize (sto7 v185 (v13.heap.size) (.int .i64 x.horizon) (.slice A1 x.stops.length c1) (.slice A2 x.paths.length c2) (.slice A3 x.doors.length c3) (.slice none 0 0) (.slice A5 x.trips.length c5) (.slice A6 x.hazards.length c6)) = v202 at *
                refine hK.out _ _ D195 (fun hHeld => ?_)
                clear hK K
                refine wpAnyH_done (by kernel_rfl) ?_ _
                go_wp2_with fail
                go_meet
                exact ⟨_, _, _, _, _, _, _, _, _, _, _, rfl, Lib.hid (by have := HWZ.out; have := z0.out; have := z15.out; have := z161.out; have := z166.out; have := z172.out; have := z179.out; have := z187.out; omega), K196, O197, O198, O199, O200, O201, D195⟩
              exact AllReadyH.nil
            exact AllReadyH.nil
          exact AllReadyH.nil
        exact AllReadyH.nil
      exact AllReadyH.nil
    refine AllReadyH.cons rfl (fun K hK => ?_) ?_
    · go_simp
      have D204 : Hid (Below (w.heap.size + 2) W (v0.alloc (.cells #[.int .i64 0, .slice none 0 0, .slice none 0 0, .slice none 0 0, .slice none 0 0, .slice none 0 0, .slice none 0 0] 44))) := Lib.hid (D0.out.alloc (by have := HWZ.out; have := z0.out; omega) _)
      have z205 : Hid (v0.heap.size + 1 = (v0.alloc (.cells #[.int .i64 0, .slice none 0 0, .slice none 0 0, .slice none 0 0, .slice none 0 0, .slice none 0 0, .slice none 0 0] 44)).heap.size) := Lib.hid (by simp)
      have K206 : Hid (Blk (v0.alloc (.cells #[.int .i64 0, .slice none 0 0, .slice none 0 0, .slice none 0 0, .slice none 0 0, .slice none 0 0, .slice none 0 0] 44)) v0.heap.size 44 [.int .i64 0, .slice none 0 0, .slice none 0 0, .slice none 0 0, .slice none 0 0, .slice none 0 0, .slice none 0 0]) := Lib.hid (Blk.new v0 _ _)
      generalize v0.alloc (.cells #[.int .i64 0, .slice none 0 0, .slice none 0 0, .slice none 0 0, .slice none 0 0, .slice none 0 0, .slice none 0 0] 44) = v203 at *
      refine hK.out _ _ D204 (fun hHeld => ?_)
      clear hK K
      refine wpAnyH_ready (rs := [4]) (by kernel_rfl) (by simp) ?_
      refine AllReadyH.cons rfl (fun K hK => ?_) ?_
      · go_simp
        go_at_call 45
        refine (C1.out _ D204.out).mono ?_
        rintro e' v207 ⟨A1, c1, rfl, hc1, hO, hb⟩
        have D208 : Hid (Below (w.heap.size + 2) W v207) := Lib.hid (D204.out.trans (hb.mono (by have := HWZ.out; have := z0.out; have := z205.out; omega)))
        have z209 : Hid (v203.heap.size ≤ v207.heap.size) := Lib.hid hb.size
        have O210 : Hid (v207.ownsRow (w.heap.size + 2) 9 1 (.slice A1 x.stops.length c1) x.stops.length (cs strC x.stops)) := Lib.hid (own_down hO.out (by have := HWZ.out; have := z0.out; have := z205.out; omega))
        have K211 := Lib.hid (K206.out.after hb)
        clear hb hO
        dsimp only
        refine hK.out _ _ D208 (fun hHeld => ?_)
        clear hK K
        refine wpAnyH_ready (rs := [7]) (by kernel_rfl) (by simp) ?_
        refine AllReadyH.cons rfl (fun K hK => ?_) ?_
        · go_simp
          go_at_call 46
          refine (C2.out _ D208.out).mono ?_
          rintro e' v212 ⟨A2, c2, rfl, hc2, hO, hb⟩
          have D213 : Hid (Below (w.heap.size + 2) W v212) := Lib.hid (D208.out.trans (hb.mono (by have := HWZ.out; have := z0.out; have := z205.out; have := z209.out; omega)))
          have z214 : Hid (v207.heap.size ≤ v212.heap.size) := Lib.hid hb.size
          have O215 : Hid (v212.ownsRow (w.heap.size + 2) 65 4 (.slice A2 x.paths.length c2) x.paths.length (cs paC x.paths)) := Lib.hid (own_down hO.out (by have := HWZ.out; have := z0.out; have := z205.out; have := z209.out; omega))
          have O216 := Lib.hid (own_after O210.out hb)
          have K217 := Lib.hid (K211.out.after hb)
          clear hb hO
          dsimp only
          refine hK.out _ _ D213 (fun hHeld => ?_)
          clear hK K
          refine wpAnyH_ready (rs := [10]) (by kernel_rfl) (by simp) ?_
          refine AllReadyH.cons rfl (fun K hK => ?_) ?_
          · go_simp
            go_at_call 29
            refine (C3.out _ D213.out).mono ?_
            rintro e' v218 ⟨A3, c3, rfl, hc3, hO, hb⟩
            have D219 : Hid (Below (w.heap.size + 2) W v218) := Lib.hid (D213.out.trans (hb.mono (by have := HWZ.out; have := z0.out; have := z205.out; have := z209.out; have := z214.out; omega)))
            have z220 : Hid (v212.heap.size ≤ v218.heap.size) := Lib.hid hb.size
            have O221 : Hid (v218.ownsRow (w.heap.size + 2) 55 7 (.slice A3 x.doors.length c3) x.doors.length (cs doC x.doors)) := Lib.hid (own_down hO.out (by have := HWZ.out; have := z0.out; have := z205.out; have := z209.out; have := z214.out; omega))
            have O222 := Lib.hid (own_after O216.out hb)
            have O223 := Lib.hid (own_after O215.out hb)
            have K224 := Lib.hid (K217.out.after hb)
            clear hb hO
            dsimp only
            refine hK.out _ _ D219 (fun hHeld => ?_)
            clear hK K
            refine wpAnyH_ready (rs := [13]) (by kernel_rfl) (by simp) ?_
            refine AllReadyH.cons rfl (fun K hK => ?_) ?_
            · go_simp
              go_at_call 27
              refine (C5.out _ D219.out).mono ?_
              rintro e' v225 ⟨A5, c5, rfl, hc5, hO, hb⟩
              have D226 : Hid (Below (w.heap.size + 2) W v225) := Lib.hid (D219.out.trans (hb.mono (by have := HWZ.out; have := z0.out; have := z205.out; have := z209.out; have := z214.out; have := z220.out; omega)))
              have z227 : Hid (v218.heap.size ≤ v225.heap.size) := Lib.hid hb.size
              have O228 : Hid (v225.ownsRow (w.heap.size + 2) 67 5 (.slice A5 x.trips.length c5) x.trips.length (cs trC x.trips)) := Lib.hid (own_down hO.out (by have := HWZ.out; have := z0.out; have := z205.out; have := z209.out; have := z214.out; have := z220.out; omega))
              have O229 := Lib.hid (own_after O222.out hb)
              have O230 := Lib.hid (own_after O223.out hb)
              have O231 := Lib.hid (own_after O221.out hb)
              have K232 := Lib.hid (K224.out.after hb)
              clear hb hO
              dsimp only
              refine hK.out _ _ D226 (fun hHeld => ?_)
              clear hK K
              refine wpAnyH_ready (rs := [16]) (by kernel_rfl) (by simp) ?_
              refine AllReadyH.cons rfl (fun K hK => ?_) ?_
              · go_simp
                go_at_call 28
                refine (C6.out _ D226.out).mono ?_
                rintro e' v233 ⟨A6, c6, rfl, hc6, hO, hb⟩
                have D234 : Hid (Below (w.heap.size + 2) W v233) := Lib.hid (D226.out.trans (hb.mono (by have := HWZ.out; have := z0.out; have := z205.out; have := z209.out; have := z214.out; have := z220.out; have := z227.out; omega)))
                have z235 : Hid (v225.heap.size ≤ v233.heap.size) := Lib.hid hb.size
                have O236 : Hid (v233.ownsRow (w.heap.size + 2) 78 5 (.slice A6 x.hazards.length c6) x.hazards.length (cs haC x.hazards)) := Lib.hid (own_down hO.out (by have := HWZ.out; have := z0.out; have := z205.out; have := z209.out; have := z214.out; have := z220.out; have := z227.out; omega))
                have O237 := Lib.hid (own_after O229.out hb)
                have O238 := Lib.hid (own_after O230.out hb)
                have O239 := Lib.hid (own_after O231.out hb)
                have O240 := Lib.hid (own_after O228.out hb)
                have K241 := Lib.hid (K232.out.after hb)
                clear hb hO
                dsimp only
                refine hK.out _ _ D234 (fun hHeld => ?_)
                clear hK K
                refine wpAnyH_take (i := 17) (v := ?vu242) rfl (by kernel_rfl) (by kernel_rfl) (by kernel_rfl) (fun _ _ _ h => h) (Or.inl ⟨by rfl, ?hyu242⟩) (by assumption) ?restu242
                case hyu242 => (intro w' hSw; clear hSw; go_simp; try with_reducible rfl)
                try simp only [Act.put, List.setIfInBounds_toArray, List.set_cons_zero, List.set_cons_succ]
                refine wpAnyH_ready (rs := [19]) (by kernel_rfl) (by simp) ?_
                refine AllReadyH.cons rfl (fun K hK => ?_) AllReadyH.nil
                have q0 : v233.cell? ⟨v0.heap.size, 0, none⟩ = some (.int .i64 0) := K241.out.cell 0
                have q1 : v233.cell? ⟨v0.heap.size, 1, none⟩ = some (.slice none 0 0) := K241.out.cell 1
                have q2 : v233.cell? ⟨v0.heap.size, 2, none⟩ = some (.slice none 0 0) := K241.out.cell 2
                have q3 : v233.cell? ⟨v0.heap.size, 3, none⟩ = some (.slice none 0 0) := K241.out.cell 3
                have q4 : v233.cell? ⟨v0.heap.size, 4, none⟩ = some (.slice none 0 0) := K241.out.cell 4
                have q5 : v233.cell? ⟨v0.heap.size, 5, none⟩ = some (.slice none 0 0) := K241.out.cell 5
                have q6 : v233.cell? ⟨v0.heap.size, 6, none⟩ = some (.slice none 0 0) := K241.out.cell 6
                have qf : ∀ i, v233.frozen? ⟨v0.heap.size, i, none⟩ = false := fun i => K241.out.frozen i
                go_simp
                clear qf q0 q1 q2 q3 q4 q5 q6
                change K _ (sto7 v233 (v0.heap.size) (.int .i64 x.horizon) (.slice A1 x.stops.length c1) (.slice A2 x.paths.length c2) (.slice A3 x.doors.length c3) (.slice none 0 0) (.slice A5 x.trips.length c5) (.slice A6 x.hazards.length c6))
                have D243 : Hid (Below (w.heap.size + 2) W (sto7 v233 (v0.heap.size) (.int .i64 x.horizon) (.slice A1 x.stops.length c1) (.slice A2 x.paths.length c2) (.slice A3 x.doors.length c3) (.slice none 0 0) (.slice A5 x.trips.length c5) (.slice A6 x.hazards.length c6))) := Lib.hid (sto7_below D234.out (by have := HWZ.out; have := z0.out; have := z205.out; have := z209.out; have := z214.out; have := z220.out; have := z227.out; have := z235.out; omega))
                have K244 : Hid (Blk (sto7 v233 (v0.heap.size) (.int .i64 x.horizon) (.slice A1 x.stops.length c1) (.slice A2 x.paths.length c2) (.slice A3 x.doors.length c3) (.slice none 0 0) (.slice A5 x.trips.length c5) (.slice A6 x.hazards.length c6)) (v0.heap.size) 44 [.int .i64 x.horizon, .slice A1 x.stops.length c1, .slice A2 x.paths.length c2, .slice A3 x.doors.length c3, .slice none 0 0, .slice A5 x.trips.length c5, .slice A6 x.hazards.length c6]) := Lib.hid (sto7_blk K241.out)
                have O245 := Lib.hid (sto7_ch.own (w' := (sto7 v233 (v0.heap.size) (.int .i64 x.horizon) (.slice A1 x.stops.length c1) (.slice A2 x.paths.length c2) (.slice A3 x.doors.length c3) (.slice none 0 0) (.slice A5 x.trips.length c5) (.slice A6 x.hazards.length c6))) O237.out (own_ne_blk O237.out K241.out (by decide)))
                have O246 := Lib.hid (sto7_ch.own (w' := (sto7 v233 (v0.heap.size) (.int .i64 x.horizon) (.slice A1 x.stops.length c1) (.slice A2 x.paths.length c2) (.slice A3 x.doors.length c3) (.slice none 0 0) (.slice A5 x.trips.length c5) (.slice A6 x.hazards.length c6))) O238.out (own_ne_blk O238.out K241.out (by decide)))
                have O247 := Lib.hid (sto7_ch.own (w' := (sto7 v233 (v0.heap.size) (.int .i64 x.horizon) (.slice A1 x.stops.length c1) (.slice A2 x.paths.length c2) (.slice A3 x.doors.length c3) (.slice none 0 0) (.slice A5 x.trips.length c5) (.slice A6 x.hazards.length c6))) O239.out (own_ne_blk O239.out K241.out (by decide)))
                have O248 := Lib.hid (sto7_ch.own (w' := (sto7 v233 (v0.heap.size) (.int .i64 x.horizon) (.slice A1 x.stops.length c1) (.slice A2 x.paths.length c2) (.slice A3 x.doors.length c3) (.slice none 0 0) (.slice A5 x.trips.length c5) (.slice A6 x.hazards.length c6))) O240.out (own_ne_blk O240.out K241.out (by decide)))
                have O249 := Lib.hid (sto7_ch.own (w' := (sto7 v233 (v0.heap.size) (.int .i64 x.horizon) (.slice A1 x.stops.length c1) (.slice A2 x.paths.length c2) (.slice A3 x.doors.length c3) (.slice none 0 0) (.slice A5 x.trips.length c5) (.slice A6 x.hazards.length c6))) O236.out (own_ne_blk O236.out K241.out (by decide)))
                generalize (sto7 v233 (v0.heap.size) (.int .i64 x.horizon) (.slice A1 x.stops.length c1) (.slice A2 x.paths.length c2) (.slice A3 x.doors.length c3) (.slice none 0 0) (.slice A5 x.trips.length c5) (.slice A6 x.hazards.length c6)) = v250 at *
                refine hK.out _ _ D243 (fun hHeld => ?_)
                clear hK K
                refine wpAnyH_done (by kernel_rfl) ?_ _
                go_wp2_with fail
                go_meet
                exact ⟨_, _, _, _, _, _, _, _, _, _, _, rfl, Lib.hid (by have := HWZ.out; have := z0.out; have := z205.out; have := z209.out; have := z214.out; have := z220.out; have := z227.out; have := z235.out; omega), K244, O245, O246, O247, O248, O249, D243⟩
              exact AllReadyH.nil
            exact AllReadyH.nil
          exact AllReadyH.nil
        exact AllReadyH.nil
      exact AllReadyH.nil
    exact AllReadyH.nil
  case rest =>
    obtain ⟨s, A1, A2, A3, A5, A6, c1, c2, c3, c5, c6, rfl, HSB, KS, O1, O2, O3, O5, O6, HBW⟩ := hcut
    have HOS : Hid (OwX wc (w.heap.size + 1) s { x with routes := x.routes.take 0 } (.slice A1 x.stops.length c1) (.slice A2 x.paths.length c2) (.slice A3 x.doors.length c3) (.slice none 0 0) (.slice A5 x.trips.length c5) (.slice A6 x.hazards.length c6)) := Lib.hid ⟨O1.out, O2.out, O3.out, ⟨[], own_nil, rfl⟩, O5.out, O6.out⟩
    obtain ⟨c4r, hr4, hr4'⟩ := HH.out.r4
    have HR4 := Lib.hid hr4
    have HR4P := Lib.hid hr4'
    clear hr4 hr4' O1 O2 O3 O5 O6
    have hn4 := HF.out.l4
    go_wp2_with fail
    go_loopw [4] (fun v4 wr => OwLoopX w W x s A1 A2 A3 A5 A6 c1 c2 c3 c5 c6 v4 wr) (fun v _ => x.routes.length - (intOf v).toNat)
    case atStart => exact ⟨0, none, 0, rfl, by omega, KS, HOS, HBW⟩
    case round =>
      obtain ⟨i, A4, c4, rfl, hi, KB, HOW, HBR⟩ := hrel
      have hbx := K0.out.below HBR.out (by omega)
      have kb4 : wr.cell? ⟨w.heap.size, 4, none⟩ = some (.slice p.a4 x.routes.length p.c4) := hbx.cell 4
      have HWR : Hid (Below w.heap.size w wr) := Lib.hid (below_upX HW0.out HBR.out (by omega))
      by_cases hlt : i < x.routes.length
      · have hi1 : (i : Int) < (x.routes.length : Int) := by omega
        obtain ⟨r, hr⟩ : ∃ r, x.routes[i]? = some r := ⟨_, List.getElem?_eq_getElem hlt⟩
        obtain ⟨ad, hA4, hS, sa, sc, ra, rc, ya, yc, x0, x1, x2, x3, hgr⟩ := rts_at (HR4.out.below HWR.out) (Rts.keep (fun b hb => HWR.out.block b hb) HR4P.out) hr
        have HFR := Lib.hid (HF.out.lr r (List.mem_of_getElem? hr))
        have HTL : Hid (({ x with routes := x.routes.take i } : SheetM).routes.length = i) := Lib.hid (by show (x.routes.take i).length = i; rw [List.length_take]; omega)
        have HTS : Hid (({ x with routes := x.routes.take (i + 1) } : SheetM) = { x with routes := ({ x with routes := x.routes.take i } : SheetM).routes ++ [r] }) := Lib.hid (by rw [List.take_add_one, hr]; rfl)
        have hbk : ad.block < w.heap.size + 2 := by have := (show ad.block < w.heap.size from hS); omega
        have KR : Hid (∀ w', Below (w.heap.size + 2) wr w' → w'.cell? ⟨w.heap.size, 4, none⟩ = some (.slice (some ad) x.routes.length p.c4) ∧ w'.cell? (ad.add (i * 4)) = some (.string ⟨r.name.toArray⟩) ∧ w'.cell? ⟨(ad.add (i * 4)).block, (ad.add (i * 4)).off + 1, none⟩ = some (.slice sa r.stops.length sc) ∧ w'.cell? ⟨(ad.add (i * 4)).block, (ad.add (i * 4)).off + 2, none⟩ = some (.slice ra r.rides.length rc) ∧ w'.cell? ⟨(ad.add (i * 4)).block, (ad.add (i * 4)).off + 3, none⟩ = some (.slice ya r.stays.length yc)) := by
          have hb0 : (ad.add (i * 4)).block = ad.block := block_of_add _ _
          refine Lib.hid (fun w' h => ⟨((hbx.below h (by omega)).cell 4).trans (by rw [← hA4]; rfl), (World.cell?_of_block (h.block _ (by rw [hb0]; exact hbk))).trans x0, (World.cell?_of_block (a := ⟨(ad.add (i * 4)).block, (ad.add (i * 4)).off + 1, none⟩) (h.block _ (by show (ad.add (i * 4)).block < _; rw [hb0]; exact hbk))).trans x1, (World.cell?_of_block (a := ⟨(ad.add (i * 4)).block, (ad.add (i * 4)).off + 2, none⟩) (h.block _ (by show (ad.add (i * 4)).block < _; rw [hb0]; exact hbk))).trans x2, (World.cell?_of_block (a := ⟨(ad.add (i * 4)).block, (ad.add (i * 4)).off + 3, none⟩) (h.block _ (by show (ad.add (i * 4)).block < _; rw [hb0]; exact hbk))).trans x3⟩)
        clear x0 x1 x2 x3 hr hbx
        go_wp2_with fail
        clear kb4
        refine wp_region_held_drew (S := fun w' => Hid (Below (w.heap.size + 2) wr w')) (by kernel_rfl) ?_ (fun hHeld => ?_)
        · exact Lib.hid (below_drew (Below.refl _ _))
        refine wpAnyH_take (i := 0) (v := ?vub1) rfl (by kernel_rfl) (by kernel_rfl) (by kernel_rfl) (fun _ _ _ h => h) (Or.inl ⟨by rfl, ?hyub1⟩) (by assumption) ?restub1
        case hyub1 => (intro w' hSw; obtain ⟨kc4, kr0, kr1, kr2, kr3⟩ := KR.out w' hSw.out; clear hSw; go_simp; try with_reducible rfl)
        try simp only [Act.put, List.setIfInBounds_toArray, List.set_cons_zero, List.set_cons_succ]
        refine wpAnyH_take (i := 2) (v := ?vub2) rfl (by kernel_rfl) (by kernel_rfl) (by kernel_rfl) (fun _ _ _ h => h) (Or.inl ⟨by rfl, ?hyub2⟩) (by assumption) ?restub2
        case hyub2 => (intro w' hSw; obtain ⟨kc4, kr0, kr1, kr2, kr3⟩ := KR.out w' hSw.out; clear hSw; go_simp; try with_reducible rfl)
        try simp only [Act.put, List.setIfInBounds_toArray, List.set_cons_zero, List.set_cons_succ]
        refine wpAnyH_take (i := 3) (v := ?vub3) rfl (by kernel_rfl) (by kernel_rfl) (by kernel_rfl) (fun _ _ _ h => h) (Or.inl ⟨by rfl, ?hyub3⟩) (by assumption) ?restub3
        case hyub3 => (intro w' hSw; obtain ⟨kc4, kr0, kr1, kr2, kr3⟩ := KR.out w' hSw.out; clear hSw; go_simp; try with_reducible rfl)
        try simp only [Act.put, List.setIfInBounds_toArray, List.set_cons_zero, List.set_cons_succ]
        refine wpAnyH_take (i := 4) (v := ?vub4) rfl (by kernel_rfl) (by kernel_rfl) (by kernel_rfl) (fun _ _ _ h => h) (Or.inl ⟨by rfl, ?hyub4⟩) (by assumption) ?restub4
        case hyub4 => (intro w' hSw; obtain ⟨kc4, kr0, kr1, kr2, kr3⟩ := KR.out w' hSw.out; clear hSw; go_simp; try with_reducible rfl)
        try simp only [Act.put, List.setIfInBounds_toArray, List.set_cons_zero, List.set_cons_succ]
        refine wpAnyH_take (i := 5) (v := ?vub5) rfl (by kernel_rfl) (by kernel_rfl) (by kernel_rfl) (fun _ _ _ h => h) (Or.inl ⟨by rfl, ?hyub5⟩) (by assumption) ?restub5
        case hyub5 => (intro w' hSw; obtain ⟨kc4, kr0, kr1, kr2, kr3⟩ := KR.out w' hSw.out; clear hSw; go_simp; try with_reducible rfl)
        try simp only [Act.put, List.setIfInBounds_toArray, List.set_cons_zero, List.set_cons_succ]
        refine wpAnyH_take (i := 6) (v := ?vub6) rfl (by kernel_rfl) (by kernel_rfl) (by kernel_rfl) (fun _ _ _ h => h) (Or.inl ⟨by rfl, ?hyub6⟩) (by assumption) ?restub6
        case hyub6 => (intro w' hSw; obtain ⟨kc4, kr0, kr1, kr2, kr3⟩ := KR.out w' hSw.out; clear hSw; go_simp; try with_reducible rfl)
        try simp only [Act.put, List.setIfInBounds_toArray, List.set_cons_zero, List.set_cons_succ]
        have D0 := hHeld
        clear hHeld
        have z0 : Hid (wr.heap.size ≤ (World.drew wr).heap.size) := Lib.hid (Nat.le_refl _)
        have KB0 : Hid (Blk (World.drew wr) s 44 [.int .i64 x.horizon, .slice A1 x.stops.length c1, .slice A2 x.paths.length c2, .slice A3 x.doors.length c3, .slice A4 i c4, .slice A5 x.trips.length c5, .slice A6 x.hazards.length c6]) := KB
        have OW0 : Hid (OwX (World.drew wr) (w.heap.size + 1) s { x with routes := x.routes.take i } (.slice A1 x.stops.length c1) (.slice A2 x.paths.length c2) (.slice A3 x.doors.length c3) (.slice A4 i c4) (.slice A5 x.trips.length c5) (.slice A6 x.hazards.length c6)) := Lib.hid (HOW.out.after (below_drew (Below.refl _ _)))
        have HRT0 : Hid (RtAt (World.drew wr) (· < (World.drew wr).heap.size) r sa ra ya) := Lib.hid (RtAt.later (w := wr) (hgr.more fun b hb => Nat.lt_of_lt_of_le hb HWR.out.size) (below_drew (Below.refl _ _)))
        generalize World.drew wr = v0 at *
        obtain ⟨cr, h4, h4'⟩ := OW0.out.r4
        have H4 := Lib.hid h4
        have H4P := Lib.hid h4'
        clear h4 h4'
        have hlen4 : ({ x with routes := x.routes.take i } : SheetM).routes.length = i := HTL.out
        rw [hlen4] at H4
        clear hlen4
        refine wpAnyH_ready (rs := [1, 7]) (by kernel_rfl) (by simp) ?_
        refine AllReadyH.cons rfl (fun K hK => ?_) ?_
        · have q4 : v0.cell? ⟨s, 4, none⟩ = some (.slice A4 i c4) := KB0.out.cell 4
          go_simp
          clear q4
          refine hK.out _ _ D0 (fun hHeld => ?_)
          clear hK K
          refine wpAnyH_ready (rs := [7]) (by kernel_rfl) (by simp) ?_
          refine AllReadyH.cons rfl (fun K hK => ?_) ?_
          · go_simp
            go_at_call 47
            refine (own_routeX r sa ra ya sc rc yc v0 HRT0.out HFR.out).mono ?_
            rintro e' v7 ⟨sa', ra', ya', sc', rc', yc', rfl, hrt, hb⟩
            have HB1 : Hid (Below v0.heap.size v0 v7) := Lib.hid hb
            have HR1 := Lib.hid hrt
            have D8 : Hid (Below (w.heap.size + 2) wr v7) := Lib.hid (D0.out.trans (hb.mono (by have := HWZ.out; have := HBR.out.size; have := z0.out; omega)))
            have z9 : Hid (v0.heap.size ≤ v7.heap.size) := Lib.hid hb.size
            have K10 := Lib.hid (KB0.out.after hb)
            clear hb hrt
            dsimp only [rtV]
            refine hK.out _ _ D8 (fun hHeld => ?_)
            clear hK K
            refine wpAnyH_ready (rs := [8]) (by kernel_rfl) (by simp) ?_
            refine AllReadyH.cons rfl (fun K hK => ?_) ?_
            · go_simp
              have D12 : Hid (Below (w.heap.size + 2) wr (v7.alloc (.cells #[.string ⟨r.name.toArray⟩, .slice sa' r.stops.length sc', .slice ra' r.rides.length rc', .slice ya' r.stays.length yc'] 72))) := Lib.hid (D8.out.alloc (by have := HWZ.out; have := HBR.out.size; have := z0.out; have := z9.out; omega) _)
              have HB2 : Hid (Below v7.heap.size v7 (v7.alloc (.cells #[.string ⟨r.name.toArray⟩, .slice sa' r.stops.length sc', .slice ra' r.rides.length rc', .slice ya' r.stays.length yc'] 72))) := Lib.hid (one_box _ _)
              have z13 : Hid (v7.heap.size + 1 = (v7.alloc (.cells #[.string ⟨r.name.toArray⟩, .slice sa' r.stops.length sc', .slice ra' r.rides.length rc', .slice ya' r.stays.length yc'] 72)).heap.size) := Lib.hid (by simp)
              have HLI : Hid (Rd (v7.alloc (.cells #[.string ⟨r.name.toArray⟩, .slice sa' r.stops.length sc', .slice ra' r.rides.length rc', .slice ya' r.stays.length yc'] 72)) (· < (v7.alloc (.cells #[.string ⟨r.name.toArray⟩, .slice sa' r.stops.length sc', .slice ra' r.rides.length rc', .slice ya' r.stays.length yc'] 72)).heap.size) (some ⟨v7.heap.size, 0, none⟩) [.string ⟨r.name.toArray⟩, .slice sa' r.stops.length sc', .slice ra' r.rides.length rc', .slice ya' r.stays.length yc']) := Lib.hid (lit_at _ _ _ _ _ rfl rfl)
              have K14 := Lib.hid (K10.out.alloc (.cells #[.string ⟨r.name.toArray⟩, .slice sa' r.stops.length sc', .slice ra' r.rides.length rc', .slice ya' r.stays.length yc'] 72))
              generalize v7.alloc (.cells #[.string ⟨r.name.toArray⟩, .slice sa' r.stops.length sc', .slice ra' r.rides.length rc', .slice ya' r.stays.length yc'] 72) = v11 at *
              refine hK.out _ _ D12 (fun hHeld => ?_)
              clear hK K
              refine wpAnyH_ready (rs := [9]) (by kernel_rfl) (by simp) ?_
              refine AllReadyH.cons rfl (fun K hK => ?_) ?_
              · refine step_append_g (by rfl) (.tmp 31) (.tmp 38) 40 (by rfl) (w.heap.size + 2) 72 _ 4 88 Tryz.underlying40 info_Route rfl (by omega) (by omega) (.slice A4 i c4) i cr (by rfl) (Lib.hid (own_after H4.out (keep_trans HB1.out HB2.out))) _ _ 1 1 _ (by rfl) (Lib.hid rfl) HLI (by intro u hu; simp at hu; rcases hu with rfl | rfl | rfl | rfl <;> rfl) (by omega) (by have := HWZ.out; have := HBR.out.size; have := z0.out; have := z9.out; have := z13.out; omega) ?_
                intro v' v15 hown hg hor
                obtain ⟨A5', c5', rfl, hcap, -⟩ := own_form hown.out
                have D16 : Hid (Below (w.heap.size + 2) wr v15) := Lib.hid (D12.out.trans ((Ch.of_grown (X := fun b => some b = (Value.slice A4 i c4).ownBlock) hg.out fun k e => e).below (by have := HWZ.out; have := HBR.out.size; have := z0.out; have := z9.out; have := z13.out; omega) fun k e => (H4.out.lt k e.symm).1))
                have KBX : Hid (Blk v15 s 44 [.int .i64 x.horizon, .slice A1 x.stops.length c1, .slice A2 x.paths.length c2, .slice A3 x.doors.length c3, .slice A4 i c4, .slice A5 x.trips.length c5, .slice A6 x.hazards.length c6]) := Lib.hid (K14.out.grown hg.out fun e => own_ne_blk (own_after H4.out (keep_trans HB1.out HB2.out)) K14.out (by decide) s e.symm rfl)
                have HNEW := Lib.hid (OwX.route OW0.out (by rw [HTL.out]; exact H4.out) H4P.out KB0.out (by have := HWZ.out; have := HBR.out.size; have := z0.out; omega) HB1.out HR1.out HB2.out (by rw [HTL.out]; exact hown.out) hg.out hor.out)
                refine hK.out _ _ D16 (fun hHeld => ?_)
                clear hK K
                refine wpAnyH_take (i := 10) (v := ?vub18) rfl (by kernel_rfl) (by kernel_rfl) (by kernel_rfl) (fun _ _ _ h => h) (Or.inl ⟨by rfl, ?hyub18⟩) (by assumption) ?restub18
                case hyub18 => (intro w' hSw; clear hSw; go_simp; try with_reducible rfl)
                try simp only [Act.put, List.setIfInBounds_toArray, List.set_cons_zero, List.set_cons_succ]
                refine wpAnyH_ready (rs := [11]) (by kernel_rfl) (by simp) ?_
                refine AllReadyH.cons rfl (fun K hK => ?_) AllReadyH.nil
                have q4 : v15.cell? ⟨s, 4, none⟩ = some (.slice A4 i c4) := KBX.out.cell 4
                have qf : v15.frozen? ⟨s, 4, none⟩ = false := KBX.out.frozen 4
                go_simp
                clear q4 qf
                have D17 : Hid (Below (w.heap.size + 2) wr (v15.setCell ⟨s, 4, none⟩ (.slice A5' (i + 1) c5'))) := Lib.hid (below_set D16.out (by have := HSB.out; show _ ≤ s; omega) _)
                refine hK.out _ _ D17 (fun hHeld => ?_)
                clear hK K
                refine wpAnyH_done (by kernel_rfl) ?_ _
                go_wp2
                go_roundw
                case rel => exact ⟨i + 1, A5', c5', by go_num, by omega, Lib.hid HNEW.out.2, Lib.hid (by rw [HTS.out]; exact HNEW.out.1), Lib.hid (HBR.out.trans D17.out)⟩
                case measure => simp [intOf]; omega
              exact AllReadyH.nil
            exact AllReadyH.nil
          exact AllReadyH.nil
        refine AllReadyH.cons rfl (fun K hK => ?_) ?_
        · go_simp
          go_at_call 47
          refine (own_routeX r sa ra ya sc rc yc v0 HRT0.out HFR.out).mono ?_
          rintro e' v19 ⟨sa', ra', ya', sc', rc', yc', rfl, hrt, hb⟩
          have HB1 : Hid (Below v0.heap.size v0 v19) := Lib.hid hb
          have HR1 := Lib.hid hrt
          have D20 : Hid (Below (w.heap.size + 2) wr v19) := Lib.hid (D0.out.trans (hb.mono (by have := HWZ.out; have := HBR.out.size; have := z0.out; omega)))
          have z21 : Hid (v0.heap.size ≤ v19.heap.size) := Lib.hid hb.size
          have K22 := Lib.hid (KB0.out.after hb)
          clear hb hrt
          dsimp only [rtV]
          refine hK.out _ _ D20 (fun hHeld => ?_)
          clear hK K
          refine wpAnyH_ready (rs := [1, 8]) (by kernel_rfl) (by simp) ?_
          refine AllReadyH.cons rfl (fun K hK => ?_) ?_
          · have q4 : v19.cell? ⟨s, 4, none⟩ = some (.slice A4 i c4) := K22.out.cell 4
            go_simp
            clear q4
            refine hK.out _ _ D20 (fun hHeld => ?_)
            clear hK K
            refine wpAnyH_ready (rs := [8]) (by kernel_rfl) (by simp) ?_
            refine AllReadyH.cons rfl (fun K hK => ?_) ?_
            · go_simp
              have D24 : Hid (Below (w.heap.size + 2) wr (v19.alloc (.cells #[.string ⟨r.name.toArray⟩, .slice sa' r.stops.length sc', .slice ra' r.rides.length rc', .slice ya' r.stays.length yc'] 72))) := Lib.hid (D20.out.alloc (by have := HWZ.out; have := HBR.out.size; have := z0.out; have := z21.out; omega) _)
              have HB2 : Hid (Below v19.heap.size v19 (v19.alloc (.cells #[.string ⟨r.name.toArray⟩, .slice sa' r.stops.length sc', .slice ra' r.rides.length rc', .slice ya' r.stays.length yc'] 72))) := Lib.hid (one_box _ _)
              have z25 : Hid (v19.heap.size + 1 = (v19.alloc (.cells #[.string ⟨r.name.toArray⟩, .slice sa' r.stops.length sc', .slice ra' r.rides.length rc', .slice ya' r.stays.length yc'] 72)).heap.size) := Lib.hid (by simp)
              have HLI : Hid (Rd (v19.alloc (.cells #[.string ⟨r.name.toArray⟩, .slice sa' r.stops.length sc', .slice ra' r.rides.length rc', .slice ya' r.stays.length yc'] 72)) (· < (v19.alloc (.cells #[.string ⟨r.name.toArray⟩, .slice sa' r.stops.length sc', .slice ra' r.rides.length rc', .slice ya' r.stays.length yc'] 72)).heap.size) (some ⟨v19.heap.size, 0, none⟩) [.string ⟨r.name.toArray⟩, .slice sa' r.stops.length sc', .slice ra' r.rides.length rc', .slice ya' r.stays.length yc']) := Lib.hid (lit_at _ _ _ _ _ rfl rfl)
              have K26 := Lib.hid (K22.out.alloc (.cells #[.string ⟨r.name.toArray⟩, .slice sa' r.stops.length sc', .slice ra' r.rides.length rc', .slice ya' r.stays.length yc'] 72))
              generalize v19.alloc (.cells #[.string ⟨r.name.toArray⟩, .slice sa' r.stops.length sc', .slice ra' r.rides.length rc', .slice ya' r.stays.length yc'] 72) = v23 at *
              refine hK.out _ _ D24 (fun hHeld => ?_)
              clear hK K
              refine wpAnyH_ready (rs := [9]) (by kernel_rfl) (by simp) ?_
              refine AllReadyH.cons rfl (fun K hK => ?_) ?_
              · refine step_append_g (by rfl) (.tmp 31) (.tmp 38) 40 (by rfl) (w.heap.size + 2) 72 _ 4 88 Tryz.underlying40 info_Route rfl (by omega) (by omega) (.slice A4 i c4) i cr (by rfl) (Lib.hid (own_after H4.out (keep_trans HB1.out HB2.out))) _ _ 1 1 _ (by rfl) (Lib.hid rfl) HLI (by intro u hu; simp at hu; rcases hu with rfl | rfl | rfl | rfl <;> rfl) (by omega) (by have := HWZ.out; have := HBR.out.size; have := z0.out; have := z21.out; have := z25.out; omega) ?_
                intro v' v27 hown hg hor
                obtain ⟨A5', c5', rfl, hcap, -⟩ := own_form hown.out
                have D28 : Hid (Below (w.heap.size + 2) wr v27) := Lib.hid (D24.out.trans ((Ch.of_grown (X := fun b => some b = (Value.slice A4 i c4).ownBlock) hg.out fun k e => e).below (by have := HWZ.out; have := HBR.out.size; have := z0.out; have := z21.out; have := z25.out; omega) fun k e => (H4.out.lt k e.symm).1))
                have KBX : Hid (Blk v27 s 44 [.int .i64 x.horizon, .slice A1 x.stops.length c1, .slice A2 x.paths.length c2, .slice A3 x.doors.length c3, .slice A4 i c4, .slice A5 x.trips.length c5, .slice A6 x.hazards.length c6]) := Lib.hid (K26.out.grown hg.out fun e => own_ne_blk (own_after H4.out (keep_trans HB1.out HB2.out)) K26.out (by decide) s e.symm rfl)
                have HNEW := Lib.hid (OwX.route OW0.out (by rw [HTL.out]; exact H4.out) H4P.out KB0.out (by have := HWZ.out; have := HBR.out.size; have := z0.out; omega) HB1.out HR1.out HB2.out (by rw [HTL.out]; exact hown.out) hg.out hor.out)
                refine hK.out _ _ D28 (fun hHeld => ?_)
                clear hK K
                refine wpAnyH_take (i := 10) (v := ?vub30) rfl (by kernel_rfl) (by kernel_rfl) (by kernel_rfl) (fun _ _ _ h => h) (Or.inl ⟨by rfl, ?hyub30⟩) (by assumption) ?restub30
                case hyub30 => (intro w' hSw; clear hSw; go_simp; try with_reducible rfl)
                try simp only [Act.put, List.setIfInBounds_toArray, List.set_cons_zero, List.set_cons_succ]
                refine wpAnyH_ready (rs := [11]) (by kernel_rfl) (by simp) ?_
                refine AllReadyH.cons rfl (fun K hK => ?_) AllReadyH.nil
                have q4 : v27.cell? ⟨s, 4, none⟩ = some (.slice A4 i c4) := KBX.out.cell 4
                have qf : v27.frozen? ⟨s, 4, none⟩ = false := KBX.out.frozen 4
                go_simp
                clear q4 qf
                have D29 : Hid (Below (w.heap.size + 2) wr (v27.setCell ⟨s, 4, none⟩ (.slice A5' (i + 1) c5'))) := Lib.hid (below_set D28.out (by have := HSB.out; show _ ≤ s; omega) _)
                refine hK.out _ _ D29 (fun hHeld => ?_)
                clear hK K
                refine wpAnyH_done (by kernel_rfl) ?_ _
                go_wp2
                go_roundw
                case rel => exact ⟨i + 1, A5', c5', by go_num, by omega, Lib.hid HNEW.out.2, Lib.hid (by rw [HTS.out]; exact HNEW.out.1), Lib.hid (HBR.out.trans D29.out)⟩
                case measure => simp [intOf]; omega
              exact AllReadyH.nil
            exact AllReadyH.nil
          refine AllReadyH.cons rfl (fun K hK => ?_) ?_
          · go_simp
            have D32 : Hid (Below (w.heap.size + 2) wr (v19.alloc (.cells #[.string ⟨r.name.toArray⟩, .slice sa' r.stops.length sc', .slice ra' r.rides.length rc', .slice ya' r.stays.length yc'] 72))) := Lib.hid (D20.out.alloc (by have := HWZ.out; have := HBR.out.size; have := z0.out; have := z21.out; omega) _)
            have HB2 : Hid (Below v19.heap.size v19 (v19.alloc (.cells #[.string ⟨r.name.toArray⟩, .slice sa' r.stops.length sc', .slice ra' r.rides.length rc', .slice ya' r.stays.length yc'] 72))) := Lib.hid (one_box _ _)
            have z33 : Hid (v19.heap.size + 1 = (v19.alloc (.cells #[.string ⟨r.name.toArray⟩, .slice sa' r.stops.length sc', .slice ra' r.rides.length rc', .slice ya' r.stays.length yc'] 72)).heap.size) := Lib.hid (by simp)
            have HLI : Hid (Rd (v19.alloc (.cells #[.string ⟨r.name.toArray⟩, .slice sa' r.stops.length sc', .slice ra' r.rides.length rc', .slice ya' r.stays.length yc'] 72)) (· < (v19.alloc (.cells #[.string ⟨r.name.toArray⟩, .slice sa' r.stops.length sc', .slice ra' r.rides.length rc', .slice ya' r.stays.length yc'] 72)).heap.size) (some ⟨v19.heap.size, 0, none⟩) [.string ⟨r.name.toArray⟩, .slice sa' r.stops.length sc', .slice ra' r.rides.length rc', .slice ya' r.stays.length yc']) := Lib.hid (lit_at _ _ _ _ _ rfl rfl)
            have K34 := Lib.hid (K22.out.alloc (.cells #[.string ⟨r.name.toArray⟩, .slice sa' r.stops.length sc', .slice ra' r.rides.length rc', .slice ya' r.stays.length yc'] 72))
            generalize v19.alloc (.cells #[.string ⟨r.name.toArray⟩, .slice sa' r.stops.length sc', .slice ra' r.rides.length rc', .slice ya' r.stays.length yc'] 72) = v31 at *
            refine hK.out _ _ D32 (fun hHeld => ?_)
            clear hK K
            refine wpAnyH_ready (rs := [1]) (by kernel_rfl) (by simp) ?_
            refine AllReadyH.cons rfl (fun K hK => ?_) ?_
            · have q4 : v31.cell? ⟨s, 4, none⟩ = some (.slice A4 i c4) := K34.out.cell 4
              go_simp
              clear q4
              refine hK.out _ _ D32 (fun hHeld => ?_)
              clear hK K
              refine wpAnyH_ready (rs := [9]) (by kernel_rfl) (by simp) ?_
              refine AllReadyH.cons rfl (fun K hK => ?_) ?_
              · refine step_append_g (by rfl) (.tmp 31) (.tmp 38) 40 (by rfl) (w.heap.size + 2) 72 _ 4 88 Tryz.underlying40 info_Route rfl (by omega) (by omega) (.slice A4 i c4) i cr (by rfl) (Lib.hid (own_after H4.out (keep_trans HB1.out HB2.out))) _ _ 1 1 _ (by rfl) (Lib.hid rfl) HLI (by intro u hu; simp at hu; rcases hu with rfl | rfl | rfl | rfl <;> rfl) (by omega) (by have := HWZ.out; have := HBR.out.size; have := z0.out; have := z21.out; have := z33.out; omega) ?_
                intro v' v35 hown hg hor
                obtain ⟨A5', c5', rfl, hcap, -⟩ := own_form hown.out
                have D36 : Hid (Below (w.heap.size + 2) wr v35) := Lib.hid (D32.out.trans ((Ch.of_grown (X := fun b => some b = (Value.slice A4 i c4).ownBlock) hg.out fun k e => e).below (by have := HWZ.out; have := HBR.out.size; have := z0.out; have := z21.out; have := z33.out; omega) fun k e => (H4.out.lt k e.symm).1))
                have KBX : Hid (Blk v35 s 44 [.int .i64 x.horizon, .slice A1 x.stops.length c1, .slice A2 x.paths.length c2, .slice A3 x.doors.length c3, .slice A4 i c4, .slice A5 x.trips.length c5, .slice A6 x.hazards.length c6]) := Lib.hid (K34.out.grown hg.out fun e => own_ne_blk (own_after H4.out (keep_trans HB1.out HB2.out)) K34.out (by decide) s e.symm rfl)
                have HNEW := Lib.hid (OwX.route OW0.out (by rw [HTL.out]; exact H4.out) H4P.out KB0.out (by have := HWZ.out; have := HBR.out.size; have := z0.out; omega) HB1.out HR1.out HB2.out (by rw [HTL.out]; exact hown.out) hg.out hor.out)
                refine hK.out _ _ D36 (fun hHeld => ?_)
                clear hK K
                refine wpAnyH_take (i := 10) (v := ?vub38) rfl (by kernel_rfl) (by kernel_rfl) (by kernel_rfl) (fun _ _ _ h => h) (Or.inl ⟨by rfl, ?hyub38⟩) (by assumption) ?restub38
                case hyub38 => (intro w' hSw; clear hSw; go_simp; try with_reducible rfl)
                try simp only [Act.put, List.setIfInBounds_toArray, List.set_cons_zero, List.set_cons_succ]
                refine wpAnyH_ready (rs := [11]) (by kernel_rfl) (by simp) ?_
                refine AllReadyH.cons rfl (fun K hK => ?_) AllReadyH.nil
                have q4 : v35.cell? ⟨s, 4, none⟩ = some (.slice A4 i c4) := KBX.out.cell 4
                have qf : v35.frozen? ⟨s, 4, none⟩ = false := KBX.out.frozen 4
                go_simp
                clear q4 qf
                have D37 : Hid (Below (w.heap.size + 2) wr (v35.setCell ⟨s, 4, none⟩ (.slice A5' (i + 1) c5'))) := Lib.hid (below_set D36.out (by have := HSB.out; show _ ≤ s; omega) _)
                refine hK.out _ _ D37 (fun hHeld => ?_)
                clear hK K
                refine wpAnyH_done (by kernel_rfl) ?_ _
                go_wp2
                go_roundw
                case rel => exact ⟨i + 1, A5', c5', by go_num, by omega, Lib.hid HNEW.out.2, Lib.hid (by rw [HTS.out]; exact HNEW.out.1), Lib.hid (HBR.out.trans D37.out)⟩
                case measure => simp [intOf]; omega
              exact AllReadyH.nil
            exact AllReadyH.nil
          exact AllReadyH.nil
        exact AllReadyH.nil
      · obtain rfl : i = x.routes.length := by omega
        have hi1 : ¬ (x.routes.length : Int) < (x.routes.length : Int) := by omega
        have hb2 := K1.out.below HBR.out (by omega)
        have HK2 := Lib.hid hb2
        have r0 : wr.cell? ⟨s, 0, none⟩ = some (.int .i64 x.horizon) := KB.out.cell 0
        have r1 : wr.cell? ⟨s, 1, none⟩ = some (.slice A1 x.stops.length c1) := KB.out.cell 1
        have r2 : wr.cell? ⟨s, 2, none⟩ = some (.slice A2 x.paths.length c2) := KB.out.cell 2
        have r3 : wr.cell? ⟨s, 3, none⟩ = some (.slice A3 x.doors.length c3) := KB.out.cell 3
        have r4 : wr.cell? ⟨s, 4, none⟩ = some (.slice A4 x.routes.length c4) := KB.out.cell 4
        have r5 : wr.cell? ⟨s, 5, none⟩ = some (.slice A5 x.trips.length c5) := KB.out.cell 5
        have r6 : wr.cell? ⟨s, 6, none⟩ = some (.slice A6 x.hazards.length c6) := KB.out.cell 6
        have t0 : wr.cell? ⟨w.heap.size + 1, 0, none⟩ = some (.int .i64 0) := hb2.cell 0
        have t1 : wr.cell? ⟨w.heap.size + 1, 1, none⟩ = some (.slice none 0 0) := hb2.cell 1
        have t2 : wr.cell? ⟨w.heap.size + 1, 2, none⟩ = some (.slice none 0 0) := hb2.cell 2
        have t3 : wr.cell? ⟨w.heap.size + 1, 3, none⟩ = some (.slice none 0 0) := hb2.cell 3
        have t4 : wr.cell? ⟨w.heap.size + 1, 4, none⟩ = some (.slice none 0 0) := hb2.cell 4
        have t5 : wr.cell? ⟨w.heap.size + 1, 5, none⟩ = some (.slice none 0 0) := hb2.cell 5
        have t6 : wr.cell? ⟨w.heap.size + 1, 6, none⟩ = some (.slice none 0 0) := hb2.cell 6
        have tf : ∀ i, wr.frozen? ⟨w.heap.size + 1, i, none⟩ = false := fun i => hb2.frozen i
        clear hbx hb2
        go_wp2_with fail
        clear tf t0 t1 t2 t3 t4 t5 t6 r0 r1 r2 r3 r4 r5 r6
        have HF7 := Lib.hid (sto7_blk (v0 := .int .i64 x.horizon) (v1 := .slice A1 x.stops.length c1) (v2 := .slice A2 x.paths.length c2) (v3 := .slice A3 x.doors.length c3) (v4 := .slice A4 x.routes.length c4) (v5 := .slice A5 x.trips.length c5) (v6 := .slice A6 x.hazards.length c6) HK2.out)
        refine bodyPost_ret (v := .agg #[.int .i64 x.horizon, .slice A1 x.stops.length c1, .slice A2 x.paths.length c2, .slice A3 x.doors.length c3, .slice A4 x.routes.length c4, .slice A5 x.trips.length c5, .slice A6 x.hazards.length c6]) (sh_readX rfl HF7.out) rfl ?_
        refine ⟨A1, A2, A3, A4, A5, A6, c1, c2, c3, c4, c5, c6, rfl, ⟨s, ?_⟩, sto7_below HWR.out (by omega)⟩
        have h := HOW.out.low (sto7_ch (s := w.heap.size + 1) (v0 := .int .i64 x.horizon) (v1 := .slice A1 x.stops.length c1) (v2 := .slice A2 x.paths.length c2) (v3 := .slice A3 x.doors.length c3) (v4 := .slice A4 x.routes.length c4) (v5 := .slice A5 x.trips.length c5) (v6 := .slice A6 x.hazards.length c6)) (fun k e => by omega)
        have e : ({ x with routes := x.routes.take x.routes.length } : SheetM) = x := by rw [List.take_length]
        rw [e] at h
        exact h
end Go.Proofs.YtgdanbfglefiiaaGreat.Sh
