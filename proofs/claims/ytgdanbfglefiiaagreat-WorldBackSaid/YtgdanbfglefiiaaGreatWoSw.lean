/- Package world's Same: whether all is the same in two worlds; proved by walking its text. Conditions: at most 400 things of a kind. -/
import Derived.Test.YtgdanbfglefiiaaGreatWoAst
import Derived.Test.YtgdanbfglefiiaaGreatWoSn
import Derived.ChangeSlices
import Derived.Deep.Strs
import Derived.Deep.SlicePairs
import Derived.ChangeArms
import Derived.Carry
import Derived.Deep.RegionHeld3
import Derived.Deep.RegionHeldLaw
import Derived.Deep.CutRange
import Derived.StillTailTactics
import Derived.WalkSpells
import Derived.Lib.QuietBelow
import Derived.Deep.QuietTactic
namespace Go.Proofs.YtgdanbfglefiiaaGreat.Wo
open Go.ChangeShapes Go.WideShapes Go.ChangeAt Go.RowKit Go.Maps
open Lx Sh
set_option linter.unusedVariables false
set_option linter.unusedSimpArgs false
theorem ro_eq {a b : RouteO} : a = b ↔ a.stops = b.stops ∧ a.rides = b.rides ∧ a.stays = b.stays := by
  cases a; cases b; simp
set_option maxRecDepth 100000 in
set_option maxHeartbeats 2000000 in
theorem same_route (a b : RouteO) (sa ra ya sb rb yb : Option Addr) (sc rc yc sd rd_ yd : Nat) (w : World) (h : RoAt w (· < w.heap.size) a sa ra ya) (h' : RoAt w (· < w.heap.size) b sb rb yb) (hl : a.stops.length ≤ 400 ∧ a.rides.length ≤ 400 ∧ a.stays.length ≤ 400) (hl' : b.stops.length ≤ 400 ∧ b.rides.length ≤ 400 ∧ b.stays.length ≤ 400) :
    Calls Tryz.prog 73 #[roV a sa ra ya sc rc yc, roV b sb rb yb sd rd_ yd] w (BPost w (decide (a = b))) := by
  have C1 := Lib.hid (fun w' (hb : Below w.heap.size w w') => eq_it w' sa sb a.stops.length b.stops.length sc sd a.stops b.stops (Lib.hid rfl) (Lib.hid rfl) (by omega) (by omega) (rd_later h.hs hb) (rd_later h'.hs hb))
  have C2 := Lib.hid (fun w' (hb : Below w.heap.size w w') => eq_i64 w' ra rb a.rides.length b.rides.length rc rd_ a.rides b.rides (Lib.hid rfl) (Lib.hid rfl) (by omega) (by omega) (rd_later h.hr hb) (rd_later h'.hr hb))
  have C3 := Lib.hid (fun w' (hb : Below w.heap.size w w') => eq_i64 w' ya yb a.stays.length b.stays.length yc yd a.stays b.stays (Lib.hid rfl) (Lib.hid rfl) (by omega) (by omega) (rd_later h.hy hb) (rd_later h'.hy hb))
  have hq : decide (a = b) = (decide (a.stops = b.stops) && (decide (a.rides = b.rides) && decide (a.stays = b.stays))) := by
    rw [Bool.eq_iff_iff]; simp [ro_eq]
  rw [hq]
  clear hq h h' hl hl'
  dsimp only [roV]
  generalize decide (a.stops = b.stops) = B1 at *
  generalize decide (a.rides = b.rides) = B2 at *
  generalize decide (a.stays = b.stays) = B3 at *
  generalize a.stops.length = m1 at *
  generalize a.rides.length = m2 at *
  generalize a.stays.length = m3 at *
  generalize b.stops.length = k1 at *
  generalize b.rides.length = k2 at *
  generalize b.stays.length = k3 at *
  clear a b
  have K0 : Hid (∀ w', Below ((w.alloc (.cells #[.slice sa m1 sc, .slice ra m2 rc, .slice ya m3 yc] 111)).alloc (.cells #[.slice sb k1 sd, .slice rb k2 rd_, .slice yb k3 yd] 111)).heap.size ((w.alloc (.cells #[.slice sa m1 sc, .slice ra m2 rc, .slice ya m3 yc] 111)).alloc (.cells #[.slice sb k1 sd, .slice rb k2 rd_, .slice yb k3 yd] 111)) w' → (w'.cell? ⟨w.heap.size, 1, none⟩ = some (.slice ra m2 rc) ∧ w'.cell? ⟨w.heap.size, 2, none⟩ = some (.slice ya m3 yc)) ∧ w'.cell? ⟨w.heap.size + 1, 1, none⟩ = some (.slice rb k2 rd_) ∧ w'.cell? ⟨w.heap.size + 1, 2, none⟩ = some (.slice yb k3 yd)) := Lib.hid (fun w' hb => by
    have a := ((Blk.new w 111 [.slice sa m1 sc, .slice ra m2 rc, .slice ya m3 yc]).alloc (.cells #[.slice sb k1 sd, .slice rb k2 rd_, .slice yb k3 yd] 111)).after hb
    have b := (Blk.new2 w (.cells #[.slice sa m1 sc, .slice ra m2 rc, .slice ya m3 yc] 111) 111 [.slice sb k1 sd, .slice rb k2 rd_, .slice yb k3 yd]).after hb
    exact ⟨⟨a.cell 1, a.cell 2⟩, b.cell 1, b.cell 2⟩)
  cases B1 with
  | false =>
    simp only [Bool.false_and]
    go_enter Tryz.func73, Tryz.ntmps73
    go_wp2_with (first
      | (go_at_call 114; (with_reducible refine (C1.out _ (two_box _ _ _)).mono ?_); rintro e w1 ⟨rfl, hb⟩; have Q1 := Lib.hid hb; obtain ⟨⟨z1, z2⟩, z3, z4⟩ := K0.out _ hb; clear hb)
      | fail)
    go_ret
    exact ⟨rfl, keep_trans (two_box _ _ _) Q1.out⟩
  | true =>
    cases B2 with
    | false =>
      simp only [Bool.true_and, Bool.false_and]
      go_enter Tryz.func73, Tryz.ntmps73
      go_wp2_with (first
        | (go_at_call 115; (with_reducible refine (C2.out _ (keep_trans (two_box _ _ _) Q1.out)).mono ?_); rintro e w2 ⟨rfl, hb⟩; have Q2 := Lib.hid (keep_trans Q1.out hb); clear z1 z2 z3 z4; obtain ⟨⟨z1, z2⟩, z3, z4⟩ := K0.out _ Q2.out; clear hb)
        | (go_at_call 114; (with_reducible refine (C1.out _ (two_box _ _ _)).mono ?_); rintro e w1 ⟨rfl, hb⟩; have Q1 := Lib.hid hb; obtain ⟨⟨z1, z2⟩, z3, z4⟩ := K0.out _ hb; clear hb)
        | fail)
      go_ret
      exact ⟨rfl, keep_trans (two_box _ _ _) Q2.out⟩
    | true =>
      simp only [Bool.true_and]
      go_enter Tryz.func73, Tryz.ntmps73
      go_wp2_with (first
        | (go_at_call 115; (with_reducible refine (C3.out _ (keep_trans (two_box _ _ _) Q2.out)).mono ?_); rintro e w3 ⟨rfl, hb⟩; have Q3 := Lib.hid (keep_trans Q2.out hb); clear hb)
        | (go_at_call 115; (with_reducible refine (C2.out _ (keep_trans (two_box _ _ _) Q1.out)).mono ?_); rintro e w2 ⟨rfl, hb⟩; have Q2 := Lib.hid (keep_trans Q1.out hb); clear z1 z2 z3 z4; obtain ⟨⟨z1, z2⟩, z3, z4⟩ := K0.out _ Q2.out; clear hb)
        | (go_at_call 114; (with_reducible refine (C1.out _ (two_box _ _ _)).mono ?_); rintro e w1 ⟨rfl, hb⟩; have Q1 := Lib.hid hb; obtain ⟨⟨z1, z2⟩, z3, z4⟩ := K0.out _ hb; clear hb)
        | fail)
      go_ret
      exact ⟨rfl, keep_trans (two_box _ _ _) Q3.out⟩
set_option maxRecDepth 100000 in
set_option maxHeartbeats 2000000 in
theorem ef_routes (w : World) (A B : Option Addr) (n m c d : Nat) (l q : List RouteO) (cl cq : List Value) (hn : Hid (n = l.length)) (hm : Hid (m = q.length)) (hN : n ≤ 400) (hM : m ≤ 400) (hx : Rd w (· < w.heap.size) A cl) (hy : Rd w (· < w.heap.size) B cq) (hr : Rtos w (· < w.heap.size) l cl) (hs : Rtos w (· < w.heap.size) q cq) (hl : ∀ r ∈ l, r.stops.length ≤ 400 ∧ r.rides.length ≤ 400 ∧ r.stays.length ≤ 400) (hl' : ∀ r ∈ q, r.stops.length ≤ 400 ∧ r.rides.length ≤ 400 ∧ r.stays.length ≤ 400) :
    Calls Tryz.prog 72 #[.slice A n c, .slice B m d, .func (.func 73) #[] #[]] w (BPost w (decide (l = q))) := by
  have HX := Lib.hid hx
  have HY := Lib.hid hy
  have HR := Lib.hid hr
  have HS := Lib.hid hs
  have HL := Lib.hid hl
  have HL' := Lib.hid hl'
  clear hx hy hr hs hl hl'
  by_cases hnm : n = m
  · subst hnm
    go_enter Tryz.func72, Tryz.ntmps72
    go_wp2
    go_loopw [17] (fun v wr => ∃ k : Nat, v = .int .i64 k ∧ k ≤ n ∧ Hid (l.take k = q.take k) ∧ Hid (Below w.heap.size w wr)) (fun v _ => n - (intOf v).toNat)
    case atStart => exact ⟨0, rfl, by omega, Lib.hid (by simp), Lib.hid (Below.refl _ _)⟩
    case round =>
      obtain ⟨k, rfl, hk, HT, HB⟩ := hrel
      by_cases hlt : k < n
      · obtain ⟨a, ha⟩ := at_in l hn hlt
        obtain ⟨b, hb⟩ := at_in q hm hlt
        obtain ⟨ad, rfl, hS, sa, sc, ra, rc, ya, yc, a0, a1, a2, hra⟩ := rtos_at (rd_later HX.out HB.out) (HR.out.later HB.out) ha
        obtain ⟨bd, rfl, hT, sb, sd, rb, rd_, yb, yd, b0, b1, b2, hrb⟩ := rtos_at (rd_later HY.out HB.out) (HS.out.later HB.out) hb
        have HA := Lib.hid ha
        have HBB := Lib.hid hb
        have HC := Lib.hid (fun w' (hk : Below wr.heap.size wr w') => same_route a b sa ra ya sb rb yb sc rc yc sd rd_ yd w' (hra.later hk) (hrb.later hk) (HL.out a (List.mem_of_getElem? ha)) (HL'.out b (List.mem_of_getElem? hb)))
        have hi : (k : Int) < (n : Int) := by omega
        have hk0 : ¬ ((k : Int) < 0) := by omega
        have hbd : (bd.add (k * 3)).block < wr.heap.size := by rw [block_of_add]; exact hT
        have hbd2 : (bd.add (k * 3)).block ≠ wr.heap.size := by omega
        dsimp only [roV] at HC
        generalize a.stops.length = m1 at *
        generalize a.rides.length = m2 at *
        generalize a.stays.length = m3 at *
        generalize b.stops.length = k1 at *
        generalize b.rides.length = k2 at *
        generalize b.stays.length = k3 at *
        have N0 := Lib.hid b0
        have N1 := Lib.hid b1
        have N2 := Lib.hid b2
        have c0 : ∀ o, (wr.alloc o).cell? (bd.add (k * 3)) = some (.slice sb k1 sd) := fun o => (cell_keep (one_box wr o) hbd).trans N0.out
        have c1 : ∀ o, (wr.alloc o).cell? ⟨(bd.add (k * 3)).block, (bd.add (k * 3)).off + 1, none⟩ = some (.slice rb k2 rd_) := fun o => (cell_keep (p := ⟨(bd.add (k * 3)).block, (bd.add (k * 3)).off + 1, none⟩) (one_box wr o) hbd).trans N1.out
        have c2 : ∀ o, (wr.alloc o).cell? ⟨(bd.add (k * 3)).block, (bd.add (k * 3)).off + 2, none⟩ = some (.slice yb k3 yd) := fun o => (cell_keep (p := ⟨(bd.add (k * 3)).block, (bd.add (k * 3)).off + 2, none⟩) (one_box wr o) hbd).trans N2.out
        clear ha hb hra hrb hS hT
        by_cases he : a = b
        · have HT2 := Lib.hid (take_more2 HT.out HA.out HBB.out he)
          rw [decide_eq_true he] at HC
          clear he
          go_wp2_with (go_at_call 73; refine (HC.out _ (two_box _ _ _)).mono ?_; rintro e w2 ⟨rfl, hb⟩; have HB2 := Lib.hid (keep_trans HB.out (keep_trans (two_box _ _ _) hb)); clear hb)
          go_roundw
          case rel => exact ⟨k + 1, by go_num, by omega, HT2, HB2⟩
          case measure => simp [intOf]; omega
        · have HNE := Lib.hid (row_ne HA.out HBB.out he)
          rw [decide_eq_false he] at HC
          clear he
          go_wp2_with (go_at_call 73; refine (HC.out _ (two_box _ _ _)).mono ?_; rintro e w2 ⟨rfl, hb⟩; have HB2 := Lib.hid (keep_trans HB.out (keep_trans (two_box _ _ _) hb)); clear hb)
          go_ret
          exact ⟨by rw [HNE.out]; rfl, HB2.out⟩
      · have e : l = q := by
          have h1 := HT.out
          rwa [List.take_of_length_le (by have := hn.out; omega), List.take_of_length_le (by have := hm.out; omega)] at h1
        have HD : Hid (decide (l = q) = true) := Lib.hid (decide_eq_true e)
        clear e
        go_wp2
        go_ret
        exact ⟨by rw [HD.out]; rfl, HB.out⟩
  · have HD : Hid (decide (l = q) = false) := Lib.hid (by rw [decide_eq_false_iff_not]; rintro rfl; exact hnm (hn.out.trans hm.out.symm))
    rw [HD.out]
    have hne : ((n : Int) == (m : Int)) = false := by rw [beq_eq_false_iff_ne]; omega
    have hn2 : ¬ n = m := hnm
    clear hnm
    go_enter Tryz.func72, Tryz.ntmps72
    go_wp2
    go_ret
    exact ⟨rfl, Below.refl _ _⟩
theorem wo_eq {a b : WorldM} : a = b ↔ a.horizon = b.horizon ∧ a.names = b.names ∧ a.paths = b.paths ∧ a.doors = b.doors ∧ a.routes = b.routes ∧ a.trips = b.trips ∧ a.hazards = b.hazards := by
  cases a; cases b; simp
set_option maxRecDepth 100000 in
set_option maxHeartbeats 4000000 in
theorem wsame_any (x z : WorldM) (p q : WoA) (w : World) (h : Wo w (· < w.heap.size) x p) (g : Wo w (· < w.heap.size) z q) (hf : WLt x) (hg : WLt z) : Calls Tryz.prog 25 #[woG x p, woG z q] w (BPost w (decide (x = z))) := by
  obtain ⟨cr, s4, s4'⟩ := h.r4
  obtain ⟨cg, t4, t4'⟩ := g.r4
  have nlx : NLt4 x.names := fun l hl => by
    simp only [NamesM.kinds, List.mem_cons, List.not_mem_nil, or_false] at hl
    rcases hl with rfl | rfl | rfl | rfl | rfl | rfl | rfl
    · simp
    · exact hf.n1
    · exact hf.n2
    · exact hf.n3
    · exact hf.n4
    · exact hf.n5
    · exact hf.n6
  have nlz : NLt4 z.names := fun l hl => by
    simp only [NamesM.kinds, List.mem_cons, List.not_mem_nil, or_false] at hl
    rcases hl with rfl | rfl | rfl | rfl | rfl | rfl | rfl
    · simp
    · exact hg.n1
    · exact hg.n2
    · exact hg.n3
    · exact hg.n4
    · exact hg.n5
    · exact hg.n6
  have hq : decide (x = z) = (decide (x.horizon = z.horizon) && (decide (x.names = z.names) && (decide (x.paths = z.paths) && (decide (x.doors = z.doors) && (decide (x.routes = z.routes) && (decide (x.trips = z.trips) && decide (x.hazards = z.hazards))))))) := by
    rw [Bool.eq_iff_iff]; simp [wo_eq]
  rw [hq]
  clear hq
  have C1 := Lib.hid (fun w' (hb : Below w.heap.size w w') => same_names x.names z.names p.n q.n w' (h.r1.later hb) (g.r1.later hb) nlx nlz)
  have C2 := Lib.hid (fun w' (hb : Below w.heap.size w w') => eq_po w' p.b2 q.b2 x.paths.length z.paths.length p.d2 q.d2 x.paths z.paths (Lib.hid rfl) (Lib.hid rfl) (by have := hf.l2; omega) (by have := hg.l2; omega) (rd_later h.r2 hb) (rd_later g.r2 hb))
  have C3 := Lib.hid (fun w' (hb : Below w.heap.size w w') => eq_dof w' p.b3 q.b3 x.doors.length z.doors.length p.d3 q.d3 x.doors z.doors (Lib.hid rfl) (Lib.hid rfl) (by have := hf.l3; omega) (by have := hg.l3; omega) (rd_later h.r3 hb) (rd_later g.r3 hb))
  have C5 := Lib.hid (fun w' (hb : Below w.heap.size w w') => eq_to w' p.b5 q.b5 x.trips.length z.trips.length p.d5 q.d5 x.trips z.trips (Lib.hid rfl) (Lib.hid rfl) (by have := hf.l5; omega) (by have := hg.l5; omega) (rd_later h.r5 hb) (rd_later g.r5 hb))
  have C6 := Lib.hid (fun w' (hb : Below w.heap.size w w') => eq_ho w' p.b6 q.b6 x.hazards.length z.hazards.length p.d6 q.d6 x.hazards z.hazards (Lib.hid rfl) (Lib.hid rfl) (by have := hf.l6; omega) (by have := hg.l6; omega) (rd_later h.r6 hb) (rd_later g.r6 hb))
  have C4 := Lib.hid (fun w' (hb : Below w.heap.size w w') => ef_routes w' p.b4 q.b4 x.routes.length z.routes.length p.d4 q.d4 x.routes z.routes cr cg (Lib.hid rfl) (Lib.hid rfl) hf.l4 hg.l4 (rd_later s4 hb) (rd_later t4 hb) (s4'.later hb) (t4'.later hb) hf.lr hg.lr)
  clear h g hf hg s4 s4' t4 t4' nlx nlz
  dsimp only [naV] at C1
  dsimp only [woG]
  generalize decide (x.names = z.names) = B1 at *
  generalize decide (x.paths = z.paths) = B2 at *
  generalize decide (x.doors = z.doors) = B3 at *
  generalize decide (x.routes = z.routes) = B4 at *
  generalize decide (x.trips = z.trips) = B5 at *
  generalize decide (x.hazards = z.hazards) = B6 at *
  by_cases hh : x.horizon = z.horizon
  · have hdh : decide (x.horizon = z.horizon) = true := decide_eq_true hh
    rw [hdh, ← hh]
    clear hdh hh
    generalize x.horizon = hz at *
    generalize x.names.stops.length = L1 at *
    generalize z.names.stops.length = M1 at *
    generalize x.names.paths.length = L2 at *
    generalize z.names.paths.length = M2 at *
    generalize x.names.doors.length = L3 at *
    generalize z.names.doors.length = M3 at *
    generalize x.names.routes.length = L4 at *
    generalize z.names.routes.length = M4 at *
    generalize x.names.trips.length = L5 at *
    generalize z.names.trips.length = M5 at *
    generalize x.names.hazards.length = L6 at *
    generalize z.names.hazards.length = M6 at *
    generalize x.paths.length = P2 at *
    generalize z.paths.length = Q2 at *
    generalize x.doors.length = P3 at *
    generalize z.doors.length = Q3 at *
    generalize x.routes.length = P4 at *
    generalize z.routes.length = Q4 at *
    generalize x.trips.length = P5 at *
    generalize z.trips.length = Q5 at *
    generalize x.hazards.length = P6 at *
    generalize z.hazards.length = Q6 at *
    obtain ⟨⟨a1, a2, a3, a4, a5, a6, c1, c2, c3, c4, c5, c6⟩, b2, b3, b4, b5, b6, d2, d3, d4, d5, d6⟩ := p
    obtain ⟨⟨a1', a2', a3', a4', a5', a6', c1', c2', c3', c4', c5', c6'⟩, b2', b3', b4', b5', b6', d2', d3', d4', d5', d6'⟩ := q
    dsimp only at C1 C2 C3 C4 C5 C6 ⊢
    have KC : Hid (∀ w', Below ((w.alloc (.cells #[.int .i64 hz, .slice a1 L1 c1, .slice a2 L2 c2, .slice a3 L3 c3, .slice a4 L4 c4, .slice a5 L5 c5, .slice a6 L6 c6, .slice b2 P2 d2, .slice b3 P3 d3, .slice b4 P4 d4, .slice b5 P5 d5, .slice b6 P6 d6] 32)).alloc (.cells #[.int .i64 hz, .slice a1' M1 c1', .slice a2' M2 c2', .slice a3' M3 c3', .slice a4' M4 c4', .slice a5' M5 c5', .slice a6' M6 c6', .slice b2' Q2 d2', .slice b3' Q3 d3', .slice b4' Q4 d4', .slice b5' Q5 d5', .slice b6' Q6 d6'] 32)).heap.size ((w.alloc (.cells #[.int .i64 hz, .slice a1 L1 c1, .slice a2 L2 c2, .slice a3 L3 c3, .slice a4 L4 c4, .slice a5 L5 c5, .slice a6 L6 c6, .slice b2 P2 d2, .slice b3 P3 d3, .slice b4 P4 d4, .slice b5 P5 d5, .slice b6 P6 d6] 32)).alloc (.cells #[.int .i64 hz, .slice a1' M1 c1', .slice a2' M2 c2', .slice a3' M3 c3', .slice a4' M4 c4', .slice a5' M5 c5', .slice a6' M6 c6', .slice b2' Q2 d2', .slice b3' Q3 d3', .slice b4' Q4 d4', .slice b5' Q5 d5', .slice b6' Q6 d6'] 32)) w' → (w'.cell? ⟨w.heap.size, 7, none⟩ = some (.slice b2 P2 d2) ∧ w'.cell? ⟨w.heap.size, 8, none⟩ = some (.slice b3 P3 d3) ∧ w'.cell? ⟨w.heap.size, 9, none⟩ = some (.slice b4 P4 d4) ∧ w'.cell? ⟨w.heap.size, 10, none⟩ = some (.slice b5 P5 d5) ∧ w'.cell? ⟨w.heap.size, 11, none⟩ = some (.slice b6 P6 d6)) ∧ w'.cell? ⟨w.heap.size + 1, 7, none⟩ = some (.slice b2' Q2 d2') ∧ w'.cell? ⟨w.heap.size + 1, 8, none⟩ = some (.slice b3' Q3 d3') ∧ w'.cell? ⟨w.heap.size + 1, 9, none⟩ = some (.slice b4' Q4 d4') ∧ w'.cell? ⟨w.heap.size + 1, 10, none⟩ = some (.slice b5' Q5 d5') ∧ w'.cell? ⟨w.heap.size + 1, 11, none⟩ = some (.slice b6' Q6 d6')) := Lib.hid (fun w' hb => by
      have a := ((Blk.new w 32 [.int .i64 hz, .slice a1 L1 c1, .slice a2 L2 c2, .slice a3 L3 c3, .slice a4 L4 c4, .slice a5 L5 c5, .slice a6 L6 c6, .slice b2 P2 d2, .slice b3 P3 d3, .slice b4 P4 d4, .slice b5 P5 d5, .slice b6 P6 d6]).alloc (.cells #[.int .i64 hz, .slice a1' M1 c1', .slice a2' M2 c2', .slice a3' M3 c3', .slice a4' M4 c4', .slice a5' M5 c5', .slice a6' M6 c6', .slice b2' Q2 d2', .slice b3' Q3 d3', .slice b4' Q4 d4', .slice b5' Q5 d5', .slice b6' Q6 d6'] 32)).after hb
      have b := (Blk.new2 w (.cells #[.int .i64 hz, .slice a1 L1 c1, .slice a2 L2 c2, .slice a3 L3 c3, .slice a4 L4 c4, .slice a5 L5 c5, .slice a6 L6 c6, .slice b2 P2 d2, .slice b3 P3 d3, .slice b4 P4 d4, .slice b5 P5 d5, .slice b6 P6 d6] 32) 32 [.int .i64 hz, .slice a1' M1 c1', .slice a2' M2 c2', .slice a3' M3 c3', .slice a4' M4 c4', .slice a5' M5 c5', .slice a6' M6 c6', .slice b2' Q2 d2', .slice b3' Q3 d3', .slice b4' Q4 d4', .slice b5' Q5 d5', .slice b6' Q6 d6']).after hb
      exact ⟨⟨a.cell 7, a.cell 8, a.cell 9, a.cell 10, a.cell 11⟩, b.cell 7, b.cell 8, b.cell 9, b.cell 10, b.cell 11⟩)
    cases B1 with
    | false =>
      simp only [Bool.true_and, Bool.false_and]
      go_enter Tryz.func25, Tryz.ntmps25
      go_wp2_with (first
        | (go_at_call 69; (with_reducible refine (C1.out _ (two_box _ _ _)).mono ?_); rintro e w1 ⟨rfl, hb⟩; have R1 := Lib.hid hb; clear hb)
        | fail)
      go_ret
      exact ⟨rfl, keep_trans (two_box _ _ _) R1.out⟩
    | true =>
      cases B2 with
      | false =>
        simp only [Bool.true_and, Bool.false_and]
        go_enter Tryz.func25, Tryz.ntmps25
        go_wp2_with (first
          | (go_at_call 69; (with_reducible refine (C1.out _ (two_box _ _ _)).mono ?_); rintro e w1 ⟨rfl, hb⟩; have R1 := Lib.hid hb; obtain ⟨⟨y1, -, -, -, -⟩, z1, -, -, -, -⟩ := KC.out _ R1.out; clear hb)
          | (go_at_call 70; (with_reducible refine (C2.out _ (keep_trans (two_box _ _ _) R1.out)).mono ?_); rintro e w2 ⟨rfl, hb⟩; have R2 := Lib.hid (keep_trans R1.out hb); clear hb)
          | fail)
        go_ret
        exact ⟨rfl, keep_trans (two_box _ _ _) R2.out⟩
      | true =>
        cases B3 with
        | false =>
          simp only [Bool.true_and, Bool.false_and]
          go_enter Tryz.func25, Tryz.ntmps25
          go_wp2_with (first
            | (go_at_call 69; (with_reducible refine (C1.out _ (two_box _ _ _)).mono ?_); rintro e w1 ⟨rfl, hb⟩; have R1 := Lib.hid hb; obtain ⟨⟨y1, -, -, -, -⟩, z1, -, -, -, -⟩ := KC.out _ R1.out; clear hb)
            | (go_at_call 70; (with_reducible refine (C2.out _ (keep_trans (two_box _ _ _) R1.out)).mono ?_); rintro e w2 ⟨rfl, hb⟩; have R2 := Lib.hid (keep_trans R1.out hb); obtain ⟨⟨-, y2, -, -, -⟩, -, z2, -, -, -⟩ := KC.out _ R2.out; clear hb)
            | (go_at_call 71; (with_reducible refine (C3.out _ (keep_trans (two_box _ _ _) R2.out)).mono ?_); rintro e w3 ⟨rfl, hb⟩; have R3 := Lib.hid (keep_trans R2.out hb); clear hb)
            | fail)
          go_ret
          exact ⟨rfl, keep_trans (two_box _ _ _) R3.out⟩
        | true =>
          cases B4 with
          | false =>
            simp only [Bool.true_and, Bool.false_and]
            go_enter Tryz.func25, Tryz.ntmps25
            go_wp2_with (first
              | (go_at_call 69; (with_reducible refine (C1.out _ (two_box _ _ _)).mono ?_); rintro e w1 ⟨rfl, hb⟩; have R1 := Lib.hid hb; obtain ⟨⟨y1, -, -, -, -⟩, z1, -, -, -, -⟩ := KC.out _ R1.out; clear hb)
              | (go_at_call 70; (with_reducible refine (C2.out _ (keep_trans (two_box _ _ _) R1.out)).mono ?_); rintro e w2 ⟨rfl, hb⟩; have R2 := Lib.hid (keep_trans R1.out hb); obtain ⟨⟨-, y2, -, -, -⟩, -, z2, -, -, -⟩ := KC.out _ R2.out; clear hb)
              | (go_at_call 71; (with_reducible refine (C3.out _ (keep_trans (two_box _ _ _) R2.out)).mono ?_); rintro e w3 ⟨rfl, hb⟩; have R3 := Lib.hid (keep_trans R2.out hb); obtain ⟨⟨-, -, y3, -, -⟩, -, -, z3, -, -⟩ := KC.out _ R3.out; clear hb)
              | (go_at_call 72; (with_reducible refine (C4.out _ (keep_trans (two_box _ _ _) R3.out)).mono ?_); rintro e w4 ⟨rfl, hb⟩; have R4 := Lib.hid (keep_trans R3.out hb); clear hb)
              | fail)
            go_ret
            exact ⟨rfl, keep_trans (two_box _ _ _) R4.out⟩
          | true =>
            cases B5 with
            | false =>
              simp only [Bool.true_and, Bool.false_and]
              go_enter Tryz.func25, Tryz.ntmps25
              go_wp2_with (first
                | (go_at_call 69; (with_reducible refine (C1.out _ (two_box _ _ _)).mono ?_); rintro e w1 ⟨rfl, hb⟩; have R1 := Lib.hid hb; obtain ⟨⟨y1, -, -, -, -⟩, z1, -, -, -, -⟩ := KC.out _ R1.out; clear hb)
                | (go_at_call 70; (with_reducible refine (C2.out _ (keep_trans (two_box _ _ _) R1.out)).mono ?_); rintro e w2 ⟨rfl, hb⟩; have R2 := Lib.hid (keep_trans R1.out hb); obtain ⟨⟨-, y2, -, -, -⟩, -, z2, -, -, -⟩ := KC.out _ R2.out; clear hb)
                | (go_at_call 71; (with_reducible refine (C3.out _ (keep_trans (two_box _ _ _) R2.out)).mono ?_); rintro e w3 ⟨rfl, hb⟩; have R3 := Lib.hid (keep_trans R2.out hb); obtain ⟨⟨-, -, y3, -, -⟩, -, -, z3, -, -⟩ := KC.out _ R3.out; clear hb)
                | (go_at_call 72; (with_reducible refine (C4.out _ (keep_trans (two_box _ _ _) R3.out)).mono ?_); rintro e w4 ⟨rfl, hb⟩; have R4 := Lib.hid (keep_trans R3.out hb); obtain ⟨⟨-, -, -, y4, -⟩, -, -, -, z4, -⟩ := KC.out _ R4.out; clear hb)
                | (go_at_call 74; (with_reducible refine (C5.out _ (keep_trans (two_box _ _ _) R4.out)).mono ?_); rintro e w5 ⟨rfl, hb⟩; have R5 := Lib.hid (keep_trans R4.out hb); clear hb)
                | fail)
              go_ret
              exact ⟨rfl, keep_trans (two_box _ _ _) R5.out⟩
            | true =>
              cases B6 with
              | false =>
                simp only [Bool.true_and, Bool.false_and]
                go_enter Tryz.func25, Tryz.ntmps25
                go_wp2_with (first
                  | (go_at_call 69; (with_reducible refine (C1.out _ (two_box _ _ _)).mono ?_); rintro e w1 ⟨rfl, hb⟩; have R1 := Lib.hid hb; obtain ⟨⟨y1, -, -, -, -⟩, z1, -, -, -, -⟩ := KC.out _ R1.out; clear hb)
                  | (go_at_call 70; (with_reducible refine (C2.out _ (keep_trans (two_box _ _ _) R1.out)).mono ?_); rintro e w2 ⟨rfl, hb⟩; have R2 := Lib.hid (keep_trans R1.out hb); obtain ⟨⟨-, y2, -, -, -⟩, -, z2, -, -, -⟩ := KC.out _ R2.out; clear hb)
                  | (go_at_call 71; (with_reducible refine (C3.out _ (keep_trans (two_box _ _ _) R2.out)).mono ?_); rintro e w3 ⟨rfl, hb⟩; have R3 := Lib.hid (keep_trans R2.out hb); obtain ⟨⟨-, -, y3, -, -⟩, -, -, z3, -, -⟩ := KC.out _ R3.out; clear hb)
                  | (go_at_call 72; (with_reducible refine (C4.out _ (keep_trans (two_box _ _ _) R3.out)).mono ?_); rintro e w4 ⟨rfl, hb⟩; have R4 := Lib.hid (keep_trans R3.out hb); obtain ⟨⟨-, -, -, y4, -⟩, -, -, -, z4, -⟩ := KC.out _ R4.out; clear hb)
                  | (go_at_call 74; (with_reducible refine (C5.out _ (keep_trans (two_box _ _ _) R4.out)).mono ?_); rintro e w5 ⟨rfl, hb⟩; have R5 := Lib.hid (keep_trans R4.out hb); obtain ⟨⟨-, -, -, -, y5⟩, -, -, -, -, z5⟩ := KC.out _ R5.out; clear hb)
                  | (go_at_call 75; (with_reducible refine (C6.out _ (keep_trans (two_box _ _ _) R5.out)).mono ?_); rintro e w6 ⟨rfl, hb⟩; have R6 := Lib.hid (keep_trans R5.out hb); clear hb)
                  | fail)
                go_ret
                exact ⟨rfl, keep_trans (two_box _ _ _) R6.out⟩
              | true =>
                simp only [Bool.true_and]
                go_enter Tryz.func25, Tryz.ntmps25
                go_wp2_with (first
                  | (go_at_call 69; (with_reducible refine (C1.out _ (two_box _ _ _)).mono ?_); rintro e w1 ⟨rfl, hb⟩; have R1 := Lib.hid hb; obtain ⟨⟨y1, -, -, -, -⟩, z1, -, -, -, -⟩ := KC.out _ R1.out; clear hb)
                  | (go_at_call 70; (with_reducible refine (C2.out _ (keep_trans (two_box _ _ _) R1.out)).mono ?_); rintro e w2 ⟨rfl, hb⟩; have R2 := Lib.hid (keep_trans R1.out hb); obtain ⟨⟨-, y2, -, -, -⟩, -, z2, -, -, -⟩ := KC.out _ R2.out; clear hb)
                  | (go_at_call 71; (with_reducible refine (C3.out _ (keep_trans (two_box _ _ _) R2.out)).mono ?_); rintro e w3 ⟨rfl, hb⟩; have R3 := Lib.hid (keep_trans R2.out hb); obtain ⟨⟨-, -, y3, -, -⟩, -, -, z3, -, -⟩ := KC.out _ R3.out; clear hb)
                  | (go_at_call 72; (with_reducible refine (C4.out _ (keep_trans (two_box _ _ _) R3.out)).mono ?_); rintro e w4 ⟨rfl, hb⟩; have R4 := Lib.hid (keep_trans R3.out hb); obtain ⟨⟨-, -, -, y4, -⟩, -, -, -, z4, -⟩ := KC.out _ R4.out; clear hb)
                  | (go_at_call 74; (with_reducible refine (C5.out _ (keep_trans (two_box _ _ _) R4.out)).mono ?_); rintro e w5 ⟨rfl, hb⟩; have R5 := Lib.hid (keep_trans R4.out hb); obtain ⟨⟨-, -, -, -, y5⟩, -, -, -, -, z5⟩ := KC.out _ R5.out; clear hb)
                  | (go_at_call 75; (with_reducible refine (C6.out _ (keep_trans (two_box _ _ _) R5.out)).mono ?_); rintro e w6 ⟨rfl, hb⟩; have R6 := Lib.hid (keep_trans R5.out hb); clear hb)
                  | fail)
                go_ret
                exact ⟨rfl, keep_trans (two_box _ _ _) R6.out⟩
  · have hdh : decide (x.horizon = z.horizon) = false := decide_eq_false hh
    rw [hdh]
    simp only [Bool.false_and]
    generalize x.horizon = hz at *
    generalize z.horizon = hz' at *
    have hb1 : (hz == hz') = false := by simpa using hh
    clear hdh
    generalize x.names.stops.length = L1 at *
    generalize z.names.stops.length = M1 at *
    generalize x.names.paths.length = L2 at *
    generalize z.names.paths.length = M2 at *
    generalize x.names.doors.length = L3 at *
    generalize z.names.doors.length = M3 at *
    generalize x.names.routes.length = L4 at *
    generalize z.names.routes.length = M4 at *
    generalize x.names.trips.length = L5 at *
    generalize z.names.trips.length = M5 at *
    generalize x.names.hazards.length = L6 at *
    generalize z.names.hazards.length = M6 at *
    generalize x.paths.length = P2 at *
    generalize z.paths.length = Q2 at *
    generalize x.doors.length = P3 at *
    generalize z.doors.length = Q3 at *
    generalize x.routes.length = P4 at *
    generalize z.routes.length = Q4 at *
    generalize x.trips.length = P5 at *
    generalize z.trips.length = Q5 at *
    generalize x.hazards.length = P6 at *
    generalize z.hazards.length = Q6 at *
    obtain ⟨⟨a1, a2, a3, a4, a5, a6, c1, c2, c3, c4, c5, c6⟩, b2, b3, b4, b5, b6, d2, d3, d4, d5, d6⟩ := p
    obtain ⟨⟨a1', a2', a3', a4', a5', a6', c1', c2', c3', c4', c5', c6'⟩, b2', b3', b4', b5', b6', d2', d3', d4', d5', d6'⟩ := q
    dsimp only at C1 C2 C3 C4 C5 C6 ⊢
    clear C1 C2 C3 C4 C5 C6
    go_enter Tryz.func25, Tryz.ntmps25
    go_wp2
    go_ret
    exact ⟨rfl, two_box _ _ _⟩
end Go.Proofs.YtgdanbfglefiiaaGreat.Wo
