/- Package sheet's Check, proved by walking its text. Conditions: at most a million things in each row. · Package sheet's Check and Things, proved by walking their texts. Conditions: at most a million things in each row. · Comparing rows that are the same, proved by walking the texts. Conditions: at most a million things. · Comparing rows that are the same, proved by walking the texts. Conditions: at most a million things. · Comparing routes that are the same, proved by walking the texts. Conditions: at most a million things. · Comparing sheets that are the same, proved by walking the texts. Conditions: at most a million things. · Comparing sheets that are the same, proved by walking the texts. Conditions: at most a million things. · The statements' own examples: what lives answers. Conditions: the library's variables hold what start-up lays. · Plain facts on reading lines: what is read hangs on the line alone; what is read may be; faults have places. Conditions: the tokens are as they are cut from a text. · Plain facts on a sheet's lines: their tokens, their texts, and what is read from them. Conditions: the things may be. -/
import Derived.Test.YtfefnfifeaihhaaGreatBaB
set_option linter.unusedVariables false
set_option linter.unusedSimpArgs false
set_option maxHeartbeats 2000000
set_option maxRecDepth 100000
namespace Go.Proofs.YtfefnfifeaihhaaGreat.Sh
open Go.ChangeShapes Go.WideShapes Go.ChangeAt Go.RowKit
open Lx
/-- sheets that are not beyond all bounds -/
structure ShFew (x : SheetM) : Prop where
  l1 : x.stops.length ≤ 1000000
  l2 : x.paths.length ≤ 1000000
  l3 : x.doors.length ≤ 1000000
  l4 : x.routes.length ≤ 1000000
  l5 : x.trips.length ≤ 1000000
  l6 : x.hazards.length ≤ 1000000
  lr : ∀ r ∈ x.routes, Few r
def namedM (x : SheetM) : Bool := x.stops.all nameB && (x.paths.all path_name && (x.doors.all door_name && (x.routes.all route_name && (x.trips.all trip_name && x.hazards.all haz_name))))
def rangedM (x : SheetM) : Bool := [x.horizon].all tickB && (x.paths.all path_tick && (x.doors.all door_tick && (x.routes.all route_tick && (x.trips.all trip_tick && x.hazards.all haz_tick))))
def countedM (x : SheetM) : Bool := x.routes.all route_count
def crowdedM (x : SheetM) : Bool := decide (256 < x.stops.length) || (decide (1024 < x.paths.length) || (decide (256 < x.doors.length) || (decide (256 < x.routes.length) || (decide (1024 < x.trips.length) || decide (256 < x.hazards.length)))))
theorem named_any (x : SheetM) (p : ShA) (w : World) (h : Sh w (· < w.heap.size) x p) (hf : ShFew x) : Calls Tryz.prog 136 #[shV x p] w (BPost w (namedM x)) := by
  obtain ⟨r1, r2, r3, ⟨cr, r4, r4'⟩, r5, r6⟩ := h
  obtain ⟨l1, l2, l3, l4, l5, l6, lr⟩ := hf
  obtain ⟨hz, st, pa, dos, ro, tr, ha⟩ := x
  obtain ⟨a1, a2, a3, a4, a5, a6, c1, c2, c3, c4, c5, c6⟩ := p
  dsimp only at r1 r2 r3 r4 r4' r5 r6 l1 l2 l3 l4 l5 l6 lr
  have H1 := HH (fun w' (hb : Below w.heap.size w w') => names_any w' a1 st.length c1 st (HH rfl) l1 (rd_later r1 hb))
  have H2 := HH (fun w' (hb : Below w.heap.size w w') => each_path_name w' a2 pa.length c2 pa (HH rfl) l2 (rd_later r2 hb))
  have H3 := HH (fun w' (hb : Below w.heap.size w w') => each_door_name w' a3 dos.length c3 dos (HH rfl) l3 (rd_later r3 hb))
  have H4 := HH (fun w' (hb : Below w.heap.size w w') => each_route_name w' a4 ro.length c4 ro cr (HH rfl) l4 (rd_later r4 hb) (r4'.later hb) lr)
  have H5 := HH (fun w' (hb : Below w.heap.size w w') => each_trip_name w' a5 tr.length c5 tr (HH rfl) l5 (rd_later r5 hb))
  have H6 := HH (fun w' (hb : Below w.heap.size w w') => each_haz_name w' a6 ha.length c6 ha (HH rfl) l6 (rd_later r6 hb))
  clear r1 r2 r3 r4 r4' r5 r6 l1 l2 l3 l4 l5 l6 lr
  simp only [namedM]
  show Calls _ _ #[.agg #[.int .i64 hz, .slice a1 st.length c1, .slice a2 pa.length c2, .slice a3 dos.length c3, .slice a4 ro.length c4, .slice a5 tr.length c5, .slice a6 ha.length c6]] _ _
  generalize st.all nameB = b1 at *
  generalize pa.all path_name = b2 at *
  generalize dos.all door_name = b3 at *
  generalize ro.all route_name = b4 at *
  generalize tr.all trip_name = b5 at *
  generalize ha.all haz_name = b6 at *
  generalize st.length = n1 at *
  generalize pa.length = n2 at *
  generalize dos.length = n3 at *
  generalize ro.length = n4 at *
  generalize tr.length = n5 at *
  generalize ha.length = n6 at *
  cases b1 with
  | false =>
    simp only [Bool.false_and, Bool.true_and]
    go_enter Tryz.func136, Tryz.ntmps136
    go_wp2_with (first
      | (go_at_call 161; (with_reducible refine (H1.out _ (one_box _ _)).mono ?_); rintro e' w1 ⟨rfl, hb⟩; have HB1 := HH (keep_trans (one_box w _) hb); clear hb))
    go_ret
    exact ⟨rfl, HB1.out⟩
  | true =>
    cases b2 with
    | false =>
      simp only [Bool.false_and, Bool.true_and]
      go_enter Tryz.func136, Tryz.ntmps136
      go_wp2_with (first
        | (go_at_call 161; (with_reducible refine (H1.out _ (one_box _ _)).mono ?_); rintro e' w1 ⟨rfl, hb⟩; have HB1 := HH (keep_trans (one_box w _) hb); have HK1 := HH ((Blk.new w 88 [.int .i64 hz, .slice a1 n1 c1, .slice a2 n2 c2, .slice a3 n3 c3, .slice a4 n4 c4, .slice a5 n5 c5, .slice a6 n6 c6]).after hb); have k1 : w1.cell? ⟨w.heap.size, 2, none⟩ = some (.slice a2 n2 c2) := HK1.out.cell 2; clear hb)
        | (go_at_call 162; (with_reducible refine (H2.out _ HB1.out).mono ?_); rintro e' w2 ⟨rfl, hb⟩; have HB2 := HH (keep_trans HB1.out hb); clear hb))
      go_ret
      exact ⟨rfl, HB2.out⟩
    | true =>
      cases b3 with
      | false =>
        simp only [Bool.false_and, Bool.true_and]
        go_enter Tryz.func136, Tryz.ntmps136
        go_wp2_with (first
          | (go_at_call 161; (with_reducible refine (H1.out _ (one_box _ _)).mono ?_); rintro e' w1 ⟨rfl, hb⟩; have HB1 := HH (keep_trans (one_box w _) hb); have HK1 := HH ((Blk.new w 88 [.int .i64 hz, .slice a1 n1 c1, .slice a2 n2 c2, .slice a3 n3 c3, .slice a4 n4 c4, .slice a5 n5 c5, .slice a6 n6 c6]).after hb); have k1 : w1.cell? ⟨w.heap.size, 2, none⟩ = some (.slice a2 n2 c2) := HK1.out.cell 2; clear hb)
          | (go_at_call 162; (with_reducible refine (H2.out _ HB1.out).mono ?_); rintro e' w2 ⟨rfl, hb⟩; have HB2 := HH (keep_trans HB1.out hb); have HK2 := HH (HK1.out.after hb); have k2 : w2.cell? ⟨w.heap.size, 3, none⟩ = some (.slice a3 n3 c3) := HK2.out.cell 3; clear hb)
          | (go_at_call 164; (with_reducible refine (H3.out _ HB2.out).mono ?_); rintro e' w3 ⟨rfl, hb⟩; have HB3 := HH (keep_trans HB2.out hb); clear hb))
        go_ret
        exact ⟨rfl, HB3.out⟩
      | true =>
        cases b4 with
        | false =>
          simp only [Bool.false_and, Bool.true_and]
          go_enter Tryz.func136, Tryz.ntmps136
          go_wp2_with (first
            | (go_at_call 161; (with_reducible refine (H1.out _ (one_box _ _)).mono ?_); rintro e' w1 ⟨rfl, hb⟩; have HB1 := HH (keep_trans (one_box w _) hb); have HK1 := HH ((Blk.new w 88 [.int .i64 hz, .slice a1 n1 c1, .slice a2 n2 c2, .slice a3 n3 c3, .slice a4 n4 c4, .slice a5 n5 c5, .slice a6 n6 c6]).after hb); have k1 : w1.cell? ⟨w.heap.size, 2, none⟩ = some (.slice a2 n2 c2) := HK1.out.cell 2; clear hb)
            | (go_at_call 162; (with_reducible refine (H2.out _ HB1.out).mono ?_); rintro e' w2 ⟨rfl, hb⟩; have HB2 := HH (keep_trans HB1.out hb); have HK2 := HH (HK1.out.after hb); have k2 : w2.cell? ⟨w.heap.size, 3, none⟩ = some (.slice a3 n3 c3) := HK2.out.cell 3; clear hb)
            | (go_at_call 164; (with_reducible refine (H3.out _ HB2.out).mono ?_); rintro e' w3 ⟨rfl, hb⟩; have HB3 := HH (keep_trans HB2.out hb); have HK3 := HH (HK2.out.after hb); have k3 : w3.cell? ⟨w.heap.size, 4, none⟩ = some (.slice a4 n4 c4) := HK3.out.cell 4; clear hb)
            | (go_at_call 138; (with_reducible refine (H4.out _ HB3.out).mono ?_); rintro e' w4 ⟨rfl, hb⟩; have HB4 := HH (keep_trans HB3.out hb); clear hb))
          go_ret
          exact ⟨rfl, HB4.out⟩
        | true =>
          cases b5 with
          | false =>
            simp only [Bool.false_and, Bool.true_and]
            go_enter Tryz.func136, Tryz.ntmps136
            go_wp2_with (first
              | (go_at_call 161; (with_reducible refine (H1.out _ (one_box _ _)).mono ?_); rintro e' w1 ⟨rfl, hb⟩; have HB1 := HH (keep_trans (one_box w _) hb); have HK1 := HH ((Blk.new w 88 [.int .i64 hz, .slice a1 n1 c1, .slice a2 n2 c2, .slice a3 n3 c3, .slice a4 n4 c4, .slice a5 n5 c5, .slice a6 n6 c6]).after hb); have k1 : w1.cell? ⟨w.heap.size, 2, none⟩ = some (.slice a2 n2 c2) := HK1.out.cell 2; clear hb)
              | (go_at_call 162; (with_reducible refine (H2.out _ HB1.out).mono ?_); rintro e' w2 ⟨rfl, hb⟩; have HB2 := HH (keep_trans HB1.out hb); have HK2 := HH (HK1.out.after hb); have k2 : w2.cell? ⟨w.heap.size, 3, none⟩ = some (.slice a3 n3 c3) := HK2.out.cell 3; clear hb)
              | (go_at_call 164; (with_reducible refine (H3.out _ HB2.out).mono ?_); rintro e' w3 ⟨rfl, hb⟩; have HB3 := HH (keep_trans HB2.out hb); have HK3 := HH (HK2.out.after hb); have k3 : w3.cell? ⟨w.heap.size, 4, none⟩ = some (.slice a4 n4 c4) := HK3.out.cell 4; clear hb)
              | (go_at_call 138; (with_reducible refine (H4.out _ HB3.out).mono ?_); rintro e' w4 ⟨rfl, hb⟩; have HB4 := HH (keep_trans HB3.out hb); have HK4 := HH (HK3.out.after hb); have k4 : w4.cell? ⟨w.heap.size, 5, none⟩ = some (.slice a5 n5 c5) := HK4.out.cell 5; clear hb)
              | (go_at_call 167; (with_reducible refine (H5.out _ HB4.out).mono ?_); rintro e' w5 ⟨rfl, hb⟩; have HB5 := HH (keep_trans HB4.out hb); clear hb))
            go_ret
            exact ⟨rfl, HB5.out⟩
          | true =>
            simp only [Bool.false_and, Bool.true_and]
            go_enter Tryz.func136, Tryz.ntmps136
            go_wp2_with (first
              | (go_at_call 161; (with_reducible refine (H1.out _ (one_box _ _)).mono ?_); rintro e' w1 ⟨rfl, hb⟩; have HB1 := HH (keep_trans (one_box w _) hb); have HK1 := HH ((Blk.new w 88 [.int .i64 hz, .slice a1 n1 c1, .slice a2 n2 c2, .slice a3 n3 c3, .slice a4 n4 c4, .slice a5 n5 c5, .slice a6 n6 c6]).after hb); have k1 : w1.cell? ⟨w.heap.size, 2, none⟩ = some (.slice a2 n2 c2) := HK1.out.cell 2; clear hb)
              | (go_at_call 162; (with_reducible refine (H2.out _ HB1.out).mono ?_); rintro e' w2 ⟨rfl, hb⟩; have HB2 := HH (keep_trans HB1.out hb); have HK2 := HH (HK1.out.after hb); have k2 : w2.cell? ⟨w.heap.size, 3, none⟩ = some (.slice a3 n3 c3) := HK2.out.cell 3; clear hb)
              | (go_at_call 164; (with_reducible refine (H3.out _ HB2.out).mono ?_); rintro e' w3 ⟨rfl, hb⟩; have HB3 := HH (keep_trans HB2.out hb); have HK3 := HH (HK2.out.after hb); have k3 : w3.cell? ⟨w.heap.size, 4, none⟩ = some (.slice a4 n4 c4) := HK3.out.cell 4; clear hb)
              | (go_at_call 138; (with_reducible refine (H4.out _ HB3.out).mono ?_); rintro e' w4 ⟨rfl, hb⟩; have HB4 := HH (keep_trans HB3.out hb); have HK4 := HH (HK3.out.after hb); have k4 : w4.cell? ⟨w.heap.size, 5, none⟩ = some (.slice a5 n5 c5) := HK4.out.cell 5; clear hb)
              | (go_at_call 167; (with_reducible refine (H5.out _ HB4.out).mono ?_); rintro e' w5 ⟨rfl, hb⟩; have HB5 := HH (keep_trans HB4.out hb); have HK5 := HH (HK4.out.after hb); have k5 : w5.cell? ⟨w.heap.size, 6, none⟩ = some (.slice a6 n6 c6) := HK5.out.cell 6; clear hb)
              | (go_at_call 169; (with_reducible refine (H6.out _ HB5.out).mono ?_); rintro e' w6 ⟨rfl, hb⟩; have HB6 := HH (keep_trans HB5.out hb); clear hb))
            go_ret
            exact ⟨rfl, HB6.out⟩
theorem ranged_any (x : SheetM) (p : ShA) (w : World) (h : Sh w (· < w.heap.size) x p) (hf : ShFew x) : Calls Tryz.prog 137 #[shV x p] w (BPost w (rangedM x)) := by
  obtain ⟨r1, r2, r3, ⟨cr, r4, r4'⟩, r5, r6⟩ := h
  obtain ⟨l1, l2, l3, l4, l5, l6, lr⟩ := hf
  obtain ⟨hz, st, pa, dos, ro, tr, ha⟩ := x
  obtain ⟨a1, a2, a3, a4, a5, a6, c1, c2, c3, c4, c5, c6⟩ := p
  dsimp only at r1 r2 r3 r4 r4' r5 r6 l1 l2 l3 l4 l5 l6 lr
  have H1 := HH (fun w' A c (hx : Rd w' (· < w'.heap.size) A (cs intC [hz])) => ticks_any w' A 1 c [hz] (HH rfl) (by omega) hx)
  have H2 := HH (fun w' (hb : Below w.heap.size w w') => each_path_tick w' a2 pa.length c2 pa (HH rfl) l2 (rd_later r2 hb))
  have H3 := HH (fun w' (hb : Below w.heap.size w w') => each_door_tick w' a3 dos.length c3 dos (HH rfl) l3 (rd_later r3 hb))
  have H4 := HH (fun w' (hb : Below w.heap.size w w') => each_route_tick w' a4 ro.length c4 ro cr (HH rfl) l4 (rd_later r4 hb) (r4'.later hb) lr)
  have H5 := HH (fun w' (hb : Below w.heap.size w w') => each_trip_tick w' a5 tr.length c5 tr (HH rfl) l5 (rd_later r5 hb))
  have H6 := HH (fun w' (hb : Below w.heap.size w w') => each_haz_tick w' a6 ha.length c6 ha (HH rfl) l6 (rd_later r6 hb))
  clear r1 r2 r3 r4 r4' r5 r6 l1 l2 l3 l4 l5 l6 lr
  simp only [rangedM]
  show Calls _ _ #[.agg #[.int .i64 hz, .slice a1 st.length c1, .slice a2 pa.length c2, .slice a3 dos.length c3, .slice a4 ro.length c4, .slice a5 tr.length c5, .slice a6 ha.length c6]] _ _
  generalize [hz].all tickB = b1 at *
  generalize pa.all path_tick = b2 at *
  generalize dos.all door_tick = b3 at *
  generalize ro.all route_tick = b4 at *
  generalize tr.all trip_tick = b5 at *
  generalize ha.all haz_tick = b6 at *
  generalize st.length = n1 at *
  generalize pa.length = n2 at *
  generalize dos.length = n3 at *
  generalize ro.length = n4 at *
  generalize tr.length = n5 at *
  generalize ha.length = n6 at *
  cases b1 with
  | false =>
    simp only [Bool.false_and, Bool.true_and]
    go_enter Tryz.func137, Tryz.ntmps137
    go_wp2_with (first
      | (go_at_call 171; refine (H1.out _ _ _ (lit_i _ _ _ _ (by simp) rfl)).mono ?_; rintro e' w1 ⟨rfl, hb⟩; have HB1 := HH (keep_trans (two_box w _ _) hb); clear hb))
    go_ret
    exact ⟨rfl, HB1.out⟩
  | true =>
    cases b2 with
    | false =>
      simp only [Bool.false_and, Bool.true_and]
      go_enter Tryz.func137, Tryz.ntmps137
      go_wp2_with (first
        | (go_at_call 171; refine (H1.out _ _ _ (lit_i _ _ _ _ (by simp) rfl)).mono ?_; rintro e' w1 ⟨rfl, hb⟩; have HB1 := HH (keep_trans (two_box w _ _) hb); have HK1 := HH (((Blk.new w 88 [.int .i64 hz, .slice a1 n1 c1, .slice a2 n2 c2, .slice a3 n3 c3, .slice a4 n4 c4, .slice a5 n5 c5, .slice a6 n6 c6]).alloc _).after hb); have k1 : w1.cell? ⟨w.heap.size, 2, none⟩ = some (.slice a2 n2 c2) := HK1.out.cell 2; clear hb)
        | (go_at_call 162; (with_reducible refine (H2.out _ HB1.out).mono ?_); rintro e' w2 ⟨rfl, hb⟩; have HB2 := HH (keep_trans HB1.out hb); clear hb))
      go_ret
      exact ⟨rfl, HB2.out⟩
    | true =>
      cases b3 with
      | false =>
        simp only [Bool.false_and, Bool.true_and]
        go_enter Tryz.func137, Tryz.ntmps137
        go_wp2_with (first
          | (go_at_call 171; refine (H1.out _ _ _ (lit_i _ _ _ _ (by simp) rfl)).mono ?_; rintro e' w1 ⟨rfl, hb⟩; have HB1 := HH (keep_trans (two_box w _ _) hb); have HK1 := HH (((Blk.new w 88 [.int .i64 hz, .slice a1 n1 c1, .slice a2 n2 c2, .slice a3 n3 c3, .slice a4 n4 c4, .slice a5 n5 c5, .slice a6 n6 c6]).alloc _).after hb); have k1 : w1.cell? ⟨w.heap.size, 2, none⟩ = some (.slice a2 n2 c2) := HK1.out.cell 2; clear hb)
          | (go_at_call 162; (with_reducible refine (H2.out _ HB1.out).mono ?_); rintro e' w2 ⟨rfl, hb⟩; have HB2 := HH (keep_trans HB1.out hb); have HK2 := HH (HK1.out.after hb); have k2 : w2.cell? ⟨w.heap.size, 3, none⟩ = some (.slice a3 n3 c3) := HK2.out.cell 3; clear hb)
          | (go_at_call 164; (with_reducible refine (H3.out _ HB2.out).mono ?_); rintro e' w3 ⟨rfl, hb⟩; have HB3 := HH (keep_trans HB2.out hb); clear hb))
        go_ret
        exact ⟨rfl, HB3.out⟩
      | true =>
        cases b4 with
        | false =>
          simp only [Bool.false_and, Bool.true_and]
          go_enter Tryz.func137, Tryz.ntmps137
          go_wp2_with (first
            | (go_at_call 171; refine (H1.out _ _ _ (lit_i _ _ _ _ (by simp) rfl)).mono ?_; rintro e' w1 ⟨rfl, hb⟩; have HB1 := HH (keep_trans (two_box w _ _) hb); have HK1 := HH (((Blk.new w 88 [.int .i64 hz, .slice a1 n1 c1, .slice a2 n2 c2, .slice a3 n3 c3, .slice a4 n4 c4, .slice a5 n5 c5, .slice a6 n6 c6]).alloc _).after hb); have k1 : w1.cell? ⟨w.heap.size, 2, none⟩ = some (.slice a2 n2 c2) := HK1.out.cell 2; clear hb)
            | (go_at_call 162; (with_reducible refine (H2.out _ HB1.out).mono ?_); rintro e' w2 ⟨rfl, hb⟩; have HB2 := HH (keep_trans HB1.out hb); have HK2 := HH (HK1.out.after hb); have k2 : w2.cell? ⟨w.heap.size, 3, none⟩ = some (.slice a3 n3 c3) := HK2.out.cell 3; clear hb)
            | (go_at_call 164; (with_reducible refine (H3.out _ HB2.out).mono ?_); rintro e' w3 ⟨rfl, hb⟩; have HB3 := HH (keep_trans HB2.out hb); have HK3 := HH (HK2.out.after hb); have k3 : w3.cell? ⟨w.heap.size, 4, none⟩ = some (.slice a4 n4 c4) := HK3.out.cell 4; clear hb)
            | (go_at_call 138; (with_reducible refine (H4.out _ HB3.out).mono ?_); rintro e' w4 ⟨rfl, hb⟩; have HB4 := HH (keep_trans HB3.out hb); clear hb))
          go_ret
          exact ⟨rfl, HB4.out⟩
        | true =>
          cases b5 with
          | false =>
            simp only [Bool.false_and, Bool.true_and]
            go_enter Tryz.func137, Tryz.ntmps137
            go_wp2_with (first
              | (go_at_call 171; refine (H1.out _ _ _ (lit_i _ _ _ _ (by simp) rfl)).mono ?_; rintro e' w1 ⟨rfl, hb⟩; have HB1 := HH (keep_trans (two_box w _ _) hb); have HK1 := HH (((Blk.new w 88 [.int .i64 hz, .slice a1 n1 c1, .slice a2 n2 c2, .slice a3 n3 c3, .slice a4 n4 c4, .slice a5 n5 c5, .slice a6 n6 c6]).alloc _).after hb); have k1 : w1.cell? ⟨w.heap.size, 2, none⟩ = some (.slice a2 n2 c2) := HK1.out.cell 2; clear hb)
              | (go_at_call 162; (with_reducible refine (H2.out _ HB1.out).mono ?_); rintro e' w2 ⟨rfl, hb⟩; have HB2 := HH (keep_trans HB1.out hb); have HK2 := HH (HK1.out.after hb); have k2 : w2.cell? ⟨w.heap.size, 3, none⟩ = some (.slice a3 n3 c3) := HK2.out.cell 3; clear hb)
              | (go_at_call 164; (with_reducible refine (H3.out _ HB2.out).mono ?_); rintro e' w3 ⟨rfl, hb⟩; have HB3 := HH (keep_trans HB2.out hb); have HK3 := HH (HK2.out.after hb); have k3 : w3.cell? ⟨w.heap.size, 4, none⟩ = some (.slice a4 n4 c4) := HK3.out.cell 4; clear hb)
              | (go_at_call 138; (with_reducible refine (H4.out _ HB3.out).mono ?_); rintro e' w4 ⟨rfl, hb⟩; have HB4 := HH (keep_trans HB3.out hb); have HK4 := HH (HK3.out.after hb); have k4 : w4.cell? ⟨w.heap.size, 5, none⟩ = some (.slice a5 n5 c5) := HK4.out.cell 5; clear hb)
              | (go_at_call 167; (with_reducible refine (H5.out _ HB4.out).mono ?_); rintro e' w5 ⟨rfl, hb⟩; have HB5 := HH (keep_trans HB4.out hb); clear hb))
            go_ret
            exact ⟨rfl, HB5.out⟩
          | true =>
            simp only [Bool.false_and, Bool.true_and]
            go_enter Tryz.func137, Tryz.ntmps137
            go_wp2_with (first
              | (go_at_call 171; refine (H1.out _ _ _ (lit_i _ _ _ _ (by simp) rfl)).mono ?_; rintro e' w1 ⟨rfl, hb⟩; have HB1 := HH (keep_trans (two_box w _ _) hb); have HK1 := HH (((Blk.new w 88 [.int .i64 hz, .slice a1 n1 c1, .slice a2 n2 c2, .slice a3 n3 c3, .slice a4 n4 c4, .slice a5 n5 c5, .slice a6 n6 c6]).alloc _).after hb); have k1 : w1.cell? ⟨w.heap.size, 2, none⟩ = some (.slice a2 n2 c2) := HK1.out.cell 2; clear hb)
              | (go_at_call 162; (with_reducible refine (H2.out _ HB1.out).mono ?_); rintro e' w2 ⟨rfl, hb⟩; have HB2 := HH (keep_trans HB1.out hb); have HK2 := HH (HK1.out.after hb); have k2 : w2.cell? ⟨w.heap.size, 3, none⟩ = some (.slice a3 n3 c3) := HK2.out.cell 3; clear hb)
              | (go_at_call 164; (with_reducible refine (H3.out _ HB2.out).mono ?_); rintro e' w3 ⟨rfl, hb⟩; have HB3 := HH (keep_trans HB2.out hb); have HK3 := HH (HK2.out.after hb); have k3 : w3.cell? ⟨w.heap.size, 4, none⟩ = some (.slice a4 n4 c4) := HK3.out.cell 4; clear hb)
              | (go_at_call 138; (with_reducible refine (H4.out _ HB3.out).mono ?_); rintro e' w4 ⟨rfl, hb⟩; have HB4 := HH (keep_trans HB3.out hb); have HK4 := HH (HK3.out.after hb); have k4 : w4.cell? ⟨w.heap.size, 5, none⟩ = some (.slice a5 n5 c5) := HK4.out.cell 5; clear hb)
              | (go_at_call 167; (with_reducible refine (H5.out _ HB4.out).mono ?_); rintro e' w5 ⟨rfl, hb⟩; have HB5 := HH (keep_trans HB4.out hb); have HK5 := HH (HK4.out.after hb); have k5 : w5.cell? ⟨w.heap.size, 6, none⟩ = some (.slice a6 n6 c6) := HK5.out.cell 6; clear hb)
              | (go_at_call 169; (with_reducible refine (H6.out _ HB5.out).mono ?_); rintro e' w6 ⟨rfl, hb⟩; have HB6 := HH (keep_trans HB5.out hb); clear hb))
            go_ret
            exact ⟨rfl, HB6.out⟩
end Go.Proofs.YtfefnfifeaihhaaGreat.Sh
namespace Go.Proofs.YtfefnfifeaihhaaGreat.Sh
open Go.ChangeShapes Go.WideShapes Go.ChangeAt Go.RowKit
open Lx
theorem crowded_any (x : SheetM) (p : ShA) (w : World) (hf : ShFew x) : Calls Tryz.prog 135 #[shV x p] w (BPost w (crowdedM x)) := by
  obtain ⟨l1, l2, l3, l4, l5, l6, lr⟩ := hf
  obtain ⟨hz, st, pa, dos, ro, tr, ha⟩ := x
  obtain ⟨a1, a2, a3, a4, a5, a6, c1, c2, c3, c4, c5, c6⟩ := p
  dsimp only at l1 l2 l3 l4 l5 l6
  clear lr
  simp only [crowdedM]
  show Calls _ _ #[.agg #[.int .i64 hz, .slice a1 st.length c1, .slice a2 pa.length c2, .slice a3 dos.length c3, .slice a4 ro.length c4, .slice a5 tr.length c5, .slice a6 ha.length c6]] _ _
  generalize st.length = n1 at *
  generalize pa.length = n2 at *
  generalize dos.length = n3 at *
  generalize ro.length = n4 at *
  generalize tr.length = n5 at *
  generalize ha.length = n6 at *
  go_enter Tryz.func135, Tryz.ntmps135
  go_wp2
  all_goals go_ret
  all_goals exact ⟨congrArg (fun b => Ending.returned (Value.bool b)) (by rw [Bool.eq_iff_iff]; simp; omega), one_box _ _⟩
/-- what Check answers -/
def checkM (x : SheetM) : Int := if crowdedM x then 3 else if namedM x then if rangedM x then if countedM x then 0 else 2 else 9 else 7
theorem scheck_any (x : SheetM) (p : ShA) (w : World) (h : Sh w (· < w.heap.size) x p) (hf : ShFew x) : Calls Tryz.prog 119 #[shV x p] w (fun e w' => e = .returned (.int .i64 (checkM x)) ∧ Below w.heap.size w w') := by
  have H1 := HH (fun w' => crowded_any x p w' hf)
  have H2 := HH (fun w' (hb : Below w.heap.size w w') => named_any x p w' (h.later hb) hf)
  have H3 := HH (fun w' (hb : Below w.heap.size w w') => ranged_any x p w' (h.later hb) hf)
  obtain ⟨cr, r4, r4'⟩ := h.r4
  have H4 := HH (fun w' (hb : Below w.heap.size w w') => each_route_count w' p.a4 x.routes.length p.c4 x.routes cr (HH rfl) hf.l4 (rd_later r4 hb) (r4'.later hb) hf.lr)
  clear h hf r4 r4' cr
  simp only [checkM]
  change Hid (∀ w', Below w.heap.size w w' → Calls _ _ _ w' (BPost w' (countedM x))) at H4
  generalize crowdedM x = b1 at *
  generalize namedM x = b2 at *
  generalize rangedM x = b3 at *
  generalize countedM x = b4 at *
  obtain ⟨hz, st, pa, dos, ro, tr, ha⟩ := x
  obtain ⟨a1, a2, a3, a4, a5, a6, c1, c2, c3, c4, c5, c6⟩ := p
  simp only [shV] at H1 H2 H3 H4 ⊢
  generalize st.length = n1 at *
  generalize pa.length = n2 at *
  generalize dos.length = n3 at *
  generalize ro.length = n4 at *
  generalize tr.length = n5 at *
  generalize ha.length = n6 at *
  cases b1 <;> cases b2 <;> cases b3 <;> cases b4
  all_goals simp only [if_true, if_false, Bool.false_eq_true, reduceIte]
  all_goals go_enter Tryz.func119, Tryz.ntmps119
  all_goals (go_wp2_with (first
    | (go_at_call 135; (with_reducible refine (H1.out _).mono ?_); rintro e' w1 ⟨rfl, hb⟩; have HB1 := HH (keep_trans (one_box w _) hb); have HK1 := HH ((Blk.new w 88 [.int .i64 hz, .slice a1 n1 c1, .slice a2 n2 c2, .slice a3 n3 c3, .slice a4 n4 c4, .slice a5 n5 c5, .slice a6 n6 c6]).after hb); have HB := HB1; have j0 : w1.cell? ⟨w.heap.size, 0, none⟩ = some (.int .i64 hz) := HK1.out.cell 0; have j1 : w1.cell? ⟨w.heap.size, 1, none⟩ = some (.slice a1 n1 c1) := HK1.out.cell 1; have j2 : w1.cell? ⟨w.heap.size, 2, none⟩ = some (.slice a2 n2 c2) := HK1.out.cell 2; have j3 : w1.cell? ⟨w.heap.size, 3, none⟩ = some (.slice a3 n3 c3) := HK1.out.cell 3; have j4 : w1.cell? ⟨w.heap.size, 4, none⟩ = some (.slice a4 n4 c4) := HK1.out.cell 4; have j5 : w1.cell? ⟨w.heap.size, 5, none⟩ = some (.slice a5 n5 c5) := HK1.out.cell 5; have j6 : w1.cell? ⟨w.heap.size, 6, none⟩ = some (.slice a6 n6 c6) := HK1.out.cell 6; clear hb)
    | (go_at_call 136; (with_reducible refine (H2.out _ HB1.out).mono ?_); rintro e' w2 ⟨rfl, hb⟩; have HB2 := HH (keep_trans HB1.out hb); have HK2 := HH (HK1.out.after hb); have HB := HB2; have m0 : w2.cell? ⟨w.heap.size, 0, none⟩ = some (.int .i64 hz) := HK2.out.cell 0; have m1 : w2.cell? ⟨w.heap.size, 1, none⟩ = some (.slice a1 n1 c1) := HK2.out.cell 1; have m2 : w2.cell? ⟨w.heap.size, 2, none⟩ = some (.slice a2 n2 c2) := HK2.out.cell 2; have m3 : w2.cell? ⟨w.heap.size, 3, none⟩ = some (.slice a3 n3 c3) := HK2.out.cell 3; have m4 : w2.cell? ⟨w.heap.size, 4, none⟩ = some (.slice a4 n4 c4) := HK2.out.cell 4; have m5 : w2.cell? ⟨w.heap.size, 5, none⟩ = some (.slice a5 n5 c5) := HK2.out.cell 5; have m6 : w2.cell? ⟨w.heap.size, 6, none⟩ = some (.slice a6 n6 c6) := HK2.out.cell 6; clear hb)
    | (go_at_call 137; (with_reducible refine (H3.out _ HB2.out).mono ?_); rintro e' w3 ⟨rfl, hb⟩; have HB3 := HH (keep_trans HB2.out hb); have HK3 := HH (HK2.out.after hb); have HB := HB3; have p4 : w3.cell? ⟨w.heap.size, 4, none⟩ = some (.slice a4 n4 c4) := HK3.out.cell 4; clear hb)
    | (go_at_call 138; (with_reducible refine (H4.out _ HB3.out).mono ?_); rintro e' w4 ⟨rfl, hb⟩; have HB := HH (keep_trans HB3.out hb); clear hb)); go_ret; exact ⟨rfl, HB.out⟩)
end Go.Proofs.YtfefnfifeaihhaaGreat.Sh
namespace Go.Proofs.YtfefnfifeaihhaaGreat.Sh
open Go.ChangeShapes Go.WideShapes Go.ChangeAt Go.RowKit
open Lx
end Go.Proofs.YtfefnfifeaihhaaGreat.Sh
namespace Go.Proofs.YtfefnfifeaihhaaGreat.Sh
open Go.ChangeShapes Go.WideShapes Go.ChangeAt Go.RowKit
open Lx
end Go.Proofs.YtfefnfifeaihhaaGreat.Sh
namespace Go.Proofs.YtfefnfifeaihhaaGreat.Sh
open Go.ChangeShapes Go.WideShapes Go.ChangeAt Go.RowKit
open Lx
theorem Blk.new2 (w : World) (o : Obj) (t : TypeId) (l : List Value) : Blk ((w.alloc o).alloc (.cells l.toArray t)) (w.heap.size + 1) t l := by
  have := Blk.new (w.alloc o) t l
  simpa using this
end Go.Proofs.YtfefnfifeaihhaaGreat.Sh
namespace Go.Proofs.YtfefnfifeaihhaaGreat.Sh
open Go.ChangeShapes Go.WideShapes Go.ChangeAt Go.RowKit
open Lx
end Go.Proofs.YtfefnfifeaihhaaGreat.Sh
namespace Go.Proofs.YtfefnfifeaihhaaGreat.Sh
open Go.ChangeShapes Go.WideShapes Go.ChangeAt Go.RowKit
open Lx
end Go.Proofs.YtfefnfifeaihhaaGreat.Sh
namespace Go.Proofs.YtfefnfifeaihhaaGreat.Sh
open Go.ChangeShapes Go.WideShapes Go.ChangeAt Go.RowKit
open Lx
end Go.Proofs.YtfefnfifeaihhaaGreat.Sh
namespace Go.Proofs.YtfefnfifeaihhaaGreat.Sh
open Lx Tk
end Go.Proofs.YtfefnfifeaihhaaGreat.Sh
namespace Go.Proofs.YtfefnfifeaihhaaGreat.Sh
open Lx Tk
end Go.Proofs.YtfefnfifeaihhaaGreat.Sh
