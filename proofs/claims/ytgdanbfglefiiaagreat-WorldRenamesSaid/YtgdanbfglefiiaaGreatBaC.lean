/- Package sheet's Check, proved by walking its text. Conditions: at most a million things in each row. · Package sheet's Check and Things, proved by walking their texts. Conditions: at most a million things in each row. · Comparing rows that are the same, proved by walking the texts. Conditions: at most a million things. · Comparing rows that are the same, proved by walking the texts. Conditions: at most a million things. · Comparing routes that are the same, proved by walking the texts. Conditions: at most a million things. · Comparing sheets that are the same, proved by walking the texts. Conditions: at most a million things. · Comparing sheets that are the same, proved by walking the texts. Conditions: at most a million things. · The statements' own examples: what lives answers. Conditions: the library's variables hold what start-up lays. · Plain facts on reading lines: what is read hangs on the line alone; what is read may be; faults have places. Conditions: the tokens are as they are cut from a text. · Plain facts on a sheet's lines: their tokens, their texts, and what is read from them. Conditions: the things may be. -/
import Derived.Test.YtgdanbfglefiiaaGreatBaB
import Derived.Test.YtgdanbfglefiiaaGreatBaA
namespace Go.Proofs.YtgdanbfglefiiaaGreat.Sh
open Go.ChangeShapes Go.WideShapes Go.ChangeAt Go.RowKit
open Lx
set_option linter.unusedVariables false
set_option linter.unusedSimpArgs false
/-- sheets that are not beyond all bounds -/
structure ShFew (x : SheetM) : Prop where
  l1 : x.stops.length ≤ 1000000
  l2 : x.paths.length ≤ 1000000
  l3 : x.doors.length ≤ 1000000
  l4 : x.routes.length ≤ 1000000
  l5 : x.trips.length ≤ 1000000
  l6 : x.hazards.length ≤ 1000000
  lr : ∀ r ∈ x.routes, Few r
def namedM (x : SheetM) : Bool := x.stops.all nameB && (x.paths.all path_name && (x.doors.all door_name && (x.routes.all route_name && (x.trips.all trip_name && x.hazards.all haz_name))))
def rangedM (x : SheetM) : Bool := [x.horizon].all tickB && (x.paths.all path_tick && (x.doors.all door_tick && (x.routes.all route_tick && (x.trips.all trip_tick && x.hazards.all haz_tick))))
def countedM (x : SheetM) : Bool := x.routes.all route_count
def crowdedM (x : SheetM) : Bool := decide (256 < x.stops.length) || (decide (1024 < x.paths.length) || (decide (256 < x.doors.length) || (decide (256 < x.routes.length) || (decide (1024 < x.trips.length) || decide (256 < x.hazards.length)))))
set_option maxRecDepth 100000 in
set_option maxHeartbeats 2000000 in
theorem named_any (x : SheetM) (p : ShA) (w : World) (h : Sh w (· < w.heap.size) x p) (hf : ShFew x) : Calls Tryz.prog 77 #[shV x p] w (BPost w (namedM x)) := by
  obtain ⟨r1, r2, r3, ⟨cr, r4, r4'⟩, r5, r6⟩ := h
  obtain ⟨l1, l2, l3, l4, l5, l6, lr⟩ := hf
  obtain ⟨hz, st, pa, dos, ro, tr, ha⟩ := x
  obtain ⟨a1, a2, a3, a4, a5, a6, c1, c2, c3, c4, c5, c6⟩ := p
  dsimp only at r1 r2 r3 r4 r4' r5 r6 l1 l2 l3 l4 l5 l6 lr
  have H1 := Lib.hid (fun w' (hb : Below w.heap.size w w') => names_any w' a1 st.length c1 st (Lib.hid rfl) l1 (rd_later r1 hb))
  have H2 := Lib.hid (fun w' (hb : Below w.heap.size w w') => each_path_name w' a2 pa.length c2 pa (Lib.hid rfl) l2 (rd_later r2 hb))
  have H3 := Lib.hid (fun w' (hb : Below w.heap.size w w') => each_door_name w' a3 dos.length c3 dos (Lib.hid rfl) l3 (rd_later r3 hb))
  have H4 := Lib.hid (fun w' (hb : Below w.heap.size w w') => each_route_name w' a4 ro.length c4 ro cr (Lib.hid rfl) l4 (rd_later r4 hb) (r4'.later hb) lr)
  have H5 := Lib.hid (fun w' (hb : Below w.heap.size w w') => each_trip_name w' a5 tr.length c5 tr (Lib.hid rfl) l5 (rd_later r5 hb))
  have H6 := Lib.hid (fun w' (hb : Below w.heap.size w w') => each_haz_name w' a6 ha.length c6 ha (Lib.hid rfl) l6 (rd_later r6 hb))
  clear r1 r2 r3 r4 r4' r5 r6 l1 l2 l3 l4 l5 l6 lr
  simp only [namedM]
  show Calls _ _ #[.agg #[.int .i64 hz, .slice a1 st.length c1, .slice a2 pa.length c2, .slice a3 dos.length c3, .slice a4 ro.length c4, .slice a5 tr.length c5, .slice a6 ha.length c6]] _ _
  generalize st.all nameB = b1 at *
  generalize pa.all path_name = b2 at *
  generalize dos.all door_name = b3 at *
  generalize ro.all route_name = b4 at *
  generalize tr.all trip_name = b5 at *
  generalize ha.all haz_name = b6 at *
  generalize st.length = n1 at *
  generalize pa.length = n2 at *
  generalize dos.length = n3 at *
  generalize ro.length = n4 at *
  generalize tr.length = n5 at *
  generalize ha.length = n6 at *
  cases b1 with
  | false =>
    simp only [Bool.false_and, Bool.true_and]
    go_enter Tryz.func77, Tryz.ntmps77
    go_wp2_with (first
      | (go_at_call 116; (with_reducible refine (H1.out _ (one_box _ _)).mono ?_); rintro e' w1 ⟨rfl, hb⟩; have HB1 := Lib.hid (keep_trans (one_box w _) hb); clear hb))
    go_ret
    exact ⟨rfl, HB1.out⟩
  | true =>
    cases b2 with
    | false =>
      simp only [Bool.false_and, Bool.true_and]
      go_enter Tryz.func77, Tryz.ntmps77
      go_wp2_with (first
        | (go_at_call 116; (with_reducible refine (H1.out _ (one_box _ _)).mono ?_); rintro e' w1 ⟨rfl, hb⟩; have HB1 := Lib.hid (keep_trans (one_box w _) hb); have HK1 := Lib.hid ((Blk.new w 44 [.int .i64 hz, .slice a1 n1 c1, .slice a2 n2 c2, .slice a3 n3 c3, .slice a4 n4 c4, .slice a5 n5 c5, .slice a6 n6 c6]).after hb); have k1 : w1.cell? ⟨w.heap.size, 2, none⟩ = some (.slice a2 n2 c2) := HK1.out.cell 2; clear hb)
        | (go_at_call 117; (with_reducible refine (H2.out _ HB1.out).mono ?_); rintro e' w2 ⟨rfl, hb⟩; have HB2 := Lib.hid (keep_trans HB1.out hb); clear hb))
      go_ret
      exact ⟨rfl, HB2.out⟩
    | true =>
      cases b3 with
      | false =>
        simp only [Bool.false_and, Bool.true_and]
        go_enter Tryz.func77, Tryz.ntmps77
        go_wp2_with (first
          | (go_at_call 116; (with_reducible refine (H1.out _ (one_box _ _)).mono ?_); rintro e' w1 ⟨rfl, hb⟩; have HB1 := Lib.hid (keep_trans (one_box w _) hb); have HK1 := Lib.hid ((Blk.new w 44 [.int .i64 hz, .slice a1 n1 c1, .slice a2 n2 c2, .slice a3 n3 c3, .slice a4 n4 c4, .slice a5 n5 c5, .slice a6 n6 c6]).after hb); have k1 : w1.cell? ⟨w.heap.size, 2, none⟩ = some (.slice a2 n2 c2) := HK1.out.cell 2; clear hb)
          | (go_at_call 117; (with_reducible refine (H2.out _ HB1.out).mono ?_); rintro e' w2 ⟨rfl, hb⟩; have HB2 := Lib.hid (keep_trans HB1.out hb); have HK2 := Lib.hid (HK1.out.after hb); have k2 : w2.cell? ⟨w.heap.size, 3, none⟩ = some (.slice a3 n3 c3) := HK2.out.cell 3; clear hb)
          | (go_at_call 119; (with_reducible refine (H3.out _ HB2.out).mono ?_); rintro e' w3 ⟨rfl, hb⟩; have HB3 := Lib.hid (keep_trans HB2.out hb); clear hb))
        go_ret
        exact ⟨rfl, HB3.out⟩
      | true =>
        cases b4 with
        | false =>
          simp only [Bool.false_and, Bool.true_and]
          go_enter Tryz.func77, Tryz.ntmps77
          go_wp2_with (first
            | (go_at_call 116; (with_reducible refine (H1.out _ (one_box _ _)).mono ?_); rintro e' w1 ⟨rfl, hb⟩; have HB1 := Lib.hid (keep_trans (one_box w _) hb); have HK1 := Lib.hid ((Blk.new w 44 [.int .i64 hz, .slice a1 n1 c1, .slice a2 n2 c2, .slice a3 n3 c3, .slice a4 n4 c4, .slice a5 n5 c5, .slice a6 n6 c6]).after hb); have k1 : w1.cell? ⟨w.heap.size, 2, none⟩ = some (.slice a2 n2 c2) := HK1.out.cell 2; clear hb)
            | (go_at_call 117; (with_reducible refine (H2.out _ HB1.out).mono ?_); rintro e' w2 ⟨rfl, hb⟩; have HB2 := Lib.hid (keep_trans HB1.out hb); have HK2 := Lib.hid (HK1.out.after hb); have k2 : w2.cell? ⟨w.heap.size, 3, none⟩ = some (.slice a3 n3 c3) := HK2.out.cell 3; clear hb)
            | (go_at_call 119; (with_reducible refine (H3.out _ HB2.out).mono ?_); rintro e' w3 ⟨rfl, hb⟩; have HB3 := Lib.hid (keep_trans HB2.out hb); have HK3 := Lib.hid (HK2.out.after hb); have k3 : w3.cell? ⟨w.heap.size, 4, none⟩ = some (.slice a4 n4 c4) := HK3.out.cell 4; clear hb)
            | (go_at_call 79; (with_reducible refine (H4.out _ HB3.out).mono ?_); rintro e' w4 ⟨rfl, hb⟩; have HB4 := Lib.hid (keep_trans HB3.out hb); clear hb))
          go_ret
          exact ⟨rfl, HB4.out⟩
        | true =>
          cases b5 with
          | false =>
            simp only [Bool.false_and, Bool.true_and]
            go_enter Tryz.func77, Tryz.ntmps77
            go_wp2_with (first
              | (go_at_call 116; (with_reducible refine (H1.out _ (one_box _ _)).mono ?_); rintro e' w1 ⟨rfl, hb⟩; have HB1 := Lib.hid (keep_trans (one_box w _) hb); have HK1 := Lib.hid ((Blk.new w 44 [.int .i64 hz, .slice a1 n1 c1, .slice a2 n2 c2, .slice a3 n3 c3, .slice a4 n4 c4, .slice a5 n5 c5, .slice a6 n6 c6]).after hb); have k1 : w1.cell? ⟨w.heap.size, 2, none⟩ = some (.slice a2 n2 c2) := HK1.out.cell 2; clear hb)
              | (go_at_call 117; (with_reducible refine (H2.out _ HB1.out).mono ?_); rintro e' w2 ⟨rfl, hb⟩; have HB2 := Lib.hid (keep_trans HB1.out hb); have HK2 := Lib.hid (HK1.out.after hb); have k2 : w2.cell? ⟨w.heap.size, 3, none⟩ = some (.slice a3 n3 c3) := HK2.out.cell 3; clear hb)
              | (go_at_call 119; (with_reducible refine (H3.out _ HB2.out).mono ?_); rintro e' w3 ⟨rfl, hb⟩; have HB3 := Lib.hid (keep_trans HB2.out hb); have HK3 := Lib.hid (HK2.out.after hb); have k3 : w3.cell? ⟨w.heap.size, 4, none⟩ = some (.slice a4 n4 c4) := HK3.out.cell 4; clear hb)
              | (go_at_call 79; (with_reducible refine (H4.out _ HB3.out).mono ?_); rintro e' w4 ⟨rfl, hb⟩; have HB4 := Lib.hid (keep_trans HB3.out hb); have HK4 := Lib.hid (HK3.out.after hb); have k4 : w4.cell? ⟨w.heap.size, 5, none⟩ = some (.slice a5 n5 c5) := HK4.out.cell 5; clear hb)
              | (go_at_call 122; (with_reducible refine (H5.out _ HB4.out).mono ?_); rintro e' w5 ⟨rfl, hb⟩; have HB5 := Lib.hid (keep_trans HB4.out hb); clear hb))
            go_ret
            exact ⟨rfl, HB5.out⟩
          | true =>
            simp only [Bool.false_and, Bool.true_and]
            go_enter Tryz.func77, Tryz.ntmps77
            go_wp2_with (first
              | (go_at_call 116; (with_reducible refine (H1.out _ (one_box _ _)).mono ?_); rintro e' w1 ⟨rfl, hb⟩; have HB1 := Lib.hid (keep_trans (one_box w _) hb); have HK1 := Lib.hid ((Blk.new w 44 [.int .i64 hz, .slice a1 n1 c1, .slice a2 n2 c2, .slice a3 n3 c3, .slice a4 n4 c4, .slice a5 n5 c5, .slice a6 n6 c6]).after hb); have k1 : w1.cell? ⟨w.heap.size, 2, none⟩ = some (.slice a2 n2 c2) := HK1.out.cell 2; clear hb)
              | (go_at_call 117; (with_reducible refine (H2.out _ HB1.out).mono ?_); rintro e' w2 ⟨rfl, hb⟩; have HB2 := Lib.hid (keep_trans HB1.out hb); have HK2 := Lib.hid (HK1.out.after hb); have k2 : w2.cell? ⟨w.heap.size, 3, none⟩ = some (.slice a3 n3 c3) := HK2.out.cell 3; clear hb)
              | (go_at_call 119; (with_reducible refine (H3.out _ HB2.out).mono ?_); rintro e' w3 ⟨rfl, hb⟩; have HB3 := Lib.hid (keep_trans HB2.out hb); have HK3 := Lib.hid (HK2.out.after hb); have k3 : w3.cell? ⟨w.heap.size, 4, none⟩ = some (.slice a4 n4 c4) := HK3.out.cell 4; clear hb)
              | (go_at_call 79; (with_reducible refine (H4.out _ HB3.out).mono ?_); rintro e' w4 ⟨rfl, hb⟩; have HB4 := Lib.hid (keep_trans HB3.out hb); have HK4 := Lib.hid (HK3.out.after hb); have k4 : w4.cell? ⟨w.heap.size, 5, none⟩ = some (.slice a5 n5 c5) := HK4.out.cell 5; clear hb)
              | (go_at_call 122; (with_reducible refine (H5.out _ HB4.out).mono ?_); rintro e' w5 ⟨rfl, hb⟩; have HB5 := Lib.hid (keep_trans HB4.out hb); have HK5 := Lib.hid (HK4.out.after hb); have k5 : w5.cell? ⟨w.heap.size, 6, none⟩ = some (.slice a6 n6 c6) := HK5.out.cell 6; clear hb)
              | (go_at_call 124; (with_reducible refine (H6.out _ HB5.out).mono ?_); rintro e' w6 ⟨rfl, hb⟩; have HB6 := Lib.hid (keep_trans HB5.out hb); clear hb))
            go_ret
            exact ⟨rfl, HB6.out⟩
set_option maxRecDepth 100000 in
set_option maxHeartbeats 2000000 in
theorem ranged_any (x : SheetM) (p : ShA) (w : World) (h : Sh w (· < w.heap.size) x p) (hf : ShFew x) : Calls Tryz.prog 78 #[shV x p] w (BPost w (rangedM x)) := by
  obtain ⟨r1, r2, r3, ⟨cr, r4, r4'⟩, r5, r6⟩ := h
  obtain ⟨l1, l2, l3, l4, l5, l6, lr⟩ := hf
  obtain ⟨hz, st, pa, dos, ro, tr, ha⟩ := x
  obtain ⟨a1, a2, a3, a4, a5, a6, c1, c2, c3, c4, c5, c6⟩ := p
  dsimp only at r1 r2 r3 r4 r4' r5 r6 l1 l2 l3 l4 l5 l6 lr
  have H1 := Lib.hid (fun w' A c (hx : Rd w' (· < w'.heap.size) A (cs intC [hz])) => ticks_any w' A 1 c [hz] (Lib.hid rfl) (by omega) hx)
  have H2 := Lib.hid (fun w' (hb : Below w.heap.size w w') => each_path_tick w' a2 pa.length c2 pa (Lib.hid rfl) l2 (rd_later r2 hb))
  have H3 := Lib.hid (fun w' (hb : Below w.heap.size w w') => each_door_tick w' a3 dos.length c3 dos (Lib.hid rfl) l3 (rd_later r3 hb))
  have H4 := Lib.hid (fun w' (hb : Below w.heap.size w w') => each_route_tick w' a4 ro.length c4 ro cr (Lib.hid rfl) l4 (rd_later r4 hb) (r4'.later hb) lr)
  have H5 := Lib.hid (fun w' (hb : Below w.heap.size w w') => each_trip_tick w' a5 tr.length c5 tr (Lib.hid rfl) l5 (rd_later r5 hb))
  have H6 := Lib.hid (fun w' (hb : Below w.heap.size w w') => each_haz_tick w' a6 ha.length c6 ha (Lib.hid rfl) l6 (rd_later r6 hb))
  clear r1 r2 r3 r4 r4' r5 r6 l1 l2 l3 l4 l5 l6 lr
  simp only [rangedM]
  show Calls _ _ #[.agg #[.int .i64 hz, .slice a1 st.length c1, .slice a2 pa.length c2, .slice a3 dos.length c3, .slice a4 ro.length c4, .slice a5 tr.length c5, .slice a6 ha.length c6]] _ _
  generalize [hz].all tickB = b1 at *
  generalize pa.all path_tick = b2 at *
  generalize dos.all door_tick = b3 at *
  generalize ro.all route_tick = b4 at *
  generalize tr.all trip_tick = b5 at *
  generalize ha.all haz_tick = b6 at *
  generalize st.length = n1 at *
  generalize pa.length = n2 at *
  generalize dos.length = n3 at *
  generalize ro.length = n4 at *
  generalize tr.length = n5 at *
  generalize ha.length = n6 at *
  cases b1 with
  | false =>
    simp only [Bool.false_and, Bool.true_and]
    go_enter Tryz.func78, Tryz.ntmps78
    go_wp2_with (first
      | (go_at_call 126; refine (H1.out _ _ _ (lit_i _ _ _ _ (by simp) rfl)).mono ?_; rintro e' w1 ⟨rfl, hb⟩; have HB1 := Lib.hid (keep_trans (two_box w _ _) hb); clear hb))
    go_ret
    exact ⟨rfl, HB1.out⟩
  | true =>
    cases b2 with
    | false =>
      simp only [Bool.false_and, Bool.true_and]
      go_enter Tryz.func78, Tryz.ntmps78
      go_wp2_with (first
        | (go_at_call 126; refine (H1.out _ _ _ (lit_i _ _ _ _ (by simp) rfl)).mono ?_; rintro e' w1 ⟨rfl, hb⟩; have HB1 := Lib.hid (keep_trans (two_box w _ _) hb); have HK1 := Lib.hid (((Blk.new w 44 [.int .i64 hz, .slice a1 n1 c1, .slice a2 n2 c2, .slice a3 n3 c3, .slice a4 n4 c4, .slice a5 n5 c5, .slice a6 n6 c6]).alloc _).after hb); have k1 : w1.cell? ⟨w.heap.size, 2, none⟩ = some (.slice a2 n2 c2) := HK1.out.cell 2; clear hb)
        | (go_at_call 117; (with_reducible refine (H2.out _ HB1.out).mono ?_); rintro e' w2 ⟨rfl, hb⟩; have HB2 := Lib.hid (keep_trans HB1.out hb); clear hb))
      go_ret
      exact ⟨rfl, HB2.out⟩
    | true =>
      cases b3 with
      | false =>
        simp only [Bool.false_and, Bool.true_and]
        go_enter Tryz.func78, Tryz.ntmps78
        go_wp2_with (first
          | (go_at_call 126; refine (H1.out _ _ _ (lit_i _ _ _ _ (by simp) rfl)).mono ?_; rintro e' w1 ⟨rfl, hb⟩; have HB1 := Lib.hid (keep_trans (two_box w _ _) hb); have HK1 := Lib.hid (((Blk.new w 44 [.int .i64 hz, .slice a1 n1 c1, .slice a2 n2 c2, .slice a3 n3 c3, .slice a4 n4 c4, .slice a5 n5 c5, .slice a6 n6 c6]).alloc _).after hb); have k1 : w1.cell? ⟨w.heap.size, 2, none⟩ = some (.slice a2 n2 c2) := HK1.out.cell 2; clear hb)
          | (go_at_call 117; (with_reducible refine (H2.out _ HB1.out).mono ?_); rintro e' w2 ⟨rfl, hb⟩; have HB2 := Lib.hid (keep_trans HB1.out hb); have HK2 := Lib.hid (HK1.out.after hb); have k2 : w2.cell? ⟨w.heap.size, 3, none⟩ = some (.slice a3 n3 c3) := HK2.out.cell 3; clear hb)
          | (go_at_call 119; (with_reducible refine (H3.out _ HB2.out).mono ?_); rintro e' w3 ⟨rfl, hb⟩; have HB3 := Lib.hid (keep_trans HB2.out hb); clear hb))
        go_ret
        exact ⟨rfl, HB3.out⟩
      | true =>
        cases b4 with
        | false =>
          simp only [Bool.false_and, Bool.true_and]
          go_enter Tryz.func78, Tryz.ntmps78
          go_wp2_with (first
            | (go_at_call 126; refine (H1.out _ _ _ (lit_i _ _ _ _ (by simp) rfl)).mono ?_; rintro e' w1 ⟨rfl, hb⟩; have HB1 := Lib.hid (keep_trans (two_box w _ _) hb); have HK1 := Lib.hid (((Blk.new w 44 [.int .i64 hz, .slice a1 n1 c1, .slice a2 n2 c2, .slice a3 n3 c3, .slice a4 n4 c4, .slice a5 n5 c5, .slice a6 n6 c6]).alloc _).after hb); have k1 : w1.cell? ⟨w.heap.size, 2, none⟩ = some (.slice a2 n2 c2) := HK1.out.cell 2; clear hb)
            | (go_at_call 117; (with_reducible refine (H2.out _ HB1.out).mono ?_); rintro e' w2 ⟨rfl, hb⟩; have HB2 := Lib.hid (keep_trans HB1.out hb); have HK2 := Lib.hid (HK1.out.after hb); have k2 : w2.cell? ⟨w.heap.size, 3, none⟩ = some (.slice a3 n3 c3) := HK2.out.cell 3; clear hb)
            | (go_at_call 119; (with_reducible refine (H3.out _ HB2.out).mono ?_); rintro e' w3 ⟨rfl, hb⟩; have HB3 := Lib.hid (keep_trans HB2.out hb); have HK3 := Lib.hid (HK2.out.after hb); have k3 : w3.cell? ⟨w.heap.size, 4, none⟩ = some (.slice a4 n4 c4) := HK3.out.cell 4; clear hb)
            | (go_at_call 79; (with_reducible refine (H4.out _ HB3.out).mono ?_); rintro e' w4 ⟨rfl, hb⟩; have HB4 := Lib.hid (keep_trans HB3.out hb); clear hb))
          go_ret
          exact ⟨rfl, HB4.out⟩
        | true =>
          cases b5 with
          | false =>
            simp only [Bool.false_and, Bool.true_and]
            go_enter Tryz.func78, Tryz.ntmps78
            go_wp2_with (first
              | (go_at_call 126; refine (H1.out _ _ _ (lit_i _ _ _ _ (by simp) rfl)).mono ?_; rintro e' w1 ⟨rfl, hb⟩; have HB1 := Lib.hid (keep_trans (two_box w _ _) hb); have HK1 := Lib.hid (((Blk.new w 44 [.int .i64 hz, .slice a1 n1 c1, .slice a2 n2 c2, .slice a3 n3 c3, .slice a4 n4 c4, .slice a5 n5 c5, .slice a6 n6 c6]).alloc _).after hb); have k1 : w1.cell? ⟨w.heap.size, 2, none⟩ = some (.slice a2 n2 c2) := HK1.out.cell 2; clear hb)
              | (go_at_call 117; (with_reducible refine (H2.out _ HB1.out).mono ?_); rintro e' w2 ⟨rfl, hb⟩; have HB2 := Lib.hid (keep_trans HB1.out hb); have HK2 := Lib.hid (HK1.out.after hb); have k2 : w2.cell? ⟨w.heap.size, 3, none⟩ = some (.slice a3 n3 c3) := HK2.out.cell 3; clear hb)
              | (go_at_call 119; (with_reducible refine (H3.out _ HB2.out).mono ?_); rintro e' w3 ⟨rfl, hb⟩; have HB3 := Lib.hid (keep_trans HB2.out hb); have HK3 := Lib.hid (HK2.out.after hb); have k3 : w3.cell? ⟨w.heap.size, 4, none⟩ = some (.slice a4 n4 c4) := HK3.out.cell 4; clear hb)
              | (go_at_call 79; (with_reducible refine (H4.out _ HB3.out).mono ?_); rintro e' w4 ⟨rfl, hb⟩; have HB4 := Lib.hid (keep_trans HB3.out hb); have HK4 := Lib.hid (HK3.out.after hb); have k4 : w4.cell? ⟨w.heap.size, 5, none⟩ = some (.slice a5 n5 c5) := HK4.out.cell 5; clear hb)
              | (go_at_call 122; (with_reducible refine (H5.out _ HB4.out).mono ?_); rintro e' w5 ⟨rfl, hb⟩; have HB5 := Lib.hid (keep_trans HB4.out hb); clear hb))
            go_ret
            exact ⟨rfl, HB5.out⟩
          | true =>
            simp only [Bool.false_and, Bool.true_and]
            go_enter Tryz.func78, Tryz.ntmps78
            go_wp2_with (first
              | (go_at_call 126; refine (H1.out _ _ _ (lit_i _ _ _ _ (by simp) rfl)).mono ?_; rintro e' w1 ⟨rfl, hb⟩; have HB1 := Lib.hid (keep_trans (two_box w _ _) hb); have HK1 := Lib.hid (((Blk.new w 44 [.int .i64 hz, .slice a1 n1 c1, .slice a2 n2 c2, .slice a3 n3 c3, .slice a4 n4 c4, .slice a5 n5 c5, .slice a6 n6 c6]).alloc _).after hb); have k1 : w1.cell? ⟨w.heap.size, 2, none⟩ = some (.slice a2 n2 c2) := HK1.out.cell 2; clear hb)
              | (go_at_call 117; (with_reducible refine (H2.out _ HB1.out).mono ?_); rintro e' w2 ⟨rfl, hb⟩; have HB2 := Lib.hid (keep_trans HB1.out hb); have HK2 := Lib.hid (HK1.out.after hb); have k2 : w2.cell? ⟨w.heap.size, 3, none⟩ = some (.slice a3 n3 c3) := HK2.out.cell 3; clear hb)
              | (go_at_call 119; (with_reducible refine (H3.out _ HB2.out).mono ?_); rintro e' w3 ⟨rfl, hb⟩; have HB3 := Lib.hid (keep_trans HB2.out hb); have HK3 := Lib.hid (HK2.out.after hb); have k3 : w3.cell? ⟨w.heap.size, 4, none⟩ = some (.slice a4 n4 c4) := HK3.out.cell 4; clear hb)
              | (go_at_call 79; (with_reducible refine (H4.out _ HB3.out).mono ?_); rintro e' w4 ⟨rfl, hb⟩; have HB4 := Lib.hid (keep_trans HB3.out hb); have HK4 := Lib.hid (HK3.out.after hb); have k4 : w4.cell? ⟨w.heap.size, 5, none⟩ = some (.slice a5 n5 c5) := HK4.out.cell 5; clear hb)
              | (go_at_call 122; (with_reducible refine (H5.out _ HB4.out).mono ?_); rintro e' w5 ⟨rfl, hb⟩; have HB5 := Lib.hid (keep_trans HB4.out hb); have HK5 := Lib.hid (HK4.out.after hb); have k5 : w5.cell? ⟨w.heap.size, 6, none⟩ = some (.slice a6 n6 c6) := HK5.out.cell 6; clear hb)
              | (go_at_call 124; (with_reducible refine (H6.out _ HB5.out).mono ?_); rintro e' w6 ⟨rfl, hb⟩; have HB6 := Lib.hid (keep_trans HB5.out hb); clear hb))
            go_ret
            exact ⟨rfl, HB6.out⟩
end Go.Proofs.YtgdanbfglefiiaaGreat.Sh
namespace Go.Proofs.YtgdanbfglefiiaaGreat.Sh
open Go.ChangeShapes Go.WideShapes Go.ChangeAt Go.RowKit
open Lx
set_option linter.unusedVariables false
set_option linter.unusedSimpArgs false
set_option maxRecDepth 100000 in
set_option maxHeartbeats 2000000 in
theorem crowded_any (x : SheetM) (p : ShA) (w : World) (hf : ShFew x) : Calls Tryz.prog 76 #[shV x p] w (BPost w (crowdedM x)) := by
  obtain ⟨l1, l2, l3, l4, l5, l6, lr⟩ := hf
  obtain ⟨hz, st, pa, dos, ro, tr, ha⟩ := x
  obtain ⟨a1, a2, a3, a4, a5, a6, c1, c2, c3, c4, c5, c6⟩ := p
  dsimp only at l1 l2 l3 l4 l5 l6
  clear lr
  simp only [crowdedM]
  show Calls _ _ #[.agg #[.int .i64 hz, .slice a1 st.length c1, .slice a2 pa.length c2, .slice a3 dos.length c3, .slice a4 ro.length c4, .slice a5 tr.length c5, .slice a6 ha.length c6]] _ _
  generalize st.length = n1 at *
  generalize pa.length = n2 at *
  generalize dos.length = n3 at *
  generalize ro.length = n4 at *
  generalize tr.length = n5 at *
  generalize ha.length = n6 at *
  go_enter Tryz.func76, Tryz.ntmps76
  go_wp2
  all_goals go_ret
  all_goals exact ⟨congrArg (fun b => Ending.returned (Value.bool b)) (by rw [Bool.eq_iff_iff]; simp; omega), one_box _ _⟩
/-- what Check answers -/
def checkM (x : SheetM) : Int := if crowdedM x then 3 else if namedM x then if rangedM x then if countedM x then 0 else 2 else 9 else 7
set_option maxRecDepth 100000 in
set_option maxHeartbeats 2000000 in
theorem scheck_any (x : SheetM) (p : ShA) (w : World) (h : Sh w (· < w.heap.size) x p) (hf : ShFew x) : Calls Tryz.prog 30 #[shV x p] w (fun e w' => e = .returned (.int .i64 (checkM x)) ∧ Below w.heap.size w w') := by
  have H1 := Lib.hid (fun w' => crowded_any x p w' hf)
  have H2 := Lib.hid (fun w' (hb : Below w.heap.size w w') => named_any x p w' (h.later hb) hf)
  have H3 := Lib.hid (fun w' (hb : Below w.heap.size w w') => ranged_any x p w' (h.later hb) hf)
  obtain ⟨cr, r4, r4'⟩ := h.r4
  have H4 := Lib.hid (fun w' (hb : Below w.heap.size w w') => each_route_count w' p.a4 x.routes.length p.c4 x.routes cr (Lib.hid rfl) hf.l4 (rd_later r4 hb) (r4'.later hb) hf.lr)
  clear h hf r4 r4' cr
  simp only [checkM]
  change Hid (∀ w', Below w.heap.size w w' → Calls _ _ _ w' (BPost w' (countedM x))) at H4
  generalize crowdedM x = b1 at *
  generalize namedM x = b2 at *
  generalize rangedM x = b3 at *
  generalize countedM x = b4 at *
  obtain ⟨hz, st, pa, dos, ro, tr, ha⟩ := x
  obtain ⟨a1, a2, a3, a4, a5, a6, c1, c2, c3, c4, c5, c6⟩ := p
  simp only [shV] at H1 H2 H3 H4 ⊢
  generalize st.length = n1 at *
  generalize pa.length = n2 at *
  generalize dos.length = n3 at *
  generalize ro.length = n4 at *
  generalize tr.length = n5 at *
  generalize ha.length = n6 at *
  cases b1 <;> cases b2 <;> cases b3 <;> cases b4
  all_goals simp only [if_true, if_false, Bool.false_eq_true, reduceIte]
  all_goals go_enter Tryz.func30, Tryz.ntmps30
  all_goals (go_wp2_with (first
    | (go_at_call 76; (with_reducible refine (H1.out _).mono ?_); rintro e' w1 ⟨rfl, hb⟩; have HB1 := Lib.hid (keep_trans (one_box w _) hb); have HK1 := Lib.hid ((Blk.new w 44 [.int .i64 hz, .slice a1 n1 c1, .slice a2 n2 c2, .slice a3 n3 c3, .slice a4 n4 c4, .slice a5 n5 c5, .slice a6 n6 c6]).after hb); have HB := HB1; have j0 : w1.cell? ⟨w.heap.size, 0, none⟩ = some (.int .i64 hz) := HK1.out.cell 0; have j1 : w1.cell? ⟨w.heap.size, 1, none⟩ = some (.slice a1 n1 c1) := HK1.out.cell 1; have j2 : w1.cell? ⟨w.heap.size, 2, none⟩ = some (.slice a2 n2 c2) := HK1.out.cell 2; have j3 : w1.cell? ⟨w.heap.size, 3, none⟩ = some (.slice a3 n3 c3) := HK1.out.cell 3; have j4 : w1.cell? ⟨w.heap.size, 4, none⟩ = some (.slice a4 n4 c4) := HK1.out.cell 4; have j5 : w1.cell? ⟨w.heap.size, 5, none⟩ = some (.slice a5 n5 c5) := HK1.out.cell 5; have j6 : w1.cell? ⟨w.heap.size, 6, none⟩ = some (.slice a6 n6 c6) := HK1.out.cell 6; clear hb)
    | (go_at_call 77; (with_reducible refine (H2.out _ HB1.out).mono ?_); rintro e' w2 ⟨rfl, hb⟩; have HB2 := Lib.hid (keep_trans HB1.out hb); have HK2 := Lib.hid (HK1.out.after hb); have HB := HB2; have m0 : w2.cell? ⟨w.heap.size, 0, none⟩ = some (.int .i64 hz) := HK2.out.cell 0; have m1 : w2.cell? ⟨w.heap.size, 1, none⟩ = some (.slice a1 n1 c1) := HK2.out.cell 1; have m2 : w2.cell? ⟨w.heap.size, 2, none⟩ = some (.slice a2 n2 c2) := HK2.out.cell 2; have m3 : w2.cell? ⟨w.heap.size, 3, none⟩ = some (.slice a3 n3 c3) := HK2.out.cell 3; have m4 : w2.cell? ⟨w.heap.size, 4, none⟩ = some (.slice a4 n4 c4) := HK2.out.cell 4; have m5 : w2.cell? ⟨w.heap.size, 5, none⟩ = some (.slice a5 n5 c5) := HK2.out.cell 5; have m6 : w2.cell? ⟨w.heap.size, 6, none⟩ = some (.slice a6 n6 c6) := HK2.out.cell 6; clear hb)
    | (go_at_call 78; (with_reducible refine (H3.out _ HB2.out).mono ?_); rintro e' w3 ⟨rfl, hb⟩; have HB3 := Lib.hid (keep_trans HB2.out hb); have HK3 := Lib.hid (HK2.out.after hb); have HB := HB3; have p4 : w3.cell? ⟨w.heap.size, 4, none⟩ = some (.slice a4 n4 c4) := HK3.out.cell 4; clear hb)
    | (go_at_call 79; (with_reducible refine (H4.out _ HB3.out).mono ?_); rintro e' w4 ⟨rfl, hb⟩; have HB := Lib.hid (keep_trans HB3.out hb); clear hb)); go_ret; exact ⟨rfl, HB.out⟩)
end Go.Proofs.YtgdanbfglefiiaaGreat.Sh
namespace Go.Proofs.YtgdanbfglefiiaaGreat.Sh
open Go.ChangeShapes Go.WideShapes Go.ChangeAt Go.RowKit
open Lx
set_option linter.unusedVariables false
set_option linter.unusedSimpArgs false
end Go.Proofs.YtgdanbfglefiiaaGreat.Sh
namespace Go.Proofs.YtgdanbfglefiiaaGreat.Sh
open Go.ChangeShapes Go.WideShapes Go.ChangeAt Go.RowKit
open Lx
set_option linter.unusedVariables false
set_option linter.unusedSimpArgs false
set_option maxRecDepth 100000 in
set_option maxHeartbeats 1000000 in
theorem same_str (w : World) (A B : Option Addr) (n c d : Nat) (l : List (List UInt8)) (hn : Hid (n = l.length)) (hN : n ≤ 1000000) (hx : Rd w (· < w.heap.size) A (cs strC l)) (hy : Rd w (· < w.heap.size) B (cs strC l)) :
    Calls Tryz.prog 38 #[.slice A n c, .slice B n d] w (BPost w true) := by
  have HX := Lib.hid hx
  have HY := Lib.hid hy
  clear hx hy
  go_enter Tryz.func38, Tryz.ntmps38
  go_wp2
  go_loopw [5] (fun v wr => ∃ k : Nat, v = .int .i64 k ∧ k ≤ n ∧ Hid (Below w.heap.size w wr)) (fun v _ => n - (intOf v).toNat)
  case atStart => exact ⟨0, rfl, by omega, Lib.hid (Below.refl _ _)⟩
  case round =>
    obtain ⟨k, rfl, hk, HB⟩ := hrel
    by_cases hlt : k < n
    · obtain ⟨a, ha⟩ := at_in l hn hlt
      obtain ⟨ad, rfl, hS, h0, hj⟩ := rd_at 1 (fun _ => rfl) (by omega) (HX.out.below HB.out) ha
      obtain ⟨bd, rfl, hT, g0, gj⟩ := rd_at 1 (fun _ => rfl) (by omega) (HY.out.below HB.out) ha
      obtain ⟨x0, hx0⟩ : ∃ x0, x0 = a := ⟨_, rfl⟩
      subst hx0
      rw [Nat.mul_one] at h0 g0
      have a0 : wr.cell? (ad.add k) = some (.string ⟨x0.toArray⟩) := h0
      have b0 : wr.cell? (bd.add k) = some (.string ⟨x0.toArray⟩) := g0
      have hi : (k : Int) < (n : Int) := by omega
      clear ha h0 hj g0 gj
      go_wp2
      go_quiet (fail)
      go_wp2
      go_roundw
      case rel => exact ⟨k + 1, by go_num, by omega, Lib.hid (below_drewN HB.out _)⟩
      case measure => simp [intOf]; omega
    · go_wp2
      go_ret
      exact ⟨rfl, HB.out⟩
set_option maxRecDepth 100000 in
set_option maxHeartbeats 1000000 in
theorem same_int (w : World) (A B : Option Addr) (n c d : Nat) (l : List (Int)) (hn : Hid (n = l.length)) (hN : n ≤ 1000000) (hx : Rd w (· < w.heap.size) A (cs intC l)) (hy : Rd w (· < w.heap.size) B (cs intC l)) :
    Calls Tryz.prog 67 #[.slice A n c, .slice B n d] w (BPost w true) := by
  have HX := Lib.hid hx
  have HY := Lib.hid hy
  clear hx hy
  go_enter Tryz.func67, Tryz.ntmps67
  go_wp2
  go_loopw [5] (fun v wr => ∃ k : Nat, v = .int .i64 k ∧ k ≤ n ∧ Hid (Below w.heap.size w wr)) (fun v _ => n - (intOf v).toNat)
  case atStart => exact ⟨0, rfl, by omega, Lib.hid (Below.refl _ _)⟩
  case round =>
    obtain ⟨k, rfl, hk, HB⟩ := hrel
    by_cases hlt : k < n
    · obtain ⟨a, ha⟩ := at_in l hn hlt
      obtain ⟨ad, rfl, hS, h0, hj⟩ := rd_at 1 (fun _ => rfl) (by omega) (HX.out.below HB.out) ha
      obtain ⟨bd, rfl, hT, g0, gj⟩ := rd_at 1 (fun _ => rfl) (by omega) (HY.out.below HB.out) ha
      obtain ⟨x0, hx0⟩ : ∃ x0, x0 = a := ⟨_, rfl⟩
      subst hx0
      rw [Nat.mul_one] at h0 g0
      have a0 : wr.cell? (ad.add k) = some (.int .i64 x0) := h0
      have b0 : wr.cell? (bd.add k) = some (.int .i64 x0) := g0
      have hi : (k : Int) < (n : Int) := by omega
      clear ha h0 hj g0 gj
      go_wp2
      go_quiet (fail)
      go_wp2
      go_roundw
      case rel => exact ⟨k + 1, by go_num, by omega, Lib.hid (below_drewN HB.out _)⟩
      case measure => simp [intOf]; omega
    · go_wp2
      go_ret
      exact ⟨rfl, HB.out⟩
set_option maxRecDepth 100000 in
set_option maxHeartbeats 1000000 in
theorem same_path (w : World) (A B : Option Addr) (n c d : Nat) (l : List (PathM)) (hn : Hid (n = l.length)) (hN : n ≤ 1000000) (hx : Rd w (· < w.heap.size) A (cs paC l)) (hy : Rd w (· < w.heap.size) B (cs paC l)) :
    Calls Tryz.prog 39 #[.slice A n c, .slice B n d] w (BPost w true) := by
  have HX := Lib.hid hx
  have HY := Lib.hid hy
  clear hx hy
  go_enter Tryz.func39, Tryz.ntmps39
  go_wp2
  go_loopw [5] (fun v wr => ∃ k : Nat, v = .int .i64 k ∧ k ≤ n ∧ Hid (Below w.heap.size w wr)) (fun v _ => n - (intOf v).toNat)
  case atStart => exact ⟨0, rfl, by omega, Lib.hid (Below.refl _ _)⟩
  case round =>
    obtain ⟨k, rfl, hk, HB⟩ := hrel
    by_cases hlt : k < n
    · obtain ⟨a, ha⟩ := at_in l hn hlt
      obtain ⟨ad, rfl, hS, h0, hj⟩ := rd_at 4 (fun _ => rfl) (by omega) (HX.out.below HB.out) ha
      obtain ⟨bd, rfl, hT, g0, gj⟩ := rd_at 4 (fun _ => rfl) (by omega) (HY.out.below HB.out) ha
      obtain ⟨x0, x1, x2, x3⟩ := a
      have a0 : wr.cell? (ad.add (k * 4)) = some (.string ⟨x0.toArray⟩) := h0
      have a1 : wr.cell? ⟨(ad.add (k * 4)).block, (ad.add (k * 4)).off + 1, none⟩ = some (.string ⟨x1.toArray⟩) := (hj 1 (by omega)).resolve_right (by omega)
      have a2 : wr.cell? ⟨(ad.add (k * 4)).block, (ad.add (k * 4)).off + 2, none⟩ = some (.string ⟨x2.toArray⟩) := (hj 2 (by omega)).resolve_right (by omega)
      have a3 : wr.cell? ⟨(ad.add (k * 4)).block, (ad.add (k * 4)).off + 3, none⟩ = some (.int .i64 x3) := (hj 3 (by omega)).resolve_right (by omega)
      have b0 : wr.cell? (bd.add (k * 4)) = some (.string ⟨x0.toArray⟩) := g0
      have b1 : wr.cell? ⟨(bd.add (k * 4)).block, (bd.add (k * 4)).off + 1, none⟩ = some (.string ⟨x1.toArray⟩) := (gj 1 (by omega)).resolve_right (by omega)
      have b2 : wr.cell? ⟨(bd.add (k * 4)).block, (bd.add (k * 4)).off + 2, none⟩ = some (.string ⟨x2.toArray⟩) := (gj 2 (by omega)).resolve_right (by omega)
      have b3 : wr.cell? ⟨(bd.add (k * 4)).block, (bd.add (k * 4)).off + 3, none⟩ = some (.int .i64 x3) := (gj 3 (by omega)).resolve_right (by omega)
      have hi : (k : Int) < (n : Int) := by omega
      clear ha h0 hj g0 gj
      go_wp2
      go_quiet (fail)
      go_wp2
      go_roundw
      case rel => exact ⟨k + 1, by go_num, by omega, Lib.hid (below_drewN HB.out _)⟩
      case measure => simp [intOf]; omega
    · go_wp2
      go_ret
      exact ⟨rfl, HB.out⟩
set_option maxRecDepth 100000 in
set_option maxHeartbeats 1000000 in
theorem same_door (w : World) (A B : Option Addr) (n c d : Nat) (l : List (DoorM)) (hn : Hid (n = l.length)) (hN : n ≤ 1000000) (hx : Rd w (· < w.heap.size) A (cs doC l)) (hy : Rd w (· < w.heap.size) B (cs doC l)) :
    Calls Tryz.prog 40 #[.slice A n c, .slice B n d] w (BPost w true) := by
  have HX := Lib.hid hx
  have HY := Lib.hid hy
  clear hx hy
  go_enter Tryz.func40, Tryz.ntmps40
  go_wp2
  go_loopw [5] (fun v wr => ∃ k : Nat, v = .int .i64 k ∧ k ≤ n ∧ Hid (Below w.heap.size w wr)) (fun v _ => n - (intOf v).toNat)
  case atStart => exact ⟨0, rfl, by omega, Lib.hid (Below.refl _ _)⟩
  case round =>
    obtain ⟨k, rfl, hk, HB⟩ := hrel
    by_cases hlt : k < n
    · obtain ⟨a, ha⟩ := at_in l hn hlt
      obtain ⟨ad, rfl, hS, h0, hj⟩ := rd_at 7 (fun _ => rfl) (by omega) (HX.out.below HB.out) ha
      obtain ⟨bd, rfl, hT, g0, gj⟩ := rd_at 7 (fun _ => rfl) (by omega) (HY.out.below HB.out) ha
      obtain ⟨x0, x1, x2, x3, ⟨x4, x5, x6⟩⟩ := a
      have a0 : wr.cell? (ad.add (k * 7)) = some (.string ⟨x0.toArray⟩) := h0
      have a1 : wr.cell? ⟨(ad.add (k * 7)).block, (ad.add (k * 7)).off + 1, none⟩ = some (.string ⟨x1.toArray⟩) := (hj 1 (by omega)).resolve_right (by omega)
      have a2 : wr.cell? ⟨(ad.add (k * 7)).block, (ad.add (k * 7)).off + 2, none⟩ = some (.string ⟨x2.toArray⟩) := (hj 2 (by omega)).resolve_right (by omega)
      have a3 : wr.cell? ⟨(ad.add (k * 7)).block, (ad.add (k * 7)).off + 3, none⟩ = some (.int .i64 x3) := (hj 3 (by omega)).resolve_right (by omega)
      have a4 : wr.cell? ⟨(ad.add (k * 7)).block, (ad.add (k * 7)).off + 4, none⟩ = some (.int .i64 x4) := (hj 4 (by omega)).resolve_right (by omega)
      have a5 : wr.cell? ⟨(ad.add (k * 7)).block, (ad.add (k * 7)).off + 5, none⟩ = some (.int .i64 x5) := (hj 5 (by omega)).resolve_right (by omega)
      have a6 : wr.cell? ⟨(ad.add (k * 7)).block, (ad.add (k * 7)).off + 6, none⟩ = some (.int .i64 x6) := (hj 6 (by omega)).resolve_right (by omega)
      have b0 : wr.cell? (bd.add (k * 7)) = some (.string ⟨x0.toArray⟩) := g0
      have b1 : wr.cell? ⟨(bd.add (k * 7)).block, (bd.add (k * 7)).off + 1, none⟩ = some (.string ⟨x1.toArray⟩) := (gj 1 (by omega)).resolve_right (by omega)
      have b2 : wr.cell? ⟨(bd.add (k * 7)).block, (bd.add (k * 7)).off + 2, none⟩ = some (.string ⟨x2.toArray⟩) := (gj 2 (by omega)).resolve_right (by omega)
      have b3 : wr.cell? ⟨(bd.add (k * 7)).block, (bd.add (k * 7)).off + 3, none⟩ = some (.int .i64 x3) := (gj 3 (by omega)).resolve_right (by omega)
      have b4 : wr.cell? ⟨(bd.add (k * 7)).block, (bd.add (k * 7)).off + 4, none⟩ = some (.int .i64 x4) := (gj 4 (by omega)).resolve_right (by omega)
      have b5 : wr.cell? ⟨(bd.add (k * 7)).block, (bd.add (k * 7)).off + 5, none⟩ = some (.int .i64 x5) := (gj 5 (by omega)).resolve_right (by omega)
      have b6 : wr.cell? ⟨(bd.add (k * 7)).block, (bd.add (k * 7)).off + 6, none⟩ = some (.int .i64 x6) := (gj 6 (by omega)).resolve_right (by omega)
      have hi : (k : Int) < (n : Int) := by omega
      clear ha h0 hj g0 gj
      go_wp2
      go_quiet (fail)
      go_wp2
      go_roundw
      case rel => exact ⟨k + 1, by go_num, by omega, Lib.hid (below_drewN HB.out _)⟩
      case measure => simp [intOf]; omega
    · go_wp2
      go_ret
      exact ⟨rfl, HB.out⟩
set_option maxRecDepth 100000 in
set_option maxHeartbeats 1000000 in
theorem same_trip (w : World) (A B : Option Addr) (n c d : Nat) (l : List (TripM)) (hn : Hid (n = l.length)) (hN : n ≤ 1000000) (hx : Rd w (· < w.heap.size) A (cs trC l)) (hy : Rd w (· < w.heap.size) B (cs trC l)) :
    Calls Tryz.prog 41 #[.slice A n c, .slice B n d] w (BPost w true) := by
  have HX := Lib.hid hx
  have HY := Lib.hid hy
  clear hx hy
  go_enter Tryz.func41, Tryz.ntmps41
  go_wp2
  go_loopw [5] (fun v wr => ∃ k : Nat, v = .int .i64 k ∧ k ≤ n ∧ Hid (Below w.heap.size w wr)) (fun v _ => n - (intOf v).toNat)
  case atStart => exact ⟨0, rfl, by omega, Lib.hid (Below.refl _ _)⟩
  case round =>
    obtain ⟨k, rfl, hk, HB⟩ := hrel
    by_cases hlt : k < n
    · obtain ⟨a, ha⟩ := at_in l hn hlt
      obtain ⟨ad, rfl, hS, h0, hj⟩ := rd_at 5 (fun _ => rfl) (by omega) (HX.out.below HB.out) ha
      obtain ⟨bd, rfl, hT, g0, gj⟩ := rd_at 5 (fun _ => rfl) (by omega) (HY.out.below HB.out) ha
      obtain ⟨x0, x1, x2, x3, x4⟩ := a
      have a0 : wr.cell? (ad.add (k * 5)) = some (.string ⟨x0.toArray⟩) := h0
      have a1 : wr.cell? ⟨(ad.add (k * 5)).block, (ad.add (k * 5)).off + 1, none⟩ = some (.string ⟨x1.toArray⟩) := (hj 1 (by omega)).resolve_right (by omega)
      have a2 : wr.cell? ⟨(ad.add (k * 5)).block, (ad.add (k * 5)).off + 2, none⟩ = some (.int .i64 x2) := (hj 2 (by omega)).resolve_right (by omega)
      have a3 : wr.cell? ⟨(ad.add (k * 5)).block, (ad.add (k * 5)).off + 3, none⟩ = some (.int .i64 x3) := (hj 3 (by omega)).resolve_right (by omega)
      have a4 : wr.cell? ⟨(ad.add (k * 5)).block, (ad.add (k * 5)).off + 4, none⟩ = some (.int .i64 x4) := (hj 4 (by omega)).resolve_right (by omega)
      have b0 : wr.cell? (bd.add (k * 5)) = some (.string ⟨x0.toArray⟩) := g0
      have b1 : wr.cell? ⟨(bd.add (k * 5)).block, (bd.add (k * 5)).off + 1, none⟩ = some (.string ⟨x1.toArray⟩) := (gj 1 (by omega)).resolve_right (by omega)
      have b2 : wr.cell? ⟨(bd.add (k * 5)).block, (bd.add (k * 5)).off + 2, none⟩ = some (.int .i64 x2) := (gj 2 (by omega)).resolve_right (by omega)
      have b3 : wr.cell? ⟨(bd.add (k * 5)).block, (bd.add (k * 5)).off + 3, none⟩ = some (.int .i64 x3) := (gj 3 (by omega)).resolve_right (by omega)
      have b4 : wr.cell? ⟨(bd.add (k * 5)).block, (bd.add (k * 5)).off + 4, none⟩ = some (.int .i64 x4) := (gj 4 (by omega)).resolve_right (by omega)
      have hi : (k : Int) < (n : Int) := by omega
      clear ha h0 hj g0 gj
      go_wp2
      go_quiet (fail)
      go_wp2
      go_roundw
      case rel => exact ⟨k + 1, by go_num, by omega, Lib.hid (below_drewN HB.out _)⟩
      case measure => simp [intOf]; omega
    · go_wp2
      go_ret
      exact ⟨rfl, HB.out⟩
set_option maxRecDepth 100000 in
set_option maxHeartbeats 1000000 in
theorem same_haz (w : World) (A B : Option Addr) (n c d : Nat) (l : List (HazM)) (hn : Hid (n = l.length)) (hN : n ≤ 1000000) (hx : Rd w (· < w.heap.size) A (cs haC l)) (hy : Rd w (· < w.heap.size) B (cs haC l)) :
    Calls Tryz.prog 42 #[.slice A n c, .slice B n d] w (BPost w true) := by
  have HX := Lib.hid hx
  have HY := Lib.hid hy
  clear hx hy
  go_enter Tryz.func42, Tryz.ntmps42
  go_wp2
  go_loopw [5] (fun v wr => ∃ k : Nat, v = .int .i64 k ∧ k ≤ n ∧ Hid (Below w.heap.size w wr)) (fun v _ => n - (intOf v).toNat)
  case atStart => exact ⟨0, rfl, by omega, Lib.hid (Below.refl _ _)⟩
  case round =>
    obtain ⟨k, rfl, hk, HB⟩ := hrel
    by_cases hlt : k < n
    · obtain ⟨a, ha⟩ := at_in l hn hlt
      obtain ⟨ad, rfl, hS, h0, hj⟩ := rd_at 5 (fun _ => rfl) (by omega) (HX.out.below HB.out) ha
      obtain ⟨bd, rfl, hT, g0, gj⟩ := rd_at 5 (fun _ => rfl) (by omega) (HY.out.below HB.out) ha
      obtain ⟨x0, x1, ⟨x2, x3, x4⟩⟩ := a
      have a0 : wr.cell? (ad.add (k * 5)) = some (.string ⟨x0.toArray⟩) := h0
      have a1 : wr.cell? ⟨(ad.add (k * 5)).block, (ad.add (k * 5)).off + 1, none⟩ = some (.string ⟨x1.toArray⟩) := (hj 1 (by omega)).resolve_right (by omega)
      have a2 : wr.cell? ⟨(ad.add (k * 5)).block, (ad.add (k * 5)).off + 2, none⟩ = some (.int .i64 x2) := (hj 2 (by omega)).resolve_right (by omega)
      have a3 : wr.cell? ⟨(ad.add (k * 5)).block, (ad.add (k * 5)).off + 3, none⟩ = some (.int .i64 x3) := (hj 3 (by omega)).resolve_right (by omega)
      have a4 : wr.cell? ⟨(ad.add (k * 5)).block, (ad.add (k * 5)).off + 4, none⟩ = some (.int .i64 x4) := (hj 4 (by omega)).resolve_right (by omega)
      have b0 : wr.cell? (bd.add (k * 5)) = some (.string ⟨x0.toArray⟩) := g0
      have b1 : wr.cell? ⟨(bd.add (k * 5)).block, (bd.add (k * 5)).off + 1, none⟩ = some (.string ⟨x1.toArray⟩) := (gj 1 (by omega)).resolve_right (by omega)
      have b2 : wr.cell? ⟨(bd.add (k * 5)).block, (bd.add (k * 5)).off + 2, none⟩ = some (.int .i64 x2) := (gj 2 (by omega)).resolve_right (by omega)
      have b3 : wr.cell? ⟨(bd.add (k * 5)).block, (bd.add (k * 5)).off + 3, none⟩ = some (.int .i64 x3) := (gj 3 (by omega)).resolve_right (by omega)
      have b4 : wr.cell? ⟨(bd.add (k * 5)).block, (bd.add (k * 5)).off + 4, none⟩ = some (.int .i64 x4) := (gj 4 (by omega)).resolve_right (by omega)
      have hi : (k : Int) < (n : Int) := by omega
      clear ha h0 hj g0 gj
      go_wp2
      go_quiet (fail)
      go_wp2
      go_roundw
      case rel => exact ⟨k + 1, by go_num, by omega, Lib.hid (below_drewN HB.out _)⟩
      case measure => simp [intOf]; omega
    · go_wp2
      go_ret
      exact ⟨rfl, HB.out⟩
end Go.Proofs.YtgdanbfglefiiaaGreat.Sh
namespace Go.Proofs.YtgdanbfglefiiaaGreat.Sh
open Go.ChangeShapes Go.WideShapes Go.ChangeAt Go.RowKit
open Lx
set_option linter.unusedVariables false
set_option linter.unusedSimpArgs false
theorem Blk.new2 (w : World) (o : Obj) (t : TypeId) (l : List Value) : Blk ((w.alloc o).alloc (.cells l.toArray t)) (w.heap.size + 1) t l := by
  have := Blk.new (w.alloc o) t l
  simpa using this
set_option maxRecDepth 100000 in
set_option maxHeartbeats 1000000 in
theorem kroute_any (r : RouteM) (sa ra ya sb rb yb : Option Addr) (sc rc yc sd rd yd : Nat) (w : World) (h : RtAt w (· < w.heap.size) r sa ra ya) (g : RtAt w (· < w.heap.size) r sb rb yb) (hf : Few r) : Calls Tryz.prog 43 #[rtV r sa ra ya sc rc yc, rtV r sb rb yb sd rd yd] w (BPost w true) := by
  obtain ⟨nm, st, ri, sy⟩ := r
  obtain ⟨f1, f2, f3⟩ := hf
  dsimp only at f1 f2 f3
  have H1 := Lib.hid (fun w' (hb : Below w.heap.size w w') => same_str w' sa sb st.length sc sd st (Lib.hid rfl) f1 (rd_later h.hs hb) (rd_later g.hs hb))
  have H2 := Lib.hid (fun w' (hb : Below w.heap.size w w') => same_int w' ra rb ri.length rc rd ri (Lib.hid rfl) f2 (rd_later h.hr hb) (rd_later g.hr hb))
  have H3 := Lib.hid (fun w' (hb : Below w.heap.size w w') => same_int w' ya yb sy.length yc yd sy (Lib.hid rfl) f3 (rd_later h.hy hb) (rd_later g.hy hb))
  clear h g
  show Calls _ _ #[.agg #[.string ⟨nm.toArray⟩, .slice sa st.length sc, .slice ra ri.length rc, .slice ya sy.length yc], .agg #[.string ⟨nm.toArray⟩, .slice sb st.length sd, .slice rb ri.length rd, .slice yb sy.length yd]] _ _
  generalize st.length = n1 at *
  generalize ri.length = n2 at *
  generalize sy.length = n3 at *
  go_enter Tryz.func43, Tryz.ntmps43
  go_wp2_with (first
    | (go_at_call 67; (with_reducible refine (H3.out _ HB2.out).mono ?_); rintro e' w3 ⟨rfl, hb⟩; have HB3 := Lib.hid (keep_trans HB2.out hb); clear hb)
    | (go_at_call 67; (with_reducible refine (H2.out _ HB1.out).mono ?_); rintro e' w2 ⟨rfl, hb⟩; have HB2 := Lib.hid (keep_trans HB1.out hb); have HA2 := Lib.hid (HA1.out.after hb); have HC2 := Lib.hid (HC1.out.after hb); have k2a2 : w2.cell? ⟨w.heap.size, 2, none⟩ = some (.slice ra n2 rc) := HA2.out.cell 2; have k2b2 : w2.cell? ⟨w.heap.size + 1, 2, none⟩ = some (.slice rb n2 rd) := HC2.out.cell 2; have k2a3 : w2.cell? ⟨w.heap.size, 3, none⟩ = some (.slice ya n3 yc) := HA2.out.cell 3; have k2b3 : w2.cell? ⟨w.heap.size + 1, 3, none⟩ = some (.slice yb n3 yd) := HC2.out.cell 3; clear hb)
    | (go_at_call 38; (with_reducible refine (H1.out _ (two_box _ _ _)).mono ?_); rintro e' w1 ⟨rfl, hb⟩; have HB1 := Lib.hid (keep_trans (two_box w _ _) hb); have HA1 := Lib.hid (((Blk.new w 72 [.string ⟨nm.toArray⟩, .slice sa n1 sc, .slice ra n2 rc, .slice ya n3 yc]).alloc _).after hb); have HC1 := Lib.hid ((Blk.new2 w _ 72 [.string ⟨nm.toArray⟩, .slice sb n1 sd, .slice rb n2 rd, .slice yb n3 yd]).after hb); have k1a2 : w1.cell? ⟨w.heap.size, 2, none⟩ = some (.slice ra n2 rc) := HA1.out.cell 2; have k1b2 : w1.cell? ⟨w.heap.size + 1, 2, none⟩ = some (.slice rb n2 rd) := HC1.out.cell 2; have k1a3 : w1.cell? ⟨w.heap.size, 3, none⟩ = some (.slice ya n3 yc) := HA1.out.cell 3; have k1b3 : w1.cell? ⟨w.heap.size + 1, 3, none⟩ = some (.slice yb n3 yd) := HC1.out.cell 3; clear hb))
  go_ret
  exact ⟨rfl, HB3.out⟩
end Go.Proofs.YtgdanbfglefiiaaGreat.Sh
namespace Go.Proofs.YtgdanbfglefiiaaGreat.Sh
open Go.ChangeShapes Go.WideShapes Go.ChangeAt Go.RowKit
open Lx
set_option linter.unusedVariables false
set_option linter.unusedSimpArgs false
end Go.Proofs.YtgdanbfglefiiaaGreat.Sh
namespace Go.Proofs.YtgdanbfglefiiaaGreat.Sh
open Go.ChangeShapes Go.WideShapes Go.ChangeAt Go.RowKit
open Lx
set_option linter.unusedVariables false
set_option linter.unusedSimpArgs false
set_option maxRecDepth 100000 in
set_option maxHeartbeats 2000000 in
theorem ksheet_any (x : SheetM) (p q : ShA) (w : World) (h : Sh w (· < w.heap.size) x p) (g : Sh w (· < w.heap.size) x q) (hf : ShFew x) : Calls Tryz.prog 14 #[shV x p, shV x q] w (BPost w true) := by
  obtain ⟨r1, r2, r3, ⟨cr, r4, r4'⟩, r5, r6⟩ := h
  obtain ⟨g1, g2, g3, ⟨cg, g4, g4'⟩, g5, g6⟩ := g
  obtain ⟨l1, l2, l3, l4, l5, l6, lr⟩ := hf
  obtain ⟨hz, st, pa, dos, ro, tr, ha⟩ := x
  obtain ⟨a1, a2, a3, a4, a5, a6, c1, c2, c3, c4, c5, c6⟩ := p
  obtain ⟨b1, b2, b3, b4, b5, b6, d1, d2, d3, d4, d5, d6⟩ := q
  dsimp only at r1 r2 r3 r4 r4' r5 r6 g1 g2 g3 g4 g4' g5 g6 l1 l2 l3 l4 l5 l6 lr
  have H1 := Lib.hid (fun w' (hb : Below w.heap.size w w') => same_str w' a1 b1 st.length c1 d1 st (Lib.hid rfl) l1 (rd_later r1 hb) (rd_later g1 hb))
  have H2 := Lib.hid (fun w' (hb : Below w.heap.size w w') => same_path w' a2 b2 pa.length c2 d2 pa (Lib.hid rfl) l2 (rd_later r2 hb) (rd_later g2 hb))
  have H3 := Lib.hid (fun w' (hb : Below w.heap.size w w') => same_door w' a3 b3 dos.length c3 d3 dos (Lib.hid rfl) l3 (rd_later r3 hb) (rd_later g3 hb))
  have H5 := Lib.hid (fun w' (hb : Below w.heap.size w w') => same_trip w' a5 b5 tr.length c5 d5 tr (Lib.hid rfl) l5 (rd_later r5 hb) (rd_later g5 hb))
  have H6 := Lib.hid (fun w' (hb : Below w.heap.size w w') => same_haz w' a6 b6 ha.length c6 d6 ha (Lib.hid rfl) l6 (rd_later r6 hb) (rd_later g6 hb))
  have HX := Lib.hid r4
  have HY := Lib.hid g4
  have HR := Lib.hid r4'
  have HS := Lib.hid g4'
  have HW := Lib.hid lr
  obtain ⟨n4, hn4⟩ : ∃ n, n = ro.length := ⟨_, rfl⟩
  rw [← hn4] at l4
  have hn := Lib.hid hn4
  clear r1 r2 r3 r4 r4' r5 r6 g1 g2 g3 g4 g4' g5 g6 l1 l2 l3 l5 l6 lr
  show Calls _ _ #[.agg #[.int .i64 hz, .slice a1 st.length c1, .slice a2 pa.length c2, .slice a3 dos.length c3, .slice a4 ro.length c4, .slice a5 tr.length c5, .slice a6 ha.length c6], .agg #[.int .i64 hz, .slice b1 st.length d1, .slice b2 pa.length d2, .slice b3 dos.length d3, .slice b4 ro.length d4, .slice b5 tr.length d5, .slice b6 ha.length d6]] _ _
  rw [← hn4]
  clear hn4
  generalize st.length = n1 at *
  generalize pa.length = n2 at *
  generalize dos.length = n3 at *
  generalize tr.length = n5 at *
  generalize ha.length = n6 at *
  go_enter Tryz.func14, Tryz.ntmps14
  go_wp2_with (first
    | (go_at_call 38; (with_reducible refine (H1.out _ (two_box _ _ _)).mono ?_); rintro e' w1 ⟨rfl, hb⟩; have HB1 := Lib.hid (keep_trans (two_box w _ _) hb); have HA1 := Lib.hid (((Blk.new w 44 [.int .i64 hz, .slice a1 n1 c1, .slice a2 n2 c2, .slice a3 n3 c3, .slice a4 n4 c4, .slice a5 n5 c5, .slice a6 n6 c6]).alloc _).after hb); have HC1 := Lib.hid ((Blk.new2 w _ 44 [.int .i64 hz, .slice b1 n1 d1, .slice b2 n2 d2, .slice b3 n3 d3, .slice b4 n4 d4, .slice b5 n5 d5, .slice b6 n6 d6]).after hb); have ka1_2 : w1.cell? ⟨w.heap.size, 2, none⟩ = some (.slice a2 n2 c2) := HA1.out.cell 2; have kb1_2 : w1.cell? ⟨w.heap.size + 1, 2, none⟩ = some (.slice b2 n2 d2) := HC1.out.cell 2; clear hb)
    | (go_at_call 39; (with_reducible refine (H2.out _ HB1.out).mono ?_); rintro e' w2 ⟨rfl, hb⟩; have HB2 := Lib.hid (keep_trans HB1.out hb); have HA2 := Lib.hid (HA1.out.after hb); have HC2 := Lib.hid (HC1.out.after hb); have ka2_3 : w2.cell? ⟨w.heap.size, 3, none⟩ = some (.slice a3 n3 c3) := HA2.out.cell 3; have kb2_3 : w2.cell? ⟨w.heap.size + 1, 3, none⟩ = some (.slice b3 n3 d3) := HC2.out.cell 3; clear hb)
    | (go_at_call 40; (with_reducible refine (H3.out _ HB2.out).mono ?_); rintro e' w3 ⟨rfl, hb⟩; have HB3 := Lib.hid (keep_trans HB2.out hb); have HA3 := Lib.hid (HA2.out.after hb); have HC3 := Lib.hid (HC2.out.after hb); have ka3_5 : w3.cell? ⟨w.heap.size, 5, none⟩ = some (.slice a5 n5 c5) := HA3.out.cell 5; have kb3_5 : w3.cell? ⟨w.heap.size + 1, 5, none⟩ = some (.slice b5 n5 d5) := HC3.out.cell 5; clear hb)
    | (go_at_call 41; (with_reducible refine (H5.out _ HB3.out).mono ?_); rintro e' w4 ⟨rfl, hb⟩; have HB4 := Lib.hid (keep_trans HB3.out hb); have HA4 := Lib.hid (HA3.out.after hb); have HC4 := Lib.hid (HC3.out.after hb); have ka4_6 : w4.cell? ⟨w.heap.size, 6, none⟩ = some (.slice a6 n6 c6) := HA4.out.cell 6; have kb4_6 : w4.cell? ⟨w.heap.size + 1, 6, none⟩ = some (.slice b6 n6 d6) := HC4.out.cell 6; clear hb)
    | (go_at_call 42; (with_reducible refine (H6.out _ HB4.out).mono ?_); rintro e' w5 ⟨rfl, hb⟩; have HB5 := Lib.hid (keep_trans HB4.out hb); have HA5 := Lib.hid (HA4.out.after hb); have HC5 := Lib.hid (HC4.out.after hb); have ka5_4 : w5.cell? ⟨w.heap.size, 4, none⟩ = some (.slice a4 n4 c4) := HA5.out.cell 4; have kb5_4 : w5.cell? ⟨w.heap.size + 1, 4, none⟩ = some (.slice b4 n4 d4) := HC5.out.cell 4; clear hb))
  go_loopw [5] (fun v wr => ∃ k : Nat, v = .int .i64 k ∧ k ≤ n4 ∧ Hid (Below w.heap.size w wr) ∧ Hid (Blk wr w.heap.size 44 [.int .i64 hz, .slice a1 n1 c1, .slice a2 n2 c2, .slice a3 n3 c3, .slice a4 n4 c4, .slice a5 n5 c5, .slice a6 n6 c6]) ∧ Hid (Blk wr (w.heap.size + 1) 44 [.int .i64 hz, .slice b1 n1 d1, .slice b2 n2 d2, .slice b3 n3 d3, .slice b4 n4 d4, .slice b5 n5 d5, .slice b6 n6 d6])) (fun v _ => n4 - (intOf v).toNat)
  case atStart => exact ⟨0, rfl, by omega, HB5, HA5, HC5⟩
  case round =>
    obtain ⟨k, rfl, hk, HB, HA, HC⟩ := hrel
    have e4 : wr.cell? ⟨w.heap.size, 4, none⟩ = some (.slice a4 n4 c4) := HA.out.cell 4
    have f4 : wr.cell? ⟨w.heap.size + 1, 4, none⟩ = some (.slice b4 n4 d4) := HC.out.cell 4
    by_cases hlt : k < n4
    · obtain ⟨a, ha⟩ := at_in ro hn hlt
      obtain ⟨ad, rfl, hA, sa, sc, ra, rc, ya, yc, x0, x1, x2, x3, ga⟩ := rts_at (rd_later HX.out HB.out) (HR.out.later HB.out) ha
      obtain ⟨bd, rfl, hB, sb, sd, rb, rd, yb, yd, y0, y1, y2, y3, gb⟩ := rts_at (rd_later HY.out HB.out) (HS.out.later HB.out) ha
      have HG : ∀ w', Below wr.heap.size wr w' → Calls Tryz.prog 43 #[rtV a sa ra ya sc rc yc, rtV a sb rb yb sd rd yd] w' (BPost w' true) := fun w' hb => kroute_any a sa ra ya sb rb yb sc rc yc sd rd yd w' (ga.later hb) (gb.later hb) (HW.out a (List.mem_of_getElem? ha))
      obtain ⟨nm, ts, ri, sy⟩ := a
      dsimp only at x0 x1 x2 x3 y0 y1 y2 y3 HG
      simp only [rtV] at HG
      clear ga gb ha
      generalize ts.length = m1 at *
      generalize ri.length = m2 at *
      generalize sy.length = m3 at *
      have HGG := Lib.hid HG
      have hi : (k : Int) < (n4 : Int) := by omega
      clear HG
      go_wp2
      go_region_with (go_at_call 43; (with_reducible refine (HGG.out _ ?_).mono ?_); (first | exact Below.refl _ _ | exact below_drew (Below.refl _ _) | exact two_box _ _ _ | exact one_box _ _); rintro e w9 ⟨rfl, hb⟩; have HB2 : Hid (Below wr.heap.size wr w9) := Lib.hid (by first | exact hb | exact keep_trans (below_drew (Below.refl _ _)) hb); clear hb)
      all_goals go_wp2
      all_goals (go_roundw; (case rel => exact ⟨k + 1, by go_num, by omega, Lib.hid (keep_trans HB.out HB2.out), Lib.hid (HA.out.after HB2.out), Lib.hid (HC.out.after HB2.out)⟩); (case measure => simp [intOf]; omega))
    · go_wp2
      go_ret
      exact ⟨rfl, HB.out⟩
end Go.Proofs.YtgdanbfglefiiaaGreat.Sh
namespace Go.Proofs.YtgdanbfglefiiaaGreat.Sh
open Go.ChangeShapes Go.WideShapes Go.ChangeAt Go.RowKit
open Lx
set_option linter.unusedVariables false
set_option linter.unusedSimpArgs false
end Go.Proofs.YtgdanbfglefiiaaGreat.Sh
namespace Go.Proofs.YtgdanbfglefiiaaGreat.Sh
open Lx Tk
set_option linter.unusedVariables false
end Go.Proofs.YtgdanbfglefiiaaGreat.Sh
namespace Go.Proofs.YtgdanbfglefiiaaGreat.Sh
open Lx Tk
set_option linter.unusedVariables false
end Go.Proofs.YtgdanbfglefiiaaGreat.Sh
