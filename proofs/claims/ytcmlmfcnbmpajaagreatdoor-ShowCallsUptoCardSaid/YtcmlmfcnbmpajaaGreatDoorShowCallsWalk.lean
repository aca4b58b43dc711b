/- ShowCalls: the walk of the law. -/
import Derived.Test.YtcmlmfcnbmpajaaGreatDoorRefText
import Derived.Test.YtcmlmfcnbmpajaaGreatDoorShowLives
import Derived.Test.YtcmlmfcnbmpajaaGreatDoorKitOwnS
import Derived.Deep.RegionHeld3
namespace Go.Proofs.YtcmlmfcnbmpajaaGreatDoor.Sw
open Go.ChangeShapes Go.WideShapes Go.ChangeAt Go.RowKit
open Lx Sh Tk
set_option linter.unusedVariables false
set_option linter.unusedSimpArgs false
set_option maxRecDepth 100000

def TrueP (w : World) (e : Ending) (w' : World) : Prop := e = .returned (.bool true) ∧ Below w.heap.size w w'
theorem pa_len {p : PathM} (h : PaS p) : (pathX p).length ≤ 140737488355328 := by
  obtain ⟨h1, h2, h3, h4⟩ := h
  have q := ritoa_le h4
  unfold NL at h1 h2 h3
  rw [pathX, joinW_first _ (by decide)]
  simp [kPath]
  omega
theorem do_len {p : DoorM} (h : DoS p) : (doorX p).length ≤ 140737488355328 := by
  obtain ⟨h1, h2, h3, h4, h5⟩ := h
  have q := ritoa_le h4
  have q2 := times_len (l := []) (k := kOpen) h5 (by decide)
  unfold NL at h1 h2 h3
  rw [doorX, joinW_some (by rw [doorW]; exact joinW_ne (by decide) _), doorW, joinW_first _ (by decide)]
  simp only [List.length_append]
  simp [kDoor] at q2 ⊢
  omega
theorem tr_len {p : TripM} (h : TrS p) : (tripX p).length ≤ 140737488355328 := by
  obtain ⟨h1, h2, h3, h4, h5⟩ := h
  have q3 := ritoa_le h3
  have q4 := ritoa_le h4
  have q5 := ritoa_le h5
  unfold NL at h1 h2
  rw [tripX, joinW_first _ (by decide)]
  simp [kTrip, kOf, kFrom, kEvery, kUntil]
  omega
theorem ha_len {p : HazM} (h : HaS p) : (hazX p).length ≤ 140737488355328 := by
  obtain ⟨h1, h2, h5⟩ := h
  have q2 := times_len (l := []) (k := kClosed) h5 (by decide)
  unfold NL at h1 h2
  rw [hazX, joinW_some (by rw [hazW]; exact joinW_ne (by decide) _), hazW, joinW_first _ (by decide)]
  simp only [List.length_append]
  simp [kHazard, kOn] at q2 ⊢
  omega
theorem ro_len {r : RouteM} (h : RtS r) (hf : r.stops.length ≤ 1000000) : (routeX r).length ≤ 140737488355328 := by
  have := pre_len h r.stops.length
  unfold routeX
  omega
def linesM (x : SheetM) : List (List UInt8) := if checkM x = 0 then linesT x else []
theorem linesM_len (x : SheetM) : (linesM x).length ≤ 4000 := by
  unfold linesM
  split
  · rename_i h
    rw [← preX_lines (may_of h)]; exact preX_len (may_of h) 7 (by omega)
  · simp
def LinesAny (w : World) (x : SheetM) (e : Ending) (w' : World) : Prop :=
  ∃ A n c, n = (linesM x).length ∧ e = .returned (.tuple #[.slice A n c, .int .i64 (checkM x)]) ∧ Rd w' (· < w'.heap.size) A (cs strC (linesM x)) ∧ Below w.heap.size w w'
theorem lines_to {w : World} {x : SheetM} {e : Ending} {w' : World} (hc : checkM x = 0) (h : LinesPost w (linesT x) e w') : LinesAny w x e w' := by
  obtain ⟨A, n, c, hn, rfl, -, hr, hb⟩ := h
  have e : linesM x = linesT x := if_pos hc
  exact ⟨A, n, c, by rw [e]; exact hn, by rw [hc], by rw [e]; exact hr.more fun b h => h.2, hb⟩
theorem lines_none {w : World} {x : SheetM} {e : Ending} {w' : World} (hc : checkM x ≠ 0) (h : e = .returned (.tuple #[.slice none 0 0, .int .i64 (checkM x)]) ∧ Below w.heap.size w w') : LinesAny w x e w' := by
  obtain ⟨rfl, hb⟩ := h
  have e : linesM x = [] := if_neg hc
  exact ⟨none, 0, 0, by rw [e]; rfl, rfl, by rw [e]; exact Rd.none_, hb⟩
theorem slines_all (x : SheetM) (p : ShA) (w : World) (h : Sh w (· < w.heap.size) x p) (hl : Lt x) (hE : Tk.Env w) : Calls Tryz.prog 12 #[shV x p] w (LinesAny w x) := by
  by_cases hc : checkM x = 0
  · exact (lines_may x p w h (may_of hc) hE).mono fun e w' h => lines_to hc h
  · exact (lines_no x p w h hl.few hc).mono fun e w' h => lines_none hc h
theorem rlines_all (x : SheetM) (p : ShA) (w : World) (h : Sh w (· < w.heap.size) x p) (hl : Lt x) (hS : ShS x) : Calls Tryz.prog 13 #[shV x p] w (LinesAny w x) := by
  by_cases hc : checkM x = 0
  · exact (rlines_any x p w h hl hS hc).mono fun e w' h => lines_to hc h
  · exact (rlines_no x p w h hl hc).mono fun e w' h => lines_none hc h
theorem stext_all (x : SheetM) (p : ShA) (w : World) (h : Sh w (· < w.heap.size) x p) (hl : Lt x) (hE : Tk.Env w) :
    Calls Tryz.prog 9 #[shV x p] w fun e w' => e = .returned (.tuple #[.string ⟨(textM' x).toArray⟩, .int .i64 (checkM x)]) ∧ Below w.heap.size w w' := by
  by_cases hc : checkM x = 0
  · have := text_ok x p w h (may_of hc) hE
    unfold textM'
    rw [if_pos hc, hc]; exact this
  · have := text_no x p w h hl.few hc
    unfold textM'
    rw [if_neg hc]; exact this

/-- a route's place, later -/
theorem rtAt_later {w w' : World} {r : RouteM} {sa ra ya : Option Addr} (h : RtAt w (· < w.heap.size) r sa ra ya) (hb : Below w.heap.size w w') : RtAt w' (· < w'.heap.size) r sa ra ya :=
  (h.keep fun b h1 => hb.block b h1).more fun b h1 => by have := hb.size; omega
/-- the sheet that is one's own, read -/
theorem ows_sh {w : World} {B s : Nat} {x : SheetM} {A1 A2 A3 A4 A5 A6 : Option Addr} {c1 c2 c3 c4 c5 c6 : Nat} (h : OwS w B s x (.slice A1 x.stops.length c1) (.slice A2 x.paths.length c2) (.slice A3 x.doors.length c3) (.slice A4 x.routes.length c4) (.slice A5 x.trips.length c5) (.slice A6 x.hazards.length c6)) :
    Sh w (· < w.heap.size) x ⟨A1, A2, A3, A4, A5, A6, c1, c2, c3, c4, c5, c6⟩ := by
  have rdd : ∀ {b e size n c : Nat} {A : Option Addr} {xs : List Value} {W : World}, W.ownsRow b e size (.slice A n c) n xs → Rd W (· < W.heap.size) A xs := fun h => (own_rd' h).more fun b hb => hb.2
  obtain ⟨c, h4, h4'⟩ := h.r4
  exact ⟨rdd h.r1, rdd h.r2, rdd h.r3, ⟨c, rdd h4, h4'.more fun b hb => hb.2.1⟩, rdd h.r5, rdd h.r6⟩
theorem blk_0 (w : World) (l0 l1 l2 l3 l4 l5 : Array Value) (t0 t1 t2 t3 t4 t5 : TypeId) : Blk ((((((w.alloc (.cells l0 t0)).alloc (.cells l1 t1)).alloc (.cells l2 t2)).alloc (.cells l3 t3)).alloc (.cells l4 t4)).alloc (.cells l5 t5)) (w.heap.size) t0 l0.toList := by
  have h := ((((((Blk.new w t0 l0.toList).alloc (.cells l1 t1)).alloc (.cells l2 t2)).alloc (.cells l3 t3)).alloc (.cells l4 t4)).alloc (.cells l5 t5))
  simpa using h
theorem blk_1 (w : World) (l0 l1 l2 l3 l4 l5 : Array Value) (t0 t1 t2 t3 t4 t5 : TypeId) : Blk ((((((w.alloc (.cells l0 t0)).alloc (.cells l1 t1)).alloc (.cells l2 t2)).alloc (.cells l3 t3)).alloc (.cells l4 t4)).alloc (.cells l5 t5)) (w.heap.size + 1) t1 l1.toList := by
  have h := (((((Blk.new (w.alloc (.cells l0 t0)) t1 l1.toList).alloc (.cells l2 t2)).alloc (.cells l3 t3)).alloc (.cells l4 t4)).alloc (.cells l5 t5))
  simpa using h
theorem blk_2 (w : World) (l0 l1 l2 l3 l4 l5 : Array Value) (t0 t1 t2 t3 t4 t5 : TypeId) : Blk ((((((w.alloc (.cells l0 t0)).alloc (.cells l1 t1)).alloc (.cells l2 t2)).alloc (.cells l3 t3)).alloc (.cells l4 t4)).alloc (.cells l5 t5)) (w.heap.size + 2) t2 l2.toList := by
  have h := ((((Blk.new ((w.alloc (.cells l0 t0)).alloc (.cells l1 t1)) t2 l2.toList).alloc (.cells l3 t3)).alloc (.cells l4 t4)).alloc (.cells l5 t5))
  simpa using h
theorem blk_3 (w : World) (l0 l1 l2 l3 l4 l5 : Array Value) (t0 t1 t2 t3 t4 t5 : TypeId) : Blk ((((((w.alloc (.cells l0 t0)).alloc (.cells l1 t1)).alloc (.cells l2 t2)).alloc (.cells l3 t3)).alloc (.cells l4 t4)).alloc (.cells l5 t5)) (w.heap.size + 3) t3 l3.toList := by
  have h := (((Blk.new (((w.alloc (.cells l0 t0)).alloc (.cells l1 t1)).alloc (.cells l2 t2)) t3 l3.toList).alloc (.cells l4 t4)).alloc (.cells l5 t5))
  simpa using h
theorem blk_4 (w : World) (l0 l1 l2 l3 l4 l5 : Array Value) (t0 t1 t2 t3 t4 t5 : TypeId) : Blk ((((((w.alloc (.cells l0 t0)).alloc (.cells l1 t1)).alloc (.cells l2 t2)).alloc (.cells l3 t3)).alloc (.cells l4 t4)).alloc (.cells l5 t5)) (w.heap.size + 4) t4 l4.toList := by
  have h := ((Blk.new ((((w.alloc (.cells l0 t0)).alloc (.cells l1 t1)).alloc (.cells l2 t2)).alloc (.cells l3 t3)) t4 l4.toList).alloc (.cells l5 t5))
  simpa using h
theorem blk_5 (w : World) (l0 l1 l2 l3 l4 l5 : Array Value) (t0 t1 t2 t3 t4 t5 : TypeId) : Blk ((((((w.alloc (.cells l0 t0)).alloc (.cells l1 t1)).alloc (.cells l2 t2)).alloc (.cells l3 t3)).alloc (.cells l4 t4)).alloc (.cells l5 t5)) (w.heap.size + 5) t5 l5.toList := by
  have h := (Blk.new (((((w.alloc (.cells l0 t0)).alloc (.cells l1 t1)).alloc (.cells l2 t2)).alloc (.cells l3 t3)).alloc (.cells l4 t4)) t5 l5.toList)
  simpa using h
set_option maxHeartbeats 40000000 in
theorem calls_dark (x : SheetM) (p : ShA) (q : PathM) (d : DoorM) (r : RouteM) (sa ra ya : Option Addr) (sc rc yc : Nat) (t : TripM) (h : HazM) (w : World) (hE : Tk.Env w) (hx : Sh w (· < w.heap.size) x p) (hl : (lightM x && lightR r) = false) :
    Calls Tryz.prog 3 #[shV x p, paV q, doV d, rtV r sa ra ya sc rc yc, trV t, haV h] w (TrueP w) := by
  have CL := Lib.hid (fun w' (hb : Below w.heap.size w w') => lives_any w' (hE.on hb))
  have CLS := fun w' (hb : Below w.heap.size w w') => light_any x p w' (hx.later hb)
  have CLR := fun w' => lightR_any r sa ra ya sc rc yc w'
  clear hE hx
  by_cases hlm : lightM x = true
  · have hlr : lightR r = false := by simpa [hlm] using hl
    rw [hlm] at CLS
    rw [hlr] at CLR
    clear hl hlm hlr
    have CLS := Lib.hid CLS
    have CLR := Lib.hid CLR
    go_enter Tryz.func3, Tryz.ntmps3
    go_upto_region 1 with (fail)
    obtain ⟨W, hW⟩ : ∃ W, W = ((((((w.alloc (.cells #[.int .i64 x.horizon, .slice p.a1 x.stops.length p.c1, .slice p.a2 x.paths.length p.c2, .slice p.a3 x.doors.length p.c3, .slice p.a4 x.routes.length p.c4, .slice p.a5 x.trips.length p.c5, .slice p.a6 x.hazards.length p.c6] 29)).alloc (.cells #[.string ⟨q.name.toArray⟩, .string ⟨q.a.toArray⟩, .string ⟨q.b.toArray⟩, .int .i64 q.len] 31)).alloc (.cells #[.string ⟨d.name.toArray⟩, .string ⟨d.a.toArray⟩, .string ⟨d.b.toArray⟩, .int .i64 d.len, .int .i64 d.times.frm, .int .i64 d.times.every, .int .i64 d.times.len] 35)).alloc (.cells #[.string ⟨r.name.toArray⟩, .slice sa r.stops.length sc, .slice ra r.rides.length rc, .slice ya r.stays.length yc] 38)).alloc (.cells #[.string ⟨t.name.toArray⟩, .string ⟨t.route.toArray⟩, .int .i64 t.frm, .int .i64 t.every, .int .i64 t.til] 40)).alloc (.cells #[.string ⟨h.name.toArray⟩, .string ⟨h.at_.toArray⟩, .int .i64 h.times.frm, .int .i64 h.times.every, .int .i64 h.times.len] 42)) := ⟨_, rfl⟩
    have HW0 : Hid (Below w.heap.size w W) := Lib.hid (by rw [hW]; repeat (first | exact Below.refl _ _ | refine Below.alloc ?_ (by simp; try omega) _))
    have K0 : Hid (Blk W (w.heap.size) 29 [.int .i64 x.horizon, .slice p.a1 x.stops.length p.c1, .slice p.a2 x.paths.length p.c2, .slice p.a3 x.doors.length p.c3, .slice p.a4 x.routes.length p.c4, .slice p.a5 x.trips.length p.c5, .slice p.a6 x.hazards.length p.c6]) := Lib.hid (by rw [hW]; exact blk_0 _ _ _ _ _ _ _ _ _ _ _ _ _)
    have K1 : Hid (Blk W (w.heap.size + 1) 31 [.string ⟨q.name.toArray⟩, .string ⟨q.a.toArray⟩, .string ⟨q.b.toArray⟩, .int .i64 q.len]) := Lib.hid (by rw [hW]; exact blk_1 _ _ _ _ _ _ _ _ _ _ _ _ _)
    have K2 : Hid (Blk W (w.heap.size + 2) 35 [.string ⟨d.name.toArray⟩, .string ⟨d.a.toArray⟩, .string ⟨d.b.toArray⟩, .int .i64 d.len, .int .i64 d.times.frm, .int .i64 d.times.every, .int .i64 d.times.len]) := Lib.hid (by rw [hW]; exact blk_2 _ _ _ _ _ _ _ _ _ _ _ _ _)
    have K3 : Hid (Blk W (w.heap.size + 3) 38 [.string ⟨r.name.toArray⟩, .slice sa r.stops.length sc, .slice ra r.rides.length rc, .slice ya r.stays.length yc]) := Lib.hid (by rw [hW]; exact blk_3 _ _ _ _ _ _ _ _ _ _ _ _ _)
    have K4 : Hid (Blk W (w.heap.size + 4) 40 [.string ⟨t.name.toArray⟩, .string ⟨t.route.toArray⟩, .int .i64 t.frm, .int .i64 t.every, .int .i64 t.til]) := Lib.hid (by rw [hW]; exact blk_4 _ _ _ _ _ _ _ _ _ _ _ _ _)
    have K5 : Hid (Blk W (w.heap.size + 5) 42 [.string ⟨h.name.toArray⟩, .string ⟨h.at_.toArray⟩, .int .i64 h.times.frm, .int .i64 h.times.every, .int .i64 h.times.len]) := Lib.hid (by rw [hW]; exact blk_5 _ _ _ _ _ _ _ _ _ _ _ _ _)
    rw [← hW]
    clear hW
    have KC : Hid (∀ w', Below W.heap.size W w' → w'.cell? ⟨w.heap.size, 0, none⟩ = some (.int .i64 x.horizon) ∧ w'.cell? ⟨w.heap.size, 1, none⟩ = some (.slice p.a1 x.stops.length p.c1) ∧ w'.cell? ⟨w.heap.size, 2, none⟩ = some (.slice p.a2 x.paths.length p.c2) ∧ w'.cell? ⟨w.heap.size, 3, none⟩ = some (.slice p.a3 x.doors.length p.c3) ∧ w'.cell? ⟨w.heap.size, 4, none⟩ = some (.slice p.a4 x.routes.length p.c4) ∧ w'.cell? ⟨w.heap.size, 5, none⟩ = some (.slice p.a5 x.trips.length p.c5) ∧ w'.cell? ⟨w.heap.size, 6, none⟩ = some (.slice p.a6 x.hazards.length p.c6) ∧ w'.cell? ⟨w.heap.size + 3, 0, none⟩ = some (.string ⟨r.name.toArray⟩) ∧ w'.cell? ⟨w.heap.size + 3, 1, none⟩ = some (.slice sa r.stops.length sc) ∧ w'.cell? ⟨w.heap.size + 3, 2, none⟩ = some (.slice ra r.rides.length rc) ∧ w'.cell? ⟨w.heap.size + 3, 3, none⟩ = some (.slice ya r.stays.length yc)) := Lib.hid (fun w' hb => by have a0 := K0.out.after hb; have a3 := K3.out.after hb; exact ⟨a0.cell 0, a0.cell 1, a0.cell 2, a0.cell 3, a0.cell 4, a0.cell 5, a0.cell 6, a3.cell 0, a3.cell 1, a3.cell 2, a3.cell 3⟩)
    obtain ⟨z0, z1, z2, z3, z4, z5, z6, z7, z8, z9, z10⟩ := KC.out _ (Below.refl _ _)
    go_wp2_with (first
      | (go_at_call 8; (with_reducible refine (CLR.out _).mono ?_); rintro e' w3 ⟨rfl, hb⟩; have Q3 : Hid (Below W.heap.size W w3) := Lib.hid (keep_trans Q2.out hb); clear hb; clear z0 z1 z2 z3 z4 z5 z6 z7 z8 z9 z10; obtain ⟨z0, z1, z2, z3, z4, z5, z6, z7, z8, z9, z10⟩ := KC.out _ Q3.out)
      | (go_at_call 7; (with_reducible refine (CLS.out _ (keep_trans HW0.out Q1.out)).mono ?_); rintro e' w2 ⟨rfl, hb⟩; have Q2 : Hid (Below W.heap.size W w2) := Lib.hid (keep_trans Q1.out hb); clear hb; clear z0 z1 z2 z3 z4 z5 z6 z7 z8 z9 z10; obtain ⟨z0, z1, z2, z3, z4, z5, z6, z7, z8, z9, z10⟩ := KC.out _ Q2.out)
      | (go_at_call 6; (with_reducible refine (CL.out _ HW0.out).mono ?_); rintro e' w1 ⟨rfl, hb⟩; have Q1 : Hid (Below W.heap.size W w1) := Lib.hid hb; clear hb; clear z0 z1 z2 z3 z4 z5 z6 z7 z8 z9 z10; obtain ⟨z0, z1, z2, z3, z4, z5, z6, z7, z8, z9, z10⟩ := KC.out _ Q1.out)
      | fail)
    go_ret
    exact ⟨rfl, keep_trans HW0.out Q3.out⟩
  · have hlr : lightM x = false := by simpa using hlm
    rw [hlr] at CLS
    clear hl hlm hlr
    have CLS := Lib.hid CLS
    have CLR := Lib.hid CLR
    go_enter Tryz.func3, Tryz.ntmps3
    go_upto_region 1 with (fail)
    obtain ⟨W, hW⟩ : ∃ W, W = ((((((w.alloc (.cells #[.int .i64 x.horizon, .slice p.a1 x.stops.length p.c1, .slice p.a2 x.paths.length p.c2, .slice p.a3 x.doors.length p.c3, .slice p.a4 x.routes.length p.c4, .slice p.a5 x.trips.length p.c5, .slice p.a6 x.hazards.length p.c6] 29)).alloc (.cells #[.string ⟨q.name.toArray⟩, .string ⟨q.a.toArray⟩, .string ⟨q.b.toArray⟩, .int .i64 q.len] 31)).alloc (.cells #[.string ⟨d.name.toArray⟩, .string ⟨d.a.toArray⟩, .string ⟨d.b.toArray⟩, .int .i64 d.len, .int .i64 d.times.frm, .int .i64 d.times.every, .int .i64 d.times.len] 35)).alloc (.cells #[.string ⟨r.name.toArray⟩, .slice sa r.stops.length sc, .slice ra r.rides.length rc, .slice ya r.stays.length yc] 38)).alloc (.cells #[.string ⟨t.name.toArray⟩, .string ⟨t.route.toArray⟩, .int .i64 t.frm, .int .i64 t.every, .int .i64 t.til] 40)).alloc (.cells #[.string ⟨h.name.toArray⟩, .string ⟨h.at_.toArray⟩, .int .i64 h.times.frm, .int .i64 h.times.every, .int .i64 h.times.len] 42)) := ⟨_, rfl⟩
    have HW0 : Hid (Below w.heap.size w W) := Lib.hid (by rw [hW]; repeat (first | exact Below.refl _ _ | refine Below.alloc ?_ (by simp; try omega) _))
    have K0 : Hid (Blk W (w.heap.size) 29 [.int .i64 x.horizon, .slice p.a1 x.stops.length p.c1, .slice p.a2 x.paths.length p.c2, .slice p.a3 x.doors.length p.c3, .slice p.a4 x.routes.length p.c4, .slice p.a5 x.trips.length p.c5, .slice p.a6 x.hazards.length p.c6]) := Lib.hid (by rw [hW]; exact blk_0 _ _ _ _ _ _ _ _ _ _ _ _ _)
    have K1 : Hid (Blk W (w.heap.size + 1) 31 [.string ⟨q.name.toArray⟩, .string ⟨q.a.toArray⟩, .string ⟨q.b.toArray⟩, .int .i64 q.len]) := Lib.hid (by rw [hW]; exact blk_1 _ _ _ _ _ _ _ _ _ _ _ _ _)
    have K2 : Hid (Blk W (w.heap.size + 2) 35 [.string ⟨d.name.toArray⟩, .string ⟨d.a.toArray⟩, .string ⟨d.b.toArray⟩, .int .i64 d.len, .int .i64 d.times.frm, .int .i64 d.times.every, .int .i64 d.times.len]) := Lib.hid (by rw [hW]; exact blk_2 _ _ _ _ _ _ _ _ _ _ _ _ _)
    have K3 : Hid (Blk W (w.heap.size + 3) 38 [.string ⟨r.name.toArray⟩, .slice sa r.stops.length sc, .slice ra r.rides.length rc, .slice ya r.stays.length yc]) := Lib.hid (by rw [hW]; exact blk_3 _ _ _ _ _ _ _ _ _ _ _ _ _)
    have K4 : Hid (Blk W (w.heap.size + 4) 40 [.string ⟨t.name.toArray⟩, .string ⟨t.route.toArray⟩, .int .i64 t.frm, .int .i64 t.every, .int .i64 t.til]) := Lib.hid (by rw [hW]; exact blk_4 _ _ _ _ _ _ _ _ _ _ _ _ _)
    have K5 : Hid (Blk W (w.heap.size + 5) 42 [.string ⟨h.name.toArray⟩, .string ⟨h.at_.toArray⟩, .int .i64 h.times.frm, .int .i64 h.times.every, .int .i64 h.times.len]) := Lib.hid (by rw [hW]; exact blk_5 _ _ _ _ _ _ _ _ _ _ _ _ _)
    rw [← hW]
    clear hW
    have KC : Hid (∀ w', Below W.heap.size W w' → w'.cell? ⟨w.heap.size, 0, none⟩ = some (.int .i64 x.horizon) ∧ w'.cell? ⟨w.heap.size, 1, none⟩ = some (.slice p.a1 x.stops.length p.c1) ∧ w'.cell? ⟨w.heap.size, 2, none⟩ = some (.slice p.a2 x.paths.length p.c2) ∧ w'.cell? ⟨w.heap.size, 3, none⟩ = some (.slice p.a3 x.doors.length p.c3) ∧ w'.cell? ⟨w.heap.size, 4, none⟩ = some (.slice p.a4 x.routes.length p.c4) ∧ w'.cell? ⟨w.heap.size, 5, none⟩ = some (.slice p.a5 x.trips.length p.c5) ∧ w'.cell? ⟨w.heap.size, 6, none⟩ = some (.slice p.a6 x.hazards.length p.c6) ∧ w'.cell? ⟨w.heap.size + 3, 0, none⟩ = some (.string ⟨r.name.toArray⟩) ∧ w'.cell? ⟨w.heap.size + 3, 1, none⟩ = some (.slice sa r.stops.length sc) ∧ w'.cell? ⟨w.heap.size + 3, 2, none⟩ = some (.slice ra r.rides.length rc) ∧ w'.cell? ⟨w.heap.size + 3, 3, none⟩ = some (.slice ya r.stays.length yc)) := Lib.hid (fun w' hb => by have a0 := K0.out.after hb; have a3 := K3.out.after hb; exact ⟨a0.cell 0, a0.cell 1, a0.cell 2, a0.cell 3, a0.cell 4, a0.cell 5, a0.cell 6, a3.cell 0, a3.cell 1, a3.cell 2, a3.cell 3⟩)
    obtain ⟨z0, z1, z2, z3, z4, z5, z6, z7, z8, z9, z10⟩ := KC.out _ (Below.refl _ _)
    go_wp2_with (first
      | (go_at_call 7; (with_reducible refine (CLS.out _ (keep_trans HW0.out Q1.out)).mono ?_); rintro e' w2 ⟨rfl, hb⟩; have Q2 : Hid (Below W.heap.size W w2) := Lib.hid (keep_trans Q1.out hb); clear hb; clear z0 z1 z2 z3 z4 z5 z6 z7 z8 z9 z10; obtain ⟨z0, z1, z2, z3, z4, z5, z6, z7, z8, z9, z10⟩ := KC.out _ Q2.out)
      | (go_at_call 6; (with_reducible refine (CL.out _ HW0.out).mono ?_); rintro e' w1 ⟨rfl, hb⟩; have Q1 : Hid (Below W.heap.size W w1) := Lib.hid hb; clear hb; clear z0 z1 z2 z3 z4 z5 z6 z7 z8 z9 z10; obtain ⟨z0, z1, z2, z3, z4, z5, z6, z7, z8, z9, z10⟩ := KC.out _ Q1.out)
      | fail)
    go_ret
    exact ⟨rfl, keep_trans HW0.out Q2.out⟩
set_option maxHeartbeats 100000000 in
theorem calls_light (x : SheetM) (p : ShA) (q : PathM) (d : DoorM) (r : RouteM) (sa ra ya : Option Addr) (sc rc yc : Nat) (t : TripM) (h : HazM) (w : World) (hE : Tk.Env w) (hx : Sh w (· < w.heap.size) x p) (hS : ShS x) (hp : PaS q) (hd : DoS d) (hrt : RtAt w (· < w.heap.size) r sa ra ya) (hr : RtS r) (ht' : TrS t) (hh : HaS h) (hl : lightM x = true) (hlr : lightR r = true) :
    Calls Tryz.prog 3 #[shV x p, paV q, doV d, rtV r sa ra ya sc rc yc, trV t, haV h] w (TrueP w) := by
  have lx : Lt x := lt_of hl
  have hfr : Few r := by
    simp only [lightR, Bool.and_eq_true, decide_eq_true_eq] at hlr
    exact ⟨by omega, by omega, by omega⟩
  have CL := Lib.hid (fun w' (hb : Below w.heap.size w w') => lives_any w' (hE.on hb))
  have CLS0 := fun w' (hb : Below w.heap.size w w') => light_any x p w' (hx.later hb)
  have CLR0 := fun w' => lightR_any r sa ra ya sc rc yc w'
  rw [hl] at CLS0
  rw [hlr] at CLR0
  have CLS := Lib.hid CLS0
  have CLR := Lib.hid CLR0
  have CO := Lib.hid (fun w' (hb : Below w.heap.size w w') => own_sheet x p w' (hx.later hb) lx.few)
  have CT1 := Lib.hid (fun w' p' (hb : Below w.heap.size w w') (hs : Sh w' (· < w'.heap.size) x p') => stext_all x p' w' hs lx (hE.on hb))
  have CT2 := Lib.hid (fun w' (hb : Below w.heap.size w w') => rtext_any x p w' (hx.later hb) lx hS)
  have CLN := Lib.hid (fun w' (hb : Below w.heap.size w w') => slines_all x p w' (hx.later hb) lx (hE.on hb))
  have CLM := Lib.hid (fun w' (hb : Below w.heap.size w w') => rlines_all x p w' (hx.later hb) lx hS)
  have CPA := Lib.hid (fun w' (hb : Below w.heap.size w w') => path_any q w' (hE.on hb) hp.2.2.2 (pa_len hp))
  have CPB := Lib.hid (fun w' => rpath_any q w' hp)
  have CDA := Lib.hid (fun w' (hb : Below w.heap.size w w') => door_any d w' (hE.on hb) hd.2.2.2.1 hd.2.2.2.2 (do_len hd))
  have CDB := Lib.hid (fun w' => rdoor_any d w' hd)
  have CRA := Lib.hid (fun w' (hb : Below w.heap.size w w') => route_any r sa ra ya sc rc yc w' (rtAt_later hrt hb) hfr (hE.on hb) hr.2.2.1 hr.2.2.2 (ro_len hr hfr.1))
  have CRB := Lib.hid (fun w' (hb : Below w.heap.size w w') => rroute_any r sa ra ya sc rc yc w' (rtAt_later hrt hb) hfr hr)
  have CTA := Lib.hid (fun w' (hb : Below w.heap.size w w') => trip_any t w' (hE.on hb) ht'.2.2 (tr_len ht'))
  have CTB := Lib.hid (fun w' => rtrip_any t w' ht')
  have CHA := Lib.hid (fun w' (hb : Below w.heap.size w w') => haz_any h w' (hE.on hb) hh.2.2 (ha_len hh))
  have CHB := Lib.hid (fun w' => rhaz_any h w' hh)
  have HLN := Lib.hid (linesM_len x)
  clear hE hx hS hp hd hrt hr ht' hh hl hlr lx hfr CLS0 CLR0
  generalize textM' x = TX at *
  generalize pathX q = XP at *
  generalize doorX d = XD at *
  generalize routeX r = XR at *
  generalize tripX t = XT at *
  generalize hazX h = XH at *
  go_enter Tryz.func3, Tryz.ntmps3
  go_upto_region 1 with (fail)
  obtain ⟨W, hW⟩ : ∃ W, W = ((((((w.alloc (.cells #[.int .i64 x.horizon, .slice p.a1 x.stops.length p.c1, .slice p.a2 x.paths.length p.c2, .slice p.a3 x.doors.length p.c3, .slice p.a4 x.routes.length p.c4, .slice p.a5 x.trips.length p.c5, .slice p.a6 x.hazards.length p.c6] 29)).alloc (.cells #[.string ⟨q.name.toArray⟩, .string ⟨q.a.toArray⟩, .string ⟨q.b.toArray⟩, .int .i64 q.len] 31)).alloc (.cells #[.string ⟨d.name.toArray⟩, .string ⟨d.a.toArray⟩, .string ⟨d.b.toArray⟩, .int .i64 d.len, .int .i64 d.times.frm, .int .i64 d.times.every, .int .i64 d.times.len] 35)).alloc (.cells #[.string ⟨r.name.toArray⟩, .slice sa r.stops.length sc, .slice ra r.rides.length rc, .slice ya r.stays.length yc] 38)).alloc (.cells #[.string ⟨t.name.toArray⟩, .string ⟨t.route.toArray⟩, .int .i64 t.frm, .int .i64 t.every, .int .i64 t.til] 40)).alloc (.cells #[.string ⟨h.name.toArray⟩, .string ⟨h.at_.toArray⟩, .int .i64 h.times.frm, .int .i64 h.times.every, .int .i64 h.times.len] 42)) := ⟨_, rfl⟩
  have HW0 : Hid (Below w.heap.size w W) := Lib.hid (by rw [hW]; repeat (first | exact Below.refl _ _ | refine Below.alloc ?_ (by simp; try omega) _))
  have K0 : Hid (Blk W (w.heap.size) 29 [.int .i64 x.horizon, .slice p.a1 x.stops.length p.c1, .slice p.a2 x.paths.length p.c2, .slice p.a3 x.doors.length p.c3, .slice p.a4 x.routes.length p.c4, .slice p.a5 x.trips.length p.c5, .slice p.a6 x.hazards.length p.c6]) := Lib.hid (by rw [hW]; exact blk_0 _ _ _ _ _ _ _ _ _ _ _ _ _)
  have K1 : Hid (Blk W (w.heap.size + 1) 31 [.string ⟨q.name.toArray⟩, .string ⟨q.a.toArray⟩, .string ⟨q.b.toArray⟩, .int .i64 q.len]) := Lib.hid (by rw [hW]; exact blk_1 _ _ _ _ _ _ _ _ _ _ _ _ _)
  have K2 : Hid (Blk W (w.heap.size + 2) 35 [.string ⟨d.name.toArray⟩, .string ⟨d.a.toArray⟩, .string ⟨d.b.toArray⟩, .int .i64 d.len, .int .i64 d.times.frm, .int .i64 d.times.every, .int .i64 d.times.len]) := Lib.hid (by rw [hW]; exact blk_2 _ _ _ _ _ _ _ _ _ _ _ _ _)
  have K3 : Hid (Blk W (w.heap.size + 3) 38 [.string ⟨r.name.toArray⟩, .slice sa r.stops.length sc, .slice ra r.rides.length rc, .slice ya r.stays.length yc]) := Lib.hid (by rw [hW]; exact blk_3 _ _ _ _ _ _ _ _ _ _ _ _ _)
  have K4 : Hid (Blk W (w.heap.size + 4) 40 [.string ⟨t.name.toArray⟩, .string ⟨t.route.toArray⟩, .int .i64 t.frm, .int .i64 t.every, .int .i64 t.til]) := Lib.hid (by rw [hW]; exact blk_4 _ _ _ _ _ _ _ _ _ _ _ _ _)
  have K5 : Hid (Blk W (w.heap.size + 5) 42 [.string ⟨h.name.toArray⟩, .string ⟨h.at_.toArray⟩, .int .i64 h.times.frm, .int .i64 h.times.every, .int .i64 h.times.len]) := Lib.hid (by rw [hW]; exact blk_5 _ _ _ _ _ _ _ _ _ _ _ _ _)
  rw [← hW]
  clear hW
  have KC : Hid (∀ w', Below W.heap.size W w' → w'.cell? ⟨w.heap.size, 0, none⟩ = some (.int .i64 x.horizon) ∧ w'.cell? ⟨w.heap.size, 1, none⟩ = some (.slice p.a1 x.stops.length p.c1) ∧ w'.cell? ⟨w.heap.size, 2, none⟩ = some (.slice p.a2 x.paths.length p.c2) ∧ w'.cell? ⟨w.heap.size, 3, none⟩ = some (.slice p.a3 x.doors.length p.c3) ∧ w'.cell? ⟨w.heap.size, 4, none⟩ = some (.slice p.a4 x.routes.length p.c4) ∧ w'.cell? ⟨w.heap.size, 5, none⟩ = some (.slice p.a5 x.trips.length p.c5) ∧ w'.cell? ⟨w.heap.size, 6, none⟩ = some (.slice p.a6 x.hazards.length p.c6) ∧ w'.cell? ⟨w.heap.size + 3, 0, none⟩ = some (.string ⟨r.name.toArray⟩) ∧ w'.cell? ⟨w.heap.size + 3, 1, none⟩ = some (.slice sa r.stops.length sc) ∧ w'.cell? ⟨w.heap.size + 3, 2, none⟩ = some (.slice ra r.rides.length rc) ∧ w'.cell? ⟨w.heap.size + 3, 3, none⟩ = some (.slice ya r.stays.length yc)) := Lib.hid (fun w' hb => by have a0 := K0.out.after hb; have a3 := K3.out.after hb; exact ⟨a0.cell 0, a0.cell 1, a0.cell 2, a0.cell 3, a0.cell 4, a0.cell 5, a0.cell 6, a3.cell 0, a3.cell 1, a3.cell 2, a3.cell 3⟩)
  obtain ⟨z0, z1, z2, z3, z4, z5, z6, z7, z8, z9, z10⟩ := KC.out _ (Below.refl _ _)
  go_upto_region 9 with (first
    | (go_at_call 13; (with_reducible refine (CLM.out _ (keep_trans HW0.out Q7.out)).mono ?_); rintro e' w8 ⟨B, m, mc, hm, rfl, hrm, hb⟩; have Q8 : Hid (Below W.heap.size W w8) := Lib.hid (keep_trans Q7.out hb); obtain rfl : m = n := (by rw [hm, ← HN.out]); clear hm; have HRM := Lib.hid hrm; have HRN8 := Lib.hid (rd_later HRN.out hb); clear hrm; clear hb; clear z0 z1 z2 z3 z4 z5 z6 z7 z8 z9 z10; obtain ⟨z0, z1, z2, z3, z4, z5, z6, z7, z8, z9, z10⟩ := KC.out _ Q8.out)
    | (go_at_call 12; (with_reducible refine (CLN.out _ (keep_trans HW0.out Q6.out)).mono ?_); rintro e' w7 ⟨A, n, nc, hn', rfl, hrn, hb⟩; have Q7 : Hid (Below W.heap.size W w7) := Lib.hid (keep_trans Q6.out hb); have HN := Lib.hid hn'; clear hn'; have HRN := Lib.hid hrn; clear hrn; clear hb; clear z0 z1 z2 z3 z4 z5 z6 z7 z8 z9 z10; obtain ⟨z0, z1, z2, z3, z4, z5, z6, z7, z8, z9, z10⟩ := KC.out _ Q7.out)
    | (go_at_call 11; (with_reducible refine (CT2.out _ (keep_trans HW0.out Q5.out)).mono ?_); rintro e' w6 ⟨rfl, hb⟩; have Q6 : Hid (Below W.heap.size W w6) := Lib.hid (keep_trans Q5.out hb); clear hb; clear z0 z1 z2 z3 z4 z5 z6 z7 z8 z9 z10; obtain ⟨z0, z1, z2, z3, z4, z5, z6, z7, z8, z9, z10⟩ := KC.out _ Q6.out)
    | (go_at_call 9; (with_reducible refine (CT1.out _ _ (keep_trans HW0.out Q4.out) HOY.out).mono ?_); rintro e' w5 ⟨rfl, hb⟩; have Q5 : Hid (Below W.heap.size W w5) := Lib.hid (keep_trans Q4.out hb); clear hb; clear z0 z1 z2 z3 z4 z5 z6 z7 z8 z9 z10; obtain ⟨z0, z1, z2, z3, z4, z5, z6, z7, z8, z9, z10⟩ := KC.out _ Q5.out)
    | (go_at_call 10; (with_reducible refine (CO.out _ (keep_trans HW0.out Q3.out)).mono ?_); rintro e' w4 ⟨A1, A2, A3, A4, A5, A6, c1, c2, c3, c4, c5, c6, rfl, ⟨s0, hos⟩, hb⟩; have Q4 : Hid (Below W.heap.size W w4) := Lib.hid (keep_trans Q3.out hb); have HOY := Lib.hid (ows_sh hos); clear hos; clear hb; clear z0 z1 z2 z3 z4 z5 z6 z7 z8 z9 z10; obtain ⟨z0, z1, z2, z3, z4, z5, z6, z7, z8, z9, z10⟩ := KC.out _ Q4.out)
    | (go_at_call 8; (with_reducible refine (CLR.out _).mono ?_); rintro e' w3 ⟨rfl, hb⟩; have Q3 : Hid (Below W.heap.size W w3) := Lib.hid (keep_trans Q2.out hb); clear hb; clear z0 z1 z2 z3 z4 z5 z6 z7 z8 z9 z10; obtain ⟨z0, z1, z2, z3, z4, z5, z6, z7, z8, z9, z10⟩ := KC.out _ Q3.out)
    | (go_at_call 7; (with_reducible refine (CLS.out _ (keep_trans HW0.out Q1.out)).mono ?_); rintro e' w2 ⟨rfl, hb⟩; have Q2 : Hid (Below W.heap.size W w2) := Lib.hid (keep_trans Q1.out hb); clear hb; clear z0 z1 z2 z3 z4 z5 z6 z7 z8 z9 z10; obtain ⟨z0, z1, z2, z3, z4, z5, z6, z7, z8, z9, z10⟩ := KC.out _ Q2.out)
    | (go_at_call 6; (with_reducible refine (CL.out _ HW0.out).mono ?_); rintro e' w1 ⟨rfl, hb⟩; have Q1 : Hid (Below W.heap.size W w1) := Lib.hid hb; clear hb; clear z0 z1 z2 z3 z4 z5 z6 z7 z8 z9 z10; obtain ⟨z0, z1, z2, z3, z4, z5, z6, z7, z8, z9, z10⟩ := KC.out _ Q1.out)
    | fail)
  clear z0 z1 z2 z3 z4 z5 z6 z7 z8 z9 z10
  have KD : Hid (∀ w', Below w8.heap.size w8 w' → w'.cell? ⟨w.heap.size + 1, 0, none⟩ = some (.string ⟨q.name.toArray⟩) ∧ w'.cell? ⟨w.heap.size + 1, 1, none⟩ = some (.string ⟨q.a.toArray⟩) ∧ w'.cell? ⟨w.heap.size + 1, 2, none⟩ = some (.string ⟨q.b.toArray⟩) ∧ w'.cell? ⟨w.heap.size + 1, 3, none⟩ = some (.int .i64 q.len) ∧ w'.cell? ⟨w.heap.size + 2, 0, none⟩ = some (.string ⟨d.name.toArray⟩) ∧ w'.cell? ⟨w.heap.size + 2, 1, none⟩ = some (.string ⟨d.a.toArray⟩) ∧ w'.cell? ⟨w.heap.size + 2, 2, none⟩ = some (.string ⟨d.b.toArray⟩) ∧ w'.cell? ⟨w.heap.size + 2, 3, none⟩ = some (.int .i64 d.len) ∧ w'.cell? ⟨w.heap.size + 2, 4, none⟩ = some (.int .i64 d.times.frm) ∧ w'.cell? ⟨w.heap.size + 2, 5, none⟩ = some (.int .i64 d.times.every) ∧ w'.cell? ⟨w.heap.size + 2, 6, none⟩ = some (.int .i64 d.times.len) ∧ w'.cell? ⟨w.heap.size + 3, 0, none⟩ = some (.string ⟨r.name.toArray⟩) ∧ w'.cell? ⟨w.heap.size + 3, 1, none⟩ = some (.slice sa r.stops.length sc) ∧ w'.cell? ⟨w.heap.size + 3, 2, none⟩ = some (.slice ra r.rides.length rc) ∧ w'.cell? ⟨w.heap.size + 3, 3, none⟩ = some (.slice ya r.stays.length yc) ∧ w'.cell? ⟨w.heap.size + 4, 0, none⟩ = some (.string ⟨t.name.toArray⟩) ∧ w'.cell? ⟨w.heap.size + 4, 1, none⟩ = some (.string ⟨t.route.toArray⟩) ∧ w'.cell? ⟨w.heap.size + 4, 2, none⟩ = some (.int .i64 t.frm) ∧ w'.cell? ⟨w.heap.size + 4, 3, none⟩ = some (.int .i64 t.every) ∧ w'.cell? ⟨w.heap.size + 4, 4, none⟩ = some (.int .i64 t.til) ∧ w'.cell? ⟨w.heap.size + 5, 0, none⟩ = some (.string ⟨h.name.toArray⟩) ∧ w'.cell? ⟨w.heap.size + 5, 1, none⟩ = some (.string ⟨h.at_.toArray⟩) ∧ w'.cell? ⟨w.heap.size + 5, 2, none⟩ = some (.int .i64 h.times.frm) ∧ w'.cell? ⟨w.heap.size + 5, 3, none⟩ = some (.int .i64 h.times.every) ∧ w'.cell? ⟨w.heap.size + 5, 4, none⟩ = some (.int .i64 h.times.len)) := Lib.hid (fun w' hb => by have a1 := K1.out.after (keep_trans Q8.out hb); have a2 := K2.out.after (keep_trans Q8.out hb); have a3 := K3.out.after (keep_trans Q8.out hb); have a4 := K4.out.after (keep_trans Q8.out hb); have a5 := K5.out.after (keep_trans Q8.out hb); exact ⟨a1.cell 0, a1.cell 1, a1.cell 2, a1.cell 3, a2.cell 0, a2.cell 1, a2.cell 2, a2.cell 3, a2.cell 4, a2.cell 5, a2.cell 6, a3.cell 0, a3.cell 1, a3.cell 2, a3.cell 3, a4.cell 0, a4.cell 1, a4.cell 2, a4.cell 3, a4.cell 4, a5.cell 0, a5.cell 1, a5.cell 2, a5.cell 3, a5.cell 4⟩)
  have HG8 : Hid (Below w.heap.size w w8) := Lib.hid (keep_trans HW0.out Q8.out)
  have CSM : Hid (∀ w', Below w8.heap.size w8 w' → Calls Tryz.prog 14 #[.slice A m nc, .slice B m mc] w' (BPost w' true)) := Lib.hid (fun w' hb => same_str w' A B m nc mc (linesM x) HN (by have := HN.out; have := HLN.out; omega) (rd_later HRN8.out hb) (rd_later HRM.out hb))
  clear CL CLS CLR CO CT1 CT2 CLN CLM KC K0 K1 K2 K3 K4 K5 HOY HRN HLN
  generalize checkM x = CX at *
  have hcx : (CX == CX) = true := by simp
  go_region_held3 (fun w' => w'.cell? ⟨w.heap.size + 1, 0, none⟩ = some (.string ⟨q.name.toArray⟩) ∧ w'.cell? ⟨w.heap.size + 1, 1, none⟩ = some (.string ⟨q.a.toArray⟩) ∧ w'.cell? ⟨w.heap.size + 1, 2, none⟩ = some (.string ⟨q.b.toArray⟩) ∧ w'.cell? ⟨w.heap.size + 1, 3, none⟩ = some (.int .i64 q.len) ∧ w'.cell? ⟨w.heap.size + 2, 0, none⟩ = some (.string ⟨d.name.toArray⟩) ∧ w'.cell? ⟨w.heap.size + 2, 1, none⟩ = some (.string ⟨d.a.toArray⟩) ∧ w'.cell? ⟨w.heap.size + 2, 2, none⟩ = some (.string ⟨d.b.toArray⟩) ∧ w'.cell? ⟨w.heap.size + 2, 3, none⟩ = some (.int .i64 d.len) ∧ w'.cell? ⟨w.heap.size + 2, 4, none⟩ = some (.int .i64 d.times.frm) ∧ w'.cell? ⟨w.heap.size + 2, 5, none⟩ = some (.int .i64 d.times.every) ∧ w'.cell? ⟨w.heap.size + 2, 6, none⟩ = some (.int .i64 d.times.len) ∧ w'.cell? ⟨w.heap.size + 3, 0, none⟩ = some (.string ⟨r.name.toArray⟩) ∧ w'.cell? ⟨w.heap.size + 3, 1, none⟩ = some (.slice sa r.stops.length sc) ∧ w'.cell? ⟨w.heap.size + 3, 2, none⟩ = some (.slice ra r.rides.length rc) ∧ w'.cell? ⟨w.heap.size + 3, 3, none⟩ = some (.slice ya r.stays.length yc) ∧ w'.cell? ⟨w.heap.size + 4, 0, none⟩ = some (.string ⟨t.name.toArray⟩) ∧ w'.cell? ⟨w.heap.size + 4, 1, none⟩ = some (.string ⟨t.route.toArray⟩) ∧ w'.cell? ⟨w.heap.size + 4, 2, none⟩ = some (.int .i64 t.frm) ∧ w'.cell? ⟨w.heap.size + 4, 3, none⟩ = some (.int .i64 t.every) ∧ w'.cell? ⟨w.heap.size + 4, 4, none⟩ = some (.int .i64 t.til) ∧ w'.cell? ⟨w.heap.size + 5, 0, none⟩ = some (.string ⟨h.name.toArray⟩) ∧ w'.cell? ⟨w.heap.size + 5, 1, none⟩ = some (.string ⟨h.at_.toArray⟩) ∧ w'.cell? ⟨w.heap.size + 5, 2, none⟩ = some (.int .i64 h.times.frm) ∧ w'.cell? ⟨w.heap.size + 5, 3, none⟩ = some (.int .i64 h.times.every) ∧ w'.cell? ⟨w.heap.size + 5, 4, none⟩ = some (.int .i64 h.times.len)) (first | exact KD.out _ R11.out | exact KD.out _ R10.out | exact KD.out _ R9.out | exact KD.out _ R8.out | exact KD.out _ R7.out | exact KD.out _ R6.out | exact KD.out _ R5.out | exact KD.out _ R4.out | exact KD.out _ R3.out | exact KD.out _ R2.out | exact KD.out _ R1.out | exact KD.out _ (below_drew (Below.refl _ _)) | exact KD.out _ (Below.refl _ _) | go_keep) (first
    | (go_at_call 24; (with_reducible refine (CHB.out _).mono ?_); rintro e' v11 ⟨rfl, hb⟩; have R11 : Hid (Below w8.heap.size w8 v11) := Lib.hid (keep_trans R10.out hb); clear hb)
    | (go_at_call 23; (with_reducible refine (CHA.out _ (keep_trans HG8.out R9.out)).mono ?_); rintro e' v10 ⟨rfl, hb⟩; have R10 : Hid (Below w8.heap.size w8 v10) := Lib.hid (keep_trans R9.out hb); clear hb)
    | (go_at_call 22; (with_reducible refine (CTB.out _).mono ?_); rintro e' v9 ⟨rfl, hb⟩; have R9 : Hid (Below w8.heap.size w8 v9) := Lib.hid (keep_trans R8.out hb); clear hb)
    | (go_at_call 21; (with_reducible refine (CTA.out _ (keep_trans HG8.out R7.out)).mono ?_); rintro e' v8 ⟨rfl, hb⟩; have R8 : Hid (Below w8.heap.size w8 v8) := Lib.hid (keep_trans R7.out hb); clear hb)
    | (go_at_call 20; (with_reducible refine (CRB.out _ (keep_trans HG8.out R6.out)).mono ?_); rintro e' v7 ⟨rfl, hb⟩; have R7 : Hid (Below w8.heap.size w8 v7) := Lib.hid (keep_trans R6.out hb); clear hb)
    | (go_at_call 19; (with_reducible refine (CRA.out _ (keep_trans HG8.out R5.out)).mono ?_); rintro e' v6 ⟨rfl, hb⟩; have R6 : Hid (Below w8.heap.size w8 v6) := Lib.hid (keep_trans R5.out hb); clear hb)
    | (go_at_call 18; (with_reducible refine (CDB.out _).mono ?_); rintro e' v5 ⟨rfl, hb⟩; have R5 : Hid (Below w8.heap.size w8 v5) := Lib.hid (keep_trans R4.out hb); clear hb)
    | (go_at_call 17; (with_reducible refine (CDA.out _ (keep_trans HG8.out R3.out)).mono ?_); rintro e' v4 ⟨rfl, hb⟩; have R4 : Hid (Below w8.heap.size w8 v4) := Lib.hid (keep_trans R3.out hb); clear hb)
    | (go_at_call 16; (with_reducible refine (CPB.out _).mono ?_); rintro e' v3 ⟨rfl, hb⟩; have R3 : Hid (Below w8.heap.size w8 v3) := Lib.hid (keep_trans R2.out hb); clear hb)
    | (go_at_call 15; (with_reducible refine (CPA.out _ (keep_trans HG8.out R1.out)).mono ?_); rintro e' v2 ⟨rfl, hb⟩; have R2 : Hid (Below w8.heap.size w8 v2) := Lib.hid (keep_trans R1.out hb); clear hb)
    | (go_at_call 14; (with_reducible refine (CSM.out _ (below_drew (Below.refl _ _))).mono ?_); rintro e' v1 ⟨rfl, hb⟩; have R1 : Hid (Below w8.heap.size w8 v1) := Lib.hid (keep_trans (below_drew (Below.refl _ w8)) hb); clear hb)
    | fail)
  go_wp2
  go_ret
  exact ⟨rfl, keep_trans HG8.out (keep_trans R11.out (by repeat (first | exact Below.refl _ _ | refine below_drewN ?_ _ | refine below_drew ?_)))⟩

theorem calls_all (x : SheetM) (p : ShA) (q : PathM) (d : DoorM) (r : RouteM) (sa ra ya : Option Addr) (sc rc yc : Nat) (t : TripM) (h : HazM) (w : World) (hE : Tk.Env w) (hx : Sh w (· < w.heap.size) x p) (hS : ShS x) (hp : PaS q) (hd : DoS d) (hrt : RtAt w (· < w.heap.size) r sa ra ya) (hr : RtS r) (ht' : TrS t) (hh : HaS h) :
    Calls Tryz.prog 3 #[shV x p, paV q, doV d, rtV r sa ra ya sc rc yc, trV t, haV h] w (TrueP w) := by
  cases hl : lightM x && lightR r with
  | false => exact calls_dark x p q d r sa ra ya sc rc yc t h w hE hx hl
  | true =>
    simp only [Bool.and_eq_true] at hl
    exact calls_light x p q d r sa ra ya sc rc yc t h w hE hx hS hp hd hrt hr ht' hh hl.1 hl.2
end Go.Proofs.YtcmlmfcnbmpajaaGreatDoor.Sw
