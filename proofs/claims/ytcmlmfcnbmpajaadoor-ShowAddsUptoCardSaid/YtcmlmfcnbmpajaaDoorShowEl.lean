/- Of a thing of a sheet that may be, what show tells: the contracts of show's lines at such things. -/
import Derived.Test.YtcmlmfcnbmpajaaDoorShowMath
namespace Go.Proofs.YtcmlmfcnbmpajaaDoor.Sw
open Go.ChangeShapes Go.WideShapes Go.ChangeAt Go.RowKit
open Lx Sh
set_option linter.unusedVariables false
set_option linter.unusedSimpArgs false

theorem el_path {x : SheetM} (hx : May x) {a : PathM} (ha : a ∈ x.paths) (w' : World) (hE : Tk.Env w') : Calls Tryd.prog 11 #[.agg #[.string ⟨a.name.toArray⟩, .string ⟨a.a.toArray⟩, .string ⟨a.b.toArray⟩, .int .i64 a.len]] w' (TextPost w' (pathX a)) := path_any a w' (hE) (i64_tick (by have := List.all_eq_true.1 hx.b2 a ha; simpa [path_tick] using this)) (by rw [path_line (List.all_eq_true.1 hx.b2 a ha)]; have := line_short (i := .path a) ⟨List.all_eq_true.1 hx.a2 a ha, List.all_eq_true.1 hx.b2 a ha⟩; omega)
theorem el_door {x : SheetM} (hx : May x) {a : DoorM} (ha : a ∈ x.doors) (w' : World) (hE : Tk.Env w') : Calls Tryd.prog 17 #[.agg #[.string ⟨a.name.toArray⟩, .string ⟨a.a.toArray⟩, .string ⟨a.b.toArray⟩, .int .i64 a.len, .int .i64 a.times.frm, .int .i64 a.times.every, .int .i64 a.times.len]] w' (TextPost w' (doorX a)) := by
    have hk := List.all_eq_true.1 hx.b3 a ha
    have hk2 := hk
    simp only [door_tick, timesB, List.all_cons, List.all_nil, Bool.and_true, Bool.and_eq_true] at hk2
    exact door_any a w' (hE) (i64_tick hk2.1) ⟨i64_tick hk2.2.1, i64_tick hk2.2.2.1, i64_tick hk2.2.2.2⟩ (by rw [door_line hk]; have := line_short (i := .door a) ⟨List.all_eq_true.1 hx.a3 a ha, hk⟩; omega)
theorem el_trip {x : SheetM} (hx : May x) {a : TripM} (ha : a ∈ x.trips) (w' : World) (hE : Tk.Env w') : Calls Tryd.prog 12 #[.agg #[.string ⟨a.name.toArray⟩, .string ⟨a.route.toArray⟩, .int .i64 a.frm, .int .i64 a.every, .int .i64 a.til]] w' (TextPost w' (tripX a)) := by
    have hk := List.all_eq_true.1 hx.b5 a ha
    have hk2 := hk
    simp only [trip_tick, List.all_cons, List.all_nil, Bool.and_true, Bool.and_eq_true] at hk2
    exact trip_any a w' (hE) ⟨i64_tick hk2.1, i64_tick hk2.2.1, i64_tick hk2.2.2⟩ (by rw [trip_line hk]; have := line_short (i := .trip a) ⟨List.all_eq_true.1 hx.a5 a ha, hk⟩; omega)
theorem el_haz {x : SheetM} (hx : May x) {a : HazM} (ha : a ∈ x.hazards) (w' : World) (hE : Tk.Env w') : Calls Tryd.prog 13 #[.agg #[.string ⟨a.name.toArray⟩, .string ⟨a.at_.toArray⟩, .int .i64 a.times.frm, .int .i64 a.times.every, .int .i64 a.times.len]] w' (TextPost w' (hazX a)) := by
    have hk := List.all_eq_true.1 hx.b6 a ha
    have hk2 := hk
    simp only [haz_tick, timesB, List.all_cons, List.all_nil, Bool.and_true, Bool.and_eq_true] at hk2
    exact haz_any a w' (hE) ⟨i64_tick hk2.1, i64_tick hk2.2.1, i64_tick hk2.2.2⟩ (by rw [haz_line hk]; have := line_short (i := .haz a) ⟨List.all_eq_true.1 hx.a6 a ha, hk⟩; omega)
theorem el_route {x : SheetM} (hx : May x) {a : RouteM} (ha : a ∈ x.routes) (w' : World) (hE : Tk.Env w') {sa ra ya : Option Addr} {sc rc yc : Nat} (hr : RtAt w' (· < w'.heap.size) a sa ra ya) : Calls Tryd.prog 14 #[rtV a sa ra ya sc rc yc] w' (TextPost w' (routeX a)) := by
    have hk := List.all_eq_true.1 hx.b4 a ha
    have hc := List.all_eq_true.1 hx.d4 a ha
    have hk2 := hk
    simp only [route_tick, Bool.and_eq_true] at hk2
    obtain ⟨c1, c2, c3, c4⟩ := count_of hc
    exact route_any a sa ra ya sc rc yc w' hr ⟨by omega, by omega, by omega⟩ (hE) (fun d hd => i64_tick (List.all_eq_true.1 hk2.1 d hd)) (fun d hd => i64_tick (List.all_eq_true.1 hk2.2 d hd)) (by rw [route_line hk hc]; have := line_short (i := .route a) ⟨List.all_eq_true.1 hx.a4 a ha, hk, hc⟩; omega)
theorem el_stop {x : SheetM} (hx : May x) {a : List UInt8} (ha : a ∈ x.stops) (w' : World) : Calls Tryd.prog 50 #[.string ⟨a.toArray⟩] w' (TextPost w' (stopX a)) := stop_any a w' (by rw [stop_line]; have := line_short (i := .stop a) (List.all_eq_true.1 hx.a1 a ha); omega)
end Go.Proofs.YtcmlmfcnbmpajaaDoor.Sw
