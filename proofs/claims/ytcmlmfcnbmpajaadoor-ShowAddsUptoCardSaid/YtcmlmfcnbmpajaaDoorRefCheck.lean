/- The document's own Check of a sheet, proved by walking its text. Conditions: at most 60 things of a kind. -/
import Derived.Test.YtcmlmfcnbmpajaaDoorRefNums
import Derived.Test.YtcmlmfcnbmpajaaDoorRefName
import Derived.Test.YtcmlmfcnbmpajaaDoorKitLight
namespace Go.Proofs.YtcmlmfcnbmpajaaDoor.Sh
open Go.ChangeShapes Go.WideShapes Go.ChangeAt Go.RowKit
open Lx
set_option linter.unusedVariables false
set_option linter.unusedSimpArgs false

theorem lt_of {x : SheetM} (h : lightM x = true) : Lt x := by
  simp only [lightM, Bool.and_eq_true, decide_eq_true_eq] at h
  obtain ⟨⟨⟨⟨⟨⟨h1, h2⟩, h3⟩, h4⟩, h5⟩, h6⟩, h7⟩ := h
  refine ⟨h1, h2, h3, h4, h5, h6, fun r hr => ?_⟩
  have := List.all_eq_true.1 h7 r hr
  simp only [lightR, Bool.and_eq_true, decide_eq_true_eq] at this
  exact this
theorem Lt.few {x : SheetM} (h : Lt x) : ShFew x := ⟨by have := h.l1; omega, by have := h.l2; omega, by have := h.l3; omega, by have := h.l4; omega, by have := h.l5; omega, by have := h.l6; omega, fun r hr => by obtain ⟨h1, h2, h3⟩ := h.lr r hr; exact ⟨by omega, by omega, by omega⟩⟩
theorem named_eq (x : SheetM) : namedM x = (namesL x).all nameB := by
  have e2 : (fun p : PathM => [p.name, p.a, p.b].all nameB) = path_name := rfl
  have e3 : (fun p : DoorM => [p.name, p.a, p.b].all nameB) = door_name := rfl
  have e4 : (fun r : RouteM => (r.name :: r.stops).all nameB) = route_name := rfl
  have e5 : (fun p : TripM => [p.name, p.route].all nameB) = trip_name := rfl
  have e6 : (fun p : HazM => [p.name, p.at_].all nameB) = haz_name := rfl
  unfold namedM namesL
  simp only [List.all_append, List.all_flatMap]
  rw [e2, e3, e4, e5, e6]
  simp only [Bool.and_assoc]
theorem ranged_eq (x : SheetM) : rangedM x = (numsL x).all tickB := by
  have e2 : (fun p : PathM => [p.len].all tickB) = path_tick := rfl
  have e3 : (fun p : DoorM => [p.len, p.times.frm, p.times.every, p.times.len].all tickB) = door_tick := rfl
  have e4 : (fun r : RouteM => r.rides.all tickB && r.stays.all tickB) = route_tick := rfl
  have e5 : (fun p : TripM => [p.frm, p.every, p.til].all tickB) = trip_tick := rfl
  have e6 : (fun p : HazM => [p.times.frm, p.times.every, p.times.len].all tickB) = haz_tick := rfl
  unfold rangedM numsL
  simp only [List.all_append, List.all_flatMap]
  rw [e2, e3, e4, e5, e6]
  simp only [Bool.and_assoc]
theorem check_light {x : SheetM} (h : Lt x) : checkM x = if (namesL x).all nameB then if (numsL x).all tickB then if x.routes.all route_count then 0 else 2 else 9 else 7 := by
  have h1 : crowdedM x = false := by
    have := h.l1; have := h.l2; have := h.l3; have := h.l4; have := h.l5; have := h.l6
    simp [crowdedM]; omega
  rw [checkM, h1, named_eq, ranged_eq]
  rfl
end Go.Proofs.YtcmlmfcnbmpajaaDoor.Sh

