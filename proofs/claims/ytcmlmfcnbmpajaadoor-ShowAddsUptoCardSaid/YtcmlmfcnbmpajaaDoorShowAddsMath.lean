/- Plain facts on a sheet with one of its stops, or trips, once more at the end: it may be just if the sheet may; its lines are the sheet's, with one more at its place. -/
import Derived.Test.YtcmlmfcnbmpajaaDoorSheetBulk
import Derived.Test.YtcmlmfcnbmpajaaDoorShowLines
import Derived.Test.YtcmlmfcnbmpajaaDoorRefCheck
import Derived.Test.YtcmlmfcnbmpajaaDoorKitLight
import Derived.Test.YtcmlmfcnbmpajaaDoorShowMath
namespace Go.Proofs.YtcmlmfcnbmpajaaDoor.Sw
open Go.ChangeShapes Go.WideShapes Go.ChangeAt Go.RowKit
open Lx Sh
set_option linter.unusedVariables false
set_option linter.unusedSimpArgs false

def addT (x : SheetM) (t : TripM) : SheetM := { x with trips := x.trips ++ [t] }
def addS (x : SheetM) (s : List UInt8) : SheetM := { x with stops := x.stops ++ [s] }
theorem all_dup {α : Type} {g : α → Bool} {l : List α} {a : α} (h : a ∈ l) : (l ++ [a]).all g = l.all g := by
  rw [List.all_append, Bool.eq_iff_iff]
  simp only [List.all_cons, List.all_nil, Bool.and_true, Bool.and_eq_true, List.all_eq_true]
  exact ⟨fun k => k.1, fun k => ⟨k, k a h⟩⟩
theorem few_addT {x : SheetM} (h : Lt x) (t : TripM) : ShFew (addT x t) := by
  have f := h.few
  exact ⟨f.l1, f.l2, f.l3, f.l4, by have := h.l5; simp [addT]; omega, f.l6, f.lr⟩
theorem few_addS {x : SheetM} (h : Lt x) (s : List UInt8) : ShFew (addS x s) := by
  have f := h.few
  exact ⟨by have := h.l1; simp [addS]; omega, f.l2, f.l3, f.l4, f.l5, f.l6, f.lr⟩
theorem check_addT {x : SheetM} (h : Lt x) {t : TripM} (ht : t ∈ x.trips) : checkM (addT x t) = checkM x := by
  have h1 := h.l1
  have h2 := h.l2
  have h3 := h.l3
  have h4 := h.l4
  have h5 := h.l5
  have h6 := h.l6
  have hc : crowdedM (addT x t) = crowdedM x := by
    unfold crowdedM addT
    rw [decide_eq_false (p := 1024 < (x.trips ++ [t]).length) (by simp; omega), decide_eq_false (p := 1024 < x.trips.length) (by omega)]
  have hn : namedM (addT x t) = namedM x := by
    unfold namedM addT
    simp only [all_dup ht]
  have hr : rangedM (addT x t) = rangedM x := by
    unfold rangedM addT
    simp only [all_dup ht]
  have hk : countedM (addT x t) = countedM x := rfl
  unfold checkM
  rw [hc, hn, hr, hk]
theorem check_addS {x : SheetM} (h : Lt x) {s : List UInt8} (hs : s ∈ x.stops) : checkM (addS x s) = checkM x := by
  have h1 := h.l1
  have hc : crowdedM (addS x s) = crowdedM x := by
    unfold crowdedM addS
    rw [decide_eq_false (p := 256 < (x.stops ++ [s]).length) (by simp; omega), decide_eq_false (p := 256 < x.stops.length) (by omega)]
  have hn : namedM (addS x s) = namedM x := by
    unfold namedM addS
    simp only [all_dup hs]
  have hr : rangedM (addS x s) = rangedM x := rfl
  have hk : countedM (addS x s) = countedM x := rfl
  unfold checkM
  rw [hc, hn, hr, hk]
/-- one line more, behind the first n -/
theorem mid_add {α : Type} (a b : List α) (l : α) {n : Nat} (hn : n = a.length) : a ++ (l :: b) = (a ++ b).take n ++ ([l] ++ (a ++ b).drop n) := by
  subst hn; simp
def placeT (x : SheetM) : Nat := 1 + x.stops.length + x.paths.length + x.doors.length + x.routes.length + x.trips.length
def placeS (x : SheetM) : Nat := 1 + x.stops.length
theorem adds_T (x : SheetM) (t : TripM) : linesT (addT x t) = (linesT x).take (placeT x) ++ ([lineOf (.trip t)] ++ (linesT x).drop (placeT x)) := by
  have e : linesT x = (lineB (horT x.horizon) :: (x.stops.map (fun a => lineOf (.stop a)) ++ (x.paths.map (fun a => lineOf (.path a)) ++ (x.doors.map (fun a => lineOf (.door a)) ++ (x.routes.map (fun a => lineOf (.route a)) ++ x.trips.map (fun a => lineOf (.trip a))))))) ++ x.hazards.map (fun a => lineOf (.haz a)) := by
    rw [lines_eq]; simp only [List.cons_append, List.append_assoc]
  have e2 : linesT (addT x t) = (lineB (horT x.horizon) :: (x.stops.map (fun a => lineOf (.stop a)) ++ (x.paths.map (fun a => lineOf (.path a)) ++ (x.doors.map (fun a => lineOf (.door a)) ++ (x.routes.map (fun a => lineOf (.route a)) ++ x.trips.map (fun a => lineOf (.trip a))))))) ++ (lineOf (.trip t) :: x.hazards.map (fun a => lineOf (.haz a))) := by
    rw [lines_eq]
    simp only [addT, List.map_append, List.map_cons, List.map_nil, List.cons_append, List.append_assoc, List.nil_append]
  rw [e, e2]
  exact mid_add _ _ _ (by simp [placeT]; omega)
theorem adds_S (x : SheetM) (s : List UInt8) : linesT (addS x s) = (linesT x).take (placeS x) ++ ([lineOf (.stop s)] ++ (linesT x).drop (placeS x)) := by
  have e : linesT x = (lineB (horT x.horizon) :: x.stops.map (fun a => lineOf (.stop a))) ++ (x.paths.map (fun a => lineOf (.path a)) ++ (x.doors.map (fun a => lineOf (.door a)) ++ (x.routes.map (fun a => lineOf (.route a)) ++ (x.trips.map (fun a => lineOf (.trip a)) ++ x.hazards.map (fun a => lineOf (.haz a)))))) := by
    rw [lines_eq]; simp only [List.cons_append, List.append_assoc]
  have e2 : linesT (addS x s) = (lineB (horT x.horizon) :: x.stops.map (fun a => lineOf (.stop a))) ++ (lineOf (.stop s) :: (x.paths.map (fun a => lineOf (.path a)) ++ (x.doors.map (fun a => lineOf (.door a)) ++ (x.routes.map (fun a => lineOf (.route a)) ++ (x.trips.map (fun a => lineOf (.trip a)) ++ x.hazards.map (fun a => lineOf (.haz a))))))) := by
    rw [lines_eq]
    simp only [addS, List.map_append, List.map_cons, List.map_nil, List.cons_append, List.append_assoc, List.nil_append]
  rw [e, e2]
  exact mid_add _ _ _ (by simp [placeS]; omega)
theorem lines_len (x : SheetM) : (linesT x).length = placeT x + x.hazards.length := by
  rw [lines_eq]; simp [placeT]; omega
theorem placeT_le (x : SheetM) : placeT x ≤ (linesT x).length := by rw [lines_len]; omega
theorem placeS_le (x : SheetM) : placeS x ≤ (linesT x).length := by rw [lines_len]; simp [placeT, placeS]; omega
theorem stopX_cat (s : List UInt8) : ([115, 116, 111, 112, 32] : List UInt8) ++ s = stopX s := by
  unfold stopX joinW
  simp [stepW, kStop]
end Go.Proofs.YtcmlmfcnbmpajaaDoor.Sw
