/- Plain facts: of a thing that may be, the line that show tells is its line as it is read; a sheet's lines, group by group. -/
import Derived.Test.YtcmlmfcnbmpajaaGreatDoorShowRoute
import Derived.Test.YtcmlmfcnbmpajaaGreatDoorSheetFacts
namespace Go.Proofs.YtcmlmfcnbmpajaaGreatDoor.Sw
open Go.ChangeShapes Go.WideShapes Go.ChangeAt Go.RowKit
open Lx Sh
set_option linter.unusedVariables false
set_option linter.unusedSimpArgs false

theorem itoa_tick {n : Int} (h : tickB n = true) : Lib.itoa n = Lib.decDigits n.toNat := by
  simp only [tickB, Bool.and_eq_true, decide_eq_true_eq] at h
  obtain ⟨k, rfl⟩ := Int.eq_ofNat_of_zero_le h.1
  rw [Lib.itoa_nonneg]; rfl
theorem i64_tick {n : Int} (h : tickB n = true) : I64 n := by
  simp only [tickB, Bool.and_eq_true, decide_eq_true_eq] at h
  exact ⟨by omega, by omega⟩
def horX (n : Int) : List UInt8 := joinW [] [kHorizon, Lib.itoa n]
def lineX : Sh.Item → List UInt8
  | .stop n => stopX n
  | .path p => pathX p
  | .door d => doorX d
  | .route r => routeX r
  | .trip t => tripX t
  | .haz h => hazX h
theorem hor_line {n : Int} (h : tickB n = true) : horX n = lineB (horT n) := by
  rw [horX, joinW_first _ (by decide), itoa_tick h]
  simp [horT, lineB, sp, kT, nT]
theorem stop_line (s : List UInt8) : stopX s = lineOf (.stop s) := by
  rw [stopX, joinW_first _ (by decide)]
  simp [lineOf, Item.toks, Item.key, Item.rest, lineB, sp, kT, wT]
theorem path_line {p : PathM} (h : path_tick p = true) : pathX p = lineOf (.path p) := by
  have h1 : tickB p.len = true := by simpa [path_tick] using h
  rw [pathX, joinW_first _ (by decide), itoa_tick h1]
  simp [lineOf, Item.toks, Item.key, Item.rest, lineB, sp, kT, wT, nT]
theorem times_words {t : TimesM} (h : timesB t = true) (k : List UInt8) : timesW t k = (whenT k t).map (·.text) := by
  simp only [timesB, List.all_cons, List.all_nil, Bool.and_true, Bool.and_eq_true] at h
  rw [timesW, itoa_tick h.1, itoa_tick h.2.1, itoa_tick h.2.2]
  simp [whenT, kT, nT]
theorem sp_words (ts : List Tok) : sp ts = (ts.map (·.text)).flatMap (fun s => 32 :: s) := by simp [sp, List.flatMap_map]
theorem door_line {p : DoorM} (h : door_tick p = true) : doorX p = lineOf (.door p) := by
  have h1 : tickB p.len = true ∧ timesB p.times = true := by
    simp only [door_tick, timesB, List.all_cons, List.all_nil, Bool.and_true, Bool.and_eq_true] at h ⊢
    exact h
  rw [doorX, doorW, joinW_some (joinW_ne (by decide) _), joinW_first _ (by decide), itoa_tick h1.1, times_words h1.2]
  simp [lineOf, Item.toks, Item.key, Item.rest, lineB, sp_words, kT, wT, nT]
theorem haz_line {p : HazM} (h : haz_tick p = true) : hazX p = lineOf (.haz p) := by
  have h1 : timesB p.times = true := by simpa [haz_tick] using h
  rw [hazX, hazW, joinW_some (joinW_ne (by decide) _), joinW_first _ (by decide), times_words h1]
  simp [lineOf, Item.toks, Item.key, Item.rest, lineB, sp_words, kT, wT, nT]
theorem trip_line {p : TripM} (h : trip_tick p = true) : tripX p = lineOf (.trip p) := by
  simp only [trip_tick, List.all_cons, List.all_nil, Bool.and_true, Bool.and_eq_true] at h
  rw [tripX, joinW_first _ (by decide), itoa_tick h.1, itoa_tick h.2.1, itoa_tick h.2.2]
  simp [lineOf, Item.toks, Item.key, Item.rest, lineB, sp_words, kT, wT, nT]
theorem leg_words {r : RouteM} (ht : route_tick r = true) (hc : r.rides.length + 1 = r.stops.length ∧ r.stays.length + 2 = r.stops.length) {j : Nat} (hj : j + 1 < r.stops.length) : legW r (j + 1) = (pieceT r j).map (·.text) := by
  simp only [route_tick, Bool.and_eq_true] at ht
  obtain ⟨d, hd⟩ : ∃ d, r.rides[j]? = some d := ⟨_, List.getElem?_eq_getElem (by omega)⟩
  have hdt : tickB d = true := List.all_eq_true.1 ht.1 _ (List.mem_of_getElem? hd)
  have e1 : rideW r (j + 1) = [Lib.decDigits d.toNat] := by simp only [rideW, hd]; rw [itoa_tick hdt]
  have e2 : stayW r (j + 1) = if j + 2 < r.stops.length ∧ 0 < r.stays.getD j 0 then [kStay, Lib.decDigits (r.stays.getD j 0).toNat] else [] := by
    by_cases h2 : j + 2 < r.stops.length
    · obtain ⟨y, hy⟩ : ∃ y, r.stays[j]? = some y := ⟨_, List.getElem?_eq_getElem (by omega)⟩
      have hyt : tickB y = true := List.all_eq_true.1 ht.2 _ (List.mem_of_getElem? hy)
      have eg : r.stays.getD j 0 = y := getD_of hy
      simp only [stayW, hy]
      rw [eg]
      by_cases h3 : 0 < y
      · rw [if_pos h3, if_pos ⟨h2, h3⟩, itoa_tick hyt]
      · rw [if_neg h3, if_neg (fun h => h3 h.2)]
    · have hy : r.stays[j]? = none := List.getElem?_eq_none (by omega)
      simp only [stayW, hy]
      rw [if_neg (fun h => h2 h.1)]
  have eg : r.rides.getD j 0 = d := getD_of hd
  unfold legW
  rw [e1, e2]
  unfold pieceT
  rw [eg]
  by_cases h : j + 2 < r.stops.length ∧ 0 < r.stays.getD j 0
  · rw [if_pos h, if_pos h]; simp [nT, wT, kT]
  · rw [if_neg h, if_neg h]; simp [nT, wT]
theorem legs_words {r : RouteM} (ht : route_tick r = true) (hc : r.rides.length + 1 = r.stops.length ∧ r.stays.length + 2 = r.stops.length) : ∀ k, k + 1 ≤ r.stops.length →
    (List.range (k + 1)).flatMap (legW r) = r.stops.getD 0 [] :: ((List.range' 0 k).flatMap (pieceT r)).map (·.text) := by
  intro k
  induction k with
  | zero => intro _; simp [legW, rideW, stayW]
  | succ k ih =>
    intro hk
    rw [List.range_succ, List.flatMap_append, ih (by omega), List.range'_concat, List.flatMap_append, List.map_append]
    simp [leg_words ht hc (j := k) (by omega)]
theorem route_line {r : RouteM} (ht : route_tick r = true) (hc : route_count r = true) : routeX r = lineOf (.route r) := by
  obtain ⟨c2, c32, cr, cy⟩ := count_of hc
  have e : r.stops.length = (r.stops.length - 1) + 1 := by omega
  rw [routeX, preW]
  show joinW [] (kRoute :: (r.name :: (List.range r.stops.length).flatMap (legW r))) = _
  rw [joinW_first _ (by decide), e, legs_words ht ⟨cr, cy⟩ _ (by omega)]
  simp [lineOf, Item.toks, Item.key, Item.rest, lineB, sp_words, kT, wT]
theorem line_item {i : Sh.Item} (h : i.Ok) : lineX i = lineOf i := by
  cases i with
  | stop n => exact stop_line n
  | path p => exact path_line h.2
  | door d => exact door_line h.2
  | route r => exact route_line h.2.1 h.2.2
  | trip t => exact trip_line h.2
  | haz p => exact haz_line h.2

/-- the lines of a kind -/
def gX (x : SheetM) : Nat → List (List UInt8)
  | 0 => [horX x.horizon]
  | 1 => x.stops.map stopX
  | 2 => x.paths.map pathX
  | 3 => x.doors.map doorX
  | 4 => x.routes.map routeX
  | 5 => x.trips.map tripX
  | _ => x.hazards.map hazX
def preX (x : SheetM) (k : Nat) : List (List UInt8) := (List.range k).flatMap (gX x)
theorem preX_succ (x : SheetM) (k : Nat) : preX x (k + 1) = preX x k ++ gX x k := by
  unfold preX; rw [List.range_succ, List.flatMap_append]; simp
theorem preX_len {x : SheetM} (h : May x) (k : Nat) (hk : k ≤ 7) : (preX x k).length ≤ 4000 := by
  have e : (preX x 7).length ≤ 4000 := by
    simp [preX, List.range, List.range.loop, gX]
    have := h.n1; have := h.n2; have := h.n3; have := h.n4; have := h.n5; have := h.n6
    omega
  have : ∀ i, (preX x (7 - i)).length ≤ 4000 := by
    intro i
    induction i with
    | zero => exact e
    | succ i ih =>
      by_cases hi : i < 7
      · have e2 : 7 - i = (7 - (i + 1)) + 1 := by omega
        rw [e2, preX_succ, List.length_append] at ih
        omega
      · rw [show 7 - (i + 1) = 7 - i by omega]; exact ih
  have := this (7 - k)
  rwa [show 7 - (7 - k) = k by omega] at this
theorem map_lines {α : Type} {f : α → Sh.Item} {g : α → List UInt8} {l : List α} (h : ∀ a ∈ l, g a = lineOf (f a)) : l.map g = l.map (fun a => lineOf (f a)) := List.map_congr_left h
theorem preX_lines {x : SheetM} (h : May x) : preX x 7 = linesT x := by
  rw [lines_eq]
  simp only [preX, List.range, List.range.loop, List.flatMap_cons, List.flatMap_nil, gX, List.append_nil, List.singleton_append]
  rw [hor_line h.h, map_lines (f := .stop) (fun a _ => stop_line a), map_lines (f := .path) (fun a ha => path_line (List.all_eq_true.1 h.b2 a ha)),
    map_lines (f := .door) (fun a ha => door_line (List.all_eq_true.1 h.b3 a ha)), map_lines (f := .route) (fun a ha => route_line (List.all_eq_true.1 h.b4 a ha) (List.all_eq_true.1 h.d4 a ha)),
    map_lines (f := .trip) (fun a ha => trip_line (List.all_eq_true.1 h.b5 a ha)), map_lines (f := .haz) (fun a ha => haz_line (List.all_eq_true.1 h.b6 a ha))]
/-- no line is too long -/
theorem item_len {i : Sh.Item} (h : i.Ok) : (lineX i).length ≤ 140737488355328 := by
  rw [line_item h]; have := line_short h; omega
end Go.Proofs.YtcmlmfcnbmpajaaGreatDoor.Sw
