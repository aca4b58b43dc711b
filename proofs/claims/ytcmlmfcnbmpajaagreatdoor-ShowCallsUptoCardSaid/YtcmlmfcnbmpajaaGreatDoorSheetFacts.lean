/- A sheet's lines: how long they are, what is read from them, or from one alone. Conditions: the sheet may be. -/
import Derived.Test.YtcmlmfcnbmpajaaGreatDoorKitSheet
import Derived.Test.YtcmlmfcnbmpajaaGreatDoorRefCheck
import Derived.Test.YtcmlmfcnbmpajaaGreatDoorSheetLives
import Derived.StillTailTactics
namespace Go.Proofs.YtcmlmfcnbmpajaaGreatDoor.Sh
open Go.ChangeShapes Go.WideShapes Go.ChangeAt Go.RowKit
open Lx
set_option linter.unusedVariables false
set_option linter.unusedSimpArgs false

theorem below_set {B : Nat} {a w : World} {p : Addr} (h : Below B a w) (hp : B ≤ p.block) (u : Value) : Below B a (w.setCell p u) := ⟨h.os, h.tape, h.output, by simpa [World.setCell] using h.size, fun k hk => (Below.heap_setCell _ _ _ _ (by rintro rfl; omega)).trans (h.block k hk)⟩
theorem below_two2 {a W w4 : World} (h3 : Below W.heap.size W w4) (h4 : Below a.heap.size a W) : Below a.heap.size a w4 := keep_trans h4 h3
theorem lines_len (x : SheetM) : (linesT x).length = x.stops.length + x.paths.length + x.doors.length + x.routes.length + x.trips.length + x.hazards.length + 1 := by
  unfold linesT sheetL
  rw [List.length_map, List.length_cons, List.length_map, items_len]
theorem line_short {i : Item} (h : i.Ok) : (lineOf i).length ≤ 4000 := by
  cases i with
  | stop n =>
    have := name_len h
    simp [lineOf, lineB, Item.toks, Item.rest, Item.key, sp, kT, wT, kStop]
    omega
  | path q =>
    obtain ⟨h1, h2⟩ := h
    simp [path_name, path_tick] at h1 h2
    have := name_len h1.1; have := name_len h1.2.1; have := name_len h1.2.2; have := dec_short h2
    simp [lineOf, lineB, Item.toks, Item.rest, Item.key, sp, kT, wT, nT, kPath]
    omega
  | door q =>
    obtain ⟨h1, h2⟩ := h
    simp [door_name, door_tick] at h1 h2
    have := name_len h1.1; have := name_len h1.2.1; have := name_len h1.2.2; have := dec_short h2.1
    have := when_len (k := kOpen) h2.2 (by decide)
    simp only [lineOf, lineB, Item.toks, Item.rest, Item.key, sp_cons, sp_app, sp_nil, List.cons_append, List.nil_append, kT, wT, nT, kDoor, List.length_cons, List.length_append, List.length_nil]
    omega
  | route r =>
    obtain ⟨h1, h2, h3⟩ := h
    obtain ⟨c1, c2, c3, c4⟩ := count_of h3
    simp only [route_name, route_tick, Bool.and_eq_true] at h1 h2
    have := along_len h1 h2 ⟨c3, c4⟩ (r.stops.length - 1) (by omega)
    rw [along_line] at this
    unfold lineOf
    omega
  | trip q =>
    obtain ⟨h1, h2⟩ := h
    simp [trip_name, trip_tick] at h1 h2
    have := name_len h1.1; have := name_len h1.2; have := dec_short h2.1; have := dec_short h2.2.1; have := dec_short h2.2.2
    simp [lineOf, lineB, Item.toks, Item.rest, Item.key, sp, kT, wT, nT, kTrip, kOf, kFrom, kEvery, kUntil]
    omega
  | haz q =>
    obtain ⟨h1, h2⟩ := h
    simp [haz_name, haz_tick] at h1 h2
    have := name_len h1.1; have := name_len h1.2
    have := when_len (k := kClosed) h2 (by decide)
    simp only [lineOf, lineB, Item.toks, Item.rest, Item.key, sp_cons, sp_app, sp_nil, List.cons_append, List.nil_append, kT, wT, nT, kHazard, kOn, List.length_cons, List.length_append, List.length_nil]
    omega
theorem lines_short {x : SheetM} (hx : May x) : ∀ l ∈ linesT x, l.length ≤ 4000 := by
  intro l hl
  unfold linesT sheetL at hl
  rw [List.map_cons, List.map_map] at hl
  rcases List.mem_cons.1 hl with rfl | hl
  · have := dec_short hx.h
    simp [lineB, horT, sp, kT, nT, kHorizon]
    omega
  · obtain ⟨i, hi, rfl⟩ := List.mem_map.1 hl
    exact line_short (items_ok hx i hi)
/-- lines, each with its end; with blanks and remarks between -/
def endsOf (L : List (List UInt8)) : List UInt8 := L.flatMap fun l => l ++ [10]
def oddsOf (L : List (List UInt8)) : List UInt8 := L.flatMap fun l => 9 :: (l ++ [32, 32, 35, 32, 114, 101, 109, 97, 114, 107, 10, 10])
theorem ends_join (L : List (List Tok)) : endsOf (L.map lineB) = joinN L := by unfold endsOf joinN; rw [List.flatMap_map]
theorem odds_join (L : List (List Tok)) : oddsOf (L.map lineB) = oddN L := by unfold oddsOf oddN; rw [List.flatMap_map]
theorem ends_le (L : List (List UInt8)) : (endsOf L).length ≤ (oddsOf L).length := by
  induction L with
  | nil => exact Nat.le_refl _
  | cons a L ih =>
    unfold endsOf oddsOf at *
    simp only [List.flatMap_cons, List.length_append, List.length_cons, List.length_nil]
    omega
theorem ends_more {L : List (List UInt8)} {i : Nat} {a : List UInt8} (h : L[i]? = some a) : endsOf (L.take (i + 1)) = endsOf (L.take i) ++ (a ++ [10]) ∧ oddsOf (L.take (i + 1)) = oddsOf (L.take i) ++ (9 :: (a ++ [32, 32, 35, 32, 114, 101, 109, 97, 114, 107, 10, 10])) := by
  have e : L.take (i + 1) = L.take i ++ [a] := by rw [List.take_add_one, h]; rfl
  rw [e]
  constructor
  · simp [endsOf]
  · simp [oddsOf]
theorem ends_short {L : List (List UInt8)} (h : ∀ l ∈ L, l.length ≤ 4000) (i : Nat) : (endsOf (L.take i)).length ≤ 5000 * i ∧ (oddsOf (L.take i)).length ≤ 5000 * i := by
  induction i with
  | zero => simp [endsOf, oddsOf]
  | succ i ih =>
    cases ha : L[i]? with
    | none =>
      have e : L.take (i + 1) = L.take i := by rw [List.take_add_one, ha]; simp
      rw [e]; omega
    | some a =>
      obtain ⟨e1, e2⟩ := ends_more ha
      have := h a (List.mem_of_getElem? ha)
      rw [e1, e2]
      simp only [List.length_append, List.length_cons, List.length_nil]
      omega
/-- what is read from a sheet's lines -/
theorem back_parse {x : SheetM} (hx : May x) {s : ByteArray} (hs : s.data.toList = endsOf (linesT x) ∨ s.data.toList = oddsOf (linesT x)) (hz : s.size ≤ 65536) : parseT s = .ok x [] := by
  have h := parse_items (l := itemsOf x) hx.h (items_ok hx) (by rw [fold_items]; exact hx.few) (s := s) (by
    rcases hs with hs | hs
    · left; rw [hs]; exact ends_join _
    · right; right; rw [hs]; exact odds_join _) hz
  rwa [fold_items] at h
theorem line_zero (x : SheetM) : (linesT x)[0]? = some (lineB (horT x.horizon)) := rfl
theorem line_succ {x : SheetM} {k : Nat} {a : List UInt8} (h : (linesT x)[k + 1]? = some a) : ∃ i ∈ itemsOf x, a = lineB i.toks := by
  unfold linesT sheetL at h
  rw [List.map_cons, List.getElem?_cons_succ, List.map_map] at h
  obtain ⟨i, hi, e⟩ := List.mem_map.1 (List.mem_of_getElem? h)
  exact ⟨i, hi, e.symm⟩
/-- one line alone -/
def oneM (n : Int) (i : Item) : SheetM := addI (startM n) i
theorem one_may {n : Int} (hn : tickB n = true) {i : Item} (h : i.Ok) : May (oneM n i) := by
  have h0 : May (startM n) := { empty_may with h := hn }
  cases i with
  | stop a => exact { h0 with n1 := by simp [oneM, addI, startM], a1 := all_more h0.a1 h }
  | path a => exact { h0 with n2 := by simp [oneM, addI, startM], a2 := all_more h0.a2 h.1, b2 := all_more h0.b2 h.2 }
  | door a => exact { h0 with n3 := by simp [oneM, addI, startM], a3 := all_more h0.a3 h.1, b3 := all_more h0.b3 h.2 }
  | route a => exact { h0 with n4 := by simp [oneM, addI, startM], a4 := all_more h0.a4 h.1, b4 := all_more h0.b4 h.2.1, d4 := all_more h0.d4 h.2.2 }
  | trip a => exact { h0 with n5 := by simp [oneM, addI, startM], a5 := all_more h0.a5 h.1, b5 := all_more h0.b5 h.2 }
  | haz a => exact { h0 with n6 := by simp [oneM, addI, startM], a6 := all_more h0.a6 h.1, b6 := all_more h0.b6 h.2 }
theorem one_count (n : Int) (i : Item) : (oneM n i).stops.length + (oneM n i).paths.length + (oneM n i).doors.length + (oneM n i).routes.length + (oneM n i).trips.length + (oneM n i).hazards.length = 1 := by cases i <;> rfl
theorem one_parse {n : Int} (hn : tickB n = true) {i : Item} (h : i.Ok) {s : ByteArray} (hs : s.data.toList = lineB (horT n) ++ 10 :: lineB i.toks) (hz : s.size ≤ 65536) : parseT s = .ok (oneM n i) [] :=
  parse_items (l := [i]) hn (fun j hj => by rw [List.mem_singleton.1 hj]; exact h) (one_may hn h).few (by right; left; rw [hs]; simp [joinN, sheetL]) hz
theorem mayfew {x : SheetM} (h : May x) : ShFew x := by
  have h1 := h.n1; have h2 := h.n2; have h3 := h.n3; have h4 := h.n4; have h5 := h.n5; have h6 := h.n6
  refine ⟨by omega, by omega, by omega, by omega, by omega, by omega, fun r hr => ?_⟩
  obtain ⟨k1, k2, k3, k4⟩ := count_of (List.all_eq_true.1 h.d4 r hr)
  exact ⟨by omega, by omega, by omega⟩
theorem may_check {x : SheetM} (hx : May x) (p : ShA) (w : World) (h : Sh w (· < w.heap.size) x p) : Calls Tryz.prog 39 #[shV x p] w fun e w' => e = .returned (.int .i64 0) ∧ Below w.heap.size w w' := by
  have := scheck_any x p w h (mayfew hx)
  rwa [hx.check] at this
abbrev shL' (x : SheetM) (p : ShA) : List Value := [.int .i64 x.horizon, .slice p.a1 x.stops.length p.c1, .slice p.a2 x.paths.length p.c2, .slice p.a3 x.doors.length p.c3, .slice p.a4 x.routes.length p.c4, .slice p.a5 x.trips.length p.c5, .slice p.a6 x.hazards.length p.c6]
end Go.Proofs.YtcmlmfcnbmpajaaGreatDoor.Sh

