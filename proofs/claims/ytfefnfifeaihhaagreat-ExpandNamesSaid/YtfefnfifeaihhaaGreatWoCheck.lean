/- Package world's check: thing by thing, until one is wrong; proved by walking its text. Conditions: the maker lies as Ms says; at most 400 things of a kind; the sheet may be. -/
import Derived.Test.YtfefnfifeaihhaaGreatWoHaz
import Derived.Test.YtfefnfifeaihhaaGreatWoRoute
import Derived.Laws.EntriesVeiled
set_option linter.unusedVariables false
set_option linter.unusedSimpArgs false
set_option maxHeartbeats 4000000
set_option maxRecDepth 100000
namespace Go.Proofs.YtfefnfifeaihhaaGreat.Wo
open Go.ChangeShapes Go.WideShapes Go.ChangeAt Go.RowKit Go.Maps
open Lx Sh It
/-! ### how far the world is -/
def wAt (x : SheetM) (q : Nat) : WorldM := { numX x with
  paths := (numX x).paths.take (q - x.stops.length)
  doors := (numX x).doors.take (q - (x.stops.length + x.paths.length))
  routes := (numX x).routes.take (q - (x.stops.length + x.paths.length + x.doors.length))
  trips := (numX x).trips.take (q - (x.stops.length + x.paths.length + x.doors.length + x.routes.length))
  hazards := (numX x).hazards.take (q - (x.stops.length + x.paths.length + x.doors.length + x.routes.length + x.trips.length)) }
theorem seg_before {α : Type} {l : List α} {q o : Nat} (h : q ≤ o) : l.take (q - o) = [] := by rw [Nat.sub_eq_zero_of_le h]; rfl
theorem seg_after {α : Type} {l : List α} {q o n : Nat} (hn : l.length = n) (h : o + n ≤ q) : l.take (q - o) = l := List.take_of_length_le (by omega)
theorem seg_in {α : Type} {l : List α} {q o j : Nat} {a : α} (ha : l[j]? = some a) (h : q = o + j) : l.take (q + 1 - o) = l.take (q - o) ++ [a] := by
  rw [show q + 1 - o = j + 1 by omega, show q - o = j by omega, List.take_add_one, ha]
  rfl
theorem num_lens (x : SheetM) : (numX x).paths.length = x.paths.length ∧ (numX x).doors.length = x.doors.length ∧ (numX x).routes.length = x.routes.length ∧ (numX x).trips.length = x.trips.length ∧ (numX x).hazards.length = x.hazards.length := by simp [numX]
theorem wAt_stop (x : SheetM) (q : Nat) (h : q < x.stops.length) : wAt x (q + 1) = wAt x q := by
  unfold wAt
  rw [seg_before (l := (numX x).paths) (by omega : q + 1 ≤ _), seg_before (l := (numX x).paths) (by omega : q ≤ _), seg_before (l := (numX x).doors) (by omega : q + 1 ≤ _), seg_before (l := (numX x).doors) (by omega : q ≤ _), seg_before (l := (numX x).routes) (by omega : q + 1 ≤ _), seg_before (l := (numX x).routes) (by omega : q ≤ _), seg_before (l := (numX x).trips) (by omega : q + 1 ≤ _), seg_before (l := (numX x).trips) (by omega : q ≤ _), seg_before (l := (numX x).hazards) (by omega : q + 1 ≤ _), seg_before (l := (numX x).hazards) (by omega : q ≤ _)]
theorem wAt_path (x : SheetM) (q j : Nat) (a : PathM) (ha : x.paths[j]? = some a) (hq : q = x.stops.length + j) : wAt x (q + 1) = { wAt x q with paths := (wAt x q).paths ++ [nPath x.stops a] } := by
  have hl := num_lens x
  have hj := (List.getElem?_eq_some_iff.1 ha).1
  have hn : (numX x).paths[j]? = some (nPath x.stops a) := by simp [numX, ha]
  unfold wAt
  rw [seg_in (l := (numX x).paths) hn hq, seg_before (l := (numX x).doors) (by omega : q + 1 ≤ _), seg_before (l := (numX x).doors) (by omega : q ≤ _), seg_before (l := (numX x).routes) (by omega : q + 1 ≤ _), seg_before (l := (numX x).routes) (by omega : q ≤ _), seg_before (l := (numX x).trips) (by omega : q + 1 ≤ _), seg_before (l := (numX x).trips) (by omega : q ≤ _), seg_before (l := (numX x).hazards) (by omega : q + 1 ≤ _), seg_before (l := (numX x).hazards) (by omega : q ≤ _)]
theorem wAt_door (x : SheetM) (q j : Nat) (a : DoorM) (ha : x.doors[j]? = some a) (hq : q = (x.stops.length + x.paths.length) + j) : wAt x (q + 1) = { wAt x q with doors := (wAt x q).doors ++ [nDoor x.stops a] } := by
  have hl := num_lens x
  have hj := (List.getElem?_eq_some_iff.1 ha).1
  have hn : (numX x).doors[j]? = some (nDoor x.stops a) := by simp [numX, ha]
  unfold wAt
  rw [seg_after (l := (numX x).paths) (q := q + 1) hl.1 (by omega), seg_after (l := (numX x).paths) (q := q) hl.1 (by omega), seg_in (l := (numX x).doors) hn hq, seg_before (l := (numX x).routes) (by omega : q + 1 ≤ _), seg_before (l := (numX x).routes) (by omega : q ≤ _), seg_before (l := (numX x).trips) (by omega : q + 1 ≤ _), seg_before (l := (numX x).trips) (by omega : q ≤ _), seg_before (l := (numX x).hazards) (by omega : q + 1 ≤ _), seg_before (l := (numX x).hazards) (by omega : q ≤ _)]
theorem wAt_route (x : SheetM) (q j : Nat) (a : RouteM) (ha : x.routes[j]? = some a) (hq : q = (x.stops.length + x.paths.length + x.doors.length) + j) : wAt x (q + 1) = { wAt x q with routes := (wAt x q).routes ++ [nRoute x.stops a] } := by
  have hl := num_lens x
  have hj := (List.getElem?_eq_some_iff.1 ha).1
  have hn : (numX x).routes[j]? = some (nRoute x.stops a) := by simp [numX, ha]
  unfold wAt
  rw [seg_after (l := (numX x).paths) (q := q + 1) hl.1 (by omega), seg_after (l := (numX x).paths) (q := q) hl.1 (by omega), seg_after (l := (numX x).doors) (q := q + 1) hl.2.1 (by omega), seg_after (l := (numX x).doors) (q := q) hl.2.1 (by omega), seg_in (l := (numX x).routes) hn hq, seg_before (l := (numX x).trips) (by omega : q + 1 ≤ _), seg_before (l := (numX x).trips) (by omega : q ≤ _), seg_before (l := (numX x).hazards) (by omega : q + 1 ≤ _), seg_before (l := (numX x).hazards) (by omega : q ≤ _)]
theorem wAt_trip (x : SheetM) (q j : Nat) (a : TripM) (ha : x.trips[j]? = some a) (hq : q = (x.stops.length + x.paths.length + x.doors.length + x.routes.length) + j) : wAt x (q + 1) = { wAt x q with trips := (wAt x q).trips ++ [nTrip (namesX x).routes a] } := by
  have hl := num_lens x
  have hj := (List.getElem?_eq_some_iff.1 ha).1
  have hn : (numX x).trips[j]? = some (nTrip (namesX x).routes a) := by simp [numX, ha]
  unfold wAt
  rw [seg_after (l := (numX x).paths) (q := q + 1) hl.1 (by omega), seg_after (l := (numX x).paths) (q := q) hl.1 (by omega), seg_after (l := (numX x).doors) (q := q + 1) hl.2.1 (by omega), seg_after (l := (numX x).doors) (q := q) hl.2.1 (by omega), seg_after (l := (numX x).routes) (q := q + 1) hl.2.2.1 (by omega), seg_after (l := (numX x).routes) (q := q) hl.2.2.1 (by omega), seg_in (l := (numX x).trips) hn hq, seg_before (l := (numX x).hazards) (by omega : q + 1 ≤ _), seg_before (l := (numX x).hazards) (by omega : q ≤ _)]
theorem wAt_hazard (x : SheetM) (q j : Nat) (a : HazM) (ha : x.hazards[j]? = some a) (hq : q = (x.stops.length + x.paths.length + x.doors.length + x.routes.length + x.trips.length) + j) : wAt x (q + 1) = { wAt x q with hazards := (wAt x q).hazards ++ [nHaz x.stops (namesX x).paths a] } := by
  have hl := num_lens x
  have hj := (List.getElem?_eq_some_iff.1 ha).1
  have hn : (numX x).hazards[j]? = some (nHaz x.stops (namesX x).paths a) := by simp [numX, ha]
  unfold wAt
  rw [seg_after (l := (numX x).paths) (q := q + 1) hl.1 (by omega), seg_after (l := (numX x).paths) (q := q) hl.1 (by omega), seg_after (l := (numX x).doors) (q := q + 1) hl.2.1 (by omega), seg_after (l := (numX x).doors) (q := q) hl.2.1 (by omega), seg_after (l := (numX x).routes) (q := q + 1) hl.2.2.1 (by omega), seg_after (l := (numX x).routes) (q := q) hl.2.2.1 (by omega), seg_after (l := (numX x).trips) (q := q + 1) hl.2.2.2.1 (by omega), seg_after (l := (numX x).trips) (q := q) hl.2.2.2.1 (by omega), seg_in (l := (numX x).hazards) hn hq]
theorem wAt_end (x : SheetM) (q : Nat) (h : q = (thingsN (namesX x)).length) : wAt x q = numX x := by
  have hl := num_lens x
  rw [things_len] at h
  have e : (namesX x).flat.length = x.stops.length + (x.paths.length + (x.doors.length + (x.routes.length + (x.trips.length + x.hazards.length)))) := by simp [NamesM.flat, namesX]
  rw [e] at h
  unfold wAt
  rw [seg_after (l := (numX x).paths) hl.1 (by omega), seg_after (l := (numX x).doors) hl.2.1 (by omega), seg_after (l := (numX x).routes) hl.2.2.1 (by omega), seg_after (l := (numX x).trips) hl.2.2.2.1 (by omega), seg_after (l := (numX x).hazards) hl.2.2.2.2 (by omega)]
/-- which thing stands at a place -/
theorem things_case {x : SheetM} {q : Nat} {t : Nat × Nat} (h : (thingsN (namesX x))[q]? = some t) :
    (t = (1, q) ∧ q < x.stops.length) ∨ (∃ j, t = (2, j) ∧ j < x.paths.length ∧ q = x.stops.length + j) ∨ (∃ j, t = (3, j) ∧ j < x.doors.length ∧ q = (x.stops.length + x.paths.length) + j) ∨ (∃ j, t = (4, j) ∧ j < x.routes.length ∧ q = (x.stops.length + x.paths.length + x.doors.length) + j) ∨ (∃ j, t = (5, j) ∧ j < x.trips.length ∧ q = (x.stops.length + x.paths.length + x.doors.length + x.routes.length) + j) ∨ (∃ j, t = (6, j) ∧ j < x.hazards.length ∧ q = (x.stops.length + x.paths.length + x.doors.length + x.routes.length + x.trips.length) + j) := by
  have key : ∀ (k n : Nat) (r : List (Nat × Nat)) (i : Nat), (ofK k n ++ r)[i]? = some t → (t = (k, i) ∧ i < n) ∨ (n ≤ i ∧ r[i - n]? = some t) := by
    intro k n r i hi
    rcases Nat.lt_or_ge i n with hlt | hge
    · rw [List.getElem?_append_left (by rw [ofK_len]; exact hlt), ofK_at hlt] at hi
      injection hi with hi
      exact .inl ⟨hi.symm, hlt⟩
    · rw [List.getElem?_append_right (by rw [ofK_len]; exact hge), ofK_len] at hi
      exact .inr ⟨hge, hi⟩
  have e1 : (namesX x).stops.length = x.stops.length := rfl
  have e2 : (namesX x).paths.length = x.paths.length := by simp [namesX]
  have e3 : (namesX x).doors.length = x.doors.length := by simp [namesX]
  have e4 : (namesX x).routes.length = x.routes.length := by simp [namesX]
  have e5 : (namesX x).trips.length = x.trips.length := by simp [namesX]
  have e6 : (namesX x).hazards.length = x.hazards.length := by simp [namesX]
  unfold thingsN at h
  rw [e1, e2, e3, e4, e5, e6] at h
  rcases key _ _ _ _ h with ⟨h1, h2⟩ | ⟨g1, h⟩
  · exact .inl ⟨h1, h2⟩
  rcases key _ _ _ _ h with ⟨h1, h2⟩ | ⟨g2, h⟩
  · exact .inr (.inl ⟨_, h1, h2, by omega⟩)
  rcases key _ _ _ _ h with ⟨h1, h2⟩ | ⟨g3, h⟩
  · exact .inr (.inr (.inl ⟨_, h1, h2, by omega⟩))
  rcases key _ _ _ _ h with ⟨h1, h2⟩ | ⟨g4, h⟩
  · exact .inr (.inr (.inr (.inl ⟨_, h1, h2, by omega⟩)))
  rcases key _ _ _ _ h with ⟨h1, h2⟩ | ⟨g5, h⟩
  · exact .inr (.inr (.inr (.inr (.inl ⟨_, h1, h2, by omega⟩))))
  have h6 : q - x.stops.length - x.paths.length - x.doors.length - x.routes.length - x.trips.length < x.hazards.length := by
    have := (List.getElem?_eq_some_iff.1 h).1
    rw [ofK_len] at this
    exact this
  rw [ofK_at h6] at h
  injection h with h
  exact .inr (.inr (.inr (.inr (.inr ⟨_, h.symm, h6, by omega⟩))))
/-- the error of a thing -/
def codeT (x : SheetM) (t : Nat × Nat) : Int := (((errsW (numX x))[t.1]?.getD [])[t.2]?).getD 0
theorem things_has {x : SheetM} {k i : Nat} {l : List Int} (hl : (errsW (numX x))[k]? = some l) (hi : i < l.length) : ∃ q : Nat, (thingsN (namesX x))[q]? = some (k, i) := by
  have hm : (k, i) ∈ thingsN (namesX x) := by
    have hk : k < 7 := by have := (List.getElem?_eq_some_iff.1 hl).1; simpa [errsW] using this
    unfold thingsN ofK
    simp only [List.mem_append, List.mem_map, List.mem_range, Prod.mk.injEq]
    have hr : k = 0 ∨ k = 1 ∨ k = 2 ∨ k = 3 ∨ k = 4 ∨ k = 5 ∨ k = 6 := by omega
    rcases hr with rfl | rfl | rfl | rfl | rfl | rfl | rfl
    · simp [errsW] at hl; subst hl; simp at hi
    · simp [errsW] at hl; subst hl; simp [numX, namesX] at hi; exact .inl ⟨i, by simpa [namesX] using hi, rfl, rfl⟩
    · simp [errsW] at hl; subst hl; simp [numX] at hi; exact .inr (.inl ⟨i, by simpa [namesX] using hi, rfl, rfl⟩)
    · simp [errsW] at hl; subst hl; simp [numX] at hi; exact .inr (.inr (.inl ⟨i, by simpa [namesX] using hi, rfl, rfl⟩))
    · simp [errsW] at hl; subst hl; simp [numX] at hi; exact .inr (.inr (.inr (.inl ⟨i, by simpa [namesX] using hi, rfl, rfl⟩)))
    · simp [errsW] at hl; subst hl; simp [numX] at hi; exact .inr (.inr (.inr (.inr (.inl ⟨i, by simpa [namesX] using hi, rfl, rfl⟩))))
    · simp [errsW] at hl; subst hl; simp [numX] at hi; exact .inr (.inr (.inr (.inr (.inr ⟨i, by simpa [namesX] using hi, rfl, rfl⟩))))
  obtain ⟨q, hq, e⟩ := List.getElem_of_mem hm
  exact ⟨q, by rw [List.getElem?_eq_getElem hq, e]⟩
theorem things_order {x : SheetM} {q q' : Nat} {t t' : Nat × Nat} (h : (thingsN (namesX x))[q]? = some t) (h' : (thingsN (namesX x))[q']? = some t') (hlt : t'.1 < t.1 ∨ (t'.1 = t.1 ∧ t'.2 < t.2)) : q' < q := by
  rcases things_case h with ⟨rfl, a⟩ | ⟨j, rfl, a, b⟩ | ⟨j, rfl, a, b⟩ | ⟨j, rfl, a, b⟩ | ⟨j, rfl, a, b⟩ | ⟨j, rfl, a, b⟩ <;> rcases things_case h' with ⟨rfl, c⟩ | ⟨i, rfl, c, d⟩ | ⟨i, rfl, c, d⟩ | ⟨i, rfl, c, d⟩ | ⟨i, rfl, c, d⟩ | ⟨i, rfl, c, d⟩ <;> simp only at hlt <;> omega
/-- all are right up to there -/
def Right (x : SheetM) (q : Nat) : Prop := ∀ q' < q, ∀ t, (thingsN (namesX x))[q']? = some t → codeT x t = 0
theorem code_at {x : SheetM} {k i : Nat} {l : List Int} {e : Int} (hl : (errsW (numX x))[k]? = some l) (hi : l[i]? = some e) : codeT x (k, i) = e := by
  unfold codeT
  simp [hl, hi]
theorem right_wrong {x : SheetM} {q k i : Nat} {l : List Int} {e : Int} (hR : Right x q) (hq : (thingsN (namesX x))[q]? = some (k, i)) (hl : (errsW (numX x))[k]? = some l) (hi : l[i]? = some e) (he : e ≠ 0) : errW (numX x) = ⟨e, (k : Int), (i : Int)⟩ := by
  have := fst0_at (errsW (numX x)) 0 k i l e hl hi he (fun k' hk' l' hl' e' he' => by
    obtain ⟨i', hi', rfl⟩ := List.getElem_of_mem he'
    obtain ⟨q', hq'⟩ := things_has hl' hi'
    have := hR q' (things_order hq hq' (.inl hk')) _ hq'
    rw [← this]
    exact (code_at hl' (List.getElem?_eq_getElem hi')).symm) (fun i' hi' e' he' => by
    obtain ⟨q', hq'⟩ := things_has hl (List.getElem?_eq_some_iff.1 he').1
    have := hR q' (things_order hq hq' (.inr ⟨rfl, hi'⟩)) _ hq'
    rw [← this]
    exact (code_at hl he').symm)
  rw [Nat.zero_add] at this
  exact this
theorem right_all {x : SheetM} (hR : Right x (thingsN (namesX x)).length) : errW (numX x) = okW := by
  refine fst0_ok _ _ fun l hl e he => ?_
  obtain ⟨k, hk, rfl⟩ := List.getElem_of_mem hl
  obtain ⟨i, hi, rfl⟩ := List.getElem_of_mem he
  obtain ⟨q, hq⟩ := things_has (List.getElem?_eq_getElem hk) hi
  have := hR q (List.getElem?_eq_some_iff.1 hq).1 _ hq
  rw [← this]
  exact (code_at (List.getElem?_eq_getElem hk) (List.getElem?_eq_getElem hi)).symm
theorem right_more {x : SheetM} {q : Nat} {t : Nat × Nat} (hR : Right x q) (hq : (thingsN (namesX x))[q]? = some t) (he : codeT x t = 0) : Right x (q + 1) := by
  intro q' hq' t' ht'
  rcases Nat.lt_or_ge q' q with h | h
  · exact hR q' h t' ht'
  · obtain rfl : q' = q := by omega
    rw [hq] at ht'
    injection ht' with e
    subst e
    exact he
theorem stop_any {w : World} {B M T : Nat} {X : Nat → Prop} {x : SheetM} {p : ShA} {tA : Option Addr} {tn tc : Nat} {nv : List Value} {wd : WorldM} (h : MsE w B M T X x p tA tn tc nv wd) (i : Int) :
    Calls Tryz.prog 153 #[.pointer (some ⟨M, 0, none⟩), .int .i64 i] w (MetPost w B M T X x p tA tn tc nv 0 wd) := by
  have H := HH h
  clear h
  go_enter Tryz.func153, Tryz.ntmps153
  go_wp2
  go_ret
  exact ⟨rfl, H, HH ⟨Ch.refl _ _, fun h => absurd rfl h⟩⟩
/-- names are no longer than strings can be -/
structure NmL (x : SheetM) : Prop where
  p : ∀ q ∈ x.paths, q.a.length ≤ maxLen ∧ q.b.length ≤ maxLen
  d : ∀ q ∈ x.doors, q.a.length ≤ maxLen ∧ q.b.length ≤ maxLen
  r : ∀ q ∈ x.routes, ∀ s ∈ q.stops, s.length ≤ maxLen
  t : ∀ q ∈ x.trips, q.route.length ≤ maxLen
  h : ∀ q ∈ x.hazards, q.at_.length ≤ maxLen
theorem chk_read {W : World} {n0 : Nat} {a0 a1 a2 : Value} {tmps : Array Value} (h2 : tmps[2]? = some (.pointer (some ⟨n0, 0, none⟩))) (k0 : Blk W n0 52 [a0, a1, a2]) :
    (results Tryz.f123 tmps).run Tryz.prog W = .ok (.agg #[a0, a1, a2]) W := by
  have x0 : W.cell? ⟨n0, 0, none⟩ = some a0 := k0.cell 0
  have x1 : W.cell? ⟨n0, 1, none⟩ = some a1 := k0.cell 1
  have x2 : W.cell? ⟨n0, 2, none⟩ = some a2 := k0.cell 2
  simp [results, Tryz.results123, go_sem, h2, x0, x1, x2]
theorem len_take {α : Type} (l : List α) (n m : Nat) (h : l.length ≤ m) : (l.take n).length ≤ m := by rw [List.length_take]; omega
theorem wAt_few {x : SheetM} (h : XLt x) (q : Nat) : (wAt x q).paths.length ≤ 400 ∧ (wAt x q).doors.length ≤ 400 ∧ (wAt x q).routes.length ≤ 400 ∧ (wAt x q).trips.length ≤ 400 ∧ (wAt x q).hazards.length ≤ 400 := by
  obtain ⟨e2, e3, e4, e5, e6⟩ := num_lens x
  exact ⟨len_take _ _ _ (by rw [e2]; exact h.l2), len_take _ _ _ (by rw [e3]; exact h.l3), len_take _ _ _ (by rw [e4]; exact h.l4), len_take _ _ _ (by rw [e5]; exact h.l5), len_take _ _ _ (by rw [e6]; exact h.l6)⟩
/-- the row's load -/
theorem Ms.up {w w' : World} {B B' M T : Nat} {X : Nat → Prop} {x : SheetM} {p : ShA} {tA : Option Addr} {tn tc : Nat} {nv : List Value} {wd : WorldM} (h : Ms w B M T X x p tA tn tc nv wd (.slice none 0 0) (.slice none 0 0) (.slice none 0 0) (.slice none 0 0) (.slice none 0 0)) (hw : wd.paths = [] ∧ wd.doors = [] ∧ wd.routes = [] ∧ wd.trips = [] ∧ wd.hazards = []) (hb : Below w.heap.size w w') (h1 : B ≤ B') (h2 : B' ≤ w'.heap.size) : Ms w' B' M T X x p tA tn tc nv wd (.slice none 0 0) (.slice none 0 0) (.slice none 0 0) (.slice none 0 0) (.slice none 0 0) := by
  have k := h.after hb
  obtain ⟨e2, e3, e4, e5, e6⟩ := hw
  refine ⟨k.blk, k.hnv, Nat.lt_of_lt_of_le k.hM h1, h2, k.tab, fun i hi => ⟨Nat.lt_of_lt_of_le (k.hX i hi).1 h1, (k.hX i hi).2⟩, k.htn, k.th.more fun b hb => ⟨Nat.lt_of_lt_of_le hb.1 h1, hb.2⟩, k.sh.more fun b hb => ⟨Nat.lt_of_lt_of_le hb.1 h1, hb.2⟩, ?_, ?_, ⟨[], ?_, ?_⟩, ?_, ?_⟩
  · rw [e2]; exact own_nil
  · rw [e3]; exact own_nil
  · rw [e4]; exact own_nil
  · rw [e4]; rfl
  · rw [e5]; exact own_nil
  · rw [e6]; exact own_nil
def CkRel (w : World) (M T : Nat) (X : Nat → Prop) (x : SheetM) (p : ShA) (tA : Option Addr) (tn tc : Nat) (nv : List Value) (v : Value) (wr : World) : Prop :=
  ∃ q : Nat, v = .int .i64 (q : Int) ∧ q ≤ tn ∧ Hid (MsE wr (w.heap.size + 2) M T X x p tA tn tc nv (wAt x q)) ∧ Hid (Right x q) ∧ Hid (Ch (fun k => k = M ∨ w.heap.size ≤ k) w wr) ∧ Hid (Blk wr w.heap.size 52 [.int .i64 0, .int .i64 0, .int .i64 0]) ∧ Hid (Blk wr (w.heap.size + 1) 214 [.nilFunc, .func (.func 153) #[.pointer (some ⟨M, 0, none⟩)] #[], .func (.func 154) #[.pointer (some ⟨M, 0, none⟩)] #[], .func (.func 155) #[.pointer (some ⟨M, 0, none⟩)] #[], .func (.func 156) #[.pointer (some ⟨M, 0, none⟩)] #[], .func (.func 157) #[.pointer (some ⟨M, 0, none⟩)] #[], .func (.func 158) #[.pointer (some ⟨M, 0, none⟩)] #[]])
def CkPost (w : World) (M T : Nat) (X : Nat → Prop) (x : SheetM) (p : ShA) (tA : Option Addr) (tn tc : Nat) (nv : List Value) (e : Ending) (w' : World) : Prop :=
  e = .returned (wrV (errW (numX x))) ∧ (errW (numX x) = okW → ∃ v2 v3 v4 v5 v6, Fin9 w' (w.heap.size + 2) M nv (numX x) v2 v3 v4 v5 v6) ∧ Ch (fun k => k = M ∨ w.heap.size ≤ k) w w'
theorem check_any {w : World} {B M T : Nat} {X : Nat → Prop} {x : SheetM} {p : ShA} {tA : Option Addr} {tn tc : Nat} {nv : List Value} (h : Ms w B M T X x p tA tn tc nv (wAt x 0) (.slice none 0 0) (.slice none 0 0) (.slice none 0 0) (.slice none 0 0) (.slice none 0 0)) (hl : XLt x) (nl : NmL x) :
    Calls Tryz.prog 123 #[.pointer (some ⟨M, 0, none⟩)] w (CkPost w M T X x p tA tn tc nv) := by
  have HL := HH hl
  have NL := HH nl
  have hM : M < w.heap.size := h.lt
  have HMM := HH hM
  have hmf : ∀ (fn : Fn) (first cap : Array Value) (w : World), (Instr.makeFunc fn first cap).run Tryz.prog w = .ok (.func fn first cap) w := fun _ _ _ _ => rfl
  have c1 : w.cell? ⟨M, 1, none⟩ = some (.slice tA tn tc) := h.cell 1 (by omega)
  have hne : M ≠ w.heap.size := by omega
  have hne2 : M ≠ w.heap.size + 1 := by omega
  have HTN : Hid (tn = (thingsN (namesX x)).length) := HH h.htn
  have htn4 : tn ≤ 4000 := by
    have h1 := h.htn
    rw [things_len] at h1
    have h2 : (namesX x).flat.length = x.stops.length + (x.paths.length + (x.doors.length + (x.routes.length + (x.trips.length + x.hazards.length)))) := by simp [NamesM.flat, namesX]
    have := hl.l1; have := hl.l2; have := hl.l3; have := hl.l4; have := hl.l5; have := hl.l6
    omega
  have h0 : Hid (∀ w', Below w.heap.size w w' → w.heap.size + 2 ≤ w'.heap.size → MsE w' (w.heap.size + 2) M T X x p tA tn tc nv (wAt x 0)) := HH (fun w' hb hs => ⟨_, _, _, _, _, h.up (by simp [wAt]) hb (by have := h.hB; omega) hs⟩)
  clear h hl nl
  go_enter Tryz.func123, Tryz.ntmps123
  go_wp2_with fail
  go_loopw [25] (fun v wr => CkRel w M T X x p tA tn tc nv v wr) (fun v _ => tn - (intOf v).toNat)
  case atStart => exact ⟨0, rfl, by omega, HH (h0.out _ (two_box _ _ _) (by simp)), HH (fun q' hq' => absurd hq' (by omega)), HH (Ch.of_below (two_box _ _ _)), HH ((Blk.new w _ _).alloc _), HH (Blk.new2 w _ _ _)⟩
  case round =>
    obtain ⟨q, rfl, hq, HM, HR, HC, KR, KA⟩ := hrel
    have HBS : Hid (w.heap.size + 2 ≤ wr.heap.size) := HH (by obtain ⟨_, _, _, _, _, hm⟩ := HM.out; exact hm.hB)
    by_cases hlt : q < tn
    · obtain ⟨t, ht⟩ : ∃ t, (thingsN (namesX x))[q]? = some t := ⟨_, List.getElem?_eq_getElem (by rw [← HTN.out]; exact hlt)⟩
      have HT := HH ht
      obtain ⟨u2, u3, u4, u5, u6, hm⟩ := HM.out
      have d1 : wr.cell? ⟨M, 1, none⟩ = some (.slice tA tn tc) := hm.cell 1 (by omega)
      obtain ⟨ad, e2, ⟨hS1, hS2⟩, g0, gj⟩ := rd_at 2 (fun _ => rfl) (by omega) hm.th ht
      subst e2
      have g1 := (gj 1 (by omega)).resolve_right (by omega)
      have hi2 : (q : Int) < (tn : Int) := by omega
      have hML : M < wr.heap.size := hm.lt
      have hne5 : M ≠ wr.heap.size := by omega
      have hab : (ad.add (q * 2)).block < wr.heap.size := by rw [block_of_add]; have := HBS.out; omega
      have hab2 : (ad.add (q * 2)).block ≠ wr.heap.size := by omega
      have hz1 : w.heap.size ≠ wr.heap.size := by have := HBS.out; omega
      have hz2 : w.heap.size + 1 ≠ wr.heap.size := by have := HBS.out; omega
      have hz3 : w.heap.size < wr.heap.size := by have := HBS.out; omega
      have hz4 : w.heap.size + 1 < wr.heap.size := by have := HBS.out; omega
      have few := wAt_few HL.out q
      clear gj hm hS1 hS2 ht
      rcases things_case HT.out with ⟨rfl, hj⟩ | ⟨j, rfl, hj, hqo⟩ | ⟨j, rfl, hj, hqo⟩ | ⟨j, rfl, hj, hqo⟩ | ⟨j, rfl, hj, hqo⟩ | ⟨j, rfl, hj, hqo⟩
      · obtain ⟨j, hjq⟩ : ∃ j : Nat, j = q := ⟨_, rfl⟩
        have CODE : Hid (codeT x (1, q) = 0) := HH (code_at (l := x.stops.map (fun _ => 0)) (by simp [errsW, numX, namesX]) (by simp [hj]))
        have HWN : Hid (wAt x (q + 1) = wAt x q) := HH (wAt_stop x q hj)
        replace g1 : wr.cell? ⟨(ad.add (q * 2)).block, (ad.add (q * 2)).off + 1, none⟩ = some (.int .i64 (j : Int)) := by rw [hjq]; exact g1
        clear hjq hj few
        have t0 : wr.cell? (ad.add (q * 2)) = some (.int .i64 1) := g0
        have t1 : wr.cell? ⟨(ad.add (q * 2)).block, (ad.add (q * 2)).off + 1, none⟩ = some (.int .i64 (j : Int)) := g1
        have ka : wr.cell? ⟨w.heap.size + 1, 1, none⟩ = some (.func (.func 153) #[.pointer (some ⟨M, 0, none⟩)] #[]) := KA.out.cell 1
        clear g0 g1
        have HG := HH (fun w1 (hb : Below wr.heap.size wr w1) => stop_any (HM.out.after hb) (j : Int))
        go_wp2_with fail
        refine wp_region_held_drew (S := fun w' => Hid True) (by kernel_rfl) (HH trivial) (fun hHeld => ?_)
        refine tak 0 ?vuc1 rfl ?hyuc1 ?restuc1
        case hyuc1 => (intro w' hSw; clear hSw; go_simp; try with_reducible rfl)
        simp only [ptk]
        refine tak 4 ?vuc2 rfl ?hyuc2 ?restuc2
        case hyuc2 => (intro w' hSw; clear hSw; go_simp; try with_reducible rfl)
        simp only [ptk]
        refine rdy [1, 5] ?_
        refine AllReadyH.cons rfl (fun K hK => ?_) ?_
        · go_simp
          refine hK.out _ _ (HH trivial) (fun hHeld => ?_)
          clear hK K
          refine tak 2 ?vuc3 rfl ?hyuc3 ?restuc3
          case hyuc3 => (intro w' hSw; clear hSw; go_simp; try with_reducible rfl)
          simp only [ptk]
          refine rdy [3, 5] ?_
          refine AllReadyH.cons rfl (fun K hK => ?_) ?_
          · go_simp
            refine hK.out _ _ (HH trivial) (fun hHeld => ?_)
            clear hK K
            refine rdy [5] ?_
            refine AllReadyH.cons rfl (fun K hK => ?_) ?_
            · go_simp
              refine hK.out _ _ (HH trivial) (fun hHeld => ?_)
              clear hK K
              refine rdy [6] ?_
              refine AllReadyH.cons rfl (fun K hK => ?_) ?_
              · go_simp
                go_at_call 153
                refine (HG.out _ (by repeat (first | exact Below.refl _ _ | exact one_box _ _ | refine below_drewN ?_ _ | refine below_drew ?_ | refine Below.alloc ?_ (by first | omega | (simp; done) | (simp; omega)) _))).mono ?_
                rintro e w2 ⟨rfl, hm2, hc2⟩
                have HC2 := HH hc2.out.1
                have HM2 := HH hm2.out
                clear hm2 hc2
                dsimp only
                refine hK.out _ _ (HH trivial) (fun hHeld => ?_)
                clear hK K
                refine tak 7 ?vuc4 rfl ?hyuc4 ?restuc4
                case hyuc4 => (intro w' hSw; clear hSw; go_simp; try with_reducible rfl)
                simp only [ptk]
                refine wpAnyH_done (by kernel_rfl) ?_ _
                go_wp2
                go_roundw
                case rel => exact ⟨q + 1, by go_num, by omega, HH (by rw [HWN.out]; exact HM2.out), HH (right_more HR.out HT.out CODE.out), HH ((HC.out.trans' (Ch.of_below (X := fun k => k = M ∨ w.heap.size ≤ k) (below_drew (one_box wr (.cells #[.int .i64 1, .int .i64 (j : Int)] 212)))) (fun _ _ h => h)).trans' HC2.out (fun _ _ h => h.imp id fun h => by omega)), HH (HC2.out.blk (KR.out.after (below_drew (one_box wr (.cells #[.int .i64 1, .int .i64 (j : Int)] 212)))) (by have := HMM.out; omega)), HH (HC2.out.blk (KA.out.after (below_drew (one_box wr (.cells #[.int .i64 1, .int .i64 (j : Int)] 212)))) (by have := HMM.out; omega))⟩
                case measure => simp [intOf]; omega
              exact AllReadyH.nil
            exact AllReadyH.nil
          refine AllReadyH.cons rfl (fun K hK => ?_) ?_
          · go_simp
            refine hK.out _ _ (HH trivial) (fun hHeld => ?_)
            clear hK K
            refine rdy [3] ?_
            refine AllReadyH.cons rfl (fun K hK => ?_) ?_
            · go_simp
              refine hK.out _ _ (HH trivial) (fun hHeld => ?_)
              clear hK K
              refine rdy [6] ?_
              refine AllReadyH.cons rfl (fun K hK => ?_) ?_
              · go_simp
                go_at_call 153
                refine (HG.out _ (by repeat (first | exact Below.refl _ _ | exact one_box _ _ | refine below_drewN ?_ _ | refine below_drew ?_ | refine Below.alloc ?_ (by first | omega | (simp; done) | (simp; omega)) _))).mono ?_
                rintro e w2 ⟨rfl, hm2, hc2⟩
                have HC2 := HH hc2.out.1
                have HM2 := HH hm2.out
                clear hm2 hc2
                dsimp only
                refine hK.out _ _ (HH trivial) (fun hHeld => ?_)
                clear hK K
                refine tak 7 ?vuc5 rfl ?hyuc5 ?restuc5
                case hyuc5 => (intro w' hSw; clear hSw; go_simp; try with_reducible rfl)
                simp only [ptk]
                refine wpAnyH_done (by kernel_rfl) ?_ _
                go_wp2
                go_roundw
                case rel => exact ⟨q + 1, by go_num, by omega, HH (by rw [HWN.out]; exact HM2.out), HH (right_more HR.out HT.out CODE.out), HH ((HC.out.trans' (Ch.of_below (X := fun k => k = M ∨ w.heap.size ≤ k) (below_drew (one_box wr (.cells #[.int .i64 1, .int .i64 (j : Int)] 212)))) (fun _ _ h => h)).trans' HC2.out (fun _ _ h => h.imp id fun h => by omega)), HH (HC2.out.blk (KR.out.after (below_drew (one_box wr (.cells #[.int .i64 1, .int .i64 (j : Int)] 212)))) (by have := HMM.out; omega)), HH (HC2.out.blk (KA.out.after (below_drew (one_box wr (.cells #[.int .i64 1, .int .i64 (j : Int)] 212)))) (by have := HMM.out; omega))⟩
                case measure => simp [intOf]; omega
              exact AllReadyH.nil
            exact AllReadyH.nil
          exact AllReadyH.nil
        refine AllReadyH.cons rfl (fun K hK => ?_) ?_
        · go_simp
          refine hK.out _ _ (HH trivial) (fun hHeld => ?_)
          clear hK K
          refine rdy [1] ?_
          refine AllReadyH.cons rfl (fun K hK => ?_) ?_
          · go_simp
            refine hK.out _ _ (HH trivial) (fun hHeld => ?_)
            clear hK K
            refine tak 2 ?vuc6 rfl ?hyuc6 ?restuc6
            case hyuc6 => (intro w' hSw; clear hSw; go_simp; try with_reducible rfl)
            simp only [ptk]
            refine rdy [3] ?_
            refine AllReadyH.cons rfl (fun K hK => ?_) ?_
            · go_simp
              refine hK.out _ _ (HH trivial) (fun hHeld => ?_)
              clear hK K
              refine rdy [6] ?_
              refine AllReadyH.cons rfl (fun K hK => ?_) ?_
              · go_simp
                go_at_call 153
                refine (HG.out _ (by repeat (first | exact Below.refl _ _ | exact one_box _ _ | refine below_drewN ?_ _ | refine below_drew ?_ | refine Below.alloc ?_ (by first | omega | (simp; done) | (simp; omega)) _))).mono ?_
                rintro e w2 ⟨rfl, hm2, hc2⟩
                have HC2 := HH hc2.out.1
                have HM2 := HH hm2.out
                clear hm2 hc2
                dsimp only
                refine hK.out _ _ (HH trivial) (fun hHeld => ?_)
                clear hK K
                refine tak 7 ?vuc7 rfl ?hyuc7 ?restuc7
                case hyuc7 => (intro w' hSw; clear hSw; go_simp; try with_reducible rfl)
                simp only [ptk]
                refine wpAnyH_done (by kernel_rfl) ?_ _
                go_wp2
                go_roundw
                case rel => exact ⟨q + 1, by go_num, by omega, HH (by rw [HWN.out]; exact HM2.out), HH (right_more HR.out HT.out CODE.out), HH ((HC.out.trans' (Ch.of_below (X := fun k => k = M ∨ w.heap.size ≤ k) (below_drew (one_box wr (.cells #[.int .i64 1, .int .i64 (j : Int)] 212)))) (fun _ _ h => h)).trans' HC2.out (fun _ _ h => h.imp id fun h => by omega)), HH (HC2.out.blk (KR.out.after (below_drew (one_box wr (.cells #[.int .i64 1, .int .i64 (j : Int)] 212)))) (by have := HMM.out; omega)), HH (HC2.out.blk (KA.out.after (below_drew (one_box wr (.cells #[.int .i64 1, .int .i64 (j : Int)] 212)))) (by have := HMM.out; omega))⟩
                case measure => simp [intOf]; omega
              exact AllReadyH.nil
            exact AllReadyH.nil
          exact AllReadyH.nil
        exact AllReadyH.nil
      · obtain ⟨a, ha⟩ : ∃ a, x.paths[j]? = some a := ⟨_, List.getElem?_eq_getElem hj⟩
        have hm := List.mem_of_getElem? ha
        have HLL : Hid ((errsW (numX x))[2]? = some ((numX x).paths.map pathE)) := HH rfl
        have HLI : Hid (((numX x).paths.map pathE)[j]? = some (pathE (nPath x.stops a))) := HH (by simp [numX, ha])
        have HWN : Hid (wAt x (q + 1) = { wAt x q with paths := (wAt x q).paths ++ [nPath x.stops a] }) := HH (wAt_path x q j a ha hqo)
        have HG := HH (fun w1 (hb : Below wr.heap.size wr w1) => path_any (HM.out.after hb) few.1 HL.out.l2 j a ha (NL.out.p a hm).1 (NL.out.p a hm).2)
        clear hm ha hqo hj few
        have t0 : wr.cell? (ad.add (q * 2)) = some (.int .i64 2) := g0
        have t1 : wr.cell? ⟨(ad.add (q * 2)).block, (ad.add (q * 2)).off + 1, none⟩ = some (.int .i64 (j : Int)) := g1
        have ka : wr.cell? ⟨w.heap.size + 1, 2, none⟩ = some (.func (.func 154) #[.pointer (some ⟨M, 0, none⟩)] #[]) := KA.out.cell 2
        clear g0 g1
        rw [← HWN.out] at HG
        obtain ⟨er, her⟩ : ∃ er, er = pathE (nPath x.stops a) := ⟨_, rfl⟩
        rw [← her] at HG HLI
        clear her
        by_cases he : er = 0
        · subst he
          simp only [if_true] at HG
          have CODE : Hid (codeT x (2, j) = 0) := HH (code_at HLL.out HLI.out)
          go_wp2_with fail
          refine wp_region_held_drew (S := fun w' => Hid True) (by kernel_rfl) (HH trivial) (fun hHeld => ?_)
          refine tak 0 ?vuc8 rfl ?hyuc8 ?restuc8
          case hyuc8 => (intro w' hSw; clear hSw; go_simp; try with_reducible rfl)
          simp only [ptk]
          refine tak 4 ?vuc9 rfl ?hyuc9 ?restuc9
          case hyuc9 => (intro w' hSw; clear hSw; go_simp; try with_reducible rfl)
          simp only [ptk]
          refine rdy [1, 5] ?_
          refine AllReadyH.cons rfl (fun K hK => ?_) ?_
          · go_simp
            refine hK.out _ _ (HH trivial) (fun hHeld => ?_)
            clear hK K
            refine tak 2 ?vuc10 rfl ?hyuc10 ?restuc10
            case hyuc10 => (intro w' hSw; clear hSw; go_simp; try with_reducible rfl)
            simp only [ptk]
            refine rdy [3, 5] ?_
            refine AllReadyH.cons rfl (fun K hK => ?_) ?_
            · go_simp
              refine hK.out _ _ (HH trivial) (fun hHeld => ?_)
              clear hK K
              refine rdy [5] ?_
              refine AllReadyH.cons rfl (fun K hK => ?_) ?_
              · go_simp
                refine hK.out _ _ (HH trivial) (fun hHeld => ?_)
                clear hK K
                refine rdy [6] ?_
                refine AllReadyH.cons rfl (fun K hK => ?_) ?_
                · go_simp
                  go_at_call 154
                  refine (HG.out _ (by repeat (first | exact Below.refl _ _ | exact one_box _ _ | refine below_drewN ?_ _ | refine below_drew ?_ | refine Below.alloc ?_ (by first | omega | (simp; done) | (simp; omega)) _))).mono ?_
                  rintro e w2 ⟨rfl, hm2, hc2⟩
                  have HC2 := HH hc2.out.1
                  have HM2 := HH hm2.out
                  clear hm2 hc2
                  dsimp only
                  refine hK.out _ _ (HH trivial) (fun hHeld => ?_)
                  clear hK K
                  refine tak 7 ?vuc11 rfl ?hyuc11 ?restuc11
                  case hyuc11 => (intro w' hSw; clear hSw; go_simp; try with_reducible rfl)
                  simp only [ptk]
                  refine wpAnyH_done (by kernel_rfl) ?_ _
                  go_wp2
                  go_roundw
                  case rel => exact ⟨q + 1, by go_num, by omega, HM2, HH (right_more HR.out HT.out CODE.out), HH ((HC.out.trans' (Ch.of_below (X := fun k => k = M ∨ w.heap.size ≤ k) (below_drew (one_box wr (.cells #[.int .i64 2, .int .i64 (j : Int)] 212)))) (fun _ _ h => h)).trans' HC2.out (fun _ _ h => h.imp id fun h => by omega)), HH (HC2.out.blk (KR.out.after (below_drew (one_box wr (.cells #[.int .i64 2, .int .i64 (j : Int)] 212)))) (by have := HMM.out; omega)), HH (HC2.out.blk (KA.out.after (below_drew (one_box wr (.cells #[.int .i64 2, .int .i64 (j : Int)] 212)))) (by have := HMM.out; omega))⟩
                  case measure => simp [intOf]; omega
                exact AllReadyH.nil
              exact AllReadyH.nil
            refine AllReadyH.cons rfl (fun K hK => ?_) ?_
            · go_simp
              refine hK.out _ _ (HH trivial) (fun hHeld => ?_)
              clear hK K
              refine rdy [3] ?_
              refine AllReadyH.cons rfl (fun K hK => ?_) ?_
              · go_simp
                refine hK.out _ _ (HH trivial) (fun hHeld => ?_)
                clear hK K
                refine rdy [6] ?_
                refine AllReadyH.cons rfl (fun K hK => ?_) ?_
                · go_simp
                  go_at_call 154
                  refine (HG.out _ (by repeat (first | exact Below.refl _ _ | exact one_box _ _ | refine below_drewN ?_ _ | refine below_drew ?_ | refine Below.alloc ?_ (by first | omega | (simp; done) | (simp; omega)) _))).mono ?_
                  rintro e w2 ⟨rfl, hm2, hc2⟩
                  have HC2 := HH hc2.out.1
                  have HM2 := HH hm2.out
                  clear hm2 hc2
                  dsimp only
                  refine hK.out _ _ (HH trivial) (fun hHeld => ?_)
                  clear hK K
                  refine tak 7 ?vuc12 rfl ?hyuc12 ?restuc12
                  case hyuc12 => (intro w' hSw; clear hSw; go_simp; try with_reducible rfl)
                  simp only [ptk]
                  refine wpAnyH_done (by kernel_rfl) ?_ _
                  go_wp2
                  go_roundw
                  case rel => exact ⟨q + 1, by go_num, by omega, HM2, HH (right_more HR.out HT.out CODE.out), HH ((HC.out.trans' (Ch.of_below (X := fun k => k = M ∨ w.heap.size ≤ k) (below_drew (one_box wr (.cells #[.int .i64 2, .int .i64 (j : Int)] 212)))) (fun _ _ h => h)).trans' HC2.out (fun _ _ h => h.imp id fun h => by omega)), HH (HC2.out.blk (KR.out.after (below_drew (one_box wr (.cells #[.int .i64 2, .int .i64 (j : Int)] 212)))) (by have := HMM.out; omega)), HH (HC2.out.blk (KA.out.after (below_drew (one_box wr (.cells #[.int .i64 2, .int .i64 (j : Int)] 212)))) (by have := HMM.out; omega))⟩
                  case measure => simp [intOf]; omega
                exact AllReadyH.nil
              exact AllReadyH.nil
            exact AllReadyH.nil
          refine AllReadyH.cons rfl (fun K hK => ?_) ?_
          · go_simp
            refine hK.out _ _ (HH trivial) (fun hHeld => ?_)
            clear hK K
            refine rdy [1] ?_
            refine AllReadyH.cons rfl (fun K hK => ?_) ?_
            · go_simp
              refine hK.out _ _ (HH trivial) (fun hHeld => ?_)
              clear hK K
              refine tak 2 ?vuc13 rfl ?hyuc13 ?restuc13
              case hyuc13 => (intro w' hSw; clear hSw; go_simp; try with_reducible rfl)
              simp only [ptk]
              refine rdy [3] ?_
              refine AllReadyH.cons rfl (fun K hK => ?_) ?_
              · go_simp
                refine hK.out _ _ (HH trivial) (fun hHeld => ?_)
                clear hK K
                refine rdy [6] ?_
                refine AllReadyH.cons rfl (fun K hK => ?_) ?_
                · go_simp
                  go_at_call 154
                  refine (HG.out _ (by repeat (first | exact Below.refl _ _ | exact one_box _ _ | refine below_drewN ?_ _ | refine below_drew ?_ | refine Below.alloc ?_ (by first | omega | (simp; done) | (simp; omega)) _))).mono ?_
                  rintro e w2 ⟨rfl, hm2, hc2⟩
                  have HC2 := HH hc2.out.1
                  have HM2 := HH hm2.out
                  clear hm2 hc2
                  dsimp only
                  refine hK.out _ _ (HH trivial) (fun hHeld => ?_)
                  clear hK K
                  refine tak 7 ?vuc14 rfl ?hyuc14 ?restuc14
                  case hyuc14 => (intro w' hSw; clear hSw; go_simp; try with_reducible rfl)
                  simp only [ptk]
                  refine wpAnyH_done (by kernel_rfl) ?_ _
                  go_wp2
                  go_roundw
                  case rel => exact ⟨q + 1, by go_num, by omega, HM2, HH (right_more HR.out HT.out CODE.out), HH ((HC.out.trans' (Ch.of_below (X := fun k => k = M ∨ w.heap.size ≤ k) (below_drew (one_box wr (.cells #[.int .i64 2, .int .i64 (j : Int)] 212)))) (fun _ _ h => h)).trans' HC2.out (fun _ _ h => h.imp id fun h => by omega)), HH (HC2.out.blk (KR.out.after (below_drew (one_box wr (.cells #[.int .i64 2, .int .i64 (j : Int)] 212)))) (by have := HMM.out; omega)), HH (HC2.out.blk (KA.out.after (below_drew (one_box wr (.cells #[.int .i64 2, .int .i64 (j : Int)] 212)))) (by have := HMM.out; omega))⟩
                  case measure => simp [intOf]; omega
                exact AllReadyH.nil
              exact AllReadyH.nil
            exact AllReadyH.nil
          exact AllReadyH.nil
        · simp only [he, if_false] at HG
          have he2 : (er == 0) = false := by simpa using he
          have HE : Hid (errW (numX x) = ⟨er, ((2 : Nat) : Int), (j : Int)⟩) := HH (right_wrong HR.out HT.out HLL.out HLI.out he)
          have HNE := HH he
          go_wp2_with fail
          refine wp_region_held_drew (S := fun w' => Hid True) (by kernel_rfl) (HH trivial) (fun hHeld => ?_)
          refine tak 0 ?vuc15 rfl ?hyuc15 ?restuc15
          case hyuc15 => (intro w' hSw; clear hSw; go_simp; try with_reducible rfl)
          simp only [ptk]
          refine tak 4 ?vuc16 rfl ?hyuc16 ?restuc16
          case hyuc16 => (intro w' hSw; clear hSw; go_simp; try with_reducible rfl)
          simp only [ptk]
          refine rdy [1, 5] ?_
          refine AllReadyH.cons rfl (fun K hK => ?_) ?_
          · go_simp
            refine hK.out _ _ (HH trivial) (fun hHeld => ?_)
            clear hK K
            refine tak 2 ?vuc17 rfl ?hyuc17 ?restuc17
            case hyuc17 => (intro w' hSw; clear hSw; go_simp; try with_reducible rfl)
            simp only [ptk]
            refine rdy [3, 5] ?_
            refine AllReadyH.cons rfl (fun K hK => ?_) ?_
            · go_simp
              refine hK.out _ _ (HH trivial) (fun hHeld => ?_)
              clear hK K
              refine rdy [5] ?_
              refine AllReadyH.cons rfl (fun K hK => ?_) ?_
              · go_simp
                refine hK.out _ _ (HH trivial) (fun hHeld => ?_)
                clear hK K
                refine rdy [6] ?_
                refine AllReadyH.cons rfl (fun K hK => ?_) ?_
                · go_simp
                  go_at_call 154
                  refine (HG.out _ (by repeat (first | exact Below.refl _ _ | exact one_box _ _ | refine below_drewN ?_ _ | refine below_drew ?_ | refine Below.alloc ?_ (by first | omega | (simp; done) | (simp; omega)) _))).mono ?_
                  rintro e w2 ⟨rfl, hm2, hc2⟩
                  have HB2 := HH (hc2.out.2 HNE.out)
                  have HBW : Hid (Below wr.heap.size wr w2) := HH (keep_trans (below_drew (one_box _ _)) HB2.out)
                  have K5 : Hid (Blk w2 wr.heap.size 212 [.int .i64 2, .int .i64 (j : Int)]) := HH (Blk.after (blk_dr (Blk.new wr _ _)) HB2.out)
                  have KR2 := HH (KR.out.after HBW.out)
                  clear hm2 hc2
                  dsimp only
                  refine hK.out _ _ (HH trivial) (fun hHeld => ?_)
                  clear hK K
                  refine tak 7 ?vuc18 rfl ?hyuc18 ?restuc18
                  case hyuc18 => (intro w' hSw; clear hSw; go_simp; try with_reducible rfl)
                  simp only [ptk]
                  refine wpAnyH_done (by kernel_rfl) ?_ _
                  have p0 : w2.cell? ⟨wr.heap.size, 0, none⟩ = some (.int .i64 2) := K5.out.cell 0
                  have p1 : w2.cell? ⟨wr.heap.size, 1, none⟩ = some (.int .i64 (j : Int)) := K5.out.cell 1
                  have q0 : w2.cell? ⟨w.heap.size, 0, none⟩ = some (.int .i64 0) := KR2.out.cell 0
                  have q1 : w2.cell? ⟨w.heap.size, 1, none⟩ = some (.int .i64 0) := KR2.out.cell 1
                  have q2 : w2.cell? ⟨w.heap.size, 2, none⟩ = some (.int .i64 0) := KR2.out.cell 2
                  have qf : ∀ i, w2.frozen? ⟨w.heap.size, i, none⟩ = false := fun i => KR2.out.frozen i
                  go_wp2
                  refine bodyPost_ret (chk_read rfl (((KR2.out.set_ 0 _).set_ 1 _).set_ 2 _)) rfl ?_
                  refine ⟨by first | (rw [HE.out]; done) | (rw [HE.out]; rfl), fun h => ?_, (((HC.out.trans' (Ch.of_below (X := fun k => k = M ∨ w.heap.size ≤ k) HBW.out) (fun _ _ h => h)).setCell (p := ⟨w.heap.size, 0, none⟩) (.inl (.inr (Nat.le_refl _))) _).setCell (p := ⟨w.heap.size, 1, none⟩) (.inl (.inr (Nat.le_refl _))) _).setCell (p := ⟨w.heap.size, 2, none⟩) (.inl (.inr (Nat.le_refl _))) _⟩
                  rw [HE.out] at h
                  exact absurd (congrArg WrM.err h) HNE.out
                exact AllReadyH.nil
              exact AllReadyH.nil
            refine AllReadyH.cons rfl (fun K hK => ?_) ?_
            · go_simp
              refine hK.out _ _ (HH trivial) (fun hHeld => ?_)
              clear hK K
              refine rdy [3] ?_
              refine AllReadyH.cons rfl (fun K hK => ?_) ?_
              · go_simp
                refine hK.out _ _ (HH trivial) (fun hHeld => ?_)
                clear hK K
                refine rdy [6] ?_
                refine AllReadyH.cons rfl (fun K hK => ?_) ?_
                · go_simp
                  go_at_call 154
                  refine (HG.out _ (by repeat (first | exact Below.refl _ _ | exact one_box _ _ | refine below_drewN ?_ _ | refine below_drew ?_ | refine Below.alloc ?_ (by first | omega | (simp; done) | (simp; omega)) _))).mono ?_
                  rintro e w2 ⟨rfl, hm2, hc2⟩
                  have HB2 := HH (hc2.out.2 HNE.out)
                  have HBW : Hid (Below wr.heap.size wr w2) := HH (keep_trans (below_drew (one_box _ _)) HB2.out)
                  have K5 : Hid (Blk w2 wr.heap.size 212 [.int .i64 2, .int .i64 (j : Int)]) := HH (Blk.after (blk_dr (Blk.new wr _ _)) HB2.out)
                  have KR2 := HH (KR.out.after HBW.out)
                  clear hm2 hc2
                  dsimp only
                  refine hK.out _ _ (HH trivial) (fun hHeld => ?_)
                  clear hK K
                  refine tak 7 ?vuc19 rfl ?hyuc19 ?restuc19
                  case hyuc19 => (intro w' hSw; clear hSw; go_simp; try with_reducible rfl)
                  simp only [ptk]
                  refine wpAnyH_done (by kernel_rfl) ?_ _
                  have p0 : w2.cell? ⟨wr.heap.size, 0, none⟩ = some (.int .i64 2) := K5.out.cell 0
                  have p1 : w2.cell? ⟨wr.heap.size, 1, none⟩ = some (.int .i64 (j : Int)) := K5.out.cell 1
                  have q0 : w2.cell? ⟨w.heap.size, 0, none⟩ = some (.int .i64 0) := KR2.out.cell 0
                  have q1 : w2.cell? ⟨w.heap.size, 1, none⟩ = some (.int .i64 0) := KR2.out.cell 1
                  have q2 : w2.cell? ⟨w.heap.size, 2, none⟩ = some (.int .i64 0) := KR2.out.cell 2
                  have qf : ∀ i, w2.frozen? ⟨w.heap.size, i, none⟩ = false := fun i => KR2.out.frozen i
                  go_wp2
                  refine bodyPost_ret (chk_read rfl (((KR2.out.set_ 0 _).set_ 1 _).set_ 2 _)) rfl ?_
                  refine ⟨by first | (rw [HE.out]; done) | (rw [HE.out]; rfl), fun h => ?_, (((HC.out.trans' (Ch.of_below (X := fun k => k = M ∨ w.heap.size ≤ k) HBW.out) (fun _ _ h => h)).setCell (p := ⟨w.heap.size, 0, none⟩) (.inl (.inr (Nat.le_refl _))) _).setCell (p := ⟨w.heap.size, 1, none⟩) (.inl (.inr (Nat.le_refl _))) _).setCell (p := ⟨w.heap.size, 2, none⟩) (.inl (.inr (Nat.le_refl _))) _⟩
                  rw [HE.out] at h
                  exact absurd (congrArg WrM.err h) HNE.out
                exact AllReadyH.nil
              exact AllReadyH.nil
            exact AllReadyH.nil
          refine AllReadyH.cons rfl (fun K hK => ?_) ?_
          · go_simp
            refine hK.out _ _ (HH trivial) (fun hHeld => ?_)
            clear hK K
            refine rdy [1] ?_
            refine AllReadyH.cons rfl (fun K hK => ?_) ?_
            · go_simp
              refine hK.out _ _ (HH trivial) (fun hHeld => ?_)
              clear hK K
              refine tak 2 ?vuc20 rfl ?hyuc20 ?restuc20
              case hyuc20 => (intro w' hSw; clear hSw; go_simp; try with_reducible rfl)
              simp only [ptk]
              refine rdy [3] ?_
              refine AllReadyH.cons rfl (fun K hK => ?_) ?_
              · go_simp
                refine hK.out _ _ (HH trivial) (fun hHeld => ?_)
                clear hK K
                refine rdy [6] ?_
                refine AllReadyH.cons rfl (fun K hK => ?_) ?_
                · go_simp
                  go_at_call 154
                  refine (HG.out _ (by repeat (first | exact Below.refl _ _ | exact one_box _ _ | refine below_drewN ?_ _ | refine below_drew ?_ | refine Below.alloc ?_ (by first | omega | (simp; done) | (simp; omega)) _))).mono ?_
                  rintro e w2 ⟨rfl, hm2, hc2⟩
                  have HB2 := HH (hc2.out.2 HNE.out)
                  have HBW : Hid (Below wr.heap.size wr w2) := HH (keep_trans (below_drew (one_box _ _)) HB2.out)
                  have K5 : Hid (Blk w2 wr.heap.size 212 [.int .i64 2, .int .i64 (j : Int)]) := HH (Blk.after (blk_dr (Blk.new wr _ _)) HB2.out)
                  have KR2 := HH (KR.out.after HBW.out)
                  clear hm2 hc2
                  dsimp only
                  refine hK.out _ _ (HH trivial) (fun hHeld => ?_)
                  clear hK K
                  refine tak 7 ?vuc21 rfl ?hyuc21 ?restuc21
                  case hyuc21 => (intro w' hSw; clear hSw; go_simp; try with_reducible rfl)
                  simp only [ptk]
                  refine wpAnyH_done (by kernel_rfl) ?_ _
                  have p0 : w2.cell? ⟨wr.heap.size, 0, none⟩ = some (.int .i64 2) := K5.out.cell 0
                  have p1 : w2.cell? ⟨wr.heap.size, 1, none⟩ = some (.int .i64 (j : Int)) := K5.out.cell 1
                  have q0 : w2.cell? ⟨w.heap.size, 0, none⟩ = some (.int .i64 0) := KR2.out.cell 0
                  have q1 : w2.cell? ⟨w.heap.size, 1, none⟩ = some (.int .i64 0) := KR2.out.cell 1
                  have q2 : w2.cell? ⟨w.heap.size, 2, none⟩ = some (.int .i64 0) := KR2.out.cell 2
                  have qf : ∀ i, w2.frozen? ⟨w.heap.size, i, none⟩ = false := fun i => KR2.out.frozen i
                  go_wp2
                  refine bodyPost_ret (chk_read rfl (((KR2.out.set_ 0 _).set_ 1 _).set_ 2 _)) rfl ?_
                  refine ⟨by first | (rw [HE.out]; done) | (rw [HE.out]; rfl), fun h => ?_, (((HC.out.trans' (Ch.of_below (X := fun k => k = M ∨ w.heap.size ≤ k) HBW.out) (fun _ _ h => h)).setCell (p := ⟨w.heap.size, 0, none⟩) (.inl (.inr (Nat.le_refl _))) _).setCell (p := ⟨w.heap.size, 1, none⟩) (.inl (.inr (Nat.le_refl _))) _).setCell (p := ⟨w.heap.size, 2, none⟩) (.inl (.inr (Nat.le_refl _))) _⟩
                  rw [HE.out] at h
                  exact absurd (congrArg WrM.err h) HNE.out
                exact AllReadyH.nil
              exact AllReadyH.nil
            exact AllReadyH.nil
          exact AllReadyH.nil
      · obtain ⟨a, ha⟩ : ∃ a, x.doors[j]? = some a := ⟨_, List.getElem?_eq_getElem hj⟩
        have hm := List.mem_of_getElem? ha
        have HLL : Hid ((errsW (numX x))[3]? = some ((numX x).doors.map (doorE x.horizon))) := HH rfl
        have HLI : Hid (((numX x).doors.map (doorE x.horizon))[j]? = some (doorE x.horizon (nDoor x.stops a))) := HH (by simp [numX, ha])
        have HWN : Hid (wAt x (q + 1) = { wAt x q with doors := (wAt x q).doors ++ [nDoor x.stops a] }) := HH (wAt_door x q j a ha hqo)
        have HG := HH (fun w1 (hb : Below wr.heap.size wr w1) => door_any (HM.out.after hb) few.2.1 HL.out.l3 j a ha (NL.out.d a hm).1 (NL.out.d a hm).2)
        clear hm ha hqo hj few
        have t0 : wr.cell? (ad.add (q * 2)) = some (.int .i64 3) := g0
        have t1 : wr.cell? ⟨(ad.add (q * 2)).block, (ad.add (q * 2)).off + 1, none⟩ = some (.int .i64 (j : Int)) := g1
        have ka : wr.cell? ⟨w.heap.size + 1, 3, none⟩ = some (.func (.func 155) #[.pointer (some ⟨M, 0, none⟩)] #[]) := KA.out.cell 3
        clear g0 g1
        rw [← HWN.out] at HG
        obtain ⟨er, her⟩ : ∃ er, er = doorE x.horizon (nDoor x.stops a) := ⟨_, rfl⟩
        rw [← her] at HG HLI
        clear her
        by_cases he : er = 0
        · subst he
          simp only [if_true] at HG
          have CODE : Hid (codeT x (3, j) = 0) := HH (code_at HLL.out HLI.out)
          go_wp2_with fail
          refine wp_region_held_drew (S := fun w' => Hid True) (by kernel_rfl) (HH trivial) (fun hHeld => ?_)
          refine tak 0 ?vuc22 rfl ?hyuc22 ?restuc22
          case hyuc22 => (intro w' hSw; clear hSw; go_simp; try with_reducible rfl)
          simp only [ptk]
          refine tak 4 ?vuc23 rfl ?hyuc23 ?restuc23
          case hyuc23 => (intro w' hSw; clear hSw; go_simp; try with_reducible rfl)
          simp only [ptk]
          refine rdy [1, 5] ?_
          refine AllReadyH.cons rfl (fun K hK => ?_) ?_
          · go_simp
            refine hK.out _ _ (HH trivial) (fun hHeld => ?_)
            clear hK K
            refine tak 2 ?vuc24 rfl ?hyuc24 ?restuc24
            case hyuc24 => (intro w' hSw; clear hSw; go_simp; try with_reducible rfl)
            simp only [ptk]
            refine rdy [3, 5] ?_
            refine AllReadyH.cons rfl (fun K hK => ?_) ?_
            · go_simp
              refine hK.out _ _ (HH trivial) (fun hHeld => ?_)
              clear hK K
              refine rdy [5] ?_
              refine AllReadyH.cons rfl (fun K hK => ?_) ?_
              · go_simp
                refine hK.out _ _ (HH trivial) (fun hHeld => ?_)
                clear hK K
                refine rdy [6] ?_
                refine AllReadyH.cons rfl (fun K hK => ?_) ?_
                · go_simp
                  go_at_call 155
                  refine (HG.out _ (by repeat (first | exact Below.refl _ _ | exact one_box _ _ | refine below_drewN ?_ _ | refine below_drew ?_ | refine Below.alloc ?_ (by first | omega | (simp; done) | (simp; omega)) _))).mono ?_
                  rintro e w2 ⟨rfl, hm2, hc2⟩
                  have HC2 := HH hc2.out.1
                  have HM2 := HH hm2.out
                  clear hm2 hc2
                  dsimp only
                  refine hK.out _ _ (HH trivial) (fun hHeld => ?_)
                  clear hK K
                  refine tak 7 ?vuc25 rfl ?hyuc25 ?restuc25
                  case hyuc25 => (intro w' hSw; clear hSw; go_simp; try with_reducible rfl)
                  simp only [ptk]
                  refine wpAnyH_done (by kernel_rfl) ?_ _
                  go_wp2
                  go_roundw
                  case rel => exact ⟨q + 1, by go_num, by omega, HM2, HH (right_more HR.out HT.out CODE.out), HH ((HC.out.trans' (Ch.of_below (X := fun k => k = M ∨ w.heap.size ≤ k) (below_drew (one_box wr (.cells #[.int .i64 3, .int .i64 (j : Int)] 212)))) (fun _ _ h => h)).trans' HC2.out (fun _ _ h => h.imp id fun h => by omega)), HH (HC2.out.blk (KR.out.after (below_drew (one_box wr (.cells #[.int .i64 3, .int .i64 (j : Int)] 212)))) (by have := HMM.out; omega)), HH (HC2.out.blk (KA.out.after (below_drew (one_box wr (.cells #[.int .i64 3, .int .i64 (j : Int)] 212)))) (by have := HMM.out; omega))⟩
                  case measure => simp [intOf]; omega
                exact AllReadyH.nil
              exact AllReadyH.nil
            refine AllReadyH.cons rfl (fun K hK => ?_) ?_
            · go_simp
              refine hK.out _ _ (HH trivial) (fun hHeld => ?_)
              clear hK K
              refine rdy [3] ?_
              refine AllReadyH.cons rfl (fun K hK => ?_) ?_
              · go_simp
                refine hK.out _ _ (HH trivial) (fun hHeld => ?_)
                clear hK K
                refine rdy [6] ?_
                refine AllReadyH.cons rfl (fun K hK => ?_) ?_
                · go_simp
                  go_at_call 155
                  refine (HG.out _ (by repeat (first | exact Below.refl _ _ | exact one_box _ _ | refine below_drewN ?_ _ | refine below_drew ?_ | refine Below.alloc ?_ (by first | omega | (simp; done) | (simp; omega)) _))).mono ?_
                  rintro e w2 ⟨rfl, hm2, hc2⟩
                  have HC2 := HH hc2.out.1
                  have HM2 := HH hm2.out
                  clear hm2 hc2
                  dsimp only
                  refine hK.out _ _ (HH trivial) (fun hHeld => ?_)
                  clear hK K
                  refine tak 7 ?vuc26 rfl ?hyuc26 ?restuc26
                  case hyuc26 => (intro w' hSw; clear hSw; go_simp; try with_reducible rfl)
                  simp only [ptk]
                  refine wpAnyH_done (by kernel_rfl) ?_ _
                  go_wp2
                  go_roundw
                  case rel => exact ⟨q + 1, by go_num, by omega, HM2, HH (right_more HR.out HT.out CODE.out), HH ((HC.out.trans' (Ch.of_below (X := fun k => k = M ∨ w.heap.size ≤ k) (below_drew (one_box wr (.cells #[.int .i64 3, .int .i64 (j : Int)] 212)))) (fun _ _ h => h)).trans' HC2.out (fun _ _ h => h.imp id fun h => by omega)), HH (HC2.out.blk (KR.out.after (below_drew (one_box wr (.cells #[.int .i64 3, .int .i64 (j : Int)] 212)))) (by have := HMM.out; omega)), HH (HC2.out.blk (KA.out.after (below_drew (one_box wr (.cells #[.int .i64 3, .int .i64 (j : Int)] 212)))) (by have := HMM.out; omega))⟩
                  case measure => simp [intOf]; omega
                exact AllReadyH.nil
              exact AllReadyH.nil
            exact AllReadyH.nil
          refine AllReadyH.cons rfl (fun K hK => ?_) ?_
          · go_simp
            refine hK.out _ _ (HH trivial) (fun hHeld => ?_)
            clear hK K
            refine rdy [1] ?_
            refine AllReadyH.cons rfl (fun K hK => ?_) ?_
            · go_simp
              refine hK.out _ _ (HH trivial) (fun hHeld => ?_)
              clear hK K
              refine tak 2 ?vuc27 rfl ?hyuc27 ?restuc27
              case hyuc27 => (intro w' hSw; clear hSw; go_simp; try with_reducible rfl)
              simp only [ptk]
              refine rdy [3] ?_
              refine AllReadyH.cons rfl (fun K hK => ?_) ?_
              · go_simp
                refine hK.out _ _ (HH trivial) (fun hHeld => ?_)
                clear hK K
                refine rdy [6] ?_
                refine AllReadyH.cons rfl (fun K hK => ?_) ?_
                · go_simp
                  go_at_call 155
                  refine (HG.out _ (by repeat (first | exact Below.refl _ _ | exact one_box _ _ | refine below_drewN ?_ _ | refine below_drew ?_ | refine Below.alloc ?_ (by first | omega | (simp; done) | (simp; omega)) _))).mono ?_
                  rintro e w2 ⟨rfl, hm2, hc2⟩
                  have HC2 := HH hc2.out.1
                  have HM2 := HH hm2.out
                  clear hm2 hc2
                  dsimp only
                  refine hK.out _ _ (HH trivial) (fun hHeld => ?_)
                  clear hK K
                  refine tak 7 ?vuc28 rfl ?hyuc28 ?restuc28
                  case hyuc28 => (intro w' hSw; clear hSw; go_simp; try with_reducible rfl)
                  simp only [ptk]
                  refine wpAnyH_done (by kernel_rfl) ?_ _
                  go_wp2
                  go_roundw
                  case rel => exact ⟨q + 1, by go_num, by omega, HM2, HH (right_more HR.out HT.out CODE.out), HH ((HC.out.trans' (Ch.of_below (X := fun k => k = M ∨ w.heap.size ≤ k) (below_drew (one_box wr (.cells #[.int .i64 3, .int .i64 (j : Int)] 212)))) (fun _ _ h => h)).trans' HC2.out (fun _ _ h => h.imp id fun h => by omega)), HH (HC2.out.blk (KR.out.after (below_drew (one_box wr (.cells #[.int .i64 3, .int .i64 (j : Int)] 212)))) (by have := HMM.out; omega)), HH (HC2.out.blk (KA.out.after (below_drew (one_box wr (.cells #[.int .i64 3, .int .i64 (j : Int)] 212)))) (by have := HMM.out; omega))⟩
                  case measure => simp [intOf]; omega
                exact AllReadyH.nil
              exact AllReadyH.nil
            exact AllReadyH.nil
          exact AllReadyH.nil
        · simp only [he, if_false] at HG
          have he2 : (er == 0) = false := by simpa using he
          have HE : Hid (errW (numX x) = ⟨er, ((3 : Nat) : Int), (j : Int)⟩) := HH (right_wrong HR.out HT.out HLL.out HLI.out he)
          have HNE := HH he
          go_wp2_with fail
          refine wp_region_held_drew (S := fun w' => Hid True) (by kernel_rfl) (HH trivial) (fun hHeld => ?_)
          refine tak 0 ?vuc29 rfl ?hyuc29 ?restuc29
          case hyuc29 => (intro w' hSw; clear hSw; go_simp; try with_reducible rfl)
          simp only [ptk]
          refine tak 4 ?vuc30 rfl ?hyuc30 ?restuc30
          case hyuc30 => (intro w' hSw; clear hSw; go_simp; try with_reducible rfl)
          simp only [ptk]
          refine rdy [1, 5] ?_
          refine AllReadyH.cons rfl (fun K hK => ?_) ?_
          · go_simp
            refine hK.out _ _ (HH trivial) (fun hHeld => ?_)
            clear hK K
            refine tak 2 ?vuc31 rfl ?hyuc31 ?restuc31
            case hyuc31 => (intro w' hSw; clear hSw; go_simp; try with_reducible rfl)
            simp only [ptk]
            refine rdy [3, 5] ?_
            refine AllReadyH.cons rfl (fun K hK => ?_) ?_
            · go_simp
              refine hK.out _ _ (HH trivial) (fun hHeld => ?_)
              clear hK K
              refine rdy [5] ?_
              refine AllReadyH.cons rfl (fun K hK => ?_) ?_
              · go_simp
                refine hK.out _ _ (HH trivial) (fun hHeld => ?_)
                clear hK K
                refine rdy [6] ?_
                refine AllReadyH.cons rfl (fun K hK => ?_) ?_
                · go_simp
                  go_at_call 155
                  refine (HG.out _ (by repeat (first | exact Below.refl _ _ | exact one_box _ _ | refine below_drewN ?_ _ | refine below_drew ?_ | refine Below.alloc ?_ (by first | omega | (simp; done) | (simp; omega)) _))).mono ?_
                  rintro e w2 ⟨rfl, hm2, hc2⟩
                  have HB2 := HH (hc2.out.2 HNE.out)
                  have HBW : Hid (Below wr.heap.size wr w2) := HH (keep_trans (below_drew (one_box _ _)) HB2.out)
                  have K5 : Hid (Blk w2 wr.heap.size 212 [.int .i64 3, .int .i64 (j : Int)]) := HH (Blk.after (blk_dr (Blk.new wr _ _)) HB2.out)
                  have KR2 := HH (KR.out.after HBW.out)
                  clear hm2 hc2
                  dsimp only
                  refine hK.out _ _ (HH trivial) (fun hHeld => ?_)
                  clear hK K
                  refine tak 7 ?vuc32 rfl ?hyuc32 ?restuc32
                  case hyuc32 => (intro w' hSw; clear hSw; go_simp; try with_reducible rfl)
                  simp only [ptk]
                  refine wpAnyH_done (by kernel_rfl) ?_ _
                  have p0 : w2.cell? ⟨wr.heap.size, 0, none⟩ = some (.int .i64 3) := K5.out.cell 0
                  have p1 : w2.cell? ⟨wr.heap.size, 1, none⟩ = some (.int .i64 (j : Int)) := K5.out.cell 1
                  have q0 : w2.cell? ⟨w.heap.size, 0, none⟩ = some (.int .i64 0) := KR2.out.cell 0
                  have q1 : w2.cell? ⟨w.heap.size, 1, none⟩ = some (.int .i64 0) := KR2.out.cell 1
                  have q2 : w2.cell? ⟨w.heap.size, 2, none⟩ = some (.int .i64 0) := KR2.out.cell 2
                  have qf : ∀ i, w2.frozen? ⟨w.heap.size, i, none⟩ = false := fun i => KR2.out.frozen i
                  go_wp2
                  refine bodyPost_ret (chk_read rfl (((KR2.out.set_ 0 _).set_ 1 _).set_ 2 _)) rfl ?_
                  refine ⟨by first | (rw [HE.out]; done) | (rw [HE.out]; rfl), fun h => ?_, (((HC.out.trans' (Ch.of_below (X := fun k => k = M ∨ w.heap.size ≤ k) HBW.out) (fun _ _ h => h)).setCell (p := ⟨w.heap.size, 0, none⟩) (.inl (.inr (Nat.le_refl _))) _).setCell (p := ⟨w.heap.size, 1, none⟩) (.inl (.inr (Nat.le_refl _))) _).setCell (p := ⟨w.heap.size, 2, none⟩) (.inl (.inr (Nat.le_refl _))) _⟩
                  rw [HE.out] at h
                  exact absurd (congrArg WrM.err h) HNE.out
                exact AllReadyH.nil
              exact AllReadyH.nil
            refine AllReadyH.cons rfl (fun K hK => ?_) ?_
            · go_simp
              refine hK.out _ _ (HH trivial) (fun hHeld => ?_)
              clear hK K
              refine rdy [3] ?_
              refine AllReadyH.cons rfl (fun K hK => ?_) ?_
              · go_simp
                refine hK.out _ _ (HH trivial) (fun hHeld => ?_)
                clear hK K
                refine rdy [6] ?_
                refine AllReadyH.cons rfl (fun K hK => ?_) ?_
                · go_simp
                  go_at_call 155
                  refine (HG.out _ (by repeat (first | exact Below.refl _ _ | exact one_box _ _ | refine below_drewN ?_ _ | refine below_drew ?_ | refine Below.alloc ?_ (by first | omega | (simp; done) | (simp; omega)) _))).mono ?_
                  rintro e w2 ⟨rfl, hm2, hc2⟩
                  have HB2 := HH (hc2.out.2 HNE.out)
                  have HBW : Hid (Below wr.heap.size wr w2) := HH (keep_trans (below_drew (one_box _ _)) HB2.out)
                  have K5 : Hid (Blk w2 wr.heap.size 212 [.int .i64 3, .int .i64 (j : Int)]) := HH (Blk.after (blk_dr (Blk.new wr _ _)) HB2.out)
                  have KR2 := HH (KR.out.after HBW.out)
                  clear hm2 hc2
                  dsimp only
                  refine hK.out _ _ (HH trivial) (fun hHeld => ?_)
                  clear hK K
                  refine tak 7 ?vuc33 rfl ?hyuc33 ?restuc33
                  case hyuc33 => (intro w' hSw; clear hSw; go_simp; try with_reducible rfl)
                  simp only [ptk]
                  refine wpAnyH_done (by kernel_rfl) ?_ _
                  have p0 : w2.cell? ⟨wr.heap.size, 0, none⟩ = some (.int .i64 3) := K5.out.cell 0
                  have p1 : w2.cell? ⟨wr.heap.size, 1, none⟩ = some (.int .i64 (j : Int)) := K5.out.cell 1
                  have q0 : w2.cell? ⟨w.heap.size, 0, none⟩ = some (.int .i64 0) := KR2.out.cell 0
                  have q1 : w2.cell? ⟨w.heap.size, 1, none⟩ = some (.int .i64 0) := KR2.out.cell 1
                  have q2 : w2.cell? ⟨w.heap.size, 2, none⟩ = some (.int .i64 0) := KR2.out.cell 2
                  have qf : ∀ i, w2.frozen? ⟨w.heap.size, i, none⟩ = false := fun i => KR2.out.frozen i
                  go_wp2
                  refine bodyPost_ret (chk_read rfl (((KR2.out.set_ 0 _).set_ 1 _).set_ 2 _)) rfl ?_
                  refine ⟨by first | (rw [HE.out]; done) | (rw [HE.out]; rfl), fun h => ?_, (((HC.out.trans' (Ch.of_below (X := fun k => k = M ∨ w.heap.size ≤ k) HBW.out) (fun _ _ h => h)).setCell (p := ⟨w.heap.size, 0, none⟩) (.inl (.inr (Nat.le_refl _))) _).setCell (p := ⟨w.heap.size, 1, none⟩) (.inl (.inr (Nat.le_refl _))) _).setCell (p := ⟨w.heap.size, 2, none⟩) (.inl (.inr (Nat.le_refl _))) _⟩
                  rw [HE.out] at h
                  exact absurd (congrArg WrM.err h) HNE.out
                exact AllReadyH.nil
              exact AllReadyH.nil
            exact AllReadyH.nil
          refine AllReadyH.cons rfl (fun K hK => ?_) ?_
          · go_simp
            refine hK.out _ _ (HH trivial) (fun hHeld => ?_)
            clear hK K
            refine rdy [1] ?_
            refine AllReadyH.cons rfl (fun K hK => ?_) ?_
            · go_simp
              refine hK.out _ _ (HH trivial) (fun hHeld => ?_)
              clear hK K
              refine tak 2 ?vuc34 rfl ?hyuc34 ?restuc34
              case hyuc34 => (intro w' hSw; clear hSw; go_simp; try with_reducible rfl)
              simp only [ptk]
              refine rdy [3] ?_
              refine AllReadyH.cons rfl (fun K hK => ?_) ?_
              · go_simp
                refine hK.out _ _ (HH trivial) (fun hHeld => ?_)
                clear hK K
                refine rdy [6] ?_
                refine AllReadyH.cons rfl (fun K hK => ?_) ?_
                · go_simp
                  go_at_call 155
                  refine (HG.out _ (by repeat (first | exact Below.refl _ _ | exact one_box _ _ | refine below_drewN ?_ _ | refine below_drew ?_ | refine Below.alloc ?_ (by first | omega | (simp; done) | (simp; omega)) _))).mono ?_
                  rintro e w2 ⟨rfl, hm2, hc2⟩
                  have HB2 := HH (hc2.out.2 HNE.out)
                  have HBW : Hid (Below wr.heap.size wr w2) := HH (keep_trans (below_drew (one_box _ _)) HB2.out)
                  have K5 : Hid (Blk w2 wr.heap.size 212 [.int .i64 3, .int .i64 (j : Int)]) := HH (Blk.after (blk_dr (Blk.new wr _ _)) HB2.out)
                  have KR2 := HH (KR.out.after HBW.out)
                  clear hm2 hc2
                  dsimp only
                  refine hK.out _ _ (HH trivial) (fun hHeld => ?_)
                  clear hK K
                  refine tak 7 ?vuc35 rfl ?hyuc35 ?restuc35
                  case hyuc35 => (intro w' hSw; clear hSw; go_simp; try with_reducible rfl)
                  simp only [ptk]
                  refine wpAnyH_done (by kernel_rfl) ?_ _
                  have p0 : w2.cell? ⟨wr.heap.size, 0, none⟩ = some (.int .i64 3) := K5.out.cell 0
                  have p1 : w2.cell? ⟨wr.heap.size, 1, none⟩ = some (.int .i64 (j : Int)) := K5.out.cell 1
                  have q0 : w2.cell? ⟨w.heap.size, 0, none⟩ = some (.int .i64 0) := KR2.out.cell 0
                  have q1 : w2.cell? ⟨w.heap.size, 1, none⟩ = some (.int .i64 0) := KR2.out.cell 1
                  have q2 : w2.cell? ⟨w.heap.size, 2, none⟩ = some (.int .i64 0) := KR2.out.cell 2
                  have qf : ∀ i, w2.frozen? ⟨w.heap.size, i, none⟩ = false := fun i => KR2.out.frozen i
                  go_wp2
                  refine bodyPost_ret (chk_read rfl (((KR2.out.set_ 0 _).set_ 1 _).set_ 2 _)) rfl ?_
                  refine ⟨by first | (rw [HE.out]; done) | (rw [HE.out]; rfl), fun h => ?_, (((HC.out.trans' (Ch.of_below (X := fun k => k = M ∨ w.heap.size ≤ k) HBW.out) (fun _ _ h => h)).setCell (p := ⟨w.heap.size, 0, none⟩) (.inl (.inr (Nat.le_refl _))) _).setCell (p := ⟨w.heap.size, 1, none⟩) (.inl (.inr (Nat.le_refl _))) _).setCell (p := ⟨w.heap.size, 2, none⟩) (.inl (.inr (Nat.le_refl _))) _⟩
                  rw [HE.out] at h
                  exact absurd (congrArg WrM.err h) HNE.out
                exact AllReadyH.nil
              exact AllReadyH.nil
            exact AllReadyH.nil
          exact AllReadyH.nil
      · obtain ⟨a, ha⟩ : ∃ a, x.routes[j]? = some a := ⟨_, List.getElem?_eq_getElem hj⟩
        have hm := List.mem_of_getElem? ha
        have HLL : Hid ((errsW (numX x))[4]? = some ((numX x).routes.map routeE)) := HH rfl
        have HLI : Hid (((numX x).routes.map routeE)[j]? = some (routeE (nRoute x.stops a))) := HH (by simp [numX, ha])
        have HWN : Hid (wAt x (q + 1) = { wAt x q with routes := (wAt x q).routes ++ [nRoute x.stops a] }) := HH (wAt_route x q j a ha hqo)
        have HG := HH (fun w1 (hb : Below wr.heap.size wr w1) => route_any (HM.out.after hb) few.2.2.1 HL.out.l4 j a ha (HL.out.lr a hm) (NL.out.r a hm))
        clear hm ha hqo hj few
        have t0 : wr.cell? (ad.add (q * 2)) = some (.int .i64 4) := g0
        have t1 : wr.cell? ⟨(ad.add (q * 2)).block, (ad.add (q * 2)).off + 1, none⟩ = some (.int .i64 (j : Int)) := g1
        have ka : wr.cell? ⟨w.heap.size + 1, 4, none⟩ = some (.func (.func 156) #[.pointer (some ⟨M, 0, none⟩)] #[]) := KA.out.cell 4
        clear g0 g1
        rw [← HWN.out] at HG
        obtain ⟨er, her⟩ : ∃ er, er = routeE (nRoute x.stops a) := ⟨_, rfl⟩
        rw [← her] at HG HLI
        clear her
        by_cases he : er = 0
        · subst he
          simp only [if_true] at HG
          have CODE : Hid (codeT x (4, j) = 0) := HH (code_at HLL.out HLI.out)
          go_wp2_with fail
          refine wp_region_held_drew (S := fun w' => Hid True) (by kernel_rfl) (HH trivial) (fun hHeld => ?_)
          refine tak 0 ?vuc36 rfl ?hyuc36 ?restuc36
          case hyuc36 => (intro w' hSw; clear hSw; go_simp; try with_reducible rfl)
          simp only [ptk]
          refine tak 4 ?vuc37 rfl ?hyuc37 ?restuc37
          case hyuc37 => (intro w' hSw; clear hSw; go_simp; try with_reducible rfl)
          simp only [ptk]
          refine rdy [1, 5] ?_
          refine AllReadyH.cons rfl (fun K hK => ?_) ?_
          · go_simp
            refine hK.out _ _ (HH trivial) (fun hHeld => ?_)
            clear hK K
            refine tak 2 ?vuc38 rfl ?hyuc38 ?restuc38
            case hyuc38 => (intro w' hSw; clear hSw; go_simp; try with_reducible rfl)
            simp only [ptk]
            refine rdy [3, 5] ?_
            refine AllReadyH.cons rfl (fun K hK => ?_) ?_
            · go_simp
              refine hK.out _ _ (HH trivial) (fun hHeld => ?_)
              clear hK K
              refine rdy [5] ?_
              refine AllReadyH.cons rfl (fun K hK => ?_) ?_
              · go_simp
                refine hK.out _ _ (HH trivial) (fun hHeld => ?_)
                clear hK K
                refine rdy [6] ?_
                refine AllReadyH.cons rfl (fun K hK => ?_) ?_
                · go_simp
                  go_at_call 156
                  refine (HG.out _ (by repeat (first | exact Below.refl _ _ | exact one_box _ _ | refine below_drewN ?_ _ | refine below_drew ?_ | refine Below.alloc ?_ (by first | omega | (simp; done) | (simp; omega)) _))).mono ?_
                  rintro e w2 ⟨rfl, hm2, hc2⟩
                  have HC2 := HH hc2.out.1
                  have HM2 := HH hm2.out
                  clear hm2 hc2
                  dsimp only
                  refine hK.out _ _ (HH trivial) (fun hHeld => ?_)
                  clear hK K
                  refine tak 7 ?vuc39 rfl ?hyuc39 ?restuc39
                  case hyuc39 => (intro w' hSw; clear hSw; go_simp; try with_reducible rfl)
                  simp only [ptk]
                  refine wpAnyH_done (by kernel_rfl) ?_ _
                  go_wp2
                  go_roundw
                  case rel => exact ⟨q + 1, by go_num, by omega, HM2, HH (right_more HR.out HT.out CODE.out), HH ((HC.out.trans' (Ch.of_below (X := fun k => k = M ∨ w.heap.size ≤ k) (below_drew (one_box wr (.cells #[.int .i64 4, .int .i64 (j : Int)] 212)))) (fun _ _ h => h)).trans' HC2.out (fun _ _ h => h.imp id fun h => by omega)), HH (HC2.out.blk (KR.out.after (below_drew (one_box wr (.cells #[.int .i64 4, .int .i64 (j : Int)] 212)))) (by have := HMM.out; omega)), HH (HC2.out.blk (KA.out.after (below_drew (one_box wr (.cells #[.int .i64 4, .int .i64 (j : Int)] 212)))) (by have := HMM.out; omega))⟩
                  case measure => simp [intOf]; omega
                exact AllReadyH.nil
              exact AllReadyH.nil
            refine AllReadyH.cons rfl (fun K hK => ?_) ?_
            · go_simp
              refine hK.out _ _ (HH trivial) (fun hHeld => ?_)
              clear hK K
              refine rdy [3] ?_
              refine AllReadyH.cons rfl (fun K hK => ?_) ?_
              · go_simp
                refine hK.out _ _ (HH trivial) (fun hHeld => ?_)
                clear hK K
                refine rdy [6] ?_
                refine AllReadyH.cons rfl (fun K hK => ?_) ?_
                · go_simp
                  go_at_call 156
                  refine (HG.out _ (by repeat (first | exact Below.refl _ _ | exact one_box _ _ | refine below_drewN ?_ _ | refine below_drew ?_ | refine Below.alloc ?_ (by first | omega | (simp; done) | (simp; omega)) _))).mono ?_
                  rintro e w2 ⟨rfl, hm2, hc2⟩
                  have HC2 := HH hc2.out.1
                  have HM2 := HH hm2.out
                  clear hm2 hc2
                  dsimp only
                  refine hK.out _ _ (HH trivial) (fun hHeld => ?_)
                  clear hK K
                  refine tak 7 ?vuc40 rfl ?hyuc40 ?restuc40
                  case hyuc40 => (intro w' hSw; clear hSw; go_simp; try with_reducible rfl)
                  simp only [ptk]
                  refine wpAnyH_done (by kernel_rfl) ?_ _
                  go_wp2
                  go_roundw
                  case rel => exact ⟨q + 1, by go_num, by omega, HM2, HH (right_more HR.out HT.out CODE.out), HH ((HC.out.trans' (Ch.of_below (X := fun k => k = M ∨ w.heap.size ≤ k) (below_drew (one_box wr (.cells #[.int .i64 4, .int .i64 (j : Int)] 212)))) (fun _ _ h => h)).trans' HC2.out (fun _ _ h => h.imp id fun h => by omega)), HH (HC2.out.blk (KR.out.after (below_drew (one_box wr (.cells #[.int .i64 4, .int .i64 (j : Int)] 212)))) (by have := HMM.out; omega)), HH (HC2.out.blk (KA.out.after (below_drew (one_box wr (.cells #[.int .i64 4, .int .i64 (j : Int)] 212)))) (by have := HMM.out; omega))⟩
                  case measure => simp [intOf]; omega
                exact AllReadyH.nil
              exact AllReadyH.nil
            exact AllReadyH.nil
          refine AllReadyH.cons rfl (fun K hK => ?_) ?_
          · go_simp
            refine hK.out _ _ (HH trivial) (fun hHeld => ?_)
            clear hK K
            refine rdy [1] ?_
            refine AllReadyH.cons rfl (fun K hK => ?_) ?_
            · go_simp
              refine hK.out _ _ (HH trivial) (fun hHeld => ?_)
              clear hK K
              refine tak 2 ?vuc41 rfl ?hyuc41 ?restuc41
              case hyuc41 => (intro w' hSw; clear hSw; go_simp; try with_reducible rfl)
              simp only [ptk]
              refine rdy [3] ?_
              refine AllReadyH.cons rfl (fun K hK => ?_) ?_
              · go_simp
                refine hK.out _ _ (HH trivial) (fun hHeld => ?_)
                clear hK K
                refine rdy [6] ?_
                refine AllReadyH.cons rfl (fun K hK => ?_) ?_
                · go_simp
                  go_at_call 156
                  refine (HG.out _ (by repeat (first | exact Below.refl _ _ | exact one_box _ _ | refine below_drewN ?_ _ | refine below_drew ?_ | refine Below.alloc ?_ (by first | omega | (simp; done) | (simp; omega)) _))).mono ?_
                  rintro e w2 ⟨rfl, hm2, hc2⟩
                  have HC2 := HH hc2.out.1
                  have HM2 := HH hm2.out
                  clear hm2 hc2
                  dsimp only
                  refine hK.out _ _ (HH trivial) (fun hHeld => ?_)
                  clear hK K
                  refine tak 7 ?vuc42 rfl ?hyuc42 ?restuc42
                  case hyuc42 => (intro w' hSw; clear hSw; go_simp; try with_reducible rfl)
                  simp only [ptk]
                  refine wpAnyH_done (by kernel_rfl) ?_ _
                  go_wp2
                  go_roundw
                  case rel => exact ⟨q + 1, by go_num, by omega, HM2, HH (right_more HR.out HT.out CODE.out), HH ((HC.out.trans' (Ch.of_below (X := fun k => k = M ∨ w.heap.size ≤ k) (below_drew (one_box wr (.cells #[.int .i64 4, .int .i64 (j : Int)] 212)))) (fun _ _ h => h)).trans' HC2.out (fun _ _ h => h.imp id fun h => by omega)), HH (HC2.out.blk (KR.out.after (below_drew (one_box wr (.cells #[.int .i64 4, .int .i64 (j : Int)] 212)))) (by have := HMM.out; omega)), HH (HC2.out.blk (KA.out.after (below_drew (one_box wr (.cells #[.int .i64 4, .int .i64 (j : Int)] 212)))) (by have := HMM.out; omega))⟩
                  case measure => simp [intOf]; omega
                exact AllReadyH.nil
              exact AllReadyH.nil
            exact AllReadyH.nil
          exact AllReadyH.nil
        · simp only [he, if_false] at HG
          have he2 : (er == 0) = false := by simpa using he
          have HE : Hid (errW (numX x) = ⟨er, ((4 : Nat) : Int), (j : Int)⟩) := HH (right_wrong HR.out HT.out HLL.out HLI.out he)
          have HNE := HH he
          go_wp2_with fail
          refine wp_region_held_drew (S := fun w' => Hid True) (by kernel_rfl) (HH trivial) (fun hHeld => ?_)
          refine tak 0 ?vuc43 rfl ?hyuc43 ?restuc43
          case hyuc43 => (intro w' hSw; clear hSw; go_simp; try with_reducible rfl)
          simp only [ptk]
          refine tak 4 ?vuc44 rfl ?hyuc44 ?restuc44
          case hyuc44 => (intro w' hSw; clear hSw; go_simp; try with_reducible rfl)
          simp only [ptk]
          refine rdy [1, 5] ?_
          refine AllReadyH.cons rfl (fun K hK => ?_) ?_
          · go_simp
            refine hK.out _ _ (HH trivial) (fun hHeld => ?_)
            clear hK K
            refine tak 2 ?vuc45 rfl ?hyuc45 ?restuc45
            case hyuc45 => (intro w' hSw; clear hSw; go_simp; try with_reducible rfl)
            simp only [ptk]
            refine rdy [3, 5] ?_
            refine AllReadyH.cons rfl (fun K hK => ?_) ?_
            · go_simp
              refine hK.out _ _ (HH trivial) (fun hHeld => ?_)
              clear hK K
              refine rdy [5] ?_
              refine AllReadyH.cons rfl (fun K hK => ?_) ?_
              · go_simp
                refine hK.out _ _ (HH trivial) (fun hHeld => ?_)
                clear hK K
                refine rdy [6] ?_
                refine AllReadyH.cons rfl (fun K hK => ?_) ?_
                · go_simp
                  go_at_call 156
                  refine (HG.out _ (by repeat (first | exact Below.refl _ _ | exact one_box _ _ | refine below_drewN ?_ _ | refine below_drew ?_ | refine Below.alloc ?_ (by first | omega | (simp; done) | (simp; omega)) _))).mono ?_
                  rintro e w2 ⟨rfl, hm2, hc2⟩
                  have HB2 := HH (hc2.out.2 HNE.out)
                  have HBW : Hid (Below wr.heap.size wr w2) := HH (keep_trans (below_drew (one_box _ _)) HB2.out)
                  have K5 : Hid (Blk w2 wr.heap.size 212 [.int .i64 4, .int .i64 (j : Int)]) := HH (Blk.after (blk_dr (Blk.new wr _ _)) HB2.out)
                  have KR2 := HH (KR.out.after HBW.out)
                  clear hm2 hc2
                  dsimp only
                  refine hK.out _ _ (HH trivial) (fun hHeld => ?_)
                  clear hK K
                  refine tak 7 ?vuc46 rfl ?hyuc46 ?restuc46
                  case hyuc46 => (intro w' hSw; clear hSw; go_simp; try with_reducible rfl)
                  simp only [ptk]
                  refine wpAnyH_done (by kernel_rfl) ?_ _
                  have p0 : w2.cell? ⟨wr.heap.size, 0, none⟩ = some (.int .i64 4) := K5.out.cell 0
                  have p1 : w2.cell? ⟨wr.heap.size, 1, none⟩ = some (.int .i64 (j : Int)) := K5.out.cell 1
                  have q0 : w2.cell? ⟨w.heap.size, 0, none⟩ = some (.int .i64 0) := KR2.out.cell 0
                  have q1 : w2.cell? ⟨w.heap.size, 1, none⟩ = some (.int .i64 0) := KR2.out.cell 1
                  have q2 : w2.cell? ⟨w.heap.size, 2, none⟩ = some (.int .i64 0) := KR2.out.cell 2
                  have qf : ∀ i, w2.frozen? ⟨w.heap.size, i, none⟩ = false := fun i => KR2.out.frozen i
                  go_wp2
                  refine bodyPost_ret (chk_read rfl (((KR2.out.set_ 0 _).set_ 1 _).set_ 2 _)) rfl ?_
                  refine ⟨by first | (rw [HE.out]; done) | (rw [HE.out]; rfl), fun h => ?_, (((HC.out.trans' (Ch.of_below (X := fun k => k = M ∨ w.heap.size ≤ k) HBW.out) (fun _ _ h => h)).setCell (p := ⟨w.heap.size, 0, none⟩) (.inl (.inr (Nat.le_refl _))) _).setCell (p := ⟨w.heap.size, 1, none⟩) (.inl (.inr (Nat.le_refl _))) _).setCell (p := ⟨w.heap.size, 2, none⟩) (.inl (.inr (Nat.le_refl _))) _⟩
                  rw [HE.out] at h
                  exact absurd (congrArg WrM.err h) HNE.out
                exact AllReadyH.nil
              exact AllReadyH.nil
            refine AllReadyH.cons rfl (fun K hK => ?_) ?_
            · go_simp
              refine hK.out _ _ (HH trivial) (fun hHeld => ?_)
              clear hK K
              refine rdy [3] ?_
              refine AllReadyH.cons rfl (fun K hK => ?_) ?_
              · go_simp
                refine hK.out _ _ (HH trivial) (fun hHeld => ?_)
                clear hK K
                refine rdy [6] ?_
                refine AllReadyH.cons rfl (fun K hK => ?_) ?_
                · go_simp
                  go_at_call 156
                  refine (HG.out _ (by repeat (first | exact Below.refl _ _ | exact one_box _ _ | refine below_drewN ?_ _ | refine below_drew ?_ | refine Below.alloc ?_ (by first | omega | (simp; done) | (simp; omega)) _))).mono ?_
                  rintro e w2 ⟨rfl, hm2, hc2⟩
                  have HB2 := HH (hc2.out.2 HNE.out)
                  have HBW : Hid (Below wr.heap.size wr w2) := HH (keep_trans (below_drew (one_box _ _)) HB2.out)
                  have K5 : Hid (Blk w2 wr.heap.size 212 [.int .i64 4, .int .i64 (j : Int)]) := HH (Blk.after (blk_dr (Blk.new wr _ _)) HB2.out)
                  have KR2 := HH (KR.out.after HBW.out)
                  clear hm2 hc2
                  dsimp only
                  refine hK.out _ _ (HH trivial) (fun hHeld => ?_)
                  clear hK K
                  refine tak 7 ?vuc47 rfl ?hyuc47 ?restuc47
                  case hyuc47 => (intro w' hSw; clear hSw; go_simp; try with_reducible rfl)
                  simp only [ptk]
                  refine wpAnyH_done (by kernel_rfl) ?_ _
                  have p0 : w2.cell? ⟨wr.heap.size, 0, none⟩ = some (.int .i64 4) := K5.out.cell 0
                  have p1 : w2.cell? ⟨wr.heap.size, 1, none⟩ = some (.int .i64 (j : Int)) := K5.out.cell 1
                  have q0 : w2.cell? ⟨w.heap.size, 0, none⟩ = some (.int .i64 0) := KR2.out.cell 0
                  have q1 : w2.cell? ⟨w.heap.size, 1, none⟩ = some (.int .i64 0) := KR2.out.cell 1
                  have q2 : w2.cell? ⟨w.heap.size, 2, none⟩ = some (.int .i64 0) := KR2.out.cell 2
                  have qf : ∀ i, w2.frozen? ⟨w.heap.size, i, none⟩ = false := fun i => KR2.out.frozen i
                  go_wp2
                  refine bodyPost_ret (chk_read rfl (((KR2.out.set_ 0 _).set_ 1 _).set_ 2 _)) rfl ?_
                  refine ⟨by first | (rw [HE.out]; done) | (rw [HE.out]; rfl), fun h => ?_, (((HC.out.trans' (Ch.of_below (X := fun k => k = M ∨ w.heap.size ≤ k) HBW.out) (fun _ _ h => h)).setCell (p := ⟨w.heap.size, 0, none⟩) (.inl (.inr (Nat.le_refl _))) _).setCell (p := ⟨w.heap.size, 1, none⟩) (.inl (.inr (Nat.le_refl _))) _).setCell (p := ⟨w.heap.size, 2, none⟩) (.inl (.inr (Nat.le_refl _))) _⟩
                  rw [HE.out] at h
                  exact absurd (congrArg WrM.err h) HNE.out
                exact AllReadyH.nil
              exact AllReadyH.nil
            exact AllReadyH.nil
          refine AllReadyH.cons rfl (fun K hK => ?_) ?_
          · go_simp
            refine hK.out _ _ (HH trivial) (fun hHeld => ?_)
            clear hK K
            refine rdy [1] ?_
            refine AllReadyH.cons rfl (fun K hK => ?_) ?_
            · go_simp
              refine hK.out _ _ (HH trivial) (fun hHeld => ?_)
              clear hK K
              refine tak 2 ?vuc48 rfl ?hyuc48 ?restuc48
              case hyuc48 => (intro w' hSw; clear hSw; go_simp; try with_reducible rfl)
              simp only [ptk]
              refine rdy [3] ?_
              refine AllReadyH.cons rfl (fun K hK => ?_) ?_
              · go_simp
                refine hK.out _ _ (HH trivial) (fun hHeld => ?_)
                clear hK K
                refine rdy [6] ?_
                refine AllReadyH.cons rfl (fun K hK => ?_) ?_
                · go_simp
                  go_at_call 156
                  refine (HG.out _ (by repeat (first | exact Below.refl _ _ | exact one_box _ _ | refine below_drewN ?_ _ | refine below_drew ?_ | refine Below.alloc ?_ (by first | omega | (simp; done) | (simp; omega)) _))).mono ?_
                  rintro e w2 ⟨rfl, hm2, hc2⟩
                  have HB2 := HH (hc2.out.2 HNE.out)
                  have HBW : Hid (Below wr.heap.size wr w2) := HH (keep_trans (below_drew (one_box _ _)) HB2.out)
                  have K5 : Hid (Blk w2 wr.heap.size 212 [.int .i64 4, .int .i64 (j : Int)]) := HH (Blk.after (blk_dr (Blk.new wr _ _)) HB2.out)
                  have KR2 := HH (KR.out.after HBW.out)
                  clear hm2 hc2
                  dsimp only
                  refine hK.out _ _ (HH trivial) (fun hHeld => ?_)
                  clear hK K
                  refine tak 7 ?vuc49 rfl ?hyuc49 ?restuc49
                  case hyuc49 => (intro w' hSw; clear hSw; go_simp; try with_reducible rfl)
                  simp only [ptk]
                  refine wpAnyH_done (by kernel_rfl) ?_ _
                  have p0 : w2.cell? ⟨wr.heap.size, 0, none⟩ = some (.int .i64 4) := K5.out.cell 0
                  have p1 : w2.cell? ⟨wr.heap.size, 1, none⟩ = some (.int .i64 (j : Int)) := K5.out.cell 1
                  have q0 : w2.cell? ⟨w.heap.size, 0, none⟩ = some (.int .i64 0) := KR2.out.cell 0
                  have q1 : w2.cell? ⟨w.heap.size, 1, none⟩ = some (.int .i64 0) := KR2.out.cell 1
                  have q2 : w2.cell? ⟨w.heap.size, 2, none⟩ = some (.int .i64 0) := KR2.out.cell 2
                  have qf : ∀ i, w2.frozen? ⟨w.heap.size, i, none⟩ = false := fun i => KR2.out.frozen i
                  go_wp2
                  refine bodyPost_ret (chk_read rfl (((KR2.out.set_ 0 _).set_ 1 _).set_ 2 _)) rfl ?_
                  refine ⟨by first | (rw [HE.out]; done) | (rw [HE.out]; rfl), fun h => ?_, (((HC.out.trans' (Ch.of_below (X := fun k => k = M ∨ w.heap.size ≤ k) HBW.out) (fun _ _ h => h)).setCell (p := ⟨w.heap.size, 0, none⟩) (.inl (.inr (Nat.le_refl _))) _).setCell (p := ⟨w.heap.size, 1, none⟩) (.inl (.inr (Nat.le_refl _))) _).setCell (p := ⟨w.heap.size, 2, none⟩) (.inl (.inr (Nat.le_refl _))) _⟩
                  rw [HE.out] at h
                  exact absurd (congrArg WrM.err h) HNE.out
                exact AllReadyH.nil
              exact AllReadyH.nil
            exact AllReadyH.nil
          exact AllReadyH.nil
      · obtain ⟨a, ha⟩ : ∃ a, x.trips[j]? = some a := ⟨_, List.getElem?_eq_getElem hj⟩
        have hm := List.mem_of_getElem? ha
        have HLL : Hid ((errsW (numX x))[5]? = some ((numX x).trips.map tripE)) := HH rfl
        have HLI : Hid (((numX x).trips.map tripE)[j]? = some (tripE (nTrip (namesX x).routes a))) := HH (by simp [numX, ha])
        have HWN : Hid (wAt x (q + 1) = { wAt x q with trips := (wAt x q).trips ++ [nTrip (namesX x).routes a] }) := HH (wAt_trip x q j a ha hqo)
        have HG := HH (fun w1 (hb : Below wr.heap.size wr w1) => trip_any (HM.out.after hb) few.2.2.2.1 HL.out.l5 j a ha (NL.out.t a hm))
        clear hm ha hqo hj few
        have t0 : wr.cell? (ad.add (q * 2)) = some (.int .i64 5) := g0
        have t1 : wr.cell? ⟨(ad.add (q * 2)).block, (ad.add (q * 2)).off + 1, none⟩ = some (.int .i64 (j : Int)) := g1
        have ka : wr.cell? ⟨w.heap.size + 1, 5, none⟩ = some (.func (.func 157) #[.pointer (some ⟨M, 0, none⟩)] #[]) := KA.out.cell 5
        clear g0 g1
        rw [← HWN.out] at HG
        obtain ⟨er, her⟩ : ∃ er, er = tripE (nTrip (namesX x).routes a) := ⟨_, rfl⟩
        rw [← her] at HG HLI
        clear her
        by_cases he : er = 0
        · subst he
          simp only [if_true] at HG
          have CODE : Hid (codeT x (5, j) = 0) := HH (code_at HLL.out HLI.out)
          go_wp2_with fail
          refine wp_region_held_drew (S := fun w' => Hid True) (by kernel_rfl) (HH trivial) (fun hHeld => ?_)
          refine tak 0 ?vuc50 rfl ?hyuc50 ?restuc50
          case hyuc50 => (intro w' hSw; clear hSw; go_simp; try with_reducible rfl)
          simp only [ptk]
          refine tak 4 ?vuc51 rfl ?hyuc51 ?restuc51
          case hyuc51 => (intro w' hSw; clear hSw; go_simp; try with_reducible rfl)
          simp only [ptk]
          refine rdy [1, 5] ?_
          refine AllReadyH.cons rfl (fun K hK => ?_) ?_
          · go_simp
            refine hK.out _ _ (HH trivial) (fun hHeld => ?_)
            clear hK K
            refine tak 2 ?vuc52 rfl ?hyuc52 ?restuc52
            case hyuc52 => (intro w' hSw; clear hSw; go_simp; try with_reducible rfl)
            simp only [ptk]
            refine rdy [3, 5] ?_
            refine AllReadyH.cons rfl (fun K hK => ?_) ?_
            · go_simp
              refine hK.out _ _ (HH trivial) (fun hHeld => ?_)
              clear hK K
              refine rdy [5] ?_
              refine AllReadyH.cons rfl (fun K hK => ?_) ?_
              · go_simp
                refine hK.out _ _ (HH trivial) (fun hHeld => ?_)
                clear hK K
                refine rdy [6] ?_
                refine AllReadyH.cons rfl (fun K hK => ?_) ?_
                · go_simp
                  go_at_call 157
                  refine (HG.out _ (by repeat (first | exact Below.refl _ _ | exact one_box _ _ | refine below_drewN ?_ _ | refine below_drew ?_ | refine Below.alloc ?_ (by first | omega | (simp; done) | (simp; omega)) _))).mono ?_
                  rintro e w2 ⟨rfl, hm2, hc2⟩
                  have HC2 := HH hc2.out.1
                  have HM2 := HH hm2.out
                  clear hm2 hc2
                  dsimp only
                  refine hK.out _ _ (HH trivial) (fun hHeld => ?_)
                  clear hK K
                  refine tak 7 ?vuc53 rfl ?hyuc53 ?restuc53
                  case hyuc53 => (intro w' hSw; clear hSw; go_simp; try with_reducible rfl)
                  simp only [ptk]
                  refine wpAnyH_done (by kernel_rfl) ?_ _
                  go_wp2
                  go_roundw
                  case rel => exact ⟨q + 1, by go_num, by omega, HM2, HH (right_more HR.out HT.out CODE.out), HH ((HC.out.trans' (Ch.of_below (X := fun k => k = M ∨ w.heap.size ≤ k) (below_drew (one_box wr (.cells #[.int .i64 5, .int .i64 (j : Int)] 212)))) (fun _ _ h => h)).trans' HC2.out (fun _ _ h => h.imp id fun h => by omega)), HH (HC2.out.blk (KR.out.after (below_drew (one_box wr (.cells #[.int .i64 5, .int .i64 (j : Int)] 212)))) (by have := HMM.out; omega)), HH (HC2.out.blk (KA.out.after (below_drew (one_box wr (.cells #[.int .i64 5, .int .i64 (j : Int)] 212)))) (by have := HMM.out; omega))⟩
                  case measure => simp [intOf]; omega
                exact AllReadyH.nil
              exact AllReadyH.nil
            refine AllReadyH.cons rfl (fun K hK => ?_) ?_
            · go_simp
              refine hK.out _ _ (HH trivial) (fun hHeld => ?_)
              clear hK K
              refine rdy [3] ?_
              refine AllReadyH.cons rfl (fun K hK => ?_) ?_
              · go_simp
                refine hK.out _ _ (HH trivial) (fun hHeld => ?_)
                clear hK K
                refine rdy [6] ?_
                refine AllReadyH.cons rfl (fun K hK => ?_) ?_
                · go_simp
                  go_at_call 157
                  refine (HG.out _ (by repeat (first | exact Below.refl _ _ | exact one_box _ _ | refine below_drewN ?_ _ | refine below_drew ?_ | refine Below.alloc ?_ (by first | omega | (simp; done) | (simp; omega)) _))).mono ?_
                  rintro e w2 ⟨rfl, hm2, hc2⟩
                  have HC2 := HH hc2.out.1
                  have HM2 := HH hm2.out
                  clear hm2 hc2
                  dsimp only
                  refine hK.out _ _ (HH trivial) (fun hHeld => ?_)
                  clear hK K
                  refine tak 7 ?vuc54 rfl ?hyuc54 ?restuc54
                  case hyuc54 => (intro w' hSw; clear hSw; go_simp; try with_reducible rfl)
                  simp only [ptk]
                  refine wpAnyH_done (by kernel_rfl) ?_ _
                  go_wp2
                  go_roundw
                  case rel => exact ⟨q + 1, by go_num, by omega, HM2, HH (right_more HR.out HT.out CODE.out), HH ((HC.out.trans' (Ch.of_below (X := fun k => k = M ∨ w.heap.size ≤ k) (below_drew (one_box wr (.cells #[.int .i64 5, .int .i64 (j : Int)] 212)))) (fun _ _ h => h)).trans' HC2.out (fun _ _ h => h.imp id fun h => by omega)), HH (HC2.out.blk (KR.out.after (below_drew (one_box wr (.cells #[.int .i64 5, .int .i64 (j : Int)] 212)))) (by have := HMM.out; omega)), HH (HC2.out.blk (KA.out.after (below_drew (one_box wr (.cells #[.int .i64 5, .int .i64 (j : Int)] 212)))) (by have := HMM.out; omega))⟩
                  case measure => simp [intOf]; omega
                exact AllReadyH.nil
              exact AllReadyH.nil
            exact AllReadyH.nil
          refine AllReadyH.cons rfl (fun K hK => ?_) ?_
          · go_simp
            refine hK.out _ _ (HH trivial) (fun hHeld => ?_)
            clear hK K
            refine rdy [1] ?_
            refine AllReadyH.cons rfl (fun K hK => ?_) ?_
            · go_simp
              refine hK.out _ _ (HH trivial) (fun hHeld => ?_)
              clear hK K
              refine tak 2 ?vuc55 rfl ?hyuc55 ?restuc55
              case hyuc55 => (intro w' hSw; clear hSw; go_simp; try with_reducible rfl)
              simp only [ptk]
              refine rdy [3] ?_
              refine AllReadyH.cons rfl (fun K hK => ?_) ?_
              · go_simp
                refine hK.out _ _ (HH trivial) (fun hHeld => ?_)
                clear hK K
                refine rdy [6] ?_
                refine AllReadyH.cons rfl (fun K hK => ?_) ?_
                · go_simp
                  go_at_call 157
                  refine (HG.out _ (by repeat (first | exact Below.refl _ _ | exact one_box _ _ | refine below_drewN ?_ _ | refine below_drew ?_ | refine Below.alloc ?_ (by first | omega | (simp; done) | (simp; omega)) _))).mono ?_
                  rintro e w2 ⟨rfl, hm2, hc2⟩
                  have HC2 := HH hc2.out.1
                  have HM2 := HH hm2.out
                  clear hm2 hc2
                  dsimp only
                  refine hK.out _ _ (HH trivial) (fun hHeld => ?_)
                  clear hK K
                  refine tak 7 ?vuc56 rfl ?hyuc56 ?restuc56
                  case hyuc56 => (intro w' hSw; clear hSw; go_simp; try with_reducible rfl)
                  simp only [ptk]
                  refine wpAnyH_done (by kernel_rfl) ?_ _
                  go_wp2
                  go_roundw
                  case rel => exact ⟨q + 1, by go_num, by omega, HM2, HH (right_more HR.out HT.out CODE.out), HH ((HC.out.trans' (Ch.of_below (X := fun k => k = M ∨ w.heap.size ≤ k) (below_drew (one_box wr (.cells #[.int .i64 5, .int .i64 (j : Int)] 212)))) (fun _ _ h => h)).trans' HC2.out (fun _ _ h => h.imp id fun h => by omega)), HH (HC2.out.blk (KR.out.after (below_drew (one_box wr (.cells #[.int .i64 5, .int .i64 (j : Int)] 212)))) (by have := HMM.out; omega)), HH (HC2.out.blk (KA.out.after (below_drew (one_box wr (.cells #[.int .i64 5, .int .i64 (j : Int)] 212)))) (by have := HMM.out; omega))⟩
                  case measure => simp [intOf]; omega
                exact AllReadyH.nil
              exact AllReadyH.nil
            exact AllReadyH.nil
          exact AllReadyH.nil
        · simp only [he, if_false] at HG
          have he2 : (er == 0) = false := by simpa using he
          have HE : Hid (errW (numX x) = ⟨er, ((5 : Nat) : Int), (j : Int)⟩) := HH (right_wrong HR.out HT.out HLL.out HLI.out he)
          have HNE := HH he
          go_wp2_with fail
          refine wp_region_held_drew (S := fun w' => Hid True) (by kernel_rfl) (HH trivial) (fun hHeld => ?_)
          refine tak 0 ?vuc57 rfl ?hyuc57 ?restuc57
          case hyuc57 => (intro w' hSw; clear hSw; go_simp; try with_reducible rfl)
          simp only [ptk]
          refine tak 4 ?vuc58 rfl ?hyuc58 ?restuc58
          case hyuc58 => (intro w' hSw; clear hSw; go_simp; try with_reducible rfl)
          simp only [ptk]
          refine rdy [1, 5] ?_
          refine AllReadyH.cons rfl (fun K hK => ?_) ?_
          · go_simp
            refine hK.out _ _ (HH trivial) (fun hHeld => ?_)
            clear hK K
            refine tak 2 ?vuc59 rfl ?hyuc59 ?restuc59
            case hyuc59 => (intro w' hSw; clear hSw; go_simp; try with_reducible rfl)
            simp only [ptk]
            refine rdy [3, 5] ?_
            refine AllReadyH.cons rfl (fun K hK => ?_) ?_
            · go_simp
              refine hK.out _ _ (HH trivial) (fun hHeld => ?_)
              clear hK K
              refine rdy [5] ?_
              refine AllReadyH.cons rfl (fun K hK => ?_) ?_
              · go_simp
                refine hK.out _ _ (HH trivial) (fun hHeld => ?_)
                clear hK K
                refine rdy [6] ?_
                refine AllReadyH.cons rfl (fun K hK => ?_) ?_
                · go_simp
                  go_at_call 157
                  refine (HG.out _ (by repeat (first | exact Below.refl _ _ | exact one_box _ _ | refine below_drewN ?_ _ | refine below_drew ?_ | refine Below.alloc ?_ (by first | omega | (simp; done) | (simp; omega)) _))).mono ?_
                  rintro e w2 ⟨rfl, hm2, hc2⟩
                  have HB2 := HH (hc2.out.2 HNE.out)
                  have HBW : Hid (Below wr.heap.size wr w2) := HH (keep_trans (below_drew (one_box _ _)) HB2.out)
                  have K5 : Hid (Blk w2 wr.heap.size 212 [.int .i64 5, .int .i64 (j : Int)]) := HH (Blk.after (blk_dr (Blk.new wr _ _)) HB2.out)
                  have KR2 := HH (KR.out.after HBW.out)
                  clear hm2 hc2
                  dsimp only
                  refine hK.out _ _ (HH trivial) (fun hHeld => ?_)
                  clear hK K
                  refine tak 7 ?vuc60 rfl ?hyuc60 ?restuc60
                  case hyuc60 => (intro w' hSw; clear hSw; go_simp; try with_reducible rfl)
                  simp only [ptk]
                  refine wpAnyH_done (by kernel_rfl) ?_ _
                  have p0 : w2.cell? ⟨wr.heap.size, 0, none⟩ = some (.int .i64 5) := K5.out.cell 0
                  have p1 : w2.cell? ⟨wr.heap.size, 1, none⟩ = some (.int .i64 (j : Int)) := K5.out.cell 1
                  have q0 : w2.cell? ⟨w.heap.size, 0, none⟩ = some (.int .i64 0) := KR2.out.cell 0
                  have q1 : w2.cell? ⟨w.heap.size, 1, none⟩ = some (.int .i64 0) := KR2.out.cell 1
                  have q2 : w2.cell? ⟨w.heap.size, 2, none⟩ = some (.int .i64 0) := KR2.out.cell 2
                  have qf : ∀ i, w2.frozen? ⟨w.heap.size, i, none⟩ = false := fun i => KR2.out.frozen i
                  go_wp2
                  refine bodyPost_ret (chk_read rfl (((KR2.out.set_ 0 _).set_ 1 _).set_ 2 _)) rfl ?_
                  refine ⟨by first | (rw [HE.out]; done) | (rw [HE.out]; rfl), fun h => ?_, (((HC.out.trans' (Ch.of_below (X := fun k => k = M ∨ w.heap.size ≤ k) HBW.out) (fun _ _ h => h)).setCell (p := ⟨w.heap.size, 0, none⟩) (.inl (.inr (Nat.le_refl _))) _).setCell (p := ⟨w.heap.size, 1, none⟩) (.inl (.inr (Nat.le_refl _))) _).setCell (p := ⟨w.heap.size, 2, none⟩) (.inl (.inr (Nat.le_refl _))) _⟩
                  rw [HE.out] at h
                  exact absurd (congrArg WrM.err h) HNE.out
                exact AllReadyH.nil
              exact AllReadyH.nil
            refine AllReadyH.cons rfl (fun K hK => ?_) ?_
            · go_simp
              refine hK.out _ _ (HH trivial) (fun hHeld => ?_)
              clear hK K
              refine rdy [3] ?_
              refine AllReadyH.cons rfl (fun K hK => ?_) ?_
              · go_simp
                refine hK.out _ _ (HH trivial) (fun hHeld => ?_)
                clear hK K
                refine rdy [6] ?_
                refine AllReadyH.cons rfl (fun K hK => ?_) ?_
                · go_simp
                  go_at_call 157
                  refine (HG.out _ (by repeat (first | exact Below.refl _ _ | exact one_box _ _ | refine below_drewN ?_ _ | refine below_drew ?_ | refine Below.alloc ?_ (by first | omega | (simp; done) | (simp; omega)) _))).mono ?_
                  rintro e w2 ⟨rfl, hm2, hc2⟩
                  have HB2 := HH (hc2.out.2 HNE.out)
                  have HBW : Hid (Below wr.heap.size wr w2) := HH (keep_trans (below_drew (one_box _ _)) HB2.out)
                  have K5 : Hid (Blk w2 wr.heap.size 212 [.int .i64 5, .int .i64 (j : Int)]) := HH (Blk.after (blk_dr (Blk.new wr _ _)) HB2.out)
                  have KR2 := HH (KR.out.after HBW.out)
                  clear hm2 hc2
                  dsimp only
                  refine hK.out _ _ (HH trivial) (fun hHeld => ?_)
                  clear hK K
                  refine tak 7 ?vuc61 rfl ?hyuc61 ?restuc61
                  case hyuc61 => (intro w' hSw; clear hSw; go_simp; try with_reducible rfl)
                  simp only [ptk]
                  refine wpAnyH_done (by kernel_rfl) ?_ _
                  have p0 : w2.cell? ⟨wr.heap.size, 0, none⟩ = some (.int .i64 5) := K5.out.cell 0
                  have p1 : w2.cell? ⟨wr.heap.size, 1, none⟩ = some (.int .i64 (j : Int)) := K5.out.cell 1
                  have q0 : w2.cell? ⟨w.heap.size, 0, none⟩ = some (.int .i64 0) := KR2.out.cell 0
                  have q1 : w2.cell? ⟨w.heap.size, 1, none⟩ = some (.int .i64 0) := KR2.out.cell 1
                  have q2 : w2.cell? ⟨w.heap.size, 2, none⟩ = some (.int .i64 0) := KR2.out.cell 2
                  have qf : ∀ i, w2.frozen? ⟨w.heap.size, i, none⟩ = false := fun i => KR2.out.frozen i
                  go_wp2
                  refine bodyPost_ret (chk_read rfl (((KR2.out.set_ 0 _).set_ 1 _).set_ 2 _)) rfl ?_
                  refine ⟨by first | (rw [HE.out]; done) | (rw [HE.out]; rfl), fun h => ?_, (((HC.out.trans' (Ch.of_below (X := fun k => k = M ∨ w.heap.size ≤ k) HBW.out) (fun _ _ h => h)).setCell (p := ⟨w.heap.size, 0, none⟩) (.inl (.inr (Nat.le_refl _))) _).setCell (p := ⟨w.heap.size, 1, none⟩) (.inl (.inr (Nat.le_refl _))) _).setCell (p := ⟨w.heap.size, 2, none⟩) (.inl (.inr (Nat.le_refl _))) _⟩
                  rw [HE.out] at h
                  exact absurd (congrArg WrM.err h) HNE.out
                exact AllReadyH.nil
              exact AllReadyH.nil
            exact AllReadyH.nil
          refine AllReadyH.cons rfl (fun K hK => ?_) ?_
          · go_simp
            refine hK.out _ _ (HH trivial) (fun hHeld => ?_)
            clear hK K
            refine rdy [1] ?_
            refine AllReadyH.cons rfl (fun K hK => ?_) ?_
            · go_simp
              refine hK.out _ _ (HH trivial) (fun hHeld => ?_)
              clear hK K
              refine tak 2 ?vuc62 rfl ?hyuc62 ?restuc62
              case hyuc62 => (intro w' hSw; clear hSw; go_simp; try with_reducible rfl)
              simp only [ptk]
              refine rdy [3] ?_
              refine AllReadyH.cons rfl (fun K hK => ?_) ?_
              · go_simp
                refine hK.out _ _ (HH trivial) (fun hHeld => ?_)
                clear hK K
                refine rdy [6] ?_
                refine AllReadyH.cons rfl (fun K hK => ?_) ?_
                · go_simp
                  go_at_call 157
                  refine (HG.out _ (by repeat (first | exact Below.refl _ _ | exact one_box _ _ | refine below_drewN ?_ _ | refine below_drew ?_ | refine Below.alloc ?_ (by first | omega | (simp; done) | (simp; omega)) _))).mono ?_
                  rintro e w2 ⟨rfl, hm2, hc2⟩
                  have HB2 := HH (hc2.out.2 HNE.out)
                  have HBW : Hid (Below wr.heap.size wr w2) := HH (keep_trans (below_drew (one_box _ _)) HB2.out)
                  have K5 : Hid (Blk w2 wr.heap.size 212 [.int .i64 5, .int .i64 (j : Int)]) := HH (Blk.after (blk_dr (Blk.new wr _ _)) HB2.out)
                  have KR2 := HH (KR.out.after HBW.out)
                  clear hm2 hc2
                  dsimp only
                  refine hK.out _ _ (HH trivial) (fun hHeld => ?_)
                  clear hK K
                  refine tak 7 ?vuc63 rfl ?hyuc63 ?restuc63
                  case hyuc63 => (intro w' hSw; clear hSw; go_simp; try with_reducible rfl)
                  simp only [ptk]
                  refine wpAnyH_done (by kernel_rfl) ?_ _
                  have p0 : w2.cell? ⟨wr.heap.size, 0, none⟩ = some (.int .i64 5) := K5.out.cell 0
                  have p1 : w2.cell? ⟨wr.heap.size, 1, none⟩ = some (.int .i64 (j : Int)) := K5.out.cell 1
                  have q0 : w2.cell? ⟨w.heap.size, 0, none⟩ = some (.int .i64 0) := KR2.out.cell 0
                  have q1 : w2.cell? ⟨w.heap.size, 1, none⟩ = some (.int .i64 0) := KR2.out.cell 1
                  have q2 : w2.cell? ⟨w.heap.size, 2, none⟩ = some (.int .i64 0) := KR2.out.cell 2
                  have qf : ∀ i, w2.frozen? ⟨w.heap.size, i, none⟩ = false := fun i => KR2.out.frozen i
                  go_wp2
                  refine bodyPost_ret (chk_read rfl (((KR2.out.set_ 0 _).set_ 1 _).set_ 2 _)) rfl ?_
                  refine ⟨by first | (rw [HE.out]; done) | (rw [HE.out]; rfl), fun h => ?_, (((HC.out.trans' (Ch.of_below (X := fun k => k = M ∨ w.heap.size ≤ k) HBW.out) (fun _ _ h => h)).setCell (p := ⟨w.heap.size, 0, none⟩) (.inl (.inr (Nat.le_refl _))) _).setCell (p := ⟨w.heap.size, 1, none⟩) (.inl (.inr (Nat.le_refl _))) _).setCell (p := ⟨w.heap.size, 2, none⟩) (.inl (.inr (Nat.le_refl _))) _⟩
                  rw [HE.out] at h
                  exact absurd (congrArg WrM.err h) HNE.out
                exact AllReadyH.nil
              exact AllReadyH.nil
            exact AllReadyH.nil
          exact AllReadyH.nil
      · obtain ⟨a, ha⟩ : ∃ a, x.hazards[j]? = some a := ⟨_, List.getElem?_eq_getElem hj⟩
        have hm := List.mem_of_getElem? ha
        have HLL : Hid ((errsW (numX x))[6]? = some ((numX x).hazards.map (hazE x.horizon))) := HH rfl
        have HLI : Hid (((numX x).hazards.map (hazE x.horizon))[j]? = some (hazE x.horizon (nHaz x.stops (namesX x).paths a))) := HH (by simp [numX, ha])
        have HWN : Hid (wAt x (q + 1) = { wAt x q with hazards := (wAt x q).hazards ++ [nHaz x.stops (namesX x).paths a] }) := HH (wAt_hazard x q j a ha hqo)
        have HG := HH (fun w1 (hb : Below wr.heap.size wr w1) => hazard_any (HM.out.after hb) few.2.2.2.2 HL.out.l6 j a ha (NL.out.h a hm))
        clear hm ha hqo hj few
        have t0 : wr.cell? (ad.add (q * 2)) = some (.int .i64 6) := g0
        have t1 : wr.cell? ⟨(ad.add (q * 2)).block, (ad.add (q * 2)).off + 1, none⟩ = some (.int .i64 (j : Int)) := g1
        have ka : wr.cell? ⟨w.heap.size + 1, 6, none⟩ = some (.func (.func 158) #[.pointer (some ⟨M, 0, none⟩)] #[]) := KA.out.cell 6
        clear g0 g1
        rw [← HWN.out] at HG
        obtain ⟨er, her⟩ : ∃ er, er = hazE x.horizon (nHaz x.stops (namesX x).paths a) := ⟨_, rfl⟩
        rw [← her] at HG HLI
        clear her
        by_cases he : er = 0
        · subst he
          simp only [if_true] at HG
          have CODE : Hid (codeT x (6, j) = 0) := HH (code_at HLL.out HLI.out)
          go_wp2_with fail
          refine wp_region_held_drew (S := fun w' => Hid True) (by kernel_rfl) (HH trivial) (fun hHeld => ?_)
          refine tak 0 ?vuc64 rfl ?hyuc64 ?restuc64
          case hyuc64 => (intro w' hSw; clear hSw; go_simp; try with_reducible rfl)
          simp only [ptk]
          refine tak 4 ?vuc65 rfl ?hyuc65 ?restuc65
          case hyuc65 => (intro w' hSw; clear hSw; go_simp; try with_reducible rfl)
          simp only [ptk]
          refine rdy [1, 5] ?_
          refine AllReadyH.cons rfl (fun K hK => ?_) ?_
          · go_simp
            refine hK.out _ _ (HH trivial) (fun hHeld => ?_)
            clear hK K
            refine tak 2 ?vuc66 rfl ?hyuc66 ?restuc66
            case hyuc66 => (intro w' hSw; clear hSw; go_simp; try with_reducible rfl)
            simp only [ptk]
            refine rdy [3, 5] ?_
            refine AllReadyH.cons rfl (fun K hK => ?_) ?_
            · go_simp
              refine hK.out _ _ (HH trivial) (fun hHeld => ?_)
              clear hK K
              refine rdy [5] ?_
              refine AllReadyH.cons rfl (fun K hK => ?_) ?_
              · go_simp
                refine hK.out _ _ (HH trivial) (fun hHeld => ?_)
                clear hK K
                refine rdy [6] ?_
                refine AllReadyH.cons rfl (fun K hK => ?_) ?_
                · go_simp
                  go_at_call 158
                  refine (HG.out _ (by repeat (first | exact Below.refl _ _ | exact one_box _ _ | refine below_drewN ?_ _ | refine below_drew ?_ | refine Below.alloc ?_ (by first | omega | (simp; done) | (simp; omega)) _))).mono ?_
                  rintro e w2 ⟨rfl, hm2, hc2⟩
                  have HC2 := HH hc2.out.1
                  have HM2 := HH hm2.out
                  clear hm2 hc2
                  dsimp only
                  refine hK.out _ _ (HH trivial) (fun hHeld => ?_)
                  clear hK K
                  refine tak 7 ?vuc67 rfl ?hyuc67 ?restuc67
                  case hyuc67 => (intro w' hSw; clear hSw; go_simp; try with_reducible rfl)
                  simp only [ptk]
                  refine wpAnyH_done (by kernel_rfl) ?_ _
                  go_wp2
                  go_roundw
                  case rel => exact ⟨q + 1, by go_num, by omega, HM2, HH (right_more HR.out HT.out CODE.out), HH ((HC.out.trans' (Ch.of_below (X := fun k => k = M ∨ w.heap.size ≤ k) (below_drew (one_box wr (.cells #[.int .i64 6, .int .i64 (j : Int)] 212)))) (fun _ _ h => h)).trans' HC2.out (fun _ _ h => h.imp id fun h => by omega)), HH (HC2.out.blk (KR.out.after (below_drew (one_box wr (.cells #[.int .i64 6, .int .i64 (j : Int)] 212)))) (by have := HMM.out; omega)), HH (HC2.out.blk (KA.out.after (below_drew (one_box wr (.cells #[.int .i64 6, .int .i64 (j : Int)] 212)))) (by have := HMM.out; omega))⟩
                  case measure => simp [intOf]; omega
                exact AllReadyH.nil
              exact AllReadyH.nil
            refine AllReadyH.cons rfl (fun K hK => ?_) ?_
            · go_simp
              refine hK.out _ _ (HH trivial) (fun hHeld => ?_)
              clear hK K
              refine rdy [3] ?_
              refine AllReadyH.cons rfl (fun K hK => ?_) ?_
              · go_simp
                refine hK.out _ _ (HH trivial) (fun hHeld => ?_)
                clear hK K
                refine rdy [6] ?_
                refine AllReadyH.cons rfl (fun K hK => ?_) ?_
                · go_simp
                  go_at_call 158
                  refine (HG.out _ (by repeat (first | exact Below.refl _ _ | exact one_box _ _ | refine below_drewN ?_ _ | refine below_drew ?_ | refine Below.alloc ?_ (by first | omega | (simp; done) | (simp; omega)) _))).mono ?_
                  rintro e w2 ⟨rfl, hm2, hc2⟩
                  have HC2 := HH hc2.out.1
                  have HM2 := HH hm2.out
                  clear hm2 hc2
                  dsimp only
                  refine hK.out _ _ (HH trivial) (fun hHeld => ?_)
                  clear hK K
                  refine tak 7 ?vuc68 rfl ?hyuc68 ?restuc68
                  case hyuc68 => (intro w' hSw; clear hSw; go_simp; try with_reducible rfl)
                  simp only [ptk]
                  refine wpAnyH_done (by kernel_rfl) ?_ _
                  go_wp2
                  go_roundw
                  case rel => exact ⟨q + 1, by go_num, by omega, HM2, HH (right_more HR.out HT.out CODE.out), HH ((HC.out.trans' (Ch.of_below (X := fun k => k = M ∨ w.heap.size ≤ k) (below_drew (one_box wr (.cells #[.int .i64 6, .int .i64 (j : Int)] 212)))) (fun _ _ h => h)).trans' HC2.out (fun _ _ h => h.imp id fun h => by omega)), HH (HC2.out.blk (KR.out.after (below_drew (one_box wr (.cells #[.int .i64 6, .int .i64 (j : Int)] 212)))) (by have := HMM.out; omega)), HH (HC2.out.blk (KA.out.after (below_drew (one_box wr (.cells #[.int .i64 6, .int .i64 (j : Int)] 212)))) (by have := HMM.out; omega))⟩
                  case measure => simp [intOf]; omega
                exact AllReadyH.nil
              exact AllReadyH.nil
            exact AllReadyH.nil
          refine AllReadyH.cons rfl (fun K hK => ?_) ?_
          · go_simp
            refine hK.out _ _ (HH trivial) (fun hHeld => ?_)
            clear hK K
            refine rdy [1] ?_
            refine AllReadyH.cons rfl (fun K hK => ?_) ?_
            · go_simp
              refine hK.out _ _ (HH trivial) (fun hHeld => ?_)
              clear hK K
              refine tak 2 ?vuc69 rfl ?hyuc69 ?restuc69
              case hyuc69 => (intro w' hSw; clear hSw; go_simp; try with_reducible rfl)
              simp only [ptk]
              refine rdy [3] ?_
              refine AllReadyH.cons rfl (fun K hK => ?_) ?_
              · go_simp
                refine hK.out _ _ (HH trivial) (fun hHeld => ?_)
                clear hK K
                refine rdy [6] ?_
                refine AllReadyH.cons rfl (fun K hK => ?_) ?_
                · go_simp
                  go_at_call 158
                  refine (HG.out _ (by repeat (first | exact Below.refl _ _ | exact one_box _ _ | refine below_drewN ?_ _ | refine below_drew ?_ | refine Below.alloc ?_ (by first | omega | (simp; done) | (simp; omega)) _))).mono ?_
                  rintro e w2 ⟨rfl, hm2, hc2⟩
                  have HC2 := HH hc2.out.1
                  have HM2 := HH hm2.out
                  clear hm2 hc2
                  dsimp only
                  refine hK.out _ _ (HH trivial) (fun hHeld => ?_)
                  clear hK K
                  refine tak 7 ?vuc70 rfl ?hyuc70 ?restuc70
                  case hyuc70 => (intro w' hSw; clear hSw; go_simp; try with_reducible rfl)
                  simp only [ptk]
                  refine wpAnyH_done (by kernel_rfl) ?_ _
                  go_wp2
                  go_roundw
                  case rel => exact ⟨q + 1, by go_num, by omega, HM2, HH (right_more HR.out HT.out CODE.out), HH ((HC.out.trans' (Ch.of_below (X := fun k => k = M ∨ w.heap.size ≤ k) (below_drew (one_box wr (.cells #[.int .i64 6, .int .i64 (j : Int)] 212)))) (fun _ _ h => h)).trans' HC2.out (fun _ _ h => h.imp id fun h => by omega)), HH (HC2.out.blk (KR.out.after (below_drew (one_box wr (.cells #[.int .i64 6, .int .i64 (j : Int)] 212)))) (by have := HMM.out; omega)), HH (HC2.out.blk (KA.out.after (below_drew (one_box wr (.cells #[.int .i64 6, .int .i64 (j : Int)] 212)))) (by have := HMM.out; omega))⟩
                  case measure => simp [intOf]; omega
                exact AllReadyH.nil
              exact AllReadyH.nil
            exact AllReadyH.nil
          exact AllReadyH.nil
        · simp only [he, if_false] at HG
          have he2 : (er == 0) = false := by simpa using he
          have HE : Hid (errW (numX x) = ⟨er, ((6 : Nat) : Int), (j : Int)⟩) := HH (right_wrong HR.out HT.out HLL.out HLI.out he)
          have HNE := HH he
          go_wp2_with fail
          refine wp_region_held_drew (S := fun w' => Hid True) (by kernel_rfl) (HH trivial) (fun hHeld => ?_)
          refine tak 0 ?vuc71 rfl ?hyuc71 ?restuc71
          case hyuc71 => (intro w' hSw; clear hSw; go_simp; try with_reducible rfl)
          simp only [ptk]
          refine tak 4 ?vuc72 rfl ?hyuc72 ?restuc72
          case hyuc72 => (intro w' hSw; clear hSw; go_simp; try with_reducible rfl)
          simp only [ptk]
          refine rdy [1, 5] ?_
          refine AllReadyH.cons rfl (fun K hK => ?_) ?_
          · go_simp
            refine hK.out _ _ (HH trivial) (fun hHeld => ?_)
            clear hK K
            refine tak 2 ?vuc73 rfl ?hyuc73 ?restuc73
            case hyuc73 => (intro w' hSw; clear hSw; go_simp; try with_reducible rfl)
            simp only [ptk]
            refine rdy [3, 5] ?_
            refine AllReadyH.cons rfl (fun K hK => ?_) ?_
            · go_simp
              refine hK.out _ _ (HH trivial) (fun hHeld => ?_)
              clear hK K
              refine rdy [5] ?_
              refine AllReadyH.cons rfl (fun K hK => ?_) ?_
              · go_simp
                refine hK.out _ _ (HH trivial) (fun hHeld => ?_)
                clear hK K
                refine rdy [6] ?_
                refine AllReadyH.cons rfl (fun K hK => ?_) ?_
                · go_simp
                  go_at_call 158
                  refine (HG.out _ (by repeat (first | exact Below.refl _ _ | exact one_box _ _ | refine below_drewN ?_ _ | refine below_drew ?_ | refine Below.alloc ?_ (by first | omega | (simp; done) | (simp; omega)) _))).mono ?_
                  rintro e w2 ⟨rfl, hm2, hc2⟩
                  have HB2 := HH (hc2.out.2 HNE.out)
                  have HBW : Hid (Below wr.heap.size wr w2) := HH (keep_trans (below_drew (one_box _ _)) HB2.out)
                  have K5 : Hid (Blk w2 wr.heap.size 212 [.int .i64 6, .int .i64 (j : Int)]) := HH (Blk.after (blk_dr (Blk.new wr _ _)) HB2.out)
                  have KR2 := HH (KR.out.after HBW.out)
                  clear hm2 hc2
                  dsimp only
                  refine hK.out _ _ (HH trivial) (fun hHeld => ?_)
                  clear hK K
                  refine tak 7 ?vuc74 rfl ?hyuc74 ?restuc74
                  case hyuc74 => (intro w' hSw; clear hSw; go_simp; try with_reducible rfl)
                  simp only [ptk]
                  refine wpAnyH_done (by kernel_rfl) ?_ _
                  have p0 : w2.cell? ⟨wr.heap.size, 0, none⟩ = some (.int .i64 6) := K5.out.cell 0
                  have p1 : w2.cell? ⟨wr.heap.size, 1, none⟩ = some (.int .i64 (j : Int)) := K5.out.cell 1
                  have q0 : w2.cell? ⟨w.heap.size, 0, none⟩ = some (.int .i64 0) := KR2.out.cell 0
                  have q1 : w2.cell? ⟨w.heap.size, 1, none⟩ = some (.int .i64 0) := KR2.out.cell 1
                  have q2 : w2.cell? ⟨w.heap.size, 2, none⟩ = some (.int .i64 0) := KR2.out.cell 2
                  have qf : ∀ i, w2.frozen? ⟨w.heap.size, i, none⟩ = false := fun i => KR2.out.frozen i
                  go_wp2
                  refine bodyPost_ret (chk_read rfl (((KR2.out.set_ 0 _).set_ 1 _).set_ 2 _)) rfl ?_
                  refine ⟨by first | (rw [HE.out]; done) | (rw [HE.out]; rfl), fun h => ?_, (((HC.out.trans' (Ch.of_below (X := fun k => k = M ∨ w.heap.size ≤ k) HBW.out) (fun _ _ h => h)).setCell (p := ⟨w.heap.size, 0, none⟩) (.inl (.inr (Nat.le_refl _))) _).setCell (p := ⟨w.heap.size, 1, none⟩) (.inl (.inr (Nat.le_refl _))) _).setCell (p := ⟨w.heap.size, 2, none⟩) (.inl (.inr (Nat.le_refl _))) _⟩
                  rw [HE.out] at h
                  exact absurd (congrArg WrM.err h) HNE.out
                exact AllReadyH.nil
              exact AllReadyH.nil
            refine AllReadyH.cons rfl (fun K hK => ?_) ?_
            · go_simp
              refine hK.out _ _ (HH trivial) (fun hHeld => ?_)
              clear hK K
              refine rdy [3] ?_
              refine AllReadyH.cons rfl (fun K hK => ?_) ?_
              · go_simp
                refine hK.out _ _ (HH trivial) (fun hHeld => ?_)
                clear hK K
                refine rdy [6] ?_
                refine AllReadyH.cons rfl (fun K hK => ?_) ?_
                · go_simp
                  go_at_call 158
                  refine (HG.out _ (by repeat (first | exact Below.refl _ _ | exact one_box _ _ | refine below_drewN ?_ _ | refine below_drew ?_ | refine Below.alloc ?_ (by first | omega | (simp; done) | (simp; omega)) _))).mono ?_
                  rintro e w2 ⟨rfl, hm2, hc2⟩
                  have HB2 := HH (hc2.out.2 HNE.out)
                  have HBW : Hid (Below wr.heap.size wr w2) := HH (keep_trans (below_drew (one_box _ _)) HB2.out)
                  have K5 : Hid (Blk w2 wr.heap.size 212 [.int .i64 6, .int .i64 (j : Int)]) := HH (Blk.after (blk_dr (Blk.new wr _ _)) HB2.out)
                  have KR2 := HH (KR.out.after HBW.out)
                  clear hm2 hc2
                  dsimp only
                  refine hK.out _ _ (HH trivial) (fun hHeld => ?_)
                  clear hK K
                  refine tak 7 ?vuc75 rfl ?hyuc75 ?restuc75
                  case hyuc75 => (intro w' hSw; clear hSw; go_simp; try with_reducible rfl)
                  simp only [ptk]
                  refine wpAnyH_done (by kernel_rfl) ?_ _
                  have p0 : w2.cell? ⟨wr.heap.size, 0, none⟩ = some (.int .i64 6) := K5.out.cell 0
                  have p1 : w2.cell? ⟨wr.heap.size, 1, none⟩ = some (.int .i64 (j : Int)) := K5.out.cell 1
                  have q0 : w2.cell? ⟨w.heap.size, 0, none⟩ = some (.int .i64 0) := KR2.out.cell 0
                  have q1 : w2.cell? ⟨w.heap.size, 1, none⟩ = some (.int .i64 0) := KR2.out.cell 1
                  have q2 : w2.cell? ⟨w.heap.size, 2, none⟩ = some (.int .i64 0) := KR2.out.cell 2
                  have qf : ∀ i, w2.frozen? ⟨w.heap.size, i, none⟩ = false := fun i => KR2.out.frozen i
                  go_wp2
                  refine bodyPost_ret (chk_read rfl (((KR2.out.set_ 0 _).set_ 1 _).set_ 2 _)) rfl ?_
                  refine ⟨by first | (rw [HE.out]; done) | (rw [HE.out]; rfl), fun h => ?_, (((HC.out.trans' (Ch.of_below (X := fun k => k = M ∨ w.heap.size ≤ k) HBW.out) (fun _ _ h => h)).setCell (p := ⟨w.heap.size, 0, none⟩) (.inl (.inr (Nat.le_refl _))) _).setCell (p := ⟨w.heap.size, 1, none⟩) (.inl (.inr (Nat.le_refl _))) _).setCell (p := ⟨w.heap.size, 2, none⟩) (.inl (.inr (Nat.le_refl _))) _⟩
                  rw [HE.out] at h
                  exact absurd (congrArg WrM.err h) HNE.out
                exact AllReadyH.nil
              exact AllReadyH.nil
            exact AllReadyH.nil
          refine AllReadyH.cons rfl (fun K hK => ?_) ?_
          · go_simp
            refine hK.out _ _ (HH trivial) (fun hHeld => ?_)
            clear hK K
            refine rdy [1] ?_
            refine AllReadyH.cons rfl (fun K hK => ?_) ?_
            · go_simp
              refine hK.out _ _ (HH trivial) (fun hHeld => ?_)
              clear hK K
              refine tak 2 ?vuc76 rfl ?hyuc76 ?restuc76
              case hyuc76 => (intro w' hSw; clear hSw; go_simp; try with_reducible rfl)
              simp only [ptk]
              refine rdy [3] ?_
              refine AllReadyH.cons rfl (fun K hK => ?_) ?_
              · go_simp
                refine hK.out _ _ (HH trivial) (fun hHeld => ?_)
                clear hK K
                refine rdy [6] ?_
                refine AllReadyH.cons rfl (fun K hK => ?_) ?_
                · go_simp
                  go_at_call 158
                  refine (HG.out _ (by repeat (first | exact Below.refl _ _ | exact one_box _ _ | refine below_drewN ?_ _ | refine below_drew ?_ | refine Below.alloc ?_ (by first | omega | (simp; done) | (simp; omega)) _))).mono ?_
                  rintro e w2 ⟨rfl, hm2, hc2⟩
                  have HB2 := HH (hc2.out.2 HNE.out)
                  have HBW : Hid (Below wr.heap.size wr w2) := HH (keep_trans (below_drew (one_box _ _)) HB2.out)
                  have K5 : Hid (Blk w2 wr.heap.size 212 [.int .i64 6, .int .i64 (j : Int)]) := HH (Blk.after (blk_dr (Blk.new wr _ _)) HB2.out)
                  have KR2 := HH (KR.out.after HBW.out)
                  clear hm2 hc2
                  dsimp only
                  refine hK.out _ _ (HH trivial) (fun hHeld => ?_)
                  clear hK K
                  refine tak 7 ?vuc77 rfl ?hyuc77 ?restuc77
                  case hyuc77 => (intro w' hSw; clear hSw; go_simp; try with_reducible rfl)
                  simp only [ptk]
                  refine wpAnyH_done (by kernel_rfl) ?_ _
                  have p0 : w2.cell? ⟨wr.heap.size, 0, none⟩ = some (.int .i64 6) := K5.out.cell 0
                  have p1 : w2.cell? ⟨wr.heap.size, 1, none⟩ = some (.int .i64 (j : Int)) := K5.out.cell 1
                  have q0 : w2.cell? ⟨w.heap.size, 0, none⟩ = some (.int .i64 0) := KR2.out.cell 0
                  have q1 : w2.cell? ⟨w.heap.size, 1, none⟩ = some (.int .i64 0) := KR2.out.cell 1
                  have q2 : w2.cell? ⟨w.heap.size, 2, none⟩ = some (.int .i64 0) := KR2.out.cell 2
                  have qf : ∀ i, w2.frozen? ⟨w.heap.size, i, none⟩ = false := fun i => KR2.out.frozen i
                  go_wp2
                  refine bodyPost_ret (chk_read rfl (((KR2.out.set_ 0 _).set_ 1 _).set_ 2 _)) rfl ?_
                  refine ⟨by first | (rw [HE.out]; done) | (rw [HE.out]; rfl), fun h => ?_, (((HC.out.trans' (Ch.of_below (X := fun k => k = M ∨ w.heap.size ≤ k) HBW.out) (fun _ _ h => h)).setCell (p := ⟨w.heap.size, 0, none⟩) (.inl (.inr (Nat.le_refl _))) _).setCell (p := ⟨w.heap.size, 1, none⟩) (.inl (.inr (Nat.le_refl _))) _).setCell (p := ⟨w.heap.size, 2, none⟩) (.inl (.inr (Nat.le_refl _))) _⟩
                  rw [HE.out] at h
                  exact absurd (congrArg WrM.err h) HNE.out
                exact AllReadyH.nil
              exact AllReadyH.nil
            exact AllReadyH.nil
          exact AllReadyH.nil
    · obtain rfl : tn = q := by omega
      have hi2 : ¬ ((tn : Int) < (tn : Int)) := by omega
      have HALL : Hid (errW (numX x) = okW) := HH (right_all (by rw [← HTN.out]; exact HR.out))
      have HEND : Hid (wAt x tn = numX x) := HH (wAt_end x tn HTN.out)
      have q0 : wr.cell? ⟨w.heap.size, 0, none⟩ = some (.int .i64 0) := KR.out.cell 0
      have q1 : wr.cell? ⟨w.heap.size, 1, none⟩ = some (.int .i64 0) := KR.out.cell 1
      have q2 : wr.cell? ⟨w.heap.size, 2, none⟩ = some (.int .i64 0) := KR.out.cell 2
      have qf : ∀ i, wr.frozen? ⟨w.heap.size, i, none⟩ = false := fun i => KR.out.frozen i
      go_wp2
      refine bodyPost_ret (chk_read rfl (((KR.out.set_ 0 _).set_ 1 _).set_ 2 _)) rfl ?_
      refine ⟨by first | (rw [HALL.out]; done) | (rw [HALL.out]; rfl), fun _ => ?_, ((HC.out.setCell (p := ⟨w.heap.size, 0, none⟩) (.inl (.inr (Nat.le_refl _))) _).setCell (p := ⟨w.heap.size, 1, none⟩) (.inl (.inr (Nat.le_refl _))) _).setCell (p := ⟨w.heap.size, 2, none⟩) (.inl (.inr (Nat.le_refl _))) _⟩
      rw [← HEND.out]
      obtain ⟨u2, u3, u4, u5, u6, hm⟩ := HM.out
      exact ⟨u2, u3, u4, u5, u6, hm.fin (((ch_set wr w.heap.size 0 _).trans (ch_set _ w.heap.size 1 _)).trans (ch_set _ w.heap.size 2 _)) (by omega) (by have := HMM.out; omega)⟩
end Go.Proofs.YtfefnfifeaihhaaGreat.Wo
