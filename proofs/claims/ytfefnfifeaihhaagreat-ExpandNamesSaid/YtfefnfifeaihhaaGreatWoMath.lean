/- Worlds as plain data: names and numbers, what is wrong with a sheet first, the world of a sheet, the sheet of a world. Pure mathematics. No conditions. -/
import Derived.Test.YtfefnfifeaihhaaGreatBaJ
import Derived.Test.YtfefnfifeaihhaaGreatBaC
set_option linter.unusedVariables false
set_option linter.unusedSimpArgs false
namespace Go.Proofs.YtfefnfifeaihhaaGreat.Wo
open Lx Sh
abbrev Nm := List UInt8
/-- where a name stands in a list; -1 of none -/
def pl (S : List Nm) (a : Nm) : Int := if a ∈ S then (S.idxOf a : Int) else -1
structure PathO where
  a : Int
  b : Int
  len : Int
structure DoorO where
  a : Int
  b : Int
  len : Int
  times : TimesM
structure RouteO where
  stops : List Int
  rides : List Int
  stays : List Int
structure TripO where
  route : Int
  frm : Int
  every : Int
  til : Int
structure HazO where
  stop : Bool
  on_ : Int
  times : TimesM
structure NamesM where
  stops : List Nm
  paths : List Nm
  doors : List Nm
  routes : List Nm
  trips : List Nm
  hazards : List Nm
structure WorldM where
  horizon : Int
  names : NamesM
  paths : List PathO
  doors : List DoorO
  routes : List RouteO
  trips : List TripO
  hazards : List HazO
/-- an error, and the thing that has it -/
structure WrM where
  err : Int
  kind : Int
  at_ : Int
instance decPathO : DecidableEq PathO := fun u v => if h : u.a = v.a ∧ u.b = v.b ∧ u.len = v.len then isTrue (by cases u; cases v; simp_all) else isFalse (by rintro rfl; simp at h)
instance decDoorO : DecidableEq DoorO := fun u v => if h : u.a = v.a ∧ u.b = v.b ∧ u.len = v.len ∧ u.times.frm = v.times.frm ∧ u.times.every = v.times.every ∧ u.times.len = v.times.len then isTrue (by obtain ⟨a, b, c, ⟨f, e, g⟩⟩ := u; obtain ⟨a', b', c', ⟨f', e', g'⟩⟩ := v; simp_all) else isFalse (by rintro rfl; simp at h)
instance decRouteO : DecidableEq RouteO := fun u v => if h : u.stops = v.stops ∧ u.rides = v.rides ∧ u.stays = v.stays then isTrue (by cases u; cases v; simp_all) else isFalse (by rintro rfl; simp at h)
instance decTripO : DecidableEq TripO := fun u v => if h : u.route = v.route ∧ u.frm = v.frm ∧ u.every = v.every ∧ u.til = v.til then isTrue (by cases u; cases v; simp_all) else isFalse (by rintro rfl; simp at h)
instance decHazO : DecidableEq HazO := fun u v => if h : u.stop = v.stop ∧ u.on_ = v.on_ ∧ u.times.frm = v.times.frm ∧ u.times.every = v.times.every ∧ u.times.len = v.times.len then isTrue (by obtain ⟨a, b, ⟨f, e, g⟩⟩ := u; obtain ⟨a', b', ⟨f', e', g'⟩⟩ := v; simp_all) else isFalse (by rintro rfl; simp at h)
instance decNamesM : DecidableEq NamesM := fun u v => if h : u.stops = v.stops ∧ u.paths = v.paths ∧ u.doors = v.doors ∧ u.routes = v.routes ∧ u.trips = v.trips ∧ u.hazards = v.hazards then isTrue (by cases u; cases v; simp_all) else isFalse (by rintro rfl; simp at h)
instance decWorldM : DecidableEq WorldM := fun u v => if h : u.horizon = v.horizon ∧ u.names = v.names ∧ u.paths = v.paths ∧ u.doors = v.doors ∧ u.routes = v.routes ∧ u.trips = v.trips ∧ u.hazards = v.hazards then isTrue (by cases u; cases v; simp_all) else isFalse (by rintro rfl; simp at h)
instance decWrM : DecidableEq WrM := fun u v => if h : u.err = v.err ∧ u.kind = v.kind ∧ u.at_ = v.at_ then isTrue (by cases u; cases v; simp_all) else isFalse (by rintro rfl; simp at h)
abbrev zNames : NamesM := ⟨[], [], [], [], [], []⟩
abbrev zWo : WorldM := ⟨0, zNames, [], [], [], [], []⟩
abbrev zSheetM : SheetM := ⟨0, [], [], [], [], [], []⟩
abbrev okW : WrM := ⟨0, 0, 0⟩
def tmOf (t : TimesM) : Wn.Tm := ⟨t.frm, t.every, t.len⟩
/-! ### errors of things with numbers -/
def wayE (a b len : Int) : Int := if a < 0 ∨ b < 0 then 5 else if a = b ∨ len < 1 then 2 else 0
def pathE (p : PathO) : Int := wayE p.a p.b p.len
def timeE (hor : Int) (t : TimesM) : Int := Wn.we (tmOf t) hor
def doorE (hor : Int) (d : DoorO) : Int := if wayE d.a d.b d.len ≠ 0 then wayE d.a d.b d.len else timeE hor d.times
/-- two that are the same, one behind the other -/
def reps : List Int → Bool
  | a :: b :: r => decide (b = a) || reps (b :: r)
  | _ => false
def routeE (r : RouteO) : Int := if r.stops.any (fun n => decide (n < 0)) then 5 else if reps r.stops || r.rides.any (fun n => decide (n < 1)) then 2 else 0
def tripE (t : TripO) : Int := if t.route < 0 then 5 else if t.til < t.frm then 2 else 0
def hazE (hor : Int) (h : HazO) : Int := if h.on_ < 0 then 5 else timeE hor h.times
/-! ### numbers in the place of names -/
def nPath (S : List Nm) (p : PathM) : PathO := ⟨pl S p.a, pl S p.b, p.len⟩
def nDoor (S : List Nm) (d : DoorM) : DoorO := ⟨pl S d.a, pl S d.b, d.len, d.times⟩
def nRoute (S : List Nm) (r : RouteM) : RouteO := ⟨r.stops.map (pl S), r.rides, r.stays⟩
def nTrip (R : List Nm) (t : TripM) : TripO := ⟨pl R t.route, t.frm, t.every, t.til⟩
def nHaz (S P : List Nm) (h : HazM) : HazO := if pl S h.at_ < 0 then ⟨false, pl P h.at_, h.times⟩ else ⟨true, pl S h.at_, h.times⟩
def namesX (x : SheetM) : NamesM := ⟨x.stops, x.paths.map (·.name), x.doors.map (·.name), x.routes.map (·.name), x.trips.map (·.name), x.hazards.map (·.name)⟩
def numX (x : SheetM) : WorldM := ⟨x.horizon, namesX x, x.paths.map (nPath x.stops), x.doors.map (nDoor x.stops), x.routes.map (nRoute x.stops), x.trips.map (nTrip (namesX x).routes), x.hazards.map (nHaz x.stops (namesX x).paths)⟩
/-- the names by kinds, from 0 on -/
def NamesM.kinds (n : NamesM) : List (List Nm) := [[], n.stops, n.paths, n.doors, n.routes, n.trips, n.hazards]
def NamesM.flat (n : NamesM) : List Nm := n.stops ++ (n.paths ++ (n.doors ++ (n.routes ++ (n.trips ++ n.hazards))))
/-! ### the first thing that is wrong -/
def fst0 : Nat → List (List Int) → WrM
  | _, [] => okW
  | k, l :: r => match l.findIdx? (fun e => decide (e ≠ 0)) with
    | some i => ⟨l[i]?.getD 0, k, i⟩
    | none => fst0 (k + 1) r
theorem fst0_ok : ∀ (E : List (List Int)) (k : Nat), (∀ l ∈ E, ∀ e ∈ l, e = 0) → fst0 k E = okW
  | [], _, _ => rfl
  | l :: r, k, h => by
    have h1 : l.findIdx? (fun e => decide (e ≠ 0)) = none := by
      rw [List.findIdx?_eq_none_iff]
      intro e he
      simp [h l (List.mem_cons_self ..) e he]
    rw [fst0, h1]
    exact fst0_ok r (k + 1) fun l hl => h l (List.mem_cons_of_mem _ hl)
theorem fst0_at : ∀ (E : List (List Int)) (k q i : Nat) (l : List Int) (e : Int), E[q]? = some l → l[i]? = some e → e ≠ 0 → (∀ q' < q, ∀ l', E[q']? = some l' → ∀ e ∈ l', e = 0) → (∀ i' < i, ∀ e', l[i']? = some e' → e' = 0) → fst0 k E = ⟨e, ((k + q : Nat) : Int), i⟩
  | [], _, _, _, _, _, h, _, _, _, _ => by simp at h
  | l0 :: r, k, 0, i, l, e, h, hi, he, _, hb => by
    simp at h; subst h
    have h1 : l0.findIdx? (fun e => decide (e ≠ 0)) = some i := by
      rw [List.findIdx?_eq_some_iff_getElem]
      obtain ⟨hlt, hg⟩ := List.getElem?_eq_some_iff.1 hi
      refine ⟨hlt, by simp [hg, he], fun j hj => ?_⟩
      have := hb j hj (l0[j]'(by omega)) (List.getElem?_eq_getElem _)
      simp [this]
    rw [fst0, h1]
    simp [hi]
  | l0 :: r, k, q + 1, i, l, e, h, hi, he, ha, hb => by
    have h1 : l0.findIdx? (fun e => decide (e ≠ 0)) = none := by
      rw [List.findIdx?_eq_none_iff]
      intro e he
      simp [ha 0 (by omega) l0 rfl e he]
    rw [fst0, h1]
    have := fst0_at r (k + 1) q i l e (by simpa using h) hi he (fun q' hq l' hl' => ha (q' + 1) (by omega) l' (by simpa using hl')) hb
    rw [show fst0 (k + 1) r = _ from this]
    rw [show k + 1 + q = k + (q + 1) by omega]
theorem fst0_zero : ∀ (E : List (List Int)) (k : Nat), (fst0 k E).err = 0 → ∀ l ∈ E, ∀ e ∈ l, e = 0
  | [], _, _, l, hl => by cases hl
  | l0 :: r, k, h, l, hl => by
    rw [fst0] at h
    cases hf : l0.findIdx? (fun e => decide (e ≠ 0)) with
    | some i =>
      rw [hf] at h
      rw [List.findIdx?_eq_some_iff_getElem] at hf
      obtain ⟨hlt, hg, _⟩ := hf
      simp [hlt] at h hg
      exact absurd h hg
    | none =>
      rw [hf] at h
      rw [List.findIdx?_eq_none_iff] at hf
      rcases List.mem_cons.1 hl with rfl | hl
      · intro e he
        have := hf e he
        simpa using this
      · exact fst0_zero r (k + 1) h l hl
/-- names that another one ahead has -/
def dupE (seen : List Nm) : List Nm → List Int
  | [] => []
  | x :: r => (if x ∈ seen then 6 else 0) :: dupE (seen ++ [x]) r
def dups (seen : List Nm) : List (List Nm) → List (List Int)
  | [] => []
  | l :: r => dupE seen l :: dups (seen ++ l) r
def dupW (n : NamesM) : WrM := fst0 0 (dups [] n.kinds)
def errsW (w : WorldM) : List (List Int) := [[], w.names.stops.map (fun _ => 0), w.paths.map pathE, w.doors.map (doorE w.horizon), w.routes.map routeE, w.trips.map tripE, w.hazards.map (hazE w.horizon)]
def errW (w : WorldM) : WrM := fst0 0 (errsW w)
/-- what is wrong with a sheet -/
def wrongX (x : SheetM) : WrM := if checkM x ≠ 0 then ⟨checkM x, 0, 0⟩ else if (dupW (namesX x)).err ≠ 0 then dupW (namesX x) else errW (numX x)
/-- the world of a sheet -/
def makeX (x : SheetM) : WorldM := if (wrongX x).err ≠ 0 then zWo else numX x
/-! ### the sheet of a world -/
def inB (n : Int) (l : List Nm) : Bool := decide (0 ≤ n) && decide (n < l.length)
def wholeB (w : WorldM) : Bool :=
  (decide (w.names.paths.length = w.paths.length) && (decide (w.names.doors.length = w.doors.length) && (decide (w.names.routes.length = w.routes.length) && (decide (w.names.trips.length = w.trips.length) && decide (w.names.hazards.length = w.hazards.length))))) &&
  (w.paths.all (fun p => inB p.a w.names.stops && inB p.b w.names.stops) && (w.doors.all (fun p => inB p.a w.names.stops && inB p.b w.names.stops) && (w.routes.all (fun r => r.stops.all fun n => inB n w.names.stops) && (w.trips.all (fun t => inB t.route w.names.routes) && w.hazards.all (fun h => inB h.on_ (if h.stop then w.names.stops else w.names.paths))))))
/-- the name at a place -/
def nm (l : List Nm) (n : Int) : Nm := l[n.toNat]?.getD []
def tPath (n : NamesM) (a : Nm) (p : PathO) : PathM := ⟨a, nm n.stops p.a, nm n.stops p.b, p.len⟩
def tDoor (n : NamesM) (a : Nm) (p : DoorO) : DoorM := ⟨a, nm n.stops p.a, nm n.stops p.b, p.len, p.times⟩
def tRoute (n : NamesM) (a : Nm) (r : RouteO) : RouteM := ⟨a, r.stops.map (nm n.stops), r.rides, r.stays⟩
def tTrip (n : NamesM) (a : Nm) (t : TripO) : TripM := ⟨a, nm n.routes t.route, t.frm, t.every, t.til⟩
def tHaz (n : NamesM) (a : Nm) (h : HazO) : HazM := ⟨a, nm (if h.stop then n.stops else n.paths) h.on_, h.times⟩
def toldW (w : WorldM) : SheetM := ⟨w.horizon, w.names.stops, w.names.paths.zipWith (tPath w.names) w.paths, w.names.doors.zipWith (tDoor w.names) w.doors, w.names.routes.zipWith (tRoute w.names) w.routes, w.names.trips.zipWith (tTrip w.names) w.trips, w.names.hazards.zipWith (tHaz w.names) w.hazards⟩
def wrongW (w : WorldM) : WrM := if wholeB w = false then ⟨2, 0, 0⟩ else wrongX (toldW w)
def sheetW (w : WorldM) : SheetM := if (wrongW w).err ≠ 0 then zSheetM else toldW w
/-! ### places -/
theorem pl_neg {S : List Nm} {a : Nm} : pl S a < 0 ↔ a ∉ S := by
  unfold pl
  split
  · rename_i h
    exact ⟨fun h2 => by omega, fun h2 => absurd h h2⟩
  · rename_i h
    exact ⟨fun _ => h, fun _ => by omega⟩
theorem pl_mem {S : List Nm} {a : Nm} (h : a ∈ S) : pl S a = (S.idxOf a : Int) := if_pos h
theorem idxOf_at {S : List Nm} {a : Nm} (h : a ∈ S) : S[S.idxOf a]? = some a := by
  have := List.idxOf_lt_length_iff.2 h
  rw [List.getElem?_eq_getElem this, List.getElem_idxOf this]
/-! ### what is right in a world of a sheet -/
theorem fst0_okW {E : List (List Int)} {k : Nat} (h : (fst0 k E).err = 0) : fst0 k E = okW := fst0_ok _ _ (fst0_zero _ _ h)
theorem wrong_parts {x : SheetM} (h : (wrongX x).err = 0) : checkM x = 0 ∧ dupW (namesX x) = okW ∧ errW (numX x) = okW ∧ wrongX x = okW := by
  unfold wrongX at h ⊢
  split at h
  · rename_i h1; exact absurd h h1
  · rename_i h1
    split at h
    · rename_i h2; exact absurd h h2
    · rename_i h2
      have e1 : checkM x = 0 := by omega
      have e2 : dupW (namesX x) = okW := fst0_okW (Decidable.not_not.1 h2)
      have e3 : errW (numX x) = okW := fst0_okW h
      refine ⟨e1, e2, e3, ?_⟩
      rw [if_neg (by omega), if_neg h2, e3]
theorem wrong_ok {x : SheetM} (h1 : checkM x = 0) (h2 : dupW (namesX x) = okW) (h3 : errW (numX x) = okW) : wrongX x = okW := by
  unfold wrongX
  rw [if_neg (by omega), if_neg (by rw [h2]; simp), h3]
/-! ### names that stand once -/
theorem dupE_at : ∀ (l seen : List Nm) (i : Nat), (dupE seen l)[i]? = (l[i]?).map fun x => if x ∈ seen ++ l.take i then (6 : Int) else 0
  | [], _, _ => by simp [dupE]
  | x :: r, seen, 0 => by simp [dupE]
  | x :: r, seen, i + 1 => by
    rw [dupE, List.getElem?_cons_succ, dupE_at r, List.getElem?_cons_succ, List.take_succ_cons]
    congr 1
    funext y
    simp [List.append_assoc]
theorem dups_at : ∀ (E : List (List Nm)) (seen : List Nm) (k : Nat), (dups seen E)[k]? = (E[k]?).map (dupE (seen ++ (E.take k).flatten))
  | [], _, _ => by simp [dups]
  | l :: r, seen, 0 => by simp [dups]
  | l :: r, seen, k + 1 => by
    rw [dups, List.getElem?_cons_succ, dups_at r, List.getElem?_cons_succ, List.take_succ_cons, List.flatten_cons, List.append_assoc]
theorem nodup_dupE : ∀ (l seen : List Nm), seen.Nodup → ((∀ e ∈ dupE seen l, e = 0) ↔ (seen ++ l).Nodup)
  | [], seen, h => by simp [dupE, h]
  | x :: r, seen, h => by
    rw [dupE]
    by_cases hx : x ∈ seen
    · rw [if_pos hx]
      constructor
      · intro h2
        have := h2 6 (List.mem_cons_self ..)
        omega
      · intro h2
        rw [List.nodup_append] at h2
        exact absurd rfl (h2.2.2 x hx x (List.mem_cons_self ..))
    · rw [if_neg hx]
      have hs : (seen ++ [x]).Nodup := by
        rw [List.nodup_append]
        exact ⟨h, by simp, by intro a ha b hb; simp at hb; subst hb; rintro rfl; exact hx ha⟩
      have := nodup_dupE r (seen ++ [x]) hs
      rw [List.append_assoc, List.singleton_append] at this
      rw [← this]
      constructor
      · intro h2 e he; exact h2 e (List.mem_cons_of_mem _ he)
      · intro h2 e he
        rcases List.mem_cons.1 he with rfl | he
        · rfl
        · exact h2 e he
theorem nodup_dups : ∀ (E : List (List Nm)) (seen : List Nm), seen.Nodup → ((∀ l ∈ dups seen E, ∀ e ∈ l, e = 0) ↔ (seen ++ E.flatten).Nodup)
  | [], seen, h => by simp [dups, h]
  | l :: r, seen, h => by
    rw [dups, List.flatten_cons, ← List.append_assoc]
    constructor
    · intro h2
      have h3 := (nodup_dupE l seen h).1 (h2 _ (List.mem_cons_self ..))
      exact (nodup_dups r (seen ++ l) h3).1 fun l' hl' => h2 l' (List.mem_cons_of_mem _ hl')
    · intro h2
      have h3 : (seen ++ l).Nodup := (List.nodup_append.1 h2).1
      intro l' hl'
      rcases List.mem_cons.1 hl' with rfl | hl'
      · exact (nodup_dupE l seen h).2 h3
      · exact (nodup_dups r (seen ++ l) h3).2 h2 l' hl'
theorem kinds_flat (n : NamesM) : n.kinds.flatten = n.flat := by simp [NamesM.kinds, NamesM.flat]
theorem dupW_iff (n : NamesM) : dupW n = okW ↔ n.flat.Nodup := by
  rw [← kinds_flat]
  have := nodup_dups n.kinds [] List.nodup_nil
  rw [List.nil_append] at this
  rw [← this]
  constructor
  · intro h; exact fst0_zero _ 0 (show (dupW n).err = 0 by rw [h])
  · intro h; exact fst0_ok _ _ h
/-! ### sheets that may be -/
theorem check_iff (x : SheetM) : checkM x = 0 ↔ crowdedM x = false ∧ namedM x = true ∧ rangedM x = true ∧ countedM x = true := by
  unfold checkM
  cases crowdedM x <;> cases namedM x <;> cases rangedM x <;> cases countedM x <;> simp
/-- what Check asks, thing by thing -/
structure Ok (x : SheetM) : Prop where
  n1 : x.stops.length ≤ 256
  n2 : x.paths.length ≤ 1024
  n3 : x.doors.length ≤ 256
  n4 : x.routes.length ≤ 256
  n5 : x.trips.length ≤ 1024
  n6 : x.hazards.length ≤ 256
  hz : tickB x.horizon = true
  s : ∀ q ∈ x.stops, nameB q = true
  p : ∀ q ∈ x.paths, path_name q = true ∧ path_tick q = true
  d : ∀ q ∈ x.doors, door_name q = true ∧ door_tick q = true
  r : ∀ q ∈ x.routes, route_name q = true ∧ route_tick q = true ∧ route_count q = true
  t : ∀ q ∈ x.trips, trip_name q = true ∧ trip_tick q = true
  h : ∀ q ∈ x.hazards, haz_name q = true ∧ haz_tick q = true
theorem check_ok {x : SheetM} : checkM x = 0 ↔ Ok x := by
  rw [check_iff]
  unfold crowdedM namedM rangedM countedM
  simp only [Bool.or_eq_false_iff, decide_eq_false_iff_not, Nat.not_lt, Bool.and_eq_true, List.all_eq_true, List.mem_singleton, forall_eq]
  constructor
  · rintro ⟨⟨h1, h2, h3, h4, h5, h6⟩, ⟨s, p, d, r, t, h⟩, ⟨hz, p2, d2, r2, t2, h7⟩, r3⟩
    exact ⟨h1, h2, h3, h4, h5, h6, hz, s, fun q hq => ⟨p q hq, p2 q hq⟩, fun q hq => ⟨d q hq, d2 q hq⟩, fun q hq => ⟨r q hq, r2 q hq, r3 q hq⟩, fun q hq => ⟨t q hq, t2 q hq⟩, fun q hq => ⟨h q hq, h7 q hq⟩⟩
  · rintro ⟨h1, h2, h3, h4, h5, h6, hz, s, p, d, r, t, h⟩
    exact ⟨⟨h1, h2, h3, h4, h5, h6⟩, ⟨s, fun q hq => (p q hq).1, fun q hq => (d q hq).1, fun q hq => (r q hq).1, fun q hq => (t q hq).1, fun q hq => (h q hq).1⟩, ⟨hz, fun q hq => (p q hq).2, fun q hq => (d q hq).2, fun q hq => (r q hq).2.1, fun q hq => (t q hq).2, fun q hq => (h q hq).2⟩, fun q hq => (r q hq).2.2⟩
/-! ### one thing less, one told twice -/
/-! ### all named otherwise -/
/-! ### a stop more, a path more -/
theorem names_ok {x : SheetM} (o : Ok x) : ∀ a ∈ (namesX x).flat, nameB a = true := by
  intro a ha
  unfold NamesM.flat namesX at ha
  simp only [List.mem_append, List.mem_map] at ha
  rcases ha with h | ⟨q, h, rfl⟩ | ⟨q, h, rfl⟩ | ⟨q, h, rfl⟩ | ⟨q, h, rfl⟩ | ⟨q, h, rfl⟩
  · exact o.s a h
  · have := (o.p q h).1; simp [path_name] at this; exact this.1
  · have := (o.d q h).1; simp [door_name] at this; exact this.1
  · have := (o.r q h).1; simp [route_name] at this; exact this.1
  · have := (o.t q h).1; simp [trip_name] at this; exact this.1
  · have := (o.h q h).1; simp [haz_name] at this; exact this.1
end Go.Proofs.YtfefnfifeaihhaaGreat.Wo
