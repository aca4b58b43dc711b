/- A sheet whose names are all longer by one byte: what is so of it. No conditions. -/
import Derived.Test.YtgdanbfglefiiaaGreatWoMath
namespace Go.Proofs.YtgdanbfglefiiaaGreat.Wo
open Lx Sh
set_option linter.unusedVariables false
set_option linter.unusedSimpArgs false
/-! ### errors of things with numbers -/
/-! ### numbers in the place of names -/
/-! ### the first thing that is wrong -/
/-! ### the sheet of a world -/
/-! ### places -/
/-! ### what is right in a world of a sheet -/
/-! ### names that stand once -/
theorem good_of {x : SheetM} (h1 : Ok x) (h2 : (namesX x).flat.Nodup) (h3 : Refs x) : wrongX x = okW := wrong_ok (check_ok.2 h1) ((dupW_iff _).2 h2) (ok_of_refs h3)
/-! ### one thing less, one told twice -/
theorem pl_map {f : Nm → Nm} (hf : ∀ a b, f a = f b → a = b) (S : List Nm) (a : Nm) : pl (S.map f) (f a) = pl S a := by
  have hm : f a ∈ S.map f ↔ a ∈ S := by
    constructor
    · intro h
      obtain ⟨b, hb, e⟩ := List.mem_map.1 h
      rw [← hf _ _ e]; exact hb
    · intro h; exact List.mem_map.2 ⟨a, h, rfl⟩
  have hi : (S.map f).idxOf (f a) = S.idxOf a := by
    induction S with
    | nil => rfl
    | cons x r ih =>
      rw [List.map_cons, List.idxOf_cons, List.idxOf_cons]
      by_cases e : x = a
      · subst e; simp
      · have h1 : (f x == f a) = false := by simpa using fun h => e (hf _ _ h)
        have h2 : (x == a) = false := by simpa using e
        rw [h1, h2]
        have hm' : f a ∈ r.map f ↔ a ∈ r := by
          constructor
          · intro h
            obtain ⟨b, hb, e⟩ := List.mem_map.1 h
            rw [← hf _ _ e]; exact hb
          · intro h; exact List.mem_map.2 ⟨a, h, rfl⟩
        simp only [cond_false]
        rw [ih hm']
  unfold pl
  by_cases h : a ∈ S
  · rw [if_pos h, if_pos (hm.2 h), hi]
  · rw [if_neg h, if_neg (fun h2 => h (hm.1 h2))]
def rz (a : Nm) : Nm := 122 :: a
theorem rz_inj (a b : Nm) (h : rz a = rz b) : a = b := by unfold rz at h; injection h
def rzP (p : PathM) : PathM := ⟨rz p.name, rz p.a, rz p.b, p.len⟩
def rzD (p : DoorM) : DoorM := ⟨rz p.name, rz p.a, rz p.b, p.len, p.times⟩
def rzR (p : RouteM) : RouteM := ⟨rz p.name, p.stops.map rz, p.rides, p.stays⟩
def rzT (p : TripM) : TripM := ⟨rz p.name, rz p.route, p.frm, p.every, p.til⟩
def rzH (p : HazM) : HazM := ⟨rz p.name, rz p.at_, p.times⟩
def rzX (x : SheetM) : SheetM := ⟨x.horizon, x.stops.map rz, x.paths.map rzP, x.doors.map rzD, x.routes.map rzR, x.trips.map rzT, x.hazards.map rzH⟩
/-- names are short -/
structure Sht (x : SheetM) : Prop where
  s : ∀ q ∈ x.stops, q.length ≤ 22
  p : ∀ q ∈ x.paths, q.name.length ≤ 22 ∧ q.a.length ≤ 22 ∧ q.b.length ≤ 22
  d : ∀ q ∈ x.doors, q.name.length ≤ 22 ∧ q.a.length ≤ 22 ∧ q.b.length ≤ 22
  r : ∀ q ∈ x.routes, q.name.length ≤ 22 ∧ ∀ s ∈ q.stops, s.length ≤ 22
  t : ∀ q ∈ x.trips, q.name.length ≤ 22 ∧ q.route.length ≤ 22
  h : ∀ q ∈ x.hazards, q.name.length ≤ 22 ∧ q.at_.length ≤ 22
theorem rz_name {a : Nm} (h : nameB a = true) (hl : a.length ≤ 22) : nameB (rz a) = true := by
  unfold nameB at h ⊢
  simp only [Bool.and_eq_true, decide_eq_true_eq, List.all_eq_true] at h ⊢
  refine ⟨by simp [rz]; omega, ?_, by simp [rz, nextK, kindOf], ?_⟩
  · simp [isRes, reservedL, rz]
  · intro c hc
    rcases List.mem_cons.1 hc with rfl | hc
    · simp [isMore, kindOf]
    · exact h.2.2.2 c hc
theorem nm_rz (x : SheetM) : namesX (rzX x) = ⟨(namesX x).stops.map rz, (namesX x).paths.map rz, (namesX x).doors.map rz, (namesX x).routes.map rz, (namesX x).trips.map rz, (namesX x).hazards.map rz⟩ := by
  simp only [namesX, rzX, List.map_map]
  rfl
theorem rz_num (x : SheetM) : numX (rzX x) = { numX x with names := namesX (rzX x) } := by
  have hp := fun S a => pl_map rz_inj S a
  have e1 : (rzX x).stops = x.stops.map rz := rfl
  have e2 : (namesX (rzX x)).paths = (namesX x).paths.map rz := by rw [nm_rz]
  have e3 : (namesX (rzX x)).routes = (namesX x).routes.map rz := by rw [nm_rz]
  unfold numX
  simp only [WorldM.mk.injEq, true_and, e1, e2, e3]
  refine ⟨rfl, ?_, ?_, ?_, ?_, ?_⟩
  · simp only [rzX, List.map_map]
    exact List.map_congr_left fun q hq => by simp [nPath, rzP, hp]
  · simp only [rzX, List.map_map]
    exact List.map_congr_left fun q hq => by simp [nDoor, rzD, hp]
  · simp only [rzX, List.map_map]
    refine List.map_congr_left fun q hq => ?_
    simp only [Function.comp, nRoute, rzR, List.map_map, RouteO.mk.injEq, and_true]
    exact List.map_congr_left fun a _ => hp _ a
  · simp only [rzX, List.map_map]
    exact List.map_congr_left fun q hq => by simp [nTrip, rzT, hp]
  · simp only [rzX, List.map_map]
    exact List.map_congr_left fun q hq => by simp [nHaz, rzH, hp]
theorem rz_ok {x : SheetM} (h : (wrongX x).err = 0) (hs : Sht x) : wrongX (rzX x) = okW := by
  obtain ⟨o, n, r⟩ := good_parts h
  obtain ⟨_, _, he, _⟩ := wrong_parts h
  refine wrong_ok (check_ok.2 ?_) ((dupW_iff _).2 ?_) ?_
  · refine ⟨by simpa [rzX] using o.n1, by simpa [rzX] using o.n2, by simpa [rzX] using o.n3, by simpa [rzX] using o.n4, by simpa [rzX] using o.n5, by simpa [rzX] using o.n6, o.hz, ?_, ?_, ?_, ?_, ?_, ?_⟩
    · intro q hq
      obtain ⟨a, ha, rfl⟩ := List.mem_map.1 hq
      exact rz_name (o.s a ha) (hs.s a ha)
    · intro q hq
      obtain ⟨a, ha, rfl⟩ := List.mem_map.1 hq
      obtain ⟨h1, h2⟩ := o.p a ha
      obtain ⟨g1, g2, g3⟩ := hs.p a ha
      simp only [path_name, List.all_cons, List.all_nil, Bool.and_true, Bool.and_eq_true] at h1
      refine ⟨?_, h2⟩
      simp only [path_name, rzP, List.all_cons, List.all_nil, Bool.and_true, Bool.and_eq_true]
      exact ⟨rz_name h1.1 g1, rz_name h1.2.1 g2, rz_name h1.2.2 g3⟩
    · intro q hq
      obtain ⟨a, ha, rfl⟩ := List.mem_map.1 hq
      obtain ⟨h1, h2⟩ := o.d a ha
      obtain ⟨g1, g2, g3⟩ := hs.d a ha
      simp only [door_name, List.all_cons, List.all_nil, Bool.and_true, Bool.and_eq_true] at h1
      refine ⟨?_, h2⟩
      simp only [door_name, rzD, List.all_cons, List.all_nil, Bool.and_true, Bool.and_eq_true]
      exact ⟨rz_name h1.1 g1, rz_name h1.2.1 g2, rz_name h1.2.2 g3⟩
    · intro q hq
      obtain ⟨a, ha, rfl⟩ := List.mem_map.1 hq
      obtain ⟨h1, h2, h3⟩ := o.r a ha
      obtain ⟨g1, g2⟩ := hs.r a ha
      simp only [route_name, Bool.and_eq_true, List.all_eq_true] at h1
      refine ⟨?_, h2, by simpa [route_count, rzR] using h3⟩
      simp only [route_name, rzR, Bool.and_eq_true, List.all_eq_true]
      refine ⟨rz_name h1.1 g1, fun s hs' => ?_⟩
      obtain ⟨b, hb, rfl⟩ := List.mem_map.1 hs'
      exact rz_name (h1.2 b hb) (g2 b hb)
    · intro q hq
      obtain ⟨a, ha, rfl⟩ := List.mem_map.1 hq
      obtain ⟨h1, h2⟩ := o.t a ha
      obtain ⟨g1, g2⟩ := hs.t a ha
      simp only [trip_name, List.all_cons, List.all_nil, Bool.and_true, Bool.and_eq_true] at h1
      refine ⟨?_, h2⟩
      simp only [trip_name, rzT, List.all_cons, List.all_nil, Bool.and_true, Bool.and_eq_true]
      exact ⟨rz_name h1.1 g1, rz_name h1.2 g2⟩
    · intro q hq
      obtain ⟨a, ha, rfl⟩ := List.mem_map.1 hq
      obtain ⟨h1, h2⟩ := o.h a ha
      obtain ⟨g1, g2⟩ := hs.h a ha
      simp only [haz_name, List.all_cons, List.all_nil, Bool.and_true, Bool.and_eq_true] at h1
      refine ⟨?_, h2⟩
      simp only [haz_name, rzH, List.all_cons, List.all_nil, Bool.and_true, Bool.and_eq_true]
      exact ⟨rz_name h1.1 g1, rz_name h1.2 g2⟩
  · have e : (namesX (rzX x)).flat = (namesX x).flat.map rz := by rw [nm_rz]; simp [NamesM.flat]
    rw [e]
    exact List.Pairwise.map _ (fun a b hab h2 => hab (rz_inj _ _ h2)) n
  · have e : errsW (numX (rzX x)) = errsW (numX x) := by
      rw [rz_num, nm_rz]
      simp [errsW, numX, namesX]
    unfold errW at he ⊢
    rw [e, he]
/-! ### a stop more, a path more -/
end Go.Proofs.YtgdanbfglefiiaaGreat.Wo
