/- Worlds as plain data: names and numbers, what is wrong with a sheet first, the world of a sheet, the sheet of a world. Pure mathematics. No conditions. -/
import Derived.Test.YtgdanbfglefiiaaGreatWoMath
namespace Go.Proofs.YtgdanbfglefiiaaGreat.Wo
open Lx Sh
set_option linter.unusedVariables false
set_option linter.unusedSimpArgs false
/-! ### errors of things with numbers -/
/-! ### numbers in the place of names -/
/-! ### the first thing that is wrong -/
/-! ### the sheet of a world -/
/-! ### places -/
/-! ### what is right in a world of a sheet -/
/-! ### names that stand once -/
theorem find_kind {n : NamesM} {a : Nm} (h : a ∈ n.flat) : (findW n a).1 ≠ 0 := by
  unfold findW NamesM.kinds
  simp only [NamesM.flat, List.mem_append] at h
  simp only [find0, List.not_mem_nil, if_false]
  repeat' split
  all_goals first | (simp; done) | (exfalso; simp_all)
/-! ### sheets that may be -/
theorem check_text {x : SheetM} (h1 : crowdedM x = false) (h2 : namedM x = false) : checkM x = 7 := by
  unfold checkM
  simp [h1, h2]
theorem good_of {x : SheetM} (h1 : Ok x) (h2 : (namesX x).flat.Nodup) (h3 : Refs x) : wrongX x = okW := wrong_ok (check_ok.2 h1) ((dupW_iff _).2 h2) (ok_of_refs h3)
/-! ### one thing less, one told twice -/
theorem cut_sub {α : Type} (l : List α) (k : Nat) : (l.take k ++ l.drop (k + 1)).Sublist l := by
  conv => rhs; rw [← List.take_append_drop k l]
  refine List.Sublist.append (List.Sublist.refl _) ?_
  rw [← List.drop_drop]
  exact List.drop_sublist _ _
theorem less_ok {x y : SheetM} (h : (wrongX x).err = 0) (hz : y.horizon = x.horizon) (h1 : y.stops = x.stops) (h2 : y.paths = x.paths) (h3 : y.doors.Sublist x.doors) (h4 : y.routes = x.routes) (h5 : y.trips.Sublist x.trips) (h6 : y.hazards.Sublist x.hazards) : wrongX y = okW := by
  obtain ⟨o, n, r⟩ := good_parts h
  refine good_of ?_ ?_ ?_
  · exact ⟨by rw [h1]; exact o.n1, by rw [h2]; exact o.n2, Nat.le_trans h3.length_le o.n3, by rw [h4]; exact o.n4, Nat.le_trans h5.length_le o.n5, Nat.le_trans h6.length_le o.n6, by rw [hz]; exact o.hz, by rw [h1]; exact o.s, by rw [h2]; exact o.p, fun q hq => o.d q (h3.subset hq), by rw [h4]; exact o.r, fun q hq => o.t q (h5.subset hq), fun q hq => o.h q (h6.subset hq)⟩
  · refine List.Nodup.sublist ?_ n
    unfold NamesM.flat namesX
    simp only
    rw [h1, h2, h4]
    exact List.Sublist.append (List.Sublist.refl _) (List.Sublist.append (List.Sublist.refl _) (List.Sublist.append (h3.map _) (List.Sublist.append (List.Sublist.refl _) (List.Sublist.append (h5.map _) (h6.map _)))))
  · exact ⟨by rw [h1, h2]; exact r.p, by rw [h1, hz]; exact fun q hq => r.d q (h3.subset hq), by rw [h1, h4]; exact r.r, by rw [h4]; exact fun q hq => r.t q (h5.subset hq), by rw [h1, h2, hz]; exact fun q hq => r.h q (h6.subset hq)⟩
theorem dup_more {n n' : NamesM} (h : n.flat.Nodup) {q : Nat} {l : List Nm} {a : Nm} (hq : n.kinds[q]? = some l) (ha : a ∈ l) (hq' : n'.kinds[q]? = some (l ++ [a])) (ht : n'.kinds.take q = n.kinds.take q) : dupW n' = ⟨6, q, l.length⟩ := by
  have hz : ∀ l' ∈ dups [] n.kinds, ∀ e ∈ l', e = 0 := fst0_zero _ 0 (show (dupW n).err = 0 by rw [(dupW_iff n).2 h])
  have hd : (dups [] n'.kinds)[q]? = some (dupE (([] : List Nm) ++ (n.kinds.take q).flatten) (l ++ [a])) := by rw [dups_at, hq', ht]; rfl
  have hd0 : (dups [] n.kinds)[q]? = some (dupE (([] : List Nm) ++ (n.kinds.take q).flatten) l) := by rw [dups_at, hq]; rfl
  have := fst0_at (dups [] n'.kinds) 0 q l.length _ 6 hd (by rw [dupE_at]; simp [ha]) (by omega) (fun q' hq2 l' hl' => by
    have e : (dups [] n'.kinds)[q']? = (dups [] n.kinds)[q']? := by
      rw [dups_at, dups_at]
      have e1 : n'.kinds[q']? = n.kinds[q']? := by
        have := congrArg (·[q']?) ht
        simpa [List.getElem?_take, hq2] using this
      have e2 : n'.kinds.take q' = n.kinds.take q' := by
        have := congrArg (List.take q') ht
        rwa [List.take_take, List.take_take, Nat.min_eq_left (Nat.le_of_lt hq2)] at this
      rw [e1, e2]
    rw [e] at hl'
    exact hz l' (List.mem_of_getElem? hl')) (fun i' hi e' he' => by
    rw [dupE_at, List.getElem?_append_left hi, List.take_append_of_le_length (by omega), ← dupE_at] at he'
    exact hz _ (List.mem_of_getElem? hd0) e' (List.mem_of_getElem? he'))
  rw [Nat.zero_add] at this
  exact this
theorem twice_wrong {x z : SheetM} (h : (wrongX x).err = 0) (hz : Ok z) {q : Nat} {l : List Nm} {a : Nm} (hq : (namesX x).kinds[q]? = some l) (ha : a ∈ l) (hq' : (namesX z).kinds[q]? = some (l ++ [a])) (ht : (namesX z).kinds.take q = (namesX x).kinds.take q) : wrongX z = ⟨6, q, l.length⟩ := by
  have hd := dup_more (good_parts h).2.1 hq ha hq' ht
  unfold wrongX
  rw [if_neg (by rw [check_ok.2 hz]; simp), if_pos (by rw [hd]; simp), hd]
theorem mem_more {α : Type} {l : List α} {a q : α} (h : q ∈ l ++ [a]) : q ∈ l ∨ q = a := by simpa using h
theorem less_trip {x : SheetM} (h : (wrongX x).err = 0) (hl : x.trips.length ≤ 60) {k : Nat} {t : TripM} (ht : x.trips[k]? = some t) : wrongX { x with trips := x.trips ++ [t] } = ⟨6, 5, x.trips.length⟩ := by
  have o := (good_parts h).1
  have hm := List.mem_of_getElem? ht
  have := twice_wrong (z := { x with trips := x.trips ++ [t] }) (q := 5) (l := x.trips.map (·.name)) (a := t.name) h ⟨o.n1, o.n2, o.n3, o.n4, by simp; omega, o.n6, o.hz, o.s, o.p, o.d, o.r, fun q hq => (mem_more hq).elim (fun hq => o.t q hq) (fun e => by subst e; exact o.t _ hm), o.h⟩ rfl (List.mem_map.2 ⟨t, hm, rfl⟩) (by simp [namesX, NamesM.kinds]) rfl
  rw [this]; simp
theorem less_haz {x : SheetM} (h : (wrongX x).err = 0) (hl : x.hazards.length ≤ 60) {k : Nat} {t : HazM} (ht : x.hazards[k]? = some t) : wrongX { x with hazards := x.hazards ++ [t] } = ⟨6, 6, x.hazards.length⟩ := by
  have o := (good_parts h).1
  have hm := List.mem_of_getElem? ht
  have := twice_wrong (z := { x with hazards := x.hazards ++ [t] }) (q := 6) (l := x.hazards.map (·.name)) (a := t.name) h ⟨o.n1, o.n2, o.n3, o.n4, o.n5, by simp; omega, o.hz, o.s, o.p, o.d, o.r, o.t, fun q hq => (mem_more hq).elim (fun hq => o.h q hq) (fun e => by subst e; exact o.h _ hm)⟩ rfl (List.mem_map.2 ⟨t, hm, rfl⟩) (by simp [namesX, NamesM.kinds]) rfl
  rw [this]; simp
theorem less_door {x : SheetM} (h : (wrongX x).err = 0) (hl : x.doors.length ≤ 60) {k : Nat} {t : DoorM} (ht : x.doors[k]? = some t) : wrongX { x with doors := x.doors ++ [t] } = ⟨6, 3, x.doors.length⟩ := by
  have o := (good_parts h).1
  have hm := List.mem_of_getElem? ht
  have := twice_wrong (z := { x with doors := x.doors ++ [t] }) (q := 3) (l := x.doors.map (·.name)) (a := t.name) h ⟨o.n1, o.n2, by simp; omega, o.n4, o.n5, o.n6, o.hz, o.s, o.p, fun q hq => (mem_more hq).elim (fun hq => o.d q hq) (fun e => by subst e; exact o.d _ hm), o.r, o.t, o.h⟩ rfl (List.mem_map.2 ⟨t, hm, rfl⟩) (by simp [namesX, NamesM.kinds]) rfl
  rw [this]; simp
/-! ### all named otherwise -/
theorem pl_map {f : Nm → Nm} (hf : ∀ a b, f a = f b → a = b) (S : List Nm) (a : Nm) : pl (S.map f) (f a) = pl S a := by
  have hm : f a ∈ S.map f ↔ a ∈ S := by
    constructor
    · intro h
      obtain ⟨b, hb, e⟩ := List.mem_map.1 h
      rw [← hf _ _ e]; exact hb
    · intro h; exact List.mem_map.2 ⟨a, h, rfl⟩
  have hi : (S.map f).idxOf (f a) = S.idxOf a := by
    induction S with
    | nil => rfl
    | cons x r ih =>
      rw [List.map_cons, List.idxOf_cons, List.idxOf_cons]
      by_cases e : x = a
      · subst e; simp
      · have h1 : (f x == f a) = false := by simpa using fun h => e (hf _ _ h)
        have h2 : (x == a) = false := by simpa using e
        rw [h1, h2]
        have hm' : f a ∈ r.map f ↔ a ∈ r := by
          constructor
          · intro h
            obtain ⟨b, hb, e⟩ := List.mem_map.1 h
            rw [← hf _ _ e]; exact hb
          · intro h; exact List.mem_map.2 ⟨a, h, rfl⟩
        simp only [cond_false]
        rw [ih hm']
  unfold pl
  by_cases h : a ∈ S
  · rw [if_pos h, if_pos (hm.2 h), hi]
  · rw [if_neg h, if_neg (fun h2 => h (hm.1 h2))]
def rz (a : Nm) : Nm := 122 :: a
theorem rz_inj (a b : Nm) (h : rz a = rz b) : a = b := by unfold rz at h; injection h
def rzP (p : PathM) : PathM := ⟨rz p.name, rz p.a, rz p.b, p.len⟩
def rzD (p : DoorM) : DoorM := ⟨rz p.name, rz p.a, rz p.b, p.len, p.times⟩
def rzR (p : RouteM) : RouteM := ⟨rz p.name, p.stops.map rz, p.rides, p.stays⟩
def rzT (p : TripM) : TripM := ⟨rz p.name, rz p.route, p.frm, p.every, p.til⟩
def rzH (p : HazM) : HazM := ⟨rz p.name, rz p.at_, p.times⟩
def rzX (x : SheetM) : SheetM := ⟨x.horizon, x.stops.map rz, x.paths.map rzP, x.doors.map rzD, x.routes.map rzR, x.trips.map rzT, x.hazards.map rzH⟩
/-- names are short -/
structure Sht (x : SheetM) : Prop where
  s : ∀ q ∈ x.stops, q.length ≤ 22
  p : ∀ q ∈ x.paths, q.name.length ≤ 22 ∧ q.a.length ≤ 22 ∧ q.b.length ≤ 22
  d : ∀ q ∈ x.doors, q.name.length ≤ 22 ∧ q.a.length ≤ 22 ∧ q.b.length ≤ 22
  r : ∀ q ∈ x.routes, q.name.length ≤ 22 ∧ ∀ s ∈ q.stops, s.length ≤ 22
  t : ∀ q ∈ x.trips, q.name.length ≤ 22 ∧ q.route.length ≤ 22
  h : ∀ q ∈ x.hazards, q.name.length ≤ 22 ∧ q.at_.length ≤ 22
theorem rz_name {a : Nm} (h : nameB a = true) (hl : a.length ≤ 22) : nameB (rz a) = true := by
  unfold nameB at h ⊢
  simp only [Bool.and_eq_true, decide_eq_true_eq, List.all_eq_true] at h ⊢
  refine ⟨by simp [rz]; omega, ?_, by simp [rz, nextK, kindOf], ?_⟩
  · simp [isRes, reservedL, rz]
  · intro c hc
    rcases List.mem_cons.1 hc with rfl | hc
    · simp [isMore, kindOf]
    · exact h.2.2.2 c hc
theorem nm_rz (x : SheetM) : namesX (rzX x) = ⟨(namesX x).stops.map rz, (namesX x).paths.map rz, (namesX x).doors.map rz, (namesX x).routes.map rz, (namesX x).trips.map rz, (namesX x).hazards.map rz⟩ := by
  simp only [namesX, rzX, List.map_map]
  rfl
theorem rz_num (x : SheetM) : numX (rzX x) = { numX x with names := namesX (rzX x) } := by
  have hp := fun S a => pl_map rz_inj S a
  have e1 : (rzX x).stops = x.stops.map rz := rfl
  have e2 : (namesX (rzX x)).paths = (namesX x).paths.map rz := by rw [nm_rz]
  have e3 : (namesX (rzX x)).routes = (namesX x).routes.map rz := by rw [nm_rz]
  unfold numX
  simp only [WorldM.mk.injEq, true_and, e1, e2, e3]
  refine ⟨rfl, ?_, ?_, ?_, ?_, ?_⟩
  · simp only [rzX, List.map_map]
    exact List.map_congr_left fun q hq => by simp [nPath, rzP, hp]
  · simp only [rzX, List.map_map]
    exact List.map_congr_left fun q hq => by simp [nDoor, rzD, hp]
  · simp only [rzX, List.map_map]
    refine List.map_congr_left fun q hq => ?_
    simp only [Function.comp, nRoute, rzR, List.map_map, RouteO.mk.injEq, and_true]
    exact List.map_congr_left fun a _ => hp _ a
  · simp only [rzX, List.map_map]
    exact List.map_congr_left fun q hq => by simp [nTrip, rzT, hp]
  · simp only [rzX, List.map_map]
    exact List.map_congr_left fun q hq => by simp [nHaz, rzH, hp]
theorem rz_ok {x : SheetM} (h : (wrongX x).err = 0) (hs : Sht x) : wrongX (rzX x) = okW := by
  obtain ⟨o, n, r⟩ := good_parts h
  obtain ⟨_, _, he, _⟩ := wrong_parts h
  refine wrong_ok (check_ok.2 ?_) ((dupW_iff _).2 ?_) ?_
  · refine ⟨by simpa [rzX] using o.n1, by simpa [rzX] using o.n2, by simpa [rzX] using o.n3, by simpa [rzX] using o.n4, by simpa [rzX] using o.n5, by simpa [rzX] using o.n6, o.hz, ?_, ?_, ?_, ?_, ?_, ?_⟩
    · intro q hq
      obtain ⟨a, ha, rfl⟩ := List.mem_map.1 hq
      exact rz_name (o.s a ha) (hs.s a ha)
    · intro q hq
      obtain ⟨a, ha, rfl⟩ := List.mem_map.1 hq
      obtain ⟨h1, h2⟩ := o.p a ha
      obtain ⟨g1, g2, g3⟩ := hs.p a ha
      simp only [path_name, List.all_cons, List.all_nil, Bool.and_true, Bool.and_eq_true] at h1
      refine ⟨?_, h2⟩
      simp only [path_name, rzP, List.all_cons, List.all_nil, Bool.and_true, Bool.and_eq_true]
      exact ⟨rz_name h1.1 g1, rz_name h1.2.1 g2, rz_name h1.2.2 g3⟩
    · intro q hq
      obtain ⟨a, ha, rfl⟩ := List.mem_map.1 hq
      obtain ⟨h1, h2⟩ := o.d a ha
      obtain ⟨g1, g2, g3⟩ := hs.d a ha
      simp only [door_name, List.all_cons, List.all_nil, Bool.and_true, Bool.and_eq_true] at h1
      refine ⟨?_, h2⟩
      simp only [door_name, rzD, List.all_cons, List.all_nil, Bool.and_true, Bool.and_eq_true]
      exact ⟨rz_name h1.1 g1, rz_name h1.2.1 g2, rz_name h1.2.2 g3⟩
    · intro q hq
      obtain ⟨a, ha, rfl⟩ := List.mem_map.1 hq
      obtain ⟨h1, h2, h3⟩ := o.r a ha
      obtain ⟨g1, g2⟩ := hs.r a ha
      simp only [route_name, Bool.and_eq_true, List.all_eq_true] at h1
      refine ⟨?_, h2, by simpa [route_count, rzR] using h3⟩
      simp only [route_name, rzR, Bool.and_eq_true, List.all_eq_true]
      refine ⟨rz_name h1.1 g1, fun s hs' => ?_⟩
      obtain ⟨b, hb, rfl⟩ := List.mem_map.1 hs'
      exact rz_name (h1.2 b hb) (g2 b hb)
    · intro q hq
      obtain ⟨a, ha, rfl⟩ := List.mem_map.1 hq
      obtain ⟨h1, h2⟩ := o.t a ha
      obtain ⟨g1, g2⟩ := hs.t a ha
      simp only [trip_name, List.all_cons, List.all_nil, Bool.and_true, Bool.and_eq_true] at h1
      refine ⟨?_, h2⟩
      simp only [trip_name, rzT, List.all_cons, List.all_nil, Bool.and_true, Bool.and_eq_true]
      exact ⟨rz_name h1.1 g1, rz_name h1.2 g2⟩
    · intro q hq
      obtain ⟨a, ha, rfl⟩ := List.mem_map.1 hq
      obtain ⟨h1, h2⟩ := o.h a ha
      obtain ⟨g1, g2⟩ := hs.h a ha
      simp only [haz_name, List.all_cons, List.all_nil, Bool.and_true, Bool.and_eq_true] at h1
      refine ⟨?_, h2⟩
      simp only [haz_name, rzH, List.all_cons, List.all_nil, Bool.and_true, Bool.and_eq_true]
      exact ⟨rz_name h1.1 g1, rz_name h1.2 g2⟩
  · have e : (namesX (rzX x)).flat = (namesX x).flat.map rz := by rw [nm_rz]; simp [NamesM.flat]
    rw [e]
    exact List.Pairwise.map _ (fun a b hab h2 => hab (rz_inj _ _ h2)) n
  · have e : errsW (numX (rzX x)) = errsW (numX x) := by
      rw [rz_num, nm_rz]
      simp [errsW, numX, namesX]
    unfold errW at he ⊢
    rw [e, he]
/-! ### a stop more, a path more -/
def moreS (x : SheetM) (a : Nm) : SheetM := { x with stops := x.stops ++ [a] }
def moreP (x : SheetM) (p : PathM) : SheetM := { x with paths := x.paths ++ [p] }
theorem dupE_six : ∀ (l seen : List Nm), ∀ e ∈ dupE seen l, e = 0 ∨ e = 6
  | [], _, e, h => by simp [dupE] at h
  | x :: r, seen, e, h => by
    rw [dupE] at h
    rcases List.mem_cons.1 h with rfl | h
    · split <;> simp
    · exact dupE_six r _ e h
theorem dups_six : ∀ (E : List (List Nm)) (seen : List Nm), ∀ l ∈ dups seen E, ∀ e ∈ l, e = 0 ∨ e = 6
  | [], _, l, h => by simp [dups] at h
  | l0 :: r, seen, l, h => by
    rw [dups] at h
    rcases List.mem_cons.1 h with rfl | h
    · exact dupE_six _ _
    · exact dups_six r _ l h
theorem fst0_six : ∀ (E : List (List Int)) (k : Nat), (∀ l ∈ E, ∀ e ∈ l, e = 0 ∨ e = 6) → (fst0 k E).err = 0 ∨ (fst0 k E).err = 6
  | [], _, _ => .inl rfl
  | l :: r, k, h => by
    rw [fst0]
    cases hf : l.findIdx? (fun e => decide (e ≠ 0)) with
    | none => exact fst0_six r (k + 1) fun l' hl' => h l' (List.mem_cons_of_mem _ hl')
    | some i =>
      rw [List.findIdx?_eq_some_iff_getElem] at hf
      obtain ⟨hlt, _, _⟩ := hf
      simp only
      rw [List.getElem?_eq_getElem hlt]
      exact h l (List.mem_cons_self ..) _ (List.getElem_mem hlt)
theorem dup_there {n : NamesM} (h : ¬ n.flat.Nodup) : (dupW n).err = 6 := by
  rcases fst0_six (dups [] n.kinds) 0 (dups_six _ _) with h0 | h0
  · exact absurd ((dupW_iff n).1 (fst0_okW h0)) h
  · exact h0
theorem flat_more (x : SheetM) (a : Nm) : (namesX (moreS x a)).flat = x.stops ++ (a :: (x.paths.map (·.name) ++ (x.doors.map (·.name) ++ (x.routes.map (·.name) ++ (x.trips.map (·.name) ++ x.hazards.map (·.name)))))) := by
  simp [NamesM.flat, namesX, moreS]
theorem nodup_more (x : SheetM) (a : Nm) : (namesX (moreS x a)).flat.Nodup ↔ a ∉ (namesX x).flat ∧ (namesX x).flat.Nodup := by
  rw [flat_more]
  have e : (namesX x).flat = x.stops ++ (x.paths.map (·.name) ++ (x.doors.map (·.name) ++ (x.routes.map (·.name) ++ (x.trips.map (·.name) ++ x.hazards.map (·.name))))) := rfl
  rw [e, List.perm_middle.nodup_iff, List.nodup_cons]
theorem more_okS {x : SheetM} (o : Ok x) (hl : x.stops.length ≤ 60) {a : Nm} (ha : nameB a = true) : Ok (moreS x a) :=
  ⟨by simp [moreS]; omega, o.n2, o.n3, o.n4, o.n5, o.n6, o.hz, fun q hq => (mem_more hq).elim (fun hq => o.s q hq) (fun e => by subst e; exact ha), o.p, o.d, o.r, o.t, o.h⟩
theorem more_bad {x : SheetM} (h : (wrongX x).err = 0) (hl : x.stops.length ≤ 60) {a : Nm} (ha : nameB a = false) : wrongX (moreS x a) = ⟨7, 0, 0⟩ := by
  obtain ⟨o, _, _⟩ := good_parts h
  have e : checkM (moreS x a) = 7 := by
    refine check_text ?_ ?_
    · have := (check_iff x).1 (check_ok.2 o)
      have h1 := o.n2; have h2 := o.n3; have h3 := o.n4; have h4 := o.n5; have h5 := o.n6
      unfold crowdedM moreS
      simp only [Bool.or_eq_false_iff, decide_eq_false_iff_not, Nat.not_lt, List.length_append, List.length_singleton]
      omega
    · unfold namedM moreS
      simp [ha]
  unfold wrongX
  rw [if_pos (by rw [e]; omega), e]
theorem more_there {x : SheetM} (h : (wrongX x).err = 0) (hl : x.stops.length ≤ 60) {a : Nm} (ha : a ∈ (namesX x).flat) : (wrongX (moreS x a)).err = 6 := by
  obtain ⟨o, n, _⟩ := good_parts h
  have hd := dup_there (n := namesX (moreS x a)) (fun hn => ((nodup_more x a).1 hn).1 ha)
  unfold wrongX
  rw [if_neg (by rw [check_ok.2 (more_okS o hl (names_ok o a ha))]; simp), if_pos (by rw [hd]; omega), hd]
theorem pl_more {S : List Nm} {a b : Nm} (h : b ∈ S) : pl (S ++ [a]) b = pl S b := by
  unfold pl
  rw [if_pos h, if_pos (List.mem_append_left _ h), List.idxOf_append, if_pos h]
theorem pl_new {S : List Nm} {a : Nm} (h : a ∉ S) : pl (S ++ [a]) a = (S.length : Int) := by
  unfold pl
  rw [if_pos (by simp), List.idxOf_append, if_neg h]
  simp
theorem pl_out {S : List Nm} {a b : Nm} (h : b ∉ S) (hab : b ≠ a) : pl (S ++ [a]) b = pl S b := by
  unfold pl
  rw [if_neg h, if_neg (by simp [h, hab])]
theorem more_num {x : SheetM} (r : Refs x) {a : Nm} (ha : a ∉ (namesX x).flat) : numX (moreS x a) = { numX x with names := { namesX x with stops := x.stops ++ [a] } } := by
  unfold numX
  simp only [WorldM.mk.injEq]
  refine ⟨rfl, rfl, ?_, ?_, ?_, rfl, ?_⟩
  · exact List.map_congr_left fun q hq => by
      obtain ⟨h1, h2, -⟩ := r.p q hq
      simp [nPath, moreS, pl_more h1, pl_more h2]
  · exact List.map_congr_left fun q hq => by
      obtain ⟨h1, h2, -⟩ := r.d q hq
      simp [nDoor, moreS, pl_more h1, pl_more h2]
  · refine List.map_congr_left fun q hq => ?_
    obtain ⟨h1, -⟩ := r.r q hq
    simp only [nRoute, RouteO.mk.injEq, and_true]
    exact List.map_congr_left fun s hs => pl_more (h1 s hs)
  · refine List.map_congr_left fun q hq => ?_
    obtain ⟨h1, -⟩ := r.h q hq
    have e : pl (x.stops ++ [a]) q.at_ = pl x.stops q.at_ := by
      by_cases h2 : q.at_ ∈ x.stops
      · exact pl_more h2
      · refine pl_out h2 ?_
        rintro rfl
        refine ha ?_
        rcases h1 with h1 | h1
        · exact absurd h1 h2
        · unfold NamesM.flat namesX
          simp only [List.mem_append]
          exact .inr (.inl h1)
    unfold nHaz
    show (if pl (x.stops ++ [a]) q.at_ < 0 then _ else HazO.mk true (pl (x.stops ++ [a]) q.at_) q.times) = _
    rw [e]
    rfl
theorem refs_more {x : SheetM} (r : Refs x) {a : Nm} (ha : a ∉ (namesX x).flat) : Refs (moreS x a) := by
  have hm : ∀ {b}, b ∈ x.stops → b ∈ (moreS x a).stops := fun h => List.mem_append_left _ h
  refine ⟨fun q hq => ?_, fun q hq => ?_, fun q hq => ?_, r.t, fun q hq => ?_⟩
  · obtain ⟨h1, h2, h3⟩ := r.p q hq; exact ⟨hm h1, hm h2, h3⟩
  · obtain ⟨h1, h2, h3⟩ := r.d q hq; exact ⟨hm h1, hm h2, h3⟩
  · obtain ⟨h1, h2⟩ := r.r q hq
    refine ⟨fun s hs => hm (h1 s hs), ?_⟩
    have e : nRoute (moreS x a).stops q = nRoute x.stops q := by
      simp only [nRoute, RouteO.mk.injEq, and_true]
      exact List.map_congr_left fun s hs => pl_more (h1 s hs)
    rw [e]; exact h2
  · obtain ⟨h1, h2⟩ := r.h q hq; exact ⟨h1.imp hm id, h2⟩
theorem more_ok {x : SheetM} (h : (wrongX x).err = 0) (hl : x.stops.length ≤ 60) {a : Nm} (ha : a ∉ (namesX x).flat) (hn : nameB a = true) : wrongX (moreS x a) = okW := by
  obtain ⟨o, n, r⟩ := good_parts h
  exact good_of (more_okS o hl hn) ((nodup_more x a).2 ⟨ha, n⟩) (refs_more r ha)
theorem more_find {x : SheetM} {a : Nm} (hx : wrongX (moreS x a) = okW) : findW (namesX (moreS x a)) a = (1, (x.stops.length : Int)) := by
  obtain ⟨_, h2, _⟩ := wrong_parts (x := moreS x a) (by rw [hx])
  exact find_at (q := 1) (i := x.stops.length) h2 rfl (by simp [moreS, namesX])
def qq (a : Nm) : Nm := 113 :: (a ++ [113])
theorem qq_name {a : Nm} (h : nameB a = true) (hl : a.length ≤ 12) : nameB (qq a) = true := by
  unfold nameB at h ⊢
  simp only [Bool.and_eq_true, decide_eq_true_eq, List.all_eq_true] at h ⊢
  refine ⟨by simp [qq]; omega, ?_, by simp [qq, nextK, kindOf], ?_⟩
  · simp [isRes, reservedL, qq]
  · intro c hc
    rcases List.mem_cons.1 hc with rfl | hc
    · simp [isMore, kindOf]
    · rcases List.mem_append.1 hc with hc | hc
      · exact h.2.2.2 c hc
      · simp at hc; subst hc; simp [isMore, kindOf]
theorem path_okP {x : SheetM} (o : Ok x) (hl : x.paths.length ≤ 60) {p : PathM} (h1 : path_name p = true) (h2 : path_tick p = true) : Ok (moreP x p) :=
  ⟨o.n1, by simp [moreP]; omega, o.n3, o.n4, o.n5, o.n6, o.hz, o.s, fun q hq => (mem_more hq).elim (fun hq => o.p q hq) (fun e => by subst e; exact ⟨h1, h2⟩), o.d, o.r, o.t, o.h⟩
theorem path_more {y : SheetM} (h : (wrongX y).err = 0) (hl : y.paths.length ≤ 60) {p : PathM} (h1 : path_name p = true) (h2 : path_tick p = true) (ha : p.a ∈ y.stops) (hb : p.b ∈ y.stops) (hab : p.a ≠ p.b) (hn : 1 ≤ p.len) :
    (wrongX (moreP y p)).err = 6 ∨ (wrongX (moreP y p) = okW ∧ numX (moreP y p) = { numX y with names := { namesX y with paths := (namesX y).paths ++ [p.name] }, paths := (numX y).paths ++ [⟨pl y.stops p.a, pl y.stops p.b, p.len⟩] }) := by
  obtain ⟨o, n, r⟩ := good_parts h
  have hc := check_ok.2 (path_okP o hl h1 h2)
  by_cases hd : (namesX (moreP y p)).flat.Nodup
  · right
    have r' : Refs (moreP y p) := ⟨fun q hq => (mem_more hq).elim (fun hq => r.p q hq) (fun e => by subst e; exact ⟨ha, hb, hab, hn⟩), r.d, r.r, r.t, fun q hq => by
      obtain ⟨g1, g2⟩ := r.h q hq
      refine ⟨g1.imp id (fun g => ?_), g2⟩
      simp only [moreP, List.map_append]
      exact List.mem_append_left _ g⟩
    refine ⟨good_of (path_okP o hl h1 h2) hd r', ?_⟩
    unfold numX
    simp only [WorldM.mk.injEq]
    refine ⟨rfl, by simp [namesX, moreP], by simp [moreP, nPath], rfl, rfl, rfl, ?_⟩
    refine List.map_congr_left fun q hq => ?_
    obtain ⟨g1, -⟩ := r.h q hq
    unfold nHaz
    show (if pl y.stops q.at_ < 0 then _ else _) = _
    split
    · rename_i h3
      have g : q.at_ ∈ (namesX y).paths := by
        rcases g1 with g1 | g1
        · exact absurd g1 (pl_neg.1 h3)
        · exact g1
      have e : (namesX (moreP y p)).paths = (namesX y).paths ++ [p.name] := by simp [namesX, moreP]
      rw [e, pl_more g]
    · rfl
  · left
    have hd6 := dup_there hd
    unfold wrongX
    rw [if_neg (by rw [hc]; simp), if_pos (by rw [hd6]; omega), hd6]
end Go.Proofs.YtgdanbfglefiiaaGreat.Wo
