/- Plain facts on reading lines: what is read hangs on the line alone; what is read may be; faults have places. Conditions: the tokens are as they are cut from a text. · Plain facts on a sheet's lines: their tokens, their texts, and what is read from them. Conditions: the things may be. -/
import Derived.Test.YtcmlmfcnbmpajaaGreatDoorSheetParse
import Derived.Test.YtcmlmfcnbmpajaaGreatDoorSheetCheck
namespace Go.Proofs.YtcmlmfcnbmpajaaGreatDoor.Sh
open Lx Tk
set_option linter.unusedVariables false

/-- a token that may come -/
def okT (t : Tok) : Prop := 1 ≤ t.line ∧ 1 ≤ t.col ∧ ((t.kind = 4 ∧ t.text = []) ∨ validT t)
def AllV (ts : List Tok) : Prop := ∀ t ∈ ts, okT t
theorem AllV.tail {t : Tok} {r : List Tok} (h : AllV (t :: r)) : AllV r := fun u hu => h u (List.mem_cons_of_mem _ hu)
theorem AllV.head {t : Tok} {r : List Tok} (h : AllV (t :: r)) : okT t := h t List.mem_cons_self
def Bad3 (e l c : Int) : Prop := e ≠ 0 ∧ 1 ≤ l ∧ 1 ≤ c
/-- what is read hangs on the line alone; it is so; or there is a fault, with a place -/
def Fine {α : Type} (p : List Tok → PR α) (Q : α → Prop) : Prop := ∀ ts q, EndL ts → AllV ts →
  (∃ e l c, Bad3 e l c ∧ p ts = .bad e l c ∧ p (ts ++ q) = .bad e l c) ∨ (∃ a r, Q a ∧ p ts = .ok a r ∧ p (ts ++ q) = .ok a (r ++ q) ∧ EndL r ∧ AllV r ∧ r.length ≤ ts.length)
theorem fine_bind {α β : Type} {p : List Tok → PR α} {f : α → List Tok → PR β} {Q : α → Prop} {R : β → Prop} (hp : Fine p Q) (hf : ∀ a, Q a → Fine (f a) R) : Fine (fun ts => (p ts).bind f) R := by
  intro ts q he hv
  rcases hp ts q he hv with ⟨e, l, c, h1, h2, h3⟩ | ⟨a, r, h1, h2, h3, h4, h5, h6⟩
  · exact .inl ⟨e, l, c, h1, by simp only [h2]; rfl, by simp only [h3]; rfl⟩
  · rcases hf a h1 r q h4 h5 with ⟨e, l, c, k1, k2, k3⟩ | ⟨b, r2, k1, k2, k3, k4, k5, k6⟩
    · exact .inl ⟨e, l, c, k1, by simp only [h2]; exact k2, by simp only [h3]; exact k3⟩
    · exact .inr ⟨b, r2, k1, by simp only [h2]; exact k2, by simp only [h3]; exact k3, k4, k5, Nat.le_trans k6 h6⟩
theorem fine_pure {α : Type} {Q : α → Prop} {a : α} (h : Q a) : Fine (fun r => PR.ok a r) Q := fun ts q he hv => .inr ⟨a, ts, h, rfl, rfl, he, hv, Nat.le_refl _⟩
theorem Fine.mono {α : Type} {p : List Tok → PR α} {Q R : α → Prop} (h : Fine p Q) (hq : ∀ a, Q a → R a) : Fine p R := by
  intro ts q he hv
  rcases h ts q he hv with h | ⟨a, r, h1, h2⟩
  · exact .inl h
  · exact .inr ⟨a, r, hq a h1, h2⟩
theorem fine_take {k : Int} (hk : k ≠ 4) : Fine (takeM k) (fun t => okT t ∧ t.kind = k) := by
  intro ts q he hv
  obtain ⟨t, r, rfl⟩ := he.cons
  have ht := hv.head
  by_cases h : t.kind = k
  · exact .inr ⟨t, r, ⟨ht, h⟩, by simp [takeM, h], by simp [takeM, h], he.tail (by rw [h]; exact hk), hv.tail, by simp⟩
  · exact .inl ⟨7, t.line, t.col, ⟨by decide, ht.1, ht.2.1⟩, by simp [takeM, h], by simp [takeM, h]⟩
theorem okT.valid {t : Tok} (h : okT t) (hk : t.kind ≠ 4) : validT t := h.2.2.resolve_left fun e => hk e.1
theorem okT.name {t : Tok} (h : okT t) (hk : t.kind = 1) : nameB t.text = true := by
  rcases h.valid (by rw [hk]; decide) with ⟨⟨h5, ha, hl⟩, h, _⟩ | ⟨_, _, h, _⟩
  · have hr : isRes t.text = false := by
      cases hr : isRes t.text with
      | false => rfl
      | true => rw [hr, hk] at h; simp at h
    simp [nameB, hl, hr, h5]; simpa using ha
  · rw [hk] at h; simp at h
theorem okT.num {t : Tok} (h : okT t) (hk : t.kind = 3) : tickB t.num = true := by
  rcases h.valid (by rw [hk]; decide) with ⟨_, h, _⟩ | ⟨_, hd, _, h⟩
  · rw [hk] at h; split at h <;> simp at h
  · rw [h]; simp [tickB]; omega
theorem fine_name : Fine nameM (fun n => nameB n = true) := fine_bind (fine_take (by decide)) fun t h => fine_pure (h.1.name h.2)
theorem fine_num : Fine numM (fun n => tickB n = true) := fine_bind (fine_take (by decide)) fun t h => fine_pure (h.1.num h.2)
theorem fine_key (k : List UInt8) : Fine (keyM k) (fun _ => True) := fine_bind (fine_take (by decide)) fun t h => by
  intro ts q he hv
  by_cases hk : t.text = k
  · exact .inr ⟨(), ts, trivial, by simp [hk], by simp [hk], he, hv, Nat.le_refl _⟩
  · exact .inl ⟨7, t.line, t.col, ⟨by decide, h.1.1, h.1.2.1⟩, by simp [hk], by simp [hk]⟩
theorem fine_behind (k : List UInt8) : Fine (behindM k) (fun n => tickB n = true) := fine_bind (fine_key k) fun _ _ => fine_num
theorem fine_nameBehind (k : List UInt8) : Fine (nameBehindM k) (fun n => nameB n = true) := fine_bind (fine_key k) fun _ _ => fine_name
theorem fine_times (k : List UInt8) : Fine (timesM k) (fun t => timesB t = true) :=
  fine_bind (fine_behind _) fun f hf => fine_bind (fine_behind _) fun e he => fine_bind (fine_behind _) fun l hl => fine_pure (by simp [timesB, hf, he, hl])
theorem fine_path : Fine pathT (fun p => path_name p = true ∧ path_tick p = true) :=
  fine_bind fine_name fun n hn => fine_bind fine_name fun a ha => fine_bind fine_name fun b hb => fine_bind fine_num fun l hl => fine_pure (by simp [path_name, path_tick, hn, ha, hb, hl])
theorem fine_door : Fine doorT (fun p => door_name p = true ∧ door_tick p = true) :=
  fine_bind fine_name fun n hn => fine_bind fine_name fun a ha => fine_bind fine_name fun b hb => fine_bind fine_num fun l hl => fine_bind (fine_times _) fun t ht => fine_pure (by simp [door_name, door_tick, hn, ha, hb, hl, ht])
theorem fine_trip : Fine tripT (fun p => trip_name p = true ∧ trip_tick p = true) :=
  fine_bind fine_name fun n hn => fine_bind (fine_nameBehind _) fun a ha => fine_bind (fine_behind _) fun f hf => fine_bind (fine_behind _) fun e he => fine_bind (fine_behind _) fun u hu => fine_pure (by simp [trip_name, trip_tick, hn, ha, hf, he, hu])
theorem fine_haz : Fine hazT (fun p => haz_name p = true ∧ haz_tick p = true) :=
  fine_bind fine_name fun n hn => fine_bind (fine_nameBehind _) fun a ha => fine_bind (fine_times _) fun t ht => fine_pure (by simp [haz_name, haz_tick, hn, ha, ht])
theorem head_app {ts q : List Tok} (h : EndL ts) : headKind (ts ++ q) = headKind ts := by obtain ⟨t, r, rfl⟩ := h.cons; rfl
theorem fine_stay : Fine stayM (fun n => tickB n = true) := by
  intro ts q he hv
  unfold stayM
  rw [head_app he]
  by_cases h : headKind ts = 2
  · rw [if_pos h, if_pos h]; exact fine_behind _ ts q he hv
  · rw [if_neg h, if_neg h]; exact .inr ⟨0, ts, by decide, rfl, rfl, he, hv, Nat.le_refl _⟩
/-- what legs have been read; d: by how many there are more stops than stays -/
structure LegsOk (d : Nat) (g : Legs) : Prop where
  n : ∀ t ∈ g.stops, okT t ∧ t.kind = 1
  r : g.rides.all tickB = true
  s : g.stays.all tickB = true
  hr : g.rides.length + 1 = g.stops.length
  hs : g.stays.length + d = g.stops.length
  h0 : 1 ≤ g.stops.length
theorem legs_fine : ∀ (n m : Nat) (ts q : List Tok) (g : Legs), ts.length < n → (ts ++ q).length < m → EndL ts → AllV ts → LegsOk 1 g →
    (∃ e l c, Bad3 e l c ∧ legsF n ts g = .bad e l c ∧ legsF m (ts ++ q) g = .bad e l c) ∨ (∃ a r, (LegsOk 2 a ∧ 2 ≤ a.stops.length) ∧ legsF n ts g = .ok a r ∧ legsF m (ts ++ q) g = .ok a (r ++ q) ∧ EndL r ∧ AllV r ∧ r.length ≤ ts.length) := by
  intro n
  induction n with
  | zero => intro m ts q g h; omega
  | succ n ih =>
    intro m ts q g hn hm he hv hg
    obtain ⟨m, rfl⟩ : ∃ k, m = k + 1 := ⟨m - 1, by omega⟩
    simp only [legsF]
    rcases fine_num ts q he hv with ⟨e, l, c, h1, h2, h3⟩ | ⟨d, r, h1, h2, h3, h4, h5, h6⟩
    · exact .inl ⟨e, l, c, h1, by rw [h2]; rfl, by rw [h3]; rfl⟩
    have hl := num_lt h2
    rw [h2, h3, bind_ok, bind_ok]
    rcases fine_take (k := 1) (by decide) r q h4 h5 with ⟨e, l, c, k1, k2, k3⟩ | ⟨t, r2, k1, k2, k3, k4, k5, k6⟩
    · exact .inl ⟨e, l, c, k1, by rw [k2]; rfl, by rw [k3]; rfl⟩
    rw [k2, k3, bind_ok, bind_ok, head_app k4]
    have hst : ∀ u ∈ g.stops ++ [t], okT u ∧ u.kind = 1 := by
      intro u hu
      rcases List.mem_append.1 hu with hu | hu
      · exact hg.n u hu
      · rw [List.mem_singleton.1 hu]; exact k1
    have hrd : (g.rides ++ [d]).all tickB = true := by rw [List.all_append, hg.r]; simp [h1]
    by_cases hh : headKind r2 = 4
    · rw [if_pos hh, if_pos hh]
      refine .inr ⟨⟨g.stops ++ [t], g.rides ++ [d], g.stays⟩, r2, ⟨⟨hst, hrd, hg.s, ?_, ?_, ?_⟩, ?_⟩, rfl, rfl, k4, k5, by omega⟩
      all_goals simp
      all_goals (have := hg.hr; have := hg.hs; have := hg.h0; omega)
    · rw [if_neg hh, if_neg hh]
      rcases fine_stay r2 q k4 k5 with ⟨e, l, c, j1, j2, j3⟩ | ⟨s, r3, j1, j2, j3, j4, j5, j6⟩
      · exact .inl ⟨e, l, c, j1, by rw [j2]; rfl, by rw [j3]; rfl⟩
      rw [j2, j3, bind_ok, bind_ok]
      have hsy : (g.stays ++ [s]).all tickB = true := by rw [List.all_append, hg.s]; simp [j1]
      rcases ih m r3 q ⟨g.stops ++ [t], g.rides ++ [d], g.stays ++ [s]⟩ (by omega) (by simp only [List.length_append] at hm ⊢; omega) j4 j5 ⟨hst, hrd, hsy, by simp; exact hg.hr, by simp; exact hg.hs, by simp⟩ with h | ⟨a, r4, i1, i2, i3, i4, i5, i6⟩
      · exact .inl h
      · exact .inr ⟨a, r4, i1, i2, i3, i4, i5, by omega⟩
theorem fine_legs {g : Legs} (hg : LegsOk 1 g) : Fine (fun ts => legsM ts g) (fun a => LegsOk 2 a ∧ 2 ≤ a.stops.length) := fun ts q he hv =>
  legs_fine _ _ ts q g (by omega) (by omega) he hv hg
theorem fine_route : Fine routeT (fun p => nameB p.1 = true ∧ LegsOk 2 p.2 ∧ 2 ≤ p.2.stops.length) :=
  fine_bind fine_name fun n hn => fine_bind (fine_take (by decide)) fun t ht => fine_bind (fine_legs ⟨by intro u hu; rw [List.mem_singleton.1 hu]; exact ht, rfl, rfl, rfl, rfl, Nat.le_refl _⟩) fun g hg => fine_pure ⟨hn, hg⟩
/-- the same, to a line's end -/
def FineE {α : Type} (p : List Tok → PR α) (Q : α → Prop) : Prop := ∀ ts q, EndL ts → AllV ts →
  (∃ e l c, Bad3 e l c ∧ p ts = .bad e l c ∧ p (ts ++ q) = .bad e l c) ∨ (∃ a r, Q a ∧ p ts = .ok a r ∧ p (ts ++ q) = .ok a (r ++ q) ∧ (r = [] ∨ EndL r) ∧ AllV r ∧ r.length ≤ ts.length)
theorem fineE_bind {α β : Type} {p : List Tok → PR α} {f : α → List Tok → PR β} {Q : α → Prop} {R : β → Prop} (hp : Fine p Q) (hf : ∀ a, Q a → FineE (f a) R) : FineE (fun ts => (p ts).bind f) R := by
  intro ts q he hv
  rcases hp ts q he hv with ⟨e, l, c, h1, h2, h3⟩ | ⟨a, r, h1, h2, h3, h4, h5, h6⟩
  · exact .inl ⟨e, l, c, h1, by simp only [h2]; rfl, by simp only [h3]; rfl⟩
  · rcases hf a h1 r q h4 h5 with ⟨e, l, c, k1, k2, k3⟩ | ⟨b, r2, k1, k2, k3, k4, k5, k6⟩
    · exact .inl ⟨e, l, c, k1, by simp only [h2]; exact k2, by simp only [h3]; exact k3⟩
    · exact .inr ⟨b, r2, k1, by simp only [h2]; exact k2, by simp only [h3]; exact k3, k4, k5, Nat.le_trans k6 h6⟩
theorem endL_tail4 {t : Tok} {r : List Tok} (h : EndL (t :: r)) : r = [] ∨ EndL r := by
  obtain ⟨u, hu, h4⟩ := h
  cases r with
  | nil => exact .inl rfl
  | cons a b => exact .inr ⟨u, by simpa [List.getLast?_cons_cons] using hu, h4⟩
theorem fineE_take4 {β : Type} {R : β → Prop} {f : List Tok → PR β} (hf : (∃ b, R b ∧ ∀ r, f r = .ok b r) ∨ (∃ e l c, Bad3 e l c ∧ ∀ r, f r = .bad e l c)) : FineE (fun ts => (takeM 4 ts).bind fun _ r => f r) R := by
  intro ts q he hv
  obtain ⟨t, r, rfl⟩ := he.cons
  have ht := hv.head
  by_cases h : t.kind = 4
  · rcases hf with ⟨b, hb, hb'⟩ | ⟨e, l, c, hb, hb'⟩
    · exact .inr ⟨b, r, hb, by simp [takeM, h, bind_ok, hb'], by simp [takeM, h, bind_ok, hb'], endL_tail4 he, hv.tail, by simp⟩
    · exact .inl ⟨e, l, c, hb, by simp [takeM, h, bind_ok, hb'], by simp [takeM, h, bind_ok, hb']⟩
  · exact .inl ⟨7, t.line, t.col, ⟨by decide, ht.1, ht.2.1⟩, by simp [takeM, h, bind_bad], by simp [takeM, h, bind_bad]⟩
/-- a thing more, at a line's end -/
theorem fineE_end {n most : Nat} {first : Tok} (ht : okT first) {β : Type} {R : β → Prop} {g : List Tok → PR β} (hg : n < most → ((∃ b, R b ∧ ∀ r, g r = .ok b r) ∨ (∃ e l c, Bad3 e l c ∧ ∀ r, g r = .bad e l c))) : FineE (fun ts => (endM n most first ts).bind fun _ r => g r) R := by
  have he : (fun ts => (endM n most first ts).bind fun _ r => g r) = (fun ts => (takeM 4 ts).bind fun _ r => if most ≤ n then (PR.bad 3 first.line first.col : PR β) else g r) := by
    funext ts
    unfold endM
    cases takeM 4 ts with
    | bad e l c => rfl
    | ok a r => simp only [bind_ok]; split <;> rfl
  rw [he]
  refine fineE_take4 ?_
  by_cases h : most ≤ n
  · exact .inr ⟨3, first.line, first.col, ⟨by decide, ht.1, ht.2.1⟩, fun r => by rw [if_pos h]⟩
  · rcases hg (by omega) with ⟨b, h1, h2⟩ | ⟨e, l, c, h1, h2⟩
    · exact .inl ⟨b, h1, fun r => by rw [if_neg h]; exact h2 r⟩
    · exact .inr ⟨e, l, c, h1, fun r => by rw [if_neg h]; exact h2 r⟩

/-- a sheet that may be -/
structure May (x : SheetM) : Prop where
  n1 : x.stops.length ≤ 256
  n2 : x.paths.length ≤ 1024
  n3 : x.doors.length ≤ 256
  n4 : x.routes.length ≤ 256
  n5 : x.trips.length ≤ 1024
  n6 : x.hazards.length ≤ 256
  h : tickB x.horizon = true
  a1 : x.stops.all nameB = true
  a2 : x.paths.all path_name = true
  b2 : x.paths.all path_tick = true
  a3 : x.doors.all door_name = true
  b3 : x.doors.all door_tick = true
  a4 : x.routes.all route_name = true
  b4 : x.routes.all route_tick = true
  d4 : x.routes.all route_count = true
  a5 : x.trips.all trip_name = true
  b5 : x.trips.all trip_tick = true
  a6 : x.hazards.all haz_name = true
  b6 : x.hazards.all haz_tick = true
theorem May.check {x : SheetM} (h : May x) : checkM x = 0 := by
  have h1 : crowdedM x = false := by
    have := h.n1; have := h.n2; have := h.n3; have := h.n4; have := h.n5; have := h.n6
    simp [crowdedM]; omega
  have h2 : namedM x = true := by simp only [namedM, h.a1, h.a2, h.a3, h.a4, h.a5, h.a6]; rfl
  have h3 : rangedM x = true := by simp only [rangedM, List.all_cons, List.all_nil, h.h, h.b2, h.b3, h.b4, h.b5, h.b6]; rfl
  have h4 : countedM x = true := h.d4
  simp [checkM, h1, h2, h3, h4]
theorem may_of {x : SheetM} (h : checkM x = 0) : May x := by
  unfold checkM at h
  cases hc : crowdedM x with
  | true => simp [hc] at h
  | false =>
    cases hn : namedM x with
    | false => simp [hc, hn] at h
    | true =>
      cases hr : rangedM x with
      | false => simp [hc, hn, hr] at h
      | true =>
        cases hd : countedM x with
        | false => simp [hc, hn, hr, hd] at h
        | true =>
          simp only [crowdedM, Bool.or_eq_false_iff, decide_eq_false_iff_not] at hc
          simp only [namedM, Bool.and_eq_true] at hn
          simp only [rangedM, Bool.and_eq_true, List.all_cons, List.all_nil] at hr
          obtain ⟨c1, c2, c3, c4, c5, c6⟩ := hc
          obtain ⟨m1, m2, m3, m4, m5, m6⟩ := hn
          obtain ⟨⟨t1, -⟩, t2, t3, t4, t5, t6⟩ := hr
          exact ⟨by omega, by omega, by omega, by omega, by omega, by omega, t1, m1, m2, t2, m3, t3, m4, t4, hd, m5, t5, m6, t6⟩
/-- y has all of x, and perhaps more behind -/
structure Ext (x y : SheetM) : Prop where
  h : y.horizon = x.horizon
  s : x.stops <+: y.stops
  p : x.paths <+: y.paths
  d : x.doors <+: y.doors
  r : x.routes <+: y.routes
  t : x.trips <+: y.trips
  z : x.hazards <+: y.hazards
theorem Ext.refl (x : SheetM) : Ext x x := ⟨rfl, List.prefix_rfl, List.prefix_rfl, List.prefix_rfl, List.prefix_rfl, List.prefix_rfl, List.prefix_rfl⟩
theorem Ext.trans {x y z : SheetM} (h : Ext x y) (k : Ext y z) : Ext x z := ⟨k.h.trans h.h, h.s.trans k.s, h.p.trans k.p, h.d.trans k.d, h.r.trans k.r, h.t.trans k.t, h.z.trans k.z⟩
theorem all_more {α : Type} {g : α → Bool} {l : List α} {a : α} (h : l.all g = true) (ha : g a = true) : (l ++ [a]).all g = true := by rw [List.all_append, h]; simp [ha]
theorem len_more {α : Type} {l : List α} {a : α} {n : Nat} (h : l.length < n) : (l ++ [a]).length ≤ n := by simp; omega
theorem fine_step {x : SheetM} (hx : May x) (f : Bool) {first : Tok} (ht : okT first) : FineE (stepM f x first) (fun y => May y ∧ (f = false → Ext x y)) := by
  have hno : FineE (fun ts => (PR.bad 7 first.line first.col : PR SheetM)) (fun y => May y ∧ (f = false → Ext x y)) := fun ts q he hv => .inl ⟨7, first.line, first.col, ⟨by decide, ht.1, ht.2.1⟩, rfl, rfl⟩
  intro ts q he hv
  unfold stepM
  cases f with
  | true =>
    by_cases h : first.text = kHorizon
    · simp only [if_pos h, if_true]
      refine fineE_bind fine_num (fun n hn => fineE_take4 (.inl ⟨{ x with horizon := n }, ⟨?_, by intro e; cases e⟩, fun r => rfl⟩)) ts q he hv
      exact { hx with h := hn }
    · simp only [if_neg h, if_true]
      exact hno ts q he hv
  | false =>
    simp only [Bool.false_eq_true, if_false]
    by_cases h : first.text = kHorizon
    · simp only [if_pos h]; simpa using hno ts q he hv
    by_cases h1 : first.text = kStop
    · simp only [if_neg h, if_pos h1]
      exact fineE_bind fine_name (fun n hn => fineE_end ht fun hl => .inl ⟨{ x with stops := x.stops ++ [n] }, ⟨{ hx with n1 := len_more hl, a1 := all_more hx.a1 hn }, fun _ => { Ext.refl x with s := List.prefix_append _ _ }⟩, fun r => rfl⟩) ts q he hv
    by_cases h2 : first.text = kPath
    · simp only [if_neg h, if_neg h1, if_pos h2]
      exact fineE_bind fine_path (fun n hn => fineE_end ht fun hl => .inl ⟨{ x with paths := x.paths ++ [n] }, ⟨{ hx with n2 := len_more hl, a2 := all_more hx.a2 hn.1, b2 := all_more hx.b2 hn.2 }, fun _ => { Ext.refl x with p := List.prefix_append _ _ }⟩, fun r => rfl⟩) ts q he hv
    by_cases h3 : first.text = kDoor
    · simp only [if_neg h, if_neg h1, if_neg h2, if_pos h3]
      exact fineE_bind fine_door (fun n hn => fineE_end ht fun hl => .inl ⟨{ x with doors := x.doors ++ [n] }, ⟨{ hx with n3 := len_more hl, a3 := all_more hx.a3 hn.1, b3 := all_more hx.b3 hn.2 }, fun _ => { Ext.refl x with d := List.prefix_append _ _ }⟩, fun r => rfl⟩) ts q he hv
    by_cases h4 : first.text = kRoute
    · simp only [if_neg h, if_neg h1, if_neg h2, if_neg h3, if_pos h4]
      refine fineE_bind fine_route (fun p hp => fineE_end ht fun hl => ?_) ts q he hv
      obtain ⟨hn, hg, h2s⟩ := hp
      unfold overLeg
      cases h32 : p.2.stops[32]? with
      | some t => 
        have := hg.n t (List.mem_of_getElem? h32)
        exact .inr ⟨3, t.line, t.col, ⟨by decide, this.1.1, this.1.2.1⟩, fun r => rfl⟩
      | none =>
        have hle : p.2.stops.length ≤ 32 := by rw [List.getElem?_eq_none_iff] at h32; exact h32
        have e1 : route_name (routeOf p.1 p.2) = true := by
          simp only [route_name, routeOf, hn, Bool.true_and, List.all_map, List.all_eq_true]
          exact fun t ht => (hg.n t ht).1.name (hg.n t ht).2
        have e2 : route_tick (routeOf p.1 p.2) = true := by simp only [route_tick, routeOf, hg.r, hg.s]; rfl
        have e3 : route_count (routeOf p.1 p.2) = true := by
          have := hg.hr; have := hg.hs
          simp [route_count, routeOf]; omega
        exact .inl ⟨{ x with routes := x.routes ++ [routeOf p.1 p.2] }, ⟨{ hx with n4 := len_more hl, a4 := all_more hx.a4 e1, b4 := all_more hx.b4 e2, d4 := all_more hx.d4 e3 }, fun _ => { Ext.refl x with r := List.prefix_append _ _ }⟩, fun r => rfl⟩
    by_cases h5 : first.text = kTrip
    · simp only [if_neg h, if_neg h1, if_neg h2, if_neg h3, if_neg h4, if_pos h5]
      exact fineE_bind fine_trip (fun n hn => fineE_end ht fun hl => .inl ⟨{ x with trips := x.trips ++ [n] }, ⟨{ hx with n5 := len_more hl, a5 := all_more hx.a5 hn.1, b5 := all_more hx.b5 hn.2 }, fun _ => { Ext.refl x with t := List.prefix_append _ _ }⟩, fun r => rfl⟩) ts q he hv
    by_cases h6 : first.text = kHazard
    · simp only [if_neg h, if_neg h1, if_neg h2, if_neg h3, if_neg h4, if_neg h5, if_pos h6]
      exact fineE_bind fine_haz (fun n hn => fineE_end ht fun hl => .inl ⟨{ x with hazards := x.hazards ++ [n] }, ⟨{ hx with n6 := len_more hl, a6 := all_more hx.a6 hn.1, b6 := all_more hx.b6 hn.2 }, fun _ => { Ext.refl x with z := List.prefix_append _ _ }⟩, fun r => rfl⟩) ts q he hv
    · simp only [if_neg h, if_neg h1, if_neg h2, if_neg h3, if_neg h4, if_neg h5, if_neg h6]
      simpa using hno ts q he hv
theorem step_none {f : Bool} {x : SheetM} {t : Tok} (h : t.text = []) (r : List Tok) : stepM f x t r = .bad 7 t.line t.col := by
  unfold stepM
  rw [h]
  cases f <;> rfl
/-- lines, and what comes behind them -/
theorem run_fine : ∀ (n m : Nat) (f : Bool) (x : SheetM) (ts q : List Tok), May x → (ts = [] ∨ EndL ts) → AllV ts → ts.length ≤ n → (ts ++ q).length ≤ m →
    (∃ e l c, Bad3 e l c ∧ runF n f x ts = .bad e l c ∧ runF m f x (ts ++ q) = .bad e l c) ∨
    (∃ y m', May y ∧ (f = false → Ext x y) ∧ runF n f x ts = .ok y [] ∧ q.length ≤ m' ∧ runF m f x (ts ++ q) = runF m' (f && ts.isEmpty) y q) := by
  intro n
  induction n with
  | zero =>
    intro m f x ts q hx he hv hn hm
    obtain rfl : ts = [] := List.length_eq_zero_iff.1 (by omega)
    exact .inr ⟨x, m, hx, fun _ => Ext.refl x, rfl, by simpa using hm, by simp⟩
  | succ n ih =>
    intro m f x ts q hx he hv hn hm
    cases ts with
    | nil => exact .inr ⟨x, m, hx, fun _ => Ext.refl x, rfl, by simpa using hm, by simp⟩
    | cons t r =>
      obtain ⟨m, rfl⟩ : ∃ k, m = k + 1 := ⟨m - 1, by simp at hm; omega⟩
      have he' : EndL (t :: r) := by rcases he with h | h; cases h; exact h
      simp only [List.cons_append, runF]
      by_cases h4 : t.kind = 4
      · have h0 : t.text = [] := by
          rcases hv.head.2.2 with h | h
          · exact h.2
          · have := valid_kind h; simp [h4] at this
        exact .inl ⟨7, t.line, t.col, ⟨by decide, hv.head.1, hv.head.2.1⟩, by rw [step_none h0]; rfl, by rw [step_none h0]; rfl⟩
      · rcases fine_step hx f hv.head r q (he'.tail h4) hv.tail with ⟨e, l, c, k1, k2, k3⟩ | ⟨y, r2, k1, k2, k3, k4, k5, k6⟩
        · exact .inl ⟨e, l, c, k1, by rw [k2]; rfl, by rw [k3]; rfl⟩
        · rw [k2, k3, bind_ok, bind_ok]
          rcases ih m false y r2 q k1.1 k4 k5 (by simp at hn; omega) (by simp at hm ⊢; omega) with h | ⟨z, m', j1, j2, j3, j4, j5⟩
          · exact .inl h
          · exact .inr ⟨z, m', j1, fun hf => (k1.2 hf).trans (j2 rfl), j3, j4, by rw [j5]; simp⟩
theorem lex_places : ∀ (bs : List UInt8) (line col : Nat) (sm : Bool) (l : List Tok), 1 ≤ line → 1 ≤ col → lex bs line col sm = .ok l → AllV l := by
  have hend : ∀ (line col : Nat), 1 ≤ line → 1 ≤ col → okT (endT line col) := fun line col h1 h2 => ⟨by simp [endT]; omega, by simp [endT]; omega, .inl ⟨rfl, rfl⟩⟩
  have hcons : ∀ (t : Tok) (l : List Tok), okT t → AllV l → AllV (t :: l) := fun t l ht hl u hu => by
    rcases List.mem_cons.1 hu with rfl | hu
    · exact ht
    · exact hl u hu
  intro bs
  induction bs using lex_induct with
  | nil =>
    intro line col sm l h1 h2 h
    rw [lex_nil] at h
    injection h with h
    cases sm with
    | true => rw [if_pos rfl] at h; subst h; exact hcons _ _ (hend _ _ h1 h2) (fun t ht => by cases ht)
    | false => rw [if_neg (by decide)] at h; subst h; exact fun t ht => by cases ht
  | nl c r hk ih =>
    intro line col sm l h1 h2 h
    rw [lex_nl hk] at h
    cases sm with
    | true =>
      rw [if_pos rfl] at h
      obtain ⟨l', h3, rfl⟩ := cons_ok h
      exact hcons _ _ (hend _ _ h1 h2) (ih _ _ _ _ (by omega) (by omega) h3)
    | false => rw [if_neg (by decide)] at h; exact ih _ _ _ _ (by omega) (by omega) h
  | bl c r hk ih => intro line col sm l h1 h2 h; rw [lex_bl hk] at h; exact ih _ _ _ _ h1 (by omega) h
  | hash c r hk ih => intro line col sm l h1 h2 h; rw [lex_hash hk] at h; exact ih _ _ _ _ h1 (by omega) h
  | word c r hk ih =>
    intro line col sm l h1 h2 h
    rw [lex_let hk] at h
    by_cases h24 : 24 < ((c :: r).takeWhile isMore).length
    · rw [if_pos h24] at h; cases h
    · rw [if_neg h24] at h
      obtain ⟨l', h3, rfl⟩ := cons_ok h
      exact hcons _ _ ⟨by simp [wordT]; omega, by simp [wordT]; omega, .inr (.inl ⟨⟨by show nextK ((c :: r).takeWhile isMore) = 5; rw [nextK_tw (more_let hk)]; exact hk, tw_all _ _, by show ((c :: r).takeWhile isMore).length ≤ 24; omega⟩, rfl, rfl⟩)⟩ (ih _ _ _ _ h1 (by omega) h3)
  | num c r hk ih =>
    intro line col sm l h1 h2 h
    rw [lex_dig hk] at h
    split at h
    · cases h
    · rename_i hc
      split at h
      · cases h
      · rename_i hd
        split at h
        · cases h
        · obtain ⟨l', h3, rfl⟩ := cons_ok h
          exact hcons _ _ ⟨by simp [numT]; omega, by simp [numT]; omega, .inr (.inr ⟨by show canon ((c :: r).takeWhile isDig) = true; simpa using hc, by show dval ((c :: r).takeWhile isDig) ≤ _; omega, rfl, rfl⟩)⟩ (ih _ _ _ _ h1 (by omega) h3)
  | bad c r hk => intro line col sm l h1 h2 h; rw [lex_bad (bs := c :: r) hk] at h; cases h
theorem empty_may : May emptyM := by constructor <;> decide
theorem end_of {toks : List Tok} {b : Bool} (h : good b toks) : toks = [] ∨ EndL toks := by
  rcases good_end h with ⟨h, _⟩ | h
  · exact .inl h
  · exact .inr h
theorem parseM_fine {toks : List Tok} (hg : good false toks) (hv : AllV toks) : (∃ e l c, Bad3 e l c ∧ parseM toks = .bad e l c) ∨ (∃ x, May x ∧ parseM toks = .ok x []) := by
  unfold parseM
  by_cases h : toks = []
  · rw [if_pos h]; exact .inl ⟨7, 1, 1, ⟨by decide, by decide, by decide⟩, rfl⟩
  · rw [if_neg h]
    rcases run_fine toks.length toks.length true emptyM toks [] empty_may (end_of hg) hv (Nat.le_refl _) (by simp) with ⟨e, l, c, h1, h2, -⟩ | ⟨y, m', h1, h2, h3, -⟩
    · exact .inl ⟨e, l, c, h1, h2⟩
    · exact .inr ⟨y, h1, h3⟩
/-- what is parsed may be; faults have places -/
theorem parse_fine (s : ByteArray) : (∃ e l c, Bad3 e l c ∧ parseT s = .bad e l c) ∨ (∃ x, May x ∧ parseT s = .ok x []) := by
  unfold parseT
  cases hl : lexAll s with
  | bad e l c =>
    dsimp only
    unfold lexAll at hl
    split at hl
    · injection hl with h1 h2 h3; subst h1; subst h2; subst h3; exact .inl ⟨_, _, _, ⟨by decide, by decide, by decide⟩, rfl⟩
    · have h := lex_err _ _ _ _ _ _ _ (by omega) (by omega) hl
      exact .inl ⟨_, _, _, ⟨by rcases h.1 with h | h <;> subst h <;> decide, by have := h.2.1; omega, by have := h.2.2; omega⟩, rfl⟩
  | ok toks =>
    dsimp only
    have hg := lexAll_good hl
    unfold lexAll at hl
    split at hl
    · cases hl
    · exact parseM_fine hg (lex_places _ _ _ _ _ (by omega) (by omega) hl)
theorem app_ok {a b : Res} {l : List Tok} (h : a.app b = .ok l) : ∃ la lb, a = .ok la ∧ b = .ok lb ∧ l = la ++ lb := by
  cases a with
  | bad e i c => cases h
  | ok la =>
    cases b with
    | bad e i c => cases h
    | ok lb => exact ⟨la, lb, rfl, rfl, by injection h with h; exact h.symm⟩
/-- a text that is cut at a line's end is read as its first lines -/
theorem parse_cut {s a : ByteArray} {b : List UInt8} (hs : s.data.toList = a.data.toList ++ 10 :: b) {x : SheetM} (h : parseT s = .ok x []) : parseT a = .bad 7 1 1 ∨ ∃ y, May y ∧ Ext y x ∧ parseT a = .ok y [] := by
  unfold parseT at h ⊢
  cases hl : lexAll s with
  | bad e l c => rw [hl] at h; cases h
  | ok toks =>
    rw [hl] at h
    dsimp only at h
    unfold lexAll at hl
    split at hl
    · cases hl
    rename_i h6
    rw [hs, lex_app] at hl
    obtain ⟨la, lb, h1, h2, rfl⟩ := app_ok hl
    have hsz : ¬ 65536 < a.size := by
      have : s.size = a.size + (1 + b.length) := by
        rw [Lib.size_eq, Lib.size_eq, hs]; simp; omega
      omega
    have e1 : lexAll a = .ok la := by unfold lexAll; rw [if_neg hsz]; exact h1
    rw [e1]
    dsimp only
    have hg := lexAll_good e1
    have hv := lex_places _ _ _ _ _ (by omega) (by omega) h1
    have hgb := lex_good _ _ _ _ _ h2
    have hvb := lex_places _ _ _ _ _ (by omega) (by omega) h2
    by_cases hla : la = []
    · left; unfold parseM; rw [if_pos hla]
    · right
      unfold parseM at h ⊢
      rw [if_neg (by simp [hla])] at h
      rw [if_neg hla]
      rcases run_fine la.length (la ++ lb).length true emptyM la lb empty_may (end_of hg) hv (Nat.le_refl _) (Nat.le_refl _) with ⟨e, l, c, k1, k2, k3⟩ | ⟨y, m', k1, k2, k3, k4, k5⟩
      · rw [k3] at h; cases h
      · rw [k5] at h
        have hf : (true && la.isEmpty) = false := by cases la with | nil => exact absurd rfl hla | cons _ _ => rfl
        rw [hf] at h
        rcases run_fine m' m' false y lb [] k1 (end_of hgb) hvb k4 (by simpa using k4) with ⟨e, l, c, j1, j2, j3⟩ | ⟨z, m2, j1, j2, j3, j4, j5⟩
        · rw [j2] at h; cases h
        · rw [j3] at h
          injection h with h
          subst h
          exact ⟨y, k1, j2 rfl, k3⟩
end Go.Proofs.YtcmlmfcnbmpajaaGreatDoor.Sh
namespace Go.Proofs.YtcmlmfcnbmpajaaGreatDoor.Sh
open Lx Tk
set_option linter.unusedVariables false

def wT (s : List UInt8) : Tok := ⟨1, s, 0, 0, 0⟩
def kT (s : List UInt8) : Tok := ⟨2, s, 0, 0, 0⟩
def nT (n : Int) : Tok := ⟨3, Lib.decDigits n.toNat, n, 0, 0⟩
def eT : Tok := ⟨4, [], 0, 0, 0⟩
theorem wT_valid {s : List UInt8} (h : nameB s = true) : validT (wT s) := by
  simp only [nameB, Bool.and_eq_true, decide_eq_true_eq, Bool.not_eq_true', beq_iff_eq] at h
  exact .inl ⟨⟨h.2.2.1, h.2.2.2, h.1⟩, by simp [wT, h.2.1], rfl⟩
theorem nT_valid {n : Int} (h : tickB n = true) : validT (nT n) := by
  simp [tickB] at h
  exact .inr ⟨dec_canon _, by show dval (Lib.decDigits n.toNat) ≤ _; rw [dval_dec]; omega, rfl, by show n = ((dval (Lib.decDigits n.toNat) : Nat) : Int); rw [dval_dec]; omega⟩
theorem kT_valid {s : List UInt8} (h : isRes s = true) (h5 : nextK s = 5) (ha : s.all isMore = true) (hl : s.length ≤ 24) : validT (kT s) := .inl ⟨⟨h5, ha, hl⟩, by simp [kT, h], rfl⟩

def whenT (k : List UInt8) (t : TimesM) : List Tok := [kT kFrom, nT t.frm, kT kEvery, nT t.every, kT k, nT t.len]
def pieceT (r : RouteM) (j : Nat) : List Tok :=
  [nT (r.rides.getD j 0), wT (r.stops.getD (j + 1) [])] ++ (if j + 2 < r.stops.length ∧ 0 < r.stays.getD j 0 then [kT kStay, nT (r.stays.getD j 0)] else [])
inductive Item
  | stop (n : List UInt8)
  | path (p : PathM)
  | door (d : DoorM)
  | route (r : RouteM)
  | trip (t : TripM)
  | haz (h : HazM)
/-- the first token of a line, and those behind it -/
def Item.key : Item → List UInt8
  | .stop _ => kStop
  | .path _ => kPath
  | .door _ => kDoor
  | .route _ => kRoute
  | .trip _ => kTrip
  | .haz _ => kHazard
def Item.rest : Item → List Tok
  | .stop n => [wT n]
  | .path p => [wT p.name, wT p.a, wT p.b, nT p.len]
  | .door d => [wT d.name, wT d.a, wT d.b, nT d.len] ++ whenT kOpen d.times
  | .route r => [wT r.name, wT (r.stops.getD 0 [])] ++ (List.range' 0 (r.stops.length - 1)).flatMap (pieceT r)
  | .trip t => [wT t.name, kT kOf, wT t.route, kT kFrom, nT t.frm, kT kEvery, nT t.every, kT kUntil, nT t.til]
  | .haz h => [wT h.name, kT kOn, wT h.at_] ++ whenT kClosed h.times
def Item.toks (i : Item) : List Tok := kT i.key :: i.rest
def Item.Ok : Item → Prop
  | .stop n => nameB n = true
  | .path p => path_name p = true ∧ path_tick p = true
  | .door d => door_name d = true ∧ door_tick d = true
  | .route r => route_name r = true ∧ route_tick r = true ∧ route_count r = true
  | .trip t => trip_name t = true ∧ trip_tick t = true
  | .haz h => haz_name h = true ∧ haz_tick h = true
def addI (x : SheetM) : Item → SheetM
  | .stop n => { x with stops := x.stops ++ [n] }
  | .path p => { x with paths := x.paths ++ [p] }
  | .door d => { x with doors := x.doors ++ [d] }
  | .route r => { x with routes := x.routes ++ [r] }
  | .trip t => { x with trips := x.trips ++ [t] }
  | .haz h => { x with hazards := x.hazards ++ [h] }
/-- is there room for one more? -/
def Room (x : SheetM) : Item → Prop
  | .stop _ => x.stops.length < 256
  | .path _ => x.paths.length < 1024
  | .door _ => x.doors.length < 256
  | .route _ => x.routes.length < 256
  | .trip _ => x.trips.length < 1024
  | .haz _ => x.hazards.length < 256
theorem times_valid {k : List UInt8} (hk : validT (kT k)) {t : TimesM} (h : timesB t = true) : ∀ u ∈ whenT k t, validT u := by
  simp [timesB] at h
  intro u hu
  simp only [whenT, List.mem_cons, List.not_mem_nil, or_false] at hu
  rcases hu with rfl | rfl | rfl | rfl | rfl | rfl
  · exact kT_valid (by decide) (by decide) (by decide) (by decide)
  · exact nT_valid (by simp [h])
  · exact kT_valid (by decide) (by decide) (by decide) (by decide)
  · exact nT_valid (by simp [h])
  · exact hk
  · exact nT_valid (by simp [h])
theorem getD_all {α : Type} {g : α → Bool} {l : List α} {d : α} (h : l.all g = true) {k : Nat} (hk : k < l.length) : g (l.getD k d) = true := by
  rw [List.getD_eq_getElem?_getD, List.getElem?_eq_getElem hk]
  exact List.all_eq_true.1 h _ (List.getElem_mem hk)
theorem piece_valid {r : RouteM} (hn : r.stops.all nameB = true) (ht : r.rides.all tickB = true ∧ r.stays.all tickB = true) (hc : r.rides.length + 1 = r.stops.length ∧ r.stays.length + 2 = r.stops.length) {j : Nat} (hj : j + 1 < r.stops.length) : ∀ u ∈ pieceT r j, validT u := by
  intro u hu
  simp only [pieceT, List.mem_append, List.mem_cons, List.not_mem_nil, or_false] at hu
  rcases hu with (rfl | rfl) | hu
  · exact nT_valid (getD_all ht.1 (by omega))
  · exact wT_valid (getD_all hn hj)
  · split at hu
    · rename_i h
      simp only [List.mem_cons, List.not_mem_nil, or_false] at hu
      rcases hu with rfl | rfl
      · exact kT_valid (by decide) (by decide) (by decide) (by decide)
      · exact nT_valid (getD_all ht.2 (by omega))
    · cases hu
theorem count_of {r : RouteM} (h : route_count r = true) : 2 ≤ r.stops.length ∧ r.stops.length ≤ 32 ∧ r.rides.length + 1 = r.stops.length ∧ r.stays.length + 2 = r.stops.length := by
  simp only [route_count, Bool.and_eq_true, decide_eq_true_eq] at h
  exact h
theorem item_valid {i : Item} (h : i.Ok) : ∀ u ∈ i.toks, validT u := by
  intro u hu
  rcases List.mem_cons.1 hu with rfl | hu
  · cases i with
    | stop _ => exact kT_valid (s := kStop) (by decide) (by decide) (by decide) (by decide)
    | path _ => exact kT_valid (s := kPath) (by decide) (by decide) (by decide) (by decide)
    | door _ => exact kT_valid (s := kDoor) (by decide) (by decide) (by decide) (by decide)
    | route _ => exact kT_valid (s := kRoute) (by decide) (by decide) (by decide) (by decide)
    | trip _ => exact kT_valid (s := kTrip) (by decide) (by decide) (by decide) (by decide)
    | haz _ => exact kT_valid (s := kHazard) (by decide) (by decide) (by decide) (by decide)
  · cases i with
    | stop n => rw [List.mem_singleton.1 hu]; exact wT_valid h
    | path p =>
      obtain ⟨h1, h2⟩ := h
      simp [path_name, path_tick] at h1 h2
      simp only [Item.rest, List.mem_cons, List.not_mem_nil, or_false] at hu
      rcases hu with rfl | rfl | rfl | rfl
      · exact wT_valid h1.1
      · exact wT_valid h1.2.1
      · exact wT_valid h1.2.2
      · exact nT_valid h2
    | door p =>
      obtain ⟨h1, h2⟩ := h
      simp [door_name, door_tick] at h1 h2
      simp only [Item.rest, List.mem_append, List.mem_cons, List.not_mem_nil, or_false] at hu
      rcases hu with (rfl | rfl | rfl | rfl) | hu
      · exact wT_valid h1.1
      · exact wT_valid h1.2.1
      · exact wT_valid h1.2.2
      · exact nT_valid h2.1
      · exact times_valid (kT_valid (by decide) (by decide) (by decide) (by decide)) h2.2 u hu
    | route r =>
      obtain ⟨h1, h2, h3⟩ := h
      obtain ⟨c1, c2, c3, c4⟩ := count_of h3
      simp only [route_name, route_tick, Bool.and_eq_true] at h1 h2
      simp only [Item.rest, List.mem_append, List.mem_cons, List.not_mem_nil, or_false, List.mem_flatMap] at hu
      rcases hu with (rfl | rfl) | ⟨j, hj, hu⟩
      · exact wT_valid h1.1
      · exact wT_valid (getD_all h1.2 (by omega))
      · exact piece_valid h1.2 h2 ⟨c3, c4⟩ (by have := List.mem_range'_1.1 hj; omega) u hu
    | trip p =>
      obtain ⟨h1, h2⟩ := h
      simp [trip_name, trip_tick] at h1 h2
      simp only [Item.rest, List.mem_cons, List.not_mem_nil, or_false] at hu
      rcases hu with rfl | rfl | rfl | rfl | rfl | rfl | rfl | rfl | rfl
      · exact wT_valid h1.1
      · exact kT_valid (by decide) (by decide) (by decide) (by decide)
      · exact wT_valid h1.2
      · exact kT_valid (by decide) (by decide) (by decide) (by decide)
      · exact nT_valid h2.1
      · exact kT_valid (by decide) (by decide) (by decide) (by decide)
      · exact nT_valid h2.2.1
      · exact kT_valid (by decide) (by decide) (by decide) (by decide)
      · exact nT_valid h2.2.2
    | haz p =>
      obtain ⟨h1, h2⟩ := h
      simp [haz_name, haz_tick] at h1 h2
      simp only [Item.rest, List.mem_append, List.mem_cons, List.not_mem_nil, or_false] at hu
      rcases hu with (rfl | rfl | rfl) | hu
      · exact wT_valid h1.1
      · exact kT_valid (by decide) (by decide) (by decide) (by decide)
      · exact wT_valid h1.2
      · exact times_valid (kT_valid (by decide) (by decide) (by decide) (by decide)) h2 u hu

/-- the tokens' texts, each behind a blank -/
def sp (ts : List Tok) : List UInt8 := ts.flatMap fun t => 32 :: t.text
theorem sp_nil : sp [] = [] := rfl
theorem sp_cons (t : Tok) (r : List Tok) : sp (t :: r) = 32 :: (t.text ++ sp r) := rfl
theorem sp_app (a b : List Tok) : sp (a ++ b) = sp a ++ sp b := List.flatMap_append
/-- a line's text -/
def lineB : List Tok → List UInt8
  | [] => []
  | t :: r => t.text ++ sp r
theorem free_bl {r : List UInt8} : free (32 :: r) := by refine ⟨?_, ?_, ?_⟩ <;> (simp only [nextK]; rw [k32]; decide)
theorem glue_glue (a b : List Tok) (r : Res) : Res.glue a (Res.glue b r) = Res.glue (a ++ b) r := by cases r <;> simp [Res.glue]
theorem cons_glue (t : Tok) (r : Res) : r.cons t = Res.glue [t] r := by cases r <;> rfl
theorem lex_sp : ∀ (r : List Tok) (q : List UInt8) (line col : Nat), (∀ t ∈ r, validT t) → free q → ∃ T, Lx.Alike T r ∧ ∃ c', lex (sp r ++ q) line col true = Res.glue T (lex q line c' true)
  | [], q, line, col, hv, hq => ⟨[], rfl, col, by rw [sp_nil, glue_nil]; rfl⟩
  | t :: r, q, line, col, hv, hq => by
    obtain ⟨T, h1, c', h2⟩ := lex_sp r q line (col + 1 + t.text.length) (fun u hu => hv u (List.mem_cons_of_mem _ hu)) hq
    have hf : free (sp r ++ q) := by cases r with | nil => exact hq | cons u s => exact free_bl
    obtain ⟨t', h3, h4⟩ := lex_tok (hv t List.mem_cons_self) hf line (col + 1) true
    refine ⟨t' :: T, by simp only [Lx.Alike, List.map_cons] at h1 ⊢; rw [h1, h3], c', ?_⟩
    rw [sp_cons, List.cons_append, List.append_assoc, lex_bl k32, h4, h2, cons_glue, glue_glue]; rfl
theorem lex_tok' {t : Tok} (h : validT t) {q : List UInt8} (hq : free q) (line col : Nat) (sm : Bool) :
    ∃ t', bare t' = bare t ∧ t'.line = line ∧ t'.col = col ∧ lex (t.text ++ q) line col sm = (lex q line (col + t.text.length) true).cons t' := by
  rcases h with ⟨⟨h5, ha, h24⟩, hk, hn⟩ | ⟨hc, hd, hk, hn⟩
  · have hne : t.text ≠ [] := by intro e; rw [e] at h5; simp [nextK] at h5
    obtain ⟨e1, e2⟩ := tw_of_all ha (free_more hq)
    rw [lex_word (bs := t.text ++ q) (by rw [nextK_app hne]; exact h5), e1, e2, if_neg (by omega)]
    exact ⟨_, by simp [bare, wordT, hk, hn], rfl, rfl, rfl⟩
  · have hne : t.text ≠ [] := canon_ne hc
    have ha : t.text.all isDig = true := canon_all hc
    have h6 : nextK t.text = 6 := by
      cases hx : t.text with
      | nil => exact absurd hx hne
      | cons c r =>
        rw [hx] at ha
        simp at ha
        have := ha.1
        rw [isDig_kind] at this
        simpa [nextK] using this
    obtain ⟨e1, e2⟩ := tw_of_all ha (free_dig hq)
    rw [lex_num (bs := t.text ++ q) (by rw [nextK_app hne]; exact h6), e1, e2, if_neg (by simp [hc]), if_neg (by omega), if_neg (fun h => h.elim hq.1 hq.2.2)]
    exact ⟨_, by simp [bare, numT, hk, hn], rfl, rfl, rfl⟩
/-- a line's tokens are cut as they were; the first one where the line begins -/
theorem lex_line {l : List Tok} (hl : l ≠ []) (hv : ∀ t ∈ l, validT t) {q : List UInt8} (hq : free q) (line col : Nat) (sm : Bool) :
    ∃ t' r', Lx.Alike (t' :: r') l ∧ t'.line = line ∧ t'.col = col ∧ ∃ c', lex (lineB l ++ q) line col sm = Res.glue (t' :: r') (lex q line c' true) := by
  cases l with
  | nil => exact absurd rfl hl
  | cons t r =>
    have hf : free (sp r ++ q) := by cases r with | nil => exact hq | cons u s => exact free_bl
    obtain ⟨t', h1, h2, h3, h4⟩ := lex_tok' (hv t List.mem_cons_self) hf line col sm
    obtain ⟨T, k1, c', k2⟩ := lex_sp r q line (col + t.text.length) (fun u hu => hv u (List.mem_cons_of_mem _ hu)) hq
    refine ⟨t', T, by simp only [Lx.Alike, List.map_cons] at k1 ⊢; rw [k1, h1], h2, h3, c', ?_⟩
    show lex (t.text ++ sp r ++ q) line col sm = _
    rw [List.append_assoc, h4, k2, cons_glue, glue_glue]; rfl
theorem k9 : kindOf 9 = 2 := by decide
theorem k35 : kindOf 35 = 4 := by decide
theorem free_nl {r : List UInt8} : free (10 :: r) := by refine ⟨?_, ?_, ?_⟩ <;> (simp only [nextK]; rw [k10]; decide)
/-- lines, each with its end -/
def joinN (L : List (List Tok)) : List UInt8 := L.flatMap fun l => lineB l ++ [10]
/-- the tokens of lines -/
def lineToks (L : List (List Tok)) : List Tok := L.flatMap fun l => l ++ [eT]
def Lines (L : List (List Tok)) : Prop := ∀ l ∈ L, l ≠ [] ∧ ∀ t ∈ l, validT t
theorem alike_app {a b c d : List Tok} (h : Lx.Alike a b) (k : Lx.Alike c d) : Lx.Alike (a ++ c) (b ++ d) := by unfold Lx.Alike at *; rw [List.map_append, List.map_append, h, k]
theorem lex_join : ∀ (L : List (List Tok)) (q : List UInt8) (line : Nat), Lines L → ∃ T, Lx.Alike T (lineToks L) ∧ lex (joinN L ++ q) line 1 false = Res.glue T (lex q (line + L.length) 1 false)
  | [], q, line, hL => ⟨[], rfl, by rw [glue_nil]; rfl⟩
  | l :: L, q, line, hL => by
    obtain ⟨h1, h2⟩ := hL l List.mem_cons_self
    obtain ⟨t', r', k1, -, -, c', k2⟩ := lex_line h1 h2 (free_nl (r := joinN L ++ q)) line 1 false
    obtain ⟨T, j1, j2⟩ := lex_join L q (line + 1) (fun u hu => hL u (List.mem_cons_of_mem _ hu))
    refine ⟨(t' :: r') ++ [endT line c'] ++ T, ?_, ?_⟩
    · exact alike_app (alike_app k1 rfl) j1
    · show lex ((lineB l ++ [10] ++ joinN L) ++ q) line 1 false = _
      rw [List.append_assoc, List.append_assoc]
      show lex (lineB l ++ 10 :: (joinN L ++ q)) line 1 false = _
      rw [k2, lex_nl k10, if_pos rfl, j2, cons_glue, glue_glue, glue_glue, List.append_assoc, List.length_cons]
      congr 2
      omega
/-- blanks and remarks between: a tab ahead; two blanks, a remark and two ends behind -/
def oddN (L : List (List Tok)) : List UInt8 := L.flatMap fun l => 9 :: (lineB l ++ [32, 32, 35, 32, 114, 101, 109, 97, 114, 107, 10, 10])
theorem lex_odd : ∀ (L : List (List Tok)) (line : Nat), Lines L → ∃ T, Lx.Alike T (lineToks L) ∧ lex (oddN L) line 1 false = .ok T
  | [], line, hL => ⟨[], rfl, rfl⟩
  | l :: L, line, hL => by
    obtain ⟨h1, h2⟩ := hL l List.mem_cons_self
    obtain ⟨t', r', k1, -, -, c', k2⟩ := lex_line h1 h2 (free_bl (r := [32, 35, 32, 114, 101, 109, 97, 114, 107, 10, 10] ++ oddN L)) line 2 false
    obtain ⟨T, j1, j2⟩ := lex_odd L (line + 1 + 1) (fun u hu => hL u (List.mem_cons_of_mem _ hu))
    have htail : lex (32 :: ([32, 35, 32, 114, 101, 109, 97, 114, 107, 10, 10] ++ oddN L)) line c' true = Res.glue [endT line (c' + 1 + 1 + 1 + 7)] (.ok T) := by
      rw [lex_bl k32]
      show lex (32 :: 35 :: ([32, 114, 101, 109, 97, 114, 107] ++ 10 :: 10 :: oddN L)) line (c' + 1) true = _
      rw [lex_bl k32, lex_hash k35]
      have hs : stops inLine (10 :: 10 :: oddN L) := stops_in _
      rw [tw_app [32, 114, 101, 109, 97, 114, 107] hs, dw_app [32, 114, 101, 109, 97, 114, 107] hs]
      have e1 : List.takeWhile inLine [32, 114, 101, 109, 97, 114, 107] = [32, 114, 101, 109, 97, 114, 107] := by decide
      have e2 : List.dropWhile inLine [32, 114, 101, 109, 97, 114, 107] = [] := by decide
      rw [e1, e2, List.nil_append, lex_nl k10, if_pos rfl, lex_nl k10, if_neg (by decide), j2, cons_glue]
      rfl
    refine ⟨(t' :: r') ++ [endT line (c' + 1 + 1 + 1 + 7)] ++ T, alike_app (alike_app k1 rfl) j1, ?_⟩
    show lex (9 :: (lineB l ++ [32, 32, 35, 32, 114, 101, 109, 97, 114, 107, 10, 10]) ++ oddN L) line 1 false = _
    rw [List.cons_append, List.append_assoc, lex_bl k9]
    show lex (lineB l ++ 32 :: ([32, 35, 32, 114, 101, 109, 97, 114, 107, 10, 10] ++ oddN L)) line 2 false = _
    rw [k2, htail, glue_glue]; rfl
theorem lex_last (bs : List UInt8) (line col : Nat) (sm : Bool) : lex (bs ++ [10]) line col sm = lex bs line col sm := by
  rw [lex_app]
  cases lex bs line col sm with
  | bad e l c => rfl
  | ok l => show Res.ok (l ++ []) = _; rw [List.append_nil]

/-- what is read from tokens that are known -/
theorem name_bare {t : Tok} {s : List UInt8} (h : bare t = bare (wT s)) (r : List Tok) : nameM (t :: r) = .ok s r := by
  simp only [bare, wT, Prod.mk.injEq] at h
  simp [nameM, takeM, h.1, h.2.1, bind_ok]
theorem num_bare {t : Tok} {n : Int} (h : bare t = bare (nT n)) (r : List Tok) : numM (t :: r) = .ok n r := by
  simp only [bare, nT, Prod.mk.injEq] at h
  simp [numM, takeM, h.1, h.2.2, bind_ok]
theorem key_bare {t : Tok} {k : List UInt8} (h : bare t = bare (kT k)) (r : List Tok) : keyM k (t :: r) = .ok () r := by
  simp only [bare, kT, Prod.mk.injEq] at h
  simp [keyM, takeM, h.1, h.2.1, bind_ok]
theorem end_bare {t : Tok} (h : bare t = bare eT) (r : List Tok) : takeM 4 (t :: r) = .ok t r := by
  simp only [bare, eT, Prod.mk.injEq] at h
  simp [takeM, h.1]
theorem word_bare {t : Tok} {s : List UInt8} (h : bare t = bare (wT s)) (r : List Tok) : takeM 1 (t :: r) = .ok t r := by
  simp only [bare, wT, Prod.mk.injEq] at h
  simp [takeM, h.1]
theorem behind_bare {t u : Tok} {k : List UInt8} {n : Int} (h : bare t = bare (kT k)) (h' : bare u = bare (nT n)) (r : List Tok) : behindM k (t :: u :: r) = .ok n r := by
  rw [behindM, key_bare h, bind_ok, num_bare h']
theorem nameBehind_bare {t u : Tok} {k s : List UInt8} (h : bare t = bare (kT k)) (h' : bare u = bare (wT s)) (r : List Tok) : nameBehindM k (t :: u :: r) = .ok s r := by
  rw [nameBehindM, key_bare h, bind_ok, name_bare h']
theorem alike_cons {T : List Tok} {a : Tok} {r : List Tok} (h : Lx.Alike T (a :: r)) : ∃ t T', T = t :: T' ∧ bare t = bare a ∧ Lx.Alike T' r := by
  cases T with
  | nil => simp [Lx.Alike] at h
  | cons t T' => simp only [Lx.Alike, List.map_cons, List.cons.injEq] at h; exact ⟨t, T', rfl, h.1, h.2⟩
theorem alike_nil {T : List Tok} (h : Lx.Alike T []) : T = [] := by simpa [Lx.Alike] using h
theorem alike_split {T a b : List Tok} (h : Lx.Alike T (a ++ b)) : ∃ T1 T2, T = T1 ++ T2 ∧ Lx.Alike T1 a ∧ Lx.Alike T2 b := by
  unfold Lx.Alike at h
  rw [List.map_append, List.map_eq_append_iff] at h
  obtain ⟨T1, T2, h1, h2, h3⟩ := h
  exact ⟨T1, T2, h1, h2, h3⟩
theorem times_bare {k : List UInt8} {t : TimesM} {T : List Tok} (h : Lx.Alike T (whenT k t)) (r : List Tok) : timesM k (T ++ r) = .ok t r := by
  obtain ⟨t1, T, rfl, b1, h⟩ := alike_cons h
  obtain ⟨t2, T, rfl, b2, h⟩ := alike_cons h
  obtain ⟨t3, T, rfl, b3, h⟩ := alike_cons h
  obtain ⟨t4, T, rfl, b4, h⟩ := alike_cons h
  obtain ⟨t5, T, rfl, b5, h⟩ := alike_cons h
  obtain ⟨t6, T, rfl, b6, h⟩ := alike_cons h
  obtain rfl := alike_nil h
  show timesM k (t1 :: t2 :: t3 :: t4 :: t5 :: t6 :: r) = _
  rw [timesM, behind_bare b1 b2, bind_ok, behind_bare b3 b4, bind_ok, behind_bare b5 b6, bind_ok]
theorem endM_bare {n most : Nat} {first t : Tok} (h : bare t = bare eT) (hn : n < most) (r : List Tok) : endM n most first (t :: r) = .ok () r := by
  rw [endM, end_bare h, bind_ok, if_neg (by omega)]
theorem take_more {α : Type} {l : List α} {j : Nat} {d : α} (h : j < l.length) : l.take j ++ [l.getD j d] = l.take (j + 1) := by
  rw [List.take_add_one, List.getD_eq_getElem?_getD, List.getElem?_eq_getElem h]; rfl
/-- a route's legs are read back -/
theorem legs_back {r : RouteM} (h3 : r.rides.length + 1 = r.stops.length ∧ r.stays.length + 2 = r.stops.length) (ht : r.stays.all tickB = true) {e : Tok} (he : bare e = bare eT) (Q : List Tok) :
    ∀ (k j m : Nat) (T : List Tok) (g : Legs), j + (k + 1) + 1 = r.stops.length → Lx.Alike T ((List.range' j (k + 1)).flatMap (pieceT r)) → g.stops.map (·.text) = r.stops.take (j + 1) → g.rides = r.rides.take j → g.stays = r.stays.take j → (T ++ e :: Q).length < m →
      ∃ g', legsF m (T ++ e :: Q) g = .ok g' (e :: Q) ∧ g'.stops.map (·.text) = r.stops ∧ g'.rides = r.rides ∧ g'.stays = r.stays := by
  have he4 : e.kind = 4 := by simp only [bare, eT, Prod.mk.injEq] at he; exact he.1
  intro k
  induction k with
  | zero =>
    intro j m T g hj hT g1 g2 g3 hm
    obtain ⟨m, rfl⟩ : ∃ i, m = i + 1 := ⟨m - 1, by omega⟩
    have hp : (List.range' j (0 + 1)).flatMap (pieceT r) = [nT (r.rides.getD j 0), wT (r.stops.getD (j + 1) [])] := by
      simp [pieceT]; omega
    rw [hp] at hT
    obtain ⟨t1, T, rfl, b1, hT⟩ := alike_cons hT
    obtain ⟨t2, T, rfl, b2, hT⟩ := alike_cons hT
    obtain rfl := alike_nil hT
    show ∃ g', legsF (m + 1) (t1 :: t2 :: e :: Q) g = _ ∧ _
    rw [legsF, num_bare b1, bind_ok, word_bare b2, bind_ok, if_pos (show headKind (e :: Q) = 4 from he4)]
    refine ⟨_, rfl, ?_, ?_, ?_⟩
    · have hx : t2.text = r.stops.getD (j + 1) [] := by simp only [bare, wT, Prod.mk.injEq] at b2; exact b2.2.1
      rw [List.map_append, g1, List.map_singleton, hx, take_more (by omega), List.take_of_length_le (by omega)]
    · rw [g2, take_more (by omega), List.take_of_length_le (by omega)]
    · rw [g3, List.take_of_length_le (by omega)]
  | succ k ih =>
    intro j m T g hj hT g1 g2 g3 hm
    obtain ⟨m, rfl⟩ : ∃ i, m = i + 1 := ⟨m - 1, by omega⟩
    rw [List.range'_succ, List.flatMap_cons] at hT
    obtain ⟨T1, T2, rfl, hT1, hT2⟩ := alike_split hT
    rw [pieceT] at hT1
    obtain ⟨t1, T1, rfl, b1, hT1⟩ := alike_cons hT1
    obtain ⟨t2, T1, rfl, b2, hT1⟩ := alike_cons hT1
    have hst : tickB (r.stays.getD j 0) = true := getD_all ht (by omega)
    have hx : t2.text = r.stops.getD (j + 1) [] := by simp only [bare, wT, Prod.mk.injEq] at b2; exact b2.2.1
    -- the head behind
    obtain ⟨u, T2', hu, bu⟩ : ∃ u T2', T2 = u :: T2' ∧ u.kind = 3 := by
      rw [List.range'_succ, List.flatMap_cons, pieceT] at hT2
      obtain ⟨u, T2', h1, h2, -⟩ := alike_cons hT2
      exact ⟨u, T2', h1, by simp only [bare, nT, Prod.mk.injEq] at h2; exact h2.1⟩
    have hstep : stayM (T1 ++ (T2 ++ e :: Q)) = .ok (r.stays.getD j 0) (T2 ++ e :: Q) ∧ headKind (T1 ++ (T2 ++ e :: Q)) ≠ 4 := by
      by_cases hc : j + 2 < r.stops.length ∧ 0 < r.stays.getD j 0
      · rw [if_pos hc] at hT1
        obtain ⟨t3, T1, rfl, b3, hT1⟩ := alike_cons hT1
        obtain ⟨t4, T1, rfl, b4, hT1⟩ := alike_cons hT1
        obtain rfl := alike_nil hT1
        have hk : t3.kind = 2 := by simp only [bare, kT, Prod.mk.injEq] at b3; exact b3.1
        refine ⟨?_, ?_⟩
        · show stayM (t3 :: t4 :: (T2 ++ e :: Q)) = _
          rw [stayM, if_pos (by exact hk), behind_bare b3 b4]
        · show t3.kind ≠ 4
          rw [hk]; decide
      · rw [if_neg hc] at hT1
        obtain rfl := alike_nil hT1
        subst hu
        have h0 : r.stays.getD j 0 = 0 := by simp only [tickB, Bool.and_eq_true, decide_eq_true_eq] at hst; omega
        refine ⟨?_, ?_⟩
        · show stayM (u :: (T2' ++ e :: Q)) = _
          rw [stayM, if_neg (by show ¬ u.kind = 2; rw [bu]; decide), h0]; rfl
        · show u.kind ≠ 4
          rw [bu]; decide
    have hm2 : (T2 ++ e :: Q).length < m := by simp only [List.length_append, List.length_cons] at hm ⊢; omega
    obtain ⟨g', i1, i2⟩ := ih (j + 1) m T2 ⟨g.stops ++ [t2], g.rides ++ [r.rides.getD j 0], g.stays ++ [r.stays.getD j 0]⟩ (by omega) hT2
      (by rw [List.map_append, g1, List.map_singleton, hx, take_more (by omega)]) (by show g.rides ++ _ = _; rw [g2, take_more (by omega)]) (by show g.stays ++ _ = _; rw [g3, take_more (by omega)]) hm2
    refine ⟨g', ?_, i2⟩
    have e1 : ((t1 :: t2 :: T1) ++ T2) ++ e :: Q = t1 :: t2 :: (T1 ++ (T2 ++ e :: Q)) := by simp
    rw [e1, legsF, num_bare b1, bind_ok, word_bare b2, bind_ok, if_neg hstep.2, hstep.1, bind_ok, i1]
/-- a line adds its thing -/
theorem step_item {i : Item} (hi : i.Ok) {x : SheetM} (hr : Room x i) {T : List Tok} (hT : Lx.Alike T (i.toks ++ [eT])) : ∃ t r, T = t :: r ∧ ∀ q, stepM false x t (r ++ q) = .ok (addI x i) q := by
  obtain ⟨t, T, rfl, bt, hT⟩ := alike_cons hT
  have hx : t.text = i.key := by simp only [bare, kT, Prod.mk.injEq] at bt; exact bt.2.1
  refine ⟨t, T, rfl, fun q => ?_⟩
  unfold stepM
  rw [hx]
  cases i with
  | stop n =>
    obtain ⟨t1, T, rfl, b1, hT⟩ := alike_cons hT
    obtain ⟨t2, T, rfl, b2, hT⟩ := alike_cons hT
    obtain rfl := alike_nil hT
    show stopL x t (t1 :: t2 :: q) = _
    rw [stopL, name_bare b1, bind_ok, endM_bare b2 hr, bind_ok]; rfl
  | path p =>
    obtain ⟨t1, T, rfl, b1, hT⟩ := alike_cons hT
    obtain ⟨t2, T, rfl, b2, hT⟩ := alike_cons hT
    obtain ⟨t3, T, rfl, b3, hT⟩ := alike_cons hT
    obtain ⟨t4, T, rfl, b4, hT⟩ := alike_cons hT
    obtain ⟨t5, T, rfl, b5, hT⟩ := alike_cons hT
    obtain rfl := alike_nil hT
    show pathL x t (t1 :: t2 :: t3 :: t4 :: t5 :: q) = _
    rw [pathL, pathT, name_bare b1, bind_ok, name_bare b2, bind_ok, name_bare b3, bind_ok, num_bare b4, bind_ok, bind_ok, endM_bare b5 hr, bind_ok]; rfl
  | door p =>
    obtain ⟨t1, T, rfl, b1, hT⟩ := alike_cons hT
    obtain ⟨t2, T, rfl, b2, hT⟩ := alike_cons hT
    obtain ⟨t3, T, rfl, b3, hT⟩ := alike_cons hT
    obtain ⟨t4, T, rfl, b4, hT⟩ := alike_cons hT
    obtain ⟨T1, T2, rfl, hT1, hT2⟩ := alike_split hT
    obtain ⟨t5, T2, rfl, b5, hT2⟩ := alike_cons hT2
    obtain rfl := alike_nil hT2
    show doorL x t (t1 :: t2 :: t3 :: t4 :: ((T1 ++ [t5]) ++ q)) = _
    rw [doorL, doorT, name_bare b1, bind_ok, name_bare b2, bind_ok, name_bare b3, bind_ok, num_bare b4, bind_ok, List.append_assoc, times_bare hT1, bind_ok, bind_ok]
    show (endM x.doors.length 256 t (t5 :: q)).bind _ = _
    rw [endM_bare b5 hr, bind_ok]; rfl
  | route r =>
    obtain ⟨h1, h2, h3⟩ := hi
    obtain ⟨c1, c2, c3, c4⟩ := count_of h3
    simp only [route_tick, Bool.and_eq_true] at h2
    obtain ⟨t1, T, rfl, b1, hT⟩ := alike_cons hT
    obtain ⟨t2, T, rfl, b2, hT⟩ := alike_cons hT
    obtain ⟨T1, T2, rfl, hT1, hT2⟩ := alike_split hT
    obtain ⟨e, T2, rfl, be, hT2⟩ := alike_cons hT2
    obtain rfl := alike_nil hT2
    have ht2 : t2.text = r.stops.getD 0 [] := by simp only [bare, wT, Prod.mk.injEq] at b2; exact b2.2.1
    obtain ⟨k, hk⟩ : ∃ k, r.stops.length - 1 = k + 1 := ⟨r.stops.length - 2, by omega⟩
    rw [hk] at hT1
    obtain ⟨g', i1, i2, i3, i4⟩ := legs_back ⟨c3, c4⟩ h2.2 be q k 0 ((T1 ++ e :: q).length + 1) T1 ⟨[t2], [], []⟩ (by omega) hT1 (by
      show [t2.text] = r.stops.take 1
      rw [ht2]
      have := take_more (l := r.stops) (j := 0) (d := []) (by omega)
      simpa using this) rfl rfl (by omega)
    have e1 : ((t1 :: t2 :: (T1 ++ [e])) ++ q) = t1 :: t2 :: (T1 ++ e :: q) := by simp
    show routeL x t ((t1 :: t2 :: (T1 ++ [e])) ++ q) = _
    have hl : legsM (T1 ++ e :: q) ⟨[t2], [], []⟩ = .ok g' (e :: q) := i1
    rw [e1, routeL, routeT, name_bare b1, bind_ok, word_bare b2, bind_ok, hl, bind_ok, bind_ok, endM_bare be hr, bind_ok]
    have hlen : g'.stops.length = r.stops.length := by have := congrArg List.length i2; simpa using this
    have hr' : routeOf r.name g' = r := by
      unfold routeOf
      rw [i2, i3, i4]
    have h32 : g'.stops[32]? = none := List.getElem?_eq_none (by omega)
    rw [overLeg]
    dsimp only
    rw [h32, hr']; rfl
  | trip p =>
    obtain ⟨t1, T, rfl, b1, hT⟩ := alike_cons hT
    obtain ⟨t2, T, rfl, b2, hT⟩ := alike_cons hT
    obtain ⟨t3, T, rfl, b3, hT⟩ := alike_cons hT
    obtain ⟨t4, T, rfl, b4, hT⟩ := alike_cons hT
    obtain ⟨t5, T, rfl, b5, hT⟩ := alike_cons hT
    obtain ⟨t6, T, rfl, b6, hT⟩ := alike_cons hT
    obtain ⟨t7, T, rfl, b7, hT⟩ := alike_cons hT
    obtain ⟨t8, T, rfl, b8, hT⟩ := alike_cons hT
    obtain ⟨t9, T, rfl, b9, hT⟩ := alike_cons hT
    obtain ⟨e, T, rfl, be, hT⟩ := alike_cons hT
    obtain rfl := alike_nil hT
    show tripL x t (t1 :: t2 :: t3 :: t4 :: t5 :: t6 :: t7 :: t8 :: t9 :: e :: q) = _
    rw [tripL, tripT, name_bare b1, bind_ok, nameBehind_bare b2 b3, bind_ok, behind_bare b4 b5, bind_ok, behind_bare b6 b7, bind_ok, behind_bare b8 b9, bind_ok, bind_ok, endM_bare be hr, bind_ok]; rfl
  | haz p =>
    obtain ⟨t1, T, rfl, b1, hT⟩ := alike_cons hT
    obtain ⟨t2, T, rfl, b2, hT⟩ := alike_cons hT
    obtain ⟨t3, T, rfl, b3, hT⟩ := alike_cons hT
    obtain ⟨T1, T2, rfl, hT1, hT2⟩ := alike_split hT
    obtain ⟨t5, T2, rfl, b5, hT2⟩ := alike_cons hT2
    obtain rfl := alike_nil hT2
    show hazL x t (t1 :: t2 :: t3 :: ((T1 ++ [t5]) ++ q)) = _
    rw [hazL, hazT, name_bare b1, bind_ok, nameBehind_bare b2 b3, bind_ok, List.append_assoc, times_bare hT1, bind_ok, bind_ok]
    show (endM x.hazards.length 256 t (t5 :: q)).bind _ = _
    rw [endM_bare b5 hr, bind_ok]; rfl
theorem addI_ext (x : SheetM) (i : Item) : Ext x (addI x i) := by
  cases i
  · exact { Ext.refl x with s := List.prefix_append _ _ }
  · exact { Ext.refl x with p := List.prefix_append _ _ }
  · exact { Ext.refl x with d := List.prefix_append _ _ }
  · exact { Ext.refl x with r := List.prefix_append _ _ }
  · exact { Ext.refl x with t := List.prefix_append _ _ }
  · exact { Ext.refl x with z := List.prefix_append _ _ }
theorem fold_ext : ∀ (l : List Item) (x : SheetM), Ext x (l.foldl addI x)
  | [], x => Ext.refl x
  | i :: l, x => (addI_ext x i).trans (fold_ext l _)
/-- not too many of a kind -/
structure FewI (x : SheetM) : Prop where
  n1 : x.stops.length ≤ 256
  n2 : x.paths.length ≤ 1024
  n3 : x.doors.length ≤ 256
  n4 : x.routes.length ≤ 256
  n5 : x.trips.length ≤ 1024
  n6 : x.hazards.length ≤ 256
theorem room_of {x y : SheetM} {i : Item} (h : Ext (addI x i) y) (hy : FewI y) : Room x i := by
  cases i
  · show x.stops.length < 256
    have h1 := h.s.length_le
    have h2 := hy.n1
    simp only [addI, List.length_append, List.length_cons, List.length_nil] at h1
    omega
  · show x.paths.length < 1024
    have h1 := h.p.length_le
    have h2 := hy.n2
    simp only [addI, List.length_append, List.length_cons, List.length_nil] at h1
    omega
  · show x.doors.length < 256
    have h1 := h.d.length_le
    have h2 := hy.n3
    simp only [addI, List.length_append, List.length_cons, List.length_nil] at h1
    omega
  · show x.routes.length < 256
    have h1 := h.r.length_le
    have h2 := hy.n4
    simp only [addI, List.length_append, List.length_cons, List.length_nil] at h1
    omega
  · show x.trips.length < 1024
    have h1 := h.t.length_le
    have h2 := hy.n5
    simp only [addI, List.length_append, List.length_cons, List.length_nil] at h1
    omega
  · show x.hazards.length < 256
    have h1 := h.z.length_le
    have h2 := hy.n6
    simp only [addI, List.length_append, List.length_cons, List.length_nil] at h1
    omega
/-- lines behind the first one are read, one behind the other -/
theorem run_items : ∀ (l : List Item) (x : SheetM) (m : Nat) (T : List Tok), (∀ i ∈ l, i.Ok) → FewI (l.foldl addI x) → Lx.Alike T (lineToks (l.map Item.toks)) → T.length ≤ m → runF m false x T = .ok (l.foldl addI x) [] := by
  intro l
  induction l with
  | nil => intro x m T _ _ hT _; obtain rfl := alike_nil hT; cases m <;> rfl
  | cons i l ih =>
    intro x m T ho hf hT hm
    obtain ⟨T1, T2, rfl, hT1, hT2⟩ := alike_split (a := i.toks ++ [eT]) (b := lineToks (l.map Item.toks)) hT
    obtain ⟨t, r, rfl, hs⟩ := step_item (ho i List.mem_cons_self) (room_of (fold_ext l _) hf) hT1
    obtain ⟨m, rfl⟩ : ∃ k, m = k + 1 := ⟨m - 1, by simp at hm; omega⟩
    show runF (m + 1) false x (t :: (r ++ T2)) = _
    rw [runF, hs, bind_ok]
    exact ih _ m T2 (fun j hj => ho j (List.mem_cons_of_mem _ hj)) hf hT2 (by simp at hm; omega)
def horT (n : Int) : List Tok := [kT kHorizon, nT n]
/-- a text of a horizon and of lines -/
def sheetL (n : Int) (l : List Item) : List (List Tok) := horT n :: l.map Item.toks
theorem sheet_lines {n : Int} {l : List Item} (hn : tickB n = true) (hl : ∀ i ∈ l, i.Ok) : Lines (sheetL n l) := by
  intro u hu
  rcases List.mem_cons.1 hu with rfl | hu
  · refine ⟨by simp [horT], fun t ht => ?_⟩
    simp only [horT, List.mem_cons, List.not_mem_nil, or_false] at ht
    rcases ht with rfl | rfl
    · exact kT_valid (by decide) (by decide) (by decide) (by decide)
    · exact nT_valid hn
  · obtain ⟨i, hi, rfl⟩ := List.mem_map.1 hu
    exact ⟨by simp [Item.toks], item_valid (hl i hi)⟩
theorem horizon_step {n : Int} {x : SheetM} {T : List Tok} (hT : Lx.Alike T (horT n ++ [eT])) : ∃ t r, T = t :: r ∧ ∀ q, stepM true x t (r ++ q) = .ok { x with horizon := n } q := by
  obtain ⟨t, T, rfl, bt, hT⟩ := alike_cons hT
  obtain ⟨t1, T, rfl, b1, hT⟩ := alike_cons hT
  obtain ⟨t2, T, rfl, b2, hT⟩ := alike_cons hT
  obtain rfl := alike_nil hT
  have hx : t.text = kHorizon := by simp only [bare, kT, Prod.mk.injEq] at bt; exact bt.2.1
  refine ⟨t, _, rfl, fun q => ?_⟩
  unfold stepM
  rw [if_pos hx, if_pos rfl]
  show horizonL x (t1 :: t2 :: q) = _
  rw [horizonL, num_bare b1, bind_ok, end_bare b2, bind_ok]
def startM (n : Int) : SheetM := ⟨n, [], [], [], [], [], []⟩
theorem parseM_items {n : Int} {l : List Item} (hl : ∀ i ∈ l, i.Ok) (hf : FewI (l.foldl addI (startM n))) {T : List Tok} (hT : Lx.Alike T (lineToks (sheetL n l))) : parseM T = .ok (l.foldl addI (startM n)) [] := by
  obtain ⟨T1, T2, rfl, hT1, hT2⟩ := alike_split (a := horT n ++ [eT]) (b := lineToks (l.map Item.toks)) hT
  obtain ⟨t, r, rfl, hs⟩ := horizon_step (x := emptyM) hT1
  unfold parseM
  rw [if_neg (by simp)]
  show runF (r ++ T2).length.succ true emptyM (t :: (r ++ T2)) = _
  rw [runF, hs, bind_ok]
  exact run_items l (startM n) _ T2 hl hf hT2 (by simp)
theorem glue_ok (a b : List Tok) : Res.glue a (.ok b) = .ok (a ++ b) := rfl
/-- a text of a horizon and of lines tells them -/
theorem parse_items {n : Int} {l : List Item} (hn : tickB n = true) (hl : ∀ i ∈ l, i.Ok) (hf : FewI (l.foldl addI (startM n))) {s : ByteArray} (hs : s.data.toList = joinN (sheetL n l) ∨ s.data.toList ++ [10] = joinN (sheetL n l) ∨ s.data.toList = oddN (sheetL n l)) (hz : s.size ≤ 65536) : parseT s = .ok (l.foldl addI (startM n)) [] := by
  have hL := sheet_lines hn hl
  obtain ⟨T, hT, hlex⟩ : ∃ T, Lx.Alike T (lineToks (sheetL n l)) ∧ lex s.data.toList 1 1 false = .ok T := by
    obtain ⟨T, hT, h⟩ := lex_join (sheetL n l) [] 1 hL
    rw [List.append_nil, lex_nil, if_neg (by decide), glue_ok, List.append_nil] at h
    rcases hs with hs | hs | hs
    · exact ⟨T, hT, by rw [hs]; exact h⟩
    · exact ⟨T, hT, by rw [← lex_last, hs]; exact h⟩
    · rw [hs]; exact lex_odd _ 1 hL
  unfold parseT lexAll
  rw [if_neg (by omega), hlex]
  exact parseM_items hl hf hT
/-- a second horizon is refused where it stands -/
theorem parse_twice {n : Int} (hn : tickB n = true) {s : ByteArray} (hs : s.data.toList = lineB (horT n) ++ 10 :: lineB (horT n)) (hz : s.size ≤ 65536) : parseT s = .bad 7 2 1 := by
  have hL : Lines [horT n] := sheet_lines (l := []) hn (by intro i hi; cases hi)
  obtain ⟨h1, h2⟩ := hL _ List.mem_cons_self
  obtain ⟨T, hT, h⟩ := lex_join [horT n] (lineB (horT n)) 1 hL
  obtain ⟨t', r', k1, k2, k3, c', k4⟩ := lex_line h1 h2 (q := []) (by refine ⟨?_, ?_, ?_⟩ <;> decide) 2 1 false
  rw [List.append_nil, lex_nil, if_pos rfl, glue_ok] at k4
  have hlex : lex s.data.toList 1 1 false = .ok (T ++ (t' :: r' ++ [endT 2 c'])) := by
    have e : s.data.toList = joinN [horT n] ++ lineB (horT n) := by rw [hs]; simp [joinN]
    rw [e, h]
    show Res.glue T (lex (lineB (horT n)) 2 1 false) = _
    rw [k4]; rfl
  obtain ⟨t, r, rfl, hst⟩ := horizon_step (x := emptyM) (T := T) (n := n) (by simpa [lineToks] using hT)
  unfold parseT lexAll
  rw [if_neg (by omega), hlex]
  dsimp only
  unfold parseM
  rw [if_neg (by simp)]
  show runF ((r ++ (t' :: r' ++ [endT 2 c'])).length + 1) true emptyM (t :: (r ++ (t' :: r' ++ [endT 2 c']))) = _
  rw [runF, hst, bind_ok]
  obtain ⟨m, hm⟩ : ∃ m, (r ++ (t' :: r' ++ [endT 2 c'])).length = m + 1 := ⟨_, by simp [Nat.add_assoc]; rfl⟩
  rw [hm]
  show runF (m + 1) false _ (t' :: (r' ++ [endT 2 c'])) = _
  obtain ⟨u, U, hu, bu, -⟩ := alike_cons k1
  injection hu with hu _; subst hu
  have hx : t'.text = kHorizon := by simp only [bare, kT, Prod.mk.injEq] at bu; exact bu.2.1
  rw [runF]
  unfold stepM
  rw [if_pos hx, if_neg (by decide), k2, k3]; rfl

/-- the things of each kind -/
def Item.stop? : Item → Option (List UInt8)
  | .stop n => some n
  | _ => none
def Item.path? : Item → Option PathM
  | .path n => some n
  | _ => none
def Item.door? : Item → Option DoorM
  | .door n => some n
  | _ => none
def Item.route? : Item → Option RouteM
  | .route n => some n
  | _ => none
def Item.trip? : Item → Option TripM
  | .trip n => some n
  | _ => none
def Item.haz? : Item → Option HazM
  | .haz n => some n
  | _ => none
theorem fold_eq : ∀ (l : List Item) (x : SheetM), l.foldl addI x = ⟨x.horizon, x.stops ++ l.filterMap Item.stop?, x.paths ++ l.filterMap Item.path?, x.doors ++ l.filterMap Item.door?, x.routes ++ l.filterMap Item.route?, x.trips ++ l.filterMap Item.trip?, x.hazards ++ l.filterMap Item.haz?⟩ := by
  intro l
  induction l with
  | nil => intro x; simp
  | cons i l ih =>
    intro x
    rw [List.foldl_cons, ih]
    cases i <;> simp [addI, Item.stop?, Item.path?, Item.door?, Item.route?, Item.trip?, Item.haz?]
    all_goals exact ⟨rfl, rfl, rfl, rfl, rfl⟩
def itemsOf (x : SheetM) : List Item := x.stops.map .stop ++ (x.paths.map .path ++ (x.doors.map .door ++ (x.routes.map .route ++ (x.trips.map .trip ++ x.hazards.map .haz))))
theorem items_ok {x : SheetM} (h : May x) : ∀ i ∈ itemsOf x, i.Ok := by
  intro i hi
  simp only [itemsOf, List.mem_append, List.mem_map] at hi
  rcases hi with ⟨a, ha, rfl⟩ | ⟨a, ha, rfl⟩ | ⟨a, ha, rfl⟩ | ⟨a, ha, rfl⟩ | ⟨a, ha, rfl⟩ | ⟨a, ha, rfl⟩
  · exact List.all_eq_true.1 h.a1 a ha
  · exact ⟨List.all_eq_true.1 h.a2 a ha, List.all_eq_true.1 h.b2 a ha⟩
  · exact ⟨List.all_eq_true.1 h.a3 a ha, List.all_eq_true.1 h.b3 a ha⟩
  · exact ⟨List.all_eq_true.1 h.a4 a ha, List.all_eq_true.1 h.b4 a ha, List.all_eq_true.1 h.d4 a ha⟩
  · exact ⟨List.all_eq_true.1 h.a5 a ha, List.all_eq_true.1 h.b5 a ha⟩
  · exact ⟨List.all_eq_true.1 h.a6 a ha, List.all_eq_true.1 h.b6 a ha⟩
theorem items_len (x : SheetM) : (itemsOf x).length = x.stops.length + x.paths.length + x.doors.length + x.routes.length + x.trips.length + x.hazards.length := by simp [itemsOf]; omega
theorem May.few {x : SheetM} (h : May x) : FewI x := ⟨h.n1, h.n2, h.n3, h.n4, h.n5, h.n6⟩
theorem fm_none {α β : Type} (f : α → Item) (g : Item → Option β) (h : ∀ a, g (f a) = none) (l : List α) : (l.map f).filterMap g = [] := by
  induction l with
  | nil => rfl
  | cons a l ih => rw [List.map_cons, List.filterMap_cons, h, ih]
theorem fm_some {α : Type} (f : α → Item) (g : Item → Option α) (h : ∀ a, g (f a) = some a) (l : List α) : (l.map f).filterMap g = l := by
  induction l with
  | nil => rfl
  | cons a l ih => rw [List.map_cons, List.filterMap_cons, h, ih]
theorem items_fm (x : SheetM) : (itemsOf x).filterMap Item.stop? = x.stops ∧ (itemsOf x).filterMap Item.path? = x.paths ∧ (itemsOf x).filterMap Item.door? = x.doors ∧ (itemsOf x).filterMap Item.route? = x.routes ∧ (itemsOf x).filterMap Item.trip? = x.trips ∧ (itemsOf x).filterMap Item.haz? = x.hazards := by
  refine ⟨?_, ?_, ?_, ?_, ?_, ?_⟩
  all_goals simp only [itemsOf, List.filterMap_append]
  · rw [fm_some .stop _ (fun _ => rfl), fm_none .path _ (fun _ => rfl), fm_none .door _ (fun _ => rfl), fm_none .route _ (fun _ => rfl), fm_none .trip _ (fun _ => rfl), fm_none .haz _ (fun _ => rfl)]; simp
  · rw [fm_none .stop _ (fun _ => rfl), fm_some .path _ (fun _ => rfl), fm_none .door _ (fun _ => rfl), fm_none .route _ (fun _ => rfl), fm_none .trip _ (fun _ => rfl), fm_none .haz _ (fun _ => rfl)]; simp
  · rw [fm_none .stop _ (fun _ => rfl), fm_none .path _ (fun _ => rfl), fm_some .door _ (fun _ => rfl), fm_none .route _ (fun _ => rfl), fm_none .trip _ (fun _ => rfl), fm_none .haz _ (fun _ => rfl)]; simp
  · rw [fm_none .stop _ (fun _ => rfl), fm_none .path _ (fun _ => rfl), fm_none .door _ (fun _ => rfl), fm_some .route _ (fun _ => rfl), fm_none .trip _ (fun _ => rfl), fm_none .haz _ (fun _ => rfl)]; simp
  · rw [fm_none .stop _ (fun _ => rfl), fm_none .path _ (fun _ => rfl), fm_none .door _ (fun _ => rfl), fm_none .route _ (fun _ => rfl), fm_some .trip _ (fun _ => rfl), fm_none .haz _ (fun _ => rfl)]; simp
  · rw [fm_none .stop _ (fun _ => rfl), fm_none .path _ (fun _ => rfl), fm_none .door _ (fun _ => rfl), fm_none .route _ (fun _ => rfl), fm_none .trip _ (fun _ => rfl), fm_some .haz _ (fun _ => rfl)]; simp
theorem fold_items (x : SheetM) : (itemsOf x).foldl addI (startM x.horizon) = x := by
  obtain ⟨h1, h2, h3, h4, h5, h6⟩ := items_fm x
  rw [fold_eq, h1, h2, h3, h4, h5, h6]
  simp [startM]
/-- things that stand kind by kind are a sheet's -/
theorem items_fold {x : SheetM} {l : List Item} (h : List.Sublist l (itemsOf x)) (n : Int) : itemsOf (l.foldl addI (startM n)) = l := by
  unfold itemsOf at h
  obtain ⟨l1, l', rfl, h1, h⟩ := List.sublist_append_iff.1 h
  obtain ⟨l2, l', rfl, h2, h⟩ := List.sublist_append_iff.1 h
  obtain ⟨l3, l', rfl, h3, h⟩ := List.sublist_append_iff.1 h
  obtain ⟨l4, l', rfl, h4, h⟩ := List.sublist_append_iff.1 h
  obtain ⟨l5, l6, rfl, h5, h6⟩ := List.sublist_append_iff.1 h
  obtain ⟨m1, -, rfl⟩ := List.sublist_map_iff.1 h1
  obtain ⟨m2, -, rfl⟩ := List.sublist_map_iff.1 h2
  obtain ⟨m3, -, rfl⟩ := List.sublist_map_iff.1 h3
  obtain ⟨m4, -, rfl⟩ := List.sublist_map_iff.1 h4
  obtain ⟨m5, -, rfl⟩ := List.sublist_map_iff.1 h5
  obtain ⟨m6, -, rfl⟩ := List.sublist_map_iff.1 h6
  have := items_fm ⟨n, m1, m2, m3, m4, m5, m6⟩
  have e := fold_items ⟨n, m1, m2, m3, m4, m5, m6⟩
  show itemsOf ((itemsOf ⟨n, m1, m2, m3, m4, m5, m6⟩).foldl addI (startM n)) = itemsOf ⟨n, m1, m2, m3, m4, m5, m6⟩
  rw [e]
end Go.Proofs.YtcmlmfcnbmpajaaGreatDoor.Sh

