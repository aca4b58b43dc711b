/- Package sheet's put, at each kind of things: the line's end is taken, the thing laid behind the others, or there is too much. Conditions: the row is the call's own. · The sheet that is read so far, as it lies; what a line leaves. · A sheet as it lies in memory. · Package sheet's reader: each kind of line, proved by walking its text. Conditions: a token is to come. -/
import Derived.Test.YtcmlmfcnbmpajaaGreatDoorSheetOne
import Derived.RegionDies
namespace Go.Proofs.YtcmlmfcnbmpajaaGreatDoor.Sh
open Go.ChangeShapes Go.WideShapes Go.ChangeAt Go.RowKit
open Lx
set_option linter.unusedVariables false

theorem info_Str : (Tryz.prog.info? 9).map (fun i => (i.zero, i.size, i.bytes)) = some (some (.string ⟨#[]⟩), 1, 16) := by kernel_rfl
theorem info_Path : (Tryz.prog.info? 31).map (fun i => (i.zero, i.size, i.bytes)) = some (some (.agg #[.string ⟨#[]⟩, .string ⟨#[]⟩, .string ⟨#[]⟩, .int .i64 0]), 4, 56) := by kernel_rfl
theorem info_Door : (Tryz.prog.info? 35).map (fun i => (i.zero, i.size, i.bytes)) = some (some (.agg #[.string ⟨#[]⟩, .string ⟨#[]⟩, .string ⟨#[]⟩, .int .i64 0, .int .i64 0, .int .i64 0, .int .i64 0]), 7, 80) := by kernel_rfl
theorem info_Route : (Tryz.prog.info? 38).map (fun i => (i.zero, i.size, i.bytes)) = some (some (.agg #[.string ⟨#[]⟩, .slice none 0 0, .slice none 0 0, .slice none 0 0]), 4, 88) := by kernel_rfl
theorem info_Trip : (Tryz.prog.info? 40).map (fun i => (i.zero, i.size, i.bytes)) = some (some (.agg #[.string ⟨#[]⟩, .string ⟨#[]⟩, .int .i64 0, .int .i64 0, .int .i64 0]), 5, 56) := by kernel_rfl
theorem info_Haz : (Tryz.prog.info? 42).map (fun i => (i.zero, i.size, i.bytes)) = some (some (.agg #[.string ⟨#[]⟩, .string ⟨#[]⟩, .int .i64 0, .int .i64 0, .int .i64 0]), 5, 56) := by kernel_rfl
end Go.Proofs.YtcmlmfcnbmpajaaGreatDoor.Sh
namespace Go.Proofs.YtcmlmfcnbmpajaaGreatDoor.Sh
open Go.ChangeShapes Go.WideShapes Go.ChangeAt Go.RowKit
open Lx
set_option linter.unusedVariables false

/-- the cells of routes, whose own rows lie in blocks of S -/
def Rts (w : World) (S : Nat → Prop) : List RouteM → List Value → Prop
  | [], c => c = []
  | r :: l, c => ∃ (sa : Option Addr) (sc : Nat) (ra : Option Addr) (rc : Nat) (ya : Option Addr) (yc : Nat) (rest : List Value),
      c = .string ⟨r.name.toArray⟩ :: .slice sa r.stops.length sc :: .slice ra r.rides.length rc :: .slice ya r.stays.length yc :: rest ∧
      Rd w S sa (cs strC r.stops) ∧ Rd w S ra (cs intC r.rides) ∧ Rd w S ya (cs intC r.stays) ∧ Rts w S l rest
theorem Rts.keep {w w' : World} {S : Nat → Prop} (hk : ∀ b, S b → w'.heap[b]? = w.heap[b]?) : ∀ {l : List RouteM} {c : List Value}, Rts w S l c → Rts w' S l c
  | [], _, h => h
  | _ :: _, _, ⟨sa, sc, ra, rc, ya, yc, rest, e, h1, h2, h3, h4⟩ => ⟨sa, sc, ra, rc, ya, yc, rest, e, h1.keep hk, h2.keep hk, h3.keep hk, Rts.keep hk h4⟩
theorem Rts.more {w : World} {S S' : Nat → Prop} (hs : ∀ b, S b → S' b) : ∀ {l : List RouteM} {c : List Value}, Rts w S l c → Rts w S' l c
  | [], _, h => h
  | _ :: _, _, ⟨sa, sc, ra, rc, ya, yc, rest, e, h1, h2, h3, h4⟩ => ⟨sa, sc, ra, rc, ya, yc, rest, e, h1.more hs, h2.more hs, h3.more hs, Rts.more hs h4⟩
theorem Rts.length {w : World} {S : Nat → Prop} : ∀ {l : List RouteM} {c : List Value}, Rts w S l c → c.length = l.length * 4
  | [], _, h => by rw [show _ = _ from h]; rfl
  | _ :: _, _, ⟨_, _, _, _, _, _, _, e, _, _, _, h4⟩ => by rw [e]; simp [Rts.length h4]; omega
theorem Rts.snoc {w : World} {S : Nat → Prop} {r : RouteM} {d : List Value} (hr : Rts w S [r] d) : ∀ {l : List RouteM} {c : List Value}, Rts w S l c → Rts w S (l ++ [r]) (c ++ d)
  | [], _, h => by rw [show _ = _ from h]; exact hr
  | _ :: _, _, ⟨sa, sc, ra, rc, ya, yc, rest, e, h1, h2, h3, h4⟩ => ⟨sa, sc, ra, rc, ya, yc, rest ++ d, by rw [e]; rfl, h1, h2, h3, Rts.snoc hr h4⟩

/-- beyond the reader, and in none of the rows that are appended to -/
def Away (w : World) (B : Nat) (vs : List Value) (b : Nat) : Prop := B < b ∧ b < w.heap.size ∧ ∀ v ∈ vs, v.ownBlock ≠ some b
theorem Away.on {w w' : World} {B : Nat} {vs vs' : List Value} {b : Nat} (h : Away w B vs b) (hs : w.heap.size ≤ w'.heap.size) (hv : ∀ v' ∈ vs', v' ∈ vs ∨ ∃ v ∈ vs, v'.ownBlock = v.ownBlock ∨ ∃ k, v'.ownBlock = some k ∧ w.heap.size ≤ k) : Away w' B vs' b := by
  refine ⟨h.1, Nat.lt_of_lt_of_le h.2.1 hs, fun v' hv' => ?_⟩
  rcases hv v' hv' with hm | ⟨v, hm, e | ⟨k, e, hk⟩⟩
  · exact h.2.2 v' hm
  · rw [e]; exact h.2.2 v hm
  · rw [e]; intro e2; injection e2 with e2; have := h.2.1; omega
/-- the reader's rows: six of the call's own, all beyond the reader; those of routes are none that is appended to -/
structure ShRows (w : World) (B : Nat) (x : SheetM) (v1 v2 v3 v4 v5 v6 : Value) : Prop where
  r1 : w.ownsRow (B + 1) 9 1 v1 x.stops.length (cs strC x.stops)
  r2 : w.ownsRow (B + 1) 31 4 v2 x.paths.length (cs paC x.paths)
  r3 : w.ownsRow (B + 1) 35 7 v3 x.doors.length (cs doC x.doors)
  r4 : ∃ c, w.ownsRow (B + 1) 38 4 v4 x.routes.length c ∧ Rts w (Away w B [v1, v2, v3, v4, v5, v6]) x.routes c
  r5 : w.ownsRow (B + 1) 40 5 v5 x.trips.length (cs trC x.trips)
  r6 : w.ownsRow (B + 1) 42 5 v6 x.hazards.length (cs haC x.hazards)
  n1 : x.stops.length ≤ 256
  n2 : x.paths.length ≤ 1024
  n3 : x.doors.length ≤ 256
  n4 : x.routes.length ≤ 256
  n5 : x.trips.length ≤ 1024
  n6 : x.hazards.length ≤ 256
abbrev shq (x : SheetM) (v1 v2 v3 v4 v5 v6 : Value) : List Value := [.int .i64 x.horizon, v1, v2, v3, v4, v5, v6]
/-- blocks below B are as they were, and so are maps -/
structure Up (B : Nat) (w w' : World) : Prop where
  below : Below B w w'
  maps : ∀ (k : Nat) (es : Array MapEntry) (c : Nat), w.heap[k]? = some (Obj.map es c) → w'.heap[k]? = some (Obj.map es c)
theorem Up.trans {B : Nat} {w w' w'' : World} (h : Up B w w') (k : Up B w' w'') : Up B w w'' := ⟨h.below.trans k.below, fun i es c e => k.maps i es c (h.maps i es c e)⟩
theorem up_of {B : Nat} {w w' : World} {X : Nat → Prop} (h : Ch X w w') (hB : B ≤ w.heap.size) (hx : ∀ k, X k → B ≤ k ∧ ∀ (es : Array MapEntry) (c : Nat), w.heap[k]? ≠ some (Obj.map es c)) : Up B w w' :=
  ⟨h.below hB fun k hk => (hx k hk).1, fun k es c e => (h.block k (Array.getElem?_eq_some_iff.1 e).1 (fun hX => (hx k hX).2 es c e)).trans e⟩
theorem up_below {B : Nat} {w w' w'' : World} (h : Up B w w') (hB : B ≤ w'.heap.size) (hb : Below w'.heap.size w' w'') : Up B w w'' :=
  ⟨h.below.trans (hb.mono hB), fun k es c e => (hb.block k (Array.getElem?_eq_some_iff.1 (h.maps k es c e)).1).trans (h.maps k es c e)⟩
theorem not_map {w : World} {g t : Nat} {l : List Value} (h : Blk w g t l) : ∀ (es : Array MapEntry) (c : Nat), w.heap[g]? ≠ some (Obj.map es c) := fun es c e => by unfold Blk at h; rw [h] at e; cases e
theorem own_not_map {w : World} {b e s n : Nat} {v : Value} {xs : List Value} (h : w.ownsRow b e s v n xs) : ∀ k, v.ownBlock = some k → ∀ (es : Array MapEntry) (c : Nat), w.heap[k]? ≠ some (Obj.map es c) := by
  intro k hk es c e'
  rcases h.2 with ⟨rfl, _⟩ | ⟨g, cap, cur, rfl, _, hg, _⟩
  · cases hk
  · simp [Value.ownBlock] at hk; subst hk; rw [hg] at e'; cases e'
/-- rows that are not touched -/
theorem ShRows.ch {w w' : World} {B : Nat} {x : SheetM} {v1 v2 v3 v4 v5 v6 : Value} (h : ShRows w B x v1 v2 v3 v4 v5 v6) {X : Nat → Prop} (hc : Ch X w w') (hx : ∀ k, B < k → ¬ X k) : ShRows w' B x v1 v2 v3 v4 v5 v6 := by
  have f : ∀ {e size n : Nat} {v : Value} {xs : List Value}, w.ownsRow (B + 1) e size v n xs → w'.ownsRow (B + 1) e size v n xs := fun ho => hc.own ho fun k hk => hx k (ho.lt k hk).1
  obtain ⟨c, h4, h4'⟩ := h.r4
  exact ⟨f h.r1, f h.r2, f h.r3, ⟨c, f h4, (h4'.keep fun b hb => hc.block b hb.2.1 (hx b hb.1)).more fun b hb => hb.on hc.size fun _ h => .inl h⟩, f h.r5, f h.r6, h.n1, h.n2, h.n3, h.n4, h.n5, h.n6⟩
theorem end_room {n most : Nat} {first : Tok} {ts r : List Tok} {u : Unit} (h : endM n most first ts = .ok u r) : n < most := by
  obtain ⟨t, r', h1, h2⟩ := bind_eq_ok h
  split at h2
  · cases h2
  · omega

end Go.Proofs.YtcmlmfcnbmpajaaGreatDoor.Sh
namespace Go.Proofs.YtcmlmfcnbmpajaaGreatDoor.Sh
open Go.ChangeShapes Go.WideShapes Go.ChangeAt Go.RowKit
open Lx
set_option linter.unusedVariables false

/-- where a sheet's rows lie, and what room they have -/
structure ShA where
  a1 : Option Addr
  a2 : Option Addr
  a3 : Option Addr
  a4 : Option Addr
  a5 : Option Addr
  a6 : Option Addr
  c1 : Nat
  c2 : Nat
  c3 : Nat
  c4 : Nat
  c5 : Nat
  c6 : Nat
abbrev shV (x : SheetM) (p : ShA) : Value := .agg #[.int .i64 x.horizon, .slice p.a1 x.stops.length p.c1, .slice p.a2 x.paths.length p.c2, .slice p.a3 x.doors.length p.c3, .slice p.a4 x.routes.length p.c4, .slice p.a5 x.trips.length p.c5, .slice p.a6 x.hazards.length p.c6]
/-- the sheet x lies at p, in blocks of S -/
structure Sh (w : World) (S : Nat → Prop) (x : SheetM) (p : ShA) : Prop where
  r1 : Rd w S p.a1 (cs strC x.stops)
  r2 : Rd w S p.a2 (cs paC x.paths)
  r3 : Rd w S p.a3 (cs doC x.doors)
  r4 : ∃ c, Rd w S p.a4 c ∧ Rts w S x.routes c
  r5 : Rd w S p.a5 (cs trC x.trips)
  r6 : Rd w S p.a6 (cs haC x.hazards)
theorem Sh.keep {w w' : World} {S : Nat → Prop} {x : SheetM} {p : ShA} (h : Sh w S x p) (hk : ∀ b, S b → w'.heap[b]? = w.heap[b]?) : Sh w' S x p := by
  obtain ⟨c, h4, h4'⟩ := h.r4
  exact ⟨h.r1.keep hk, h.r2.keep hk, h.r3.keep hk, ⟨c, h4.keep hk, h4'.keep hk⟩, h.r5.keep hk, h.r6.keep hk⟩
theorem Sh.more {w : World} {S S' : Nat → Prop} {x : SheetM} {p : ShA} (h : Sh w S x p) (hs : ∀ b, S b → S' b) : Sh w S' x p := by
  obtain ⟨c, h4, h4'⟩ := h.r4
  exact ⟨h.r1.more hs, h.r2.more hs, h.r3.more hs, ⟨c, h4.more hs, h4'.more hs⟩, h.r5.more hs, h.r6.more hs⟩
theorem Sh.later {w w' : World} {x : SheetM} {p : ShA} (h : Sh w (· < w.heap.size) x p) (hb : Below w.heap.size w w') : Sh w' (· < w'.heap.size) x p :=
  (h.keep fun b hl => hb.block b hl).more fun b h1 => by have := hb.size; omega
theorem Sh.below {w w' : World} {B : Nat} {x : SheetM} {p : ShA} (h : Sh w (· < B) x p) (hb : Below B w w') : Sh w' (· < B) x p := h.keep fun b hl => hb.block b hl
theorem own_rd' {w : World} {b e s n k c : Nat} {A : Option Addr} {xs : List Value} (h : w.ownsRow b e s (.slice A n c) k xs) : Rd w (fun i => b ≤ i ∧ i < w.heap.size) A xs := by
  obtain ⟨A', c', e', -, hr⟩ := own_form h
  injection e' with e1 e2 e3; subst e1; exact hr
/-- there is room for what is there -/
def ShCap (x : SheetM) (p : ShA) : Prop := x.stops.length ≤ p.c1 ∧ x.paths.length ≤ p.c2 ∧ x.doors.length ≤ p.c3 ∧ x.routes.length ≤ p.c4 ∧ x.trips.length ≤ p.c5 ∧ x.hazards.length ≤ p.c6
/-- what the reader has read -/
theorem ShRows.sh {w : World} {B : Nat} {x : SheetM} {v1 v2 v3 v4 v5 v6 : Value} (h : ShRows w B x v1 v2 v3 v4 v5 v6) :
    ∃ p : ShA, v1 = .slice p.a1 x.stops.length p.c1 ∧ v2 = .slice p.a2 x.paths.length p.c2 ∧ v3 = .slice p.a3 x.doors.length p.c3 ∧ v4 = .slice p.a4 x.routes.length p.c4 ∧ v5 = .slice p.a5 x.trips.length p.c5 ∧ v6 = .slice p.a6 x.hazards.length p.c6 ∧ Sh w (fun b => B < b ∧ b < w.heap.size) x p ∧ ShCap x p := by
  obtain ⟨c, h4, h4'⟩ := h.r4
  obtain ⟨a1, c1, rfl, k1, g1⟩ := own_form h.r1
  obtain ⟨a2, c2, rfl, k2, g2⟩ := own_form h.r2
  obtain ⟨a3, c3, rfl, k3, g3⟩ := own_form h.r3
  obtain ⟨a4, c4, rfl, k4, g4⟩ := own_form h4
  obtain ⟨a5, c5, rfl, k5, g5⟩ := own_form h.r5
  obtain ⟨a6, c6, rfl, k6, g6⟩ := own_form h.r6
  refine ⟨⟨a1, a2, a3, a4, a5, a6, c1, c2, c3, c4, c5, c6⟩, rfl, rfl, rfl, rfl, rfl, rfl, ⟨g1, g2, g3, ⟨c, g4, h4'.more fun b hb => ⟨hb.1, hb.2.1⟩⟩, g5, g6⟩, k1, k2, k3, k4, k5, k6⟩
/-- what is parsed -/
def zSh : Value := .agg #[.int .i64 0, .slice none 0 0, .slice none 0 0, .slice none 0 0, .slice none 0 0, .slice none 0 0, .slice none 0 0]
def ParsePost (w : World) : PR SheetM → Ending → World → Prop
  | .ok x _, e, w' => ∃ p : ShA, ShCap x p ∧ e = .returned (.tuple #[shV x p, .agg #[.int .i64 0, .int .i64 0, .int .i64 0]]) ∧ Sh w' (fun b => w.heap.size ≤ b ∧ b < w'.heap.size) x p ∧ Below w.heap.size w w'
  | .bad er l c, e, w' => e = .returned (.tuple #[.agg #[.int .i64 0, .slice none 0 0, .slice none 0 0, .slice none 0 0, .slice none 0 0, .slice none 0 0, .slice none 0 0], .agg #[.int .i64 er, .int .i64 l, .int .i64 c]]) ∧ Below w.heap.size w w'
end Go.Proofs.YtcmlmfcnbmpajaaGreatDoor.Sh
namespace Go.Proofs.YtcmlmfcnbmpajaaGreatDoor.Sh
open Go.ChangeShapes Go.WideShapes Go.ChangeAt Go.RowKit
open Lx
set_option linter.unusedVariables false

end Go.Proofs.YtcmlmfcnbmpajaaGreatDoor.Sh

