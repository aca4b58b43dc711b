/- The document's own lists of a sheet's names and numbers, proved by walking their texts. Conditions: at most 60 things of a kind. -/
import Derived.Test.YtcmlmfcnbmpajaaDoorSheetItems
import Derived.Deep.RegionHeldLaw
namespace Go.Proofs.YtcmlmfcnbmpajaaDoor.Sh
open Go.ChangeShapes Go.WideShapes Go.ChangeAt Go.RowKit
open Lx
set_option linter.unusedVariables false
set_option linter.unusedSimpArgs false

theorem info_I64 : (Tryd.prog.info? 2).map (fun i => (i.zero, i.size, i.bytes)) = some (some (.int .i64 0), 1, 8) := by kernel_rfl
/-- few things, short routes -/
structure Lt (x : SheetM) : Prop where
  l1 : x.stops.length ≤ 60
  l2 : x.paths.length ≤ 60
  l3 : x.doors.length ≤ 60
  l4 : x.routes.length ≤ 60
  l5 : x.trips.length ≤ 60
  l6 : x.hazards.length ≤ 60
  lr : ∀ r ∈ x.routes, r.stops.length ≤ 60 ∧ r.rides.length ≤ 60 ∧ r.stays.length ≤ 60
def namesL (x : SheetM) : List (List UInt8) := x.stops ++ x.paths.flatMap (fun p : PathM => [p.name, p.a, p.b]) ++ x.doors.flatMap (fun p : DoorM => [p.name, p.a, p.b]) ++ x.routes.flatMap (fun r : RouteM => r.name :: r.stops) ++ x.trips.flatMap (fun p : TripM => [p.name, p.route]) ++ x.hazards.flatMap (fun p : HazM => [p.name, p.at_])
def numsL (x : SheetM) : List Int := [x.horizon] ++ x.paths.flatMap (fun p : PathM => [p.len]) ++ x.doors.flatMap (fun p : DoorM => [p.len, p.times.frm, p.times.every, p.times.len]) ++ x.routes.flatMap (fun r : RouteM => r.rides ++ r.stays) ++ x.trips.flatMap (fun p : TripM => [p.frm, p.every, p.til]) ++ x.hazards.flatMap (fun p : HazM => [p.times.frm, p.times.every, p.times.len])
theorem litd_at2 (w : World) (n : Nat) (l : Array Value) (t : TypeId) (xs : List Value) (hn : n = w.heap.size) (h : xs.toArray = l) : Rd (w.alloc (.cells l t)).drew (· < (w.alloc (.cells l t)).heap.size) (some ⟨n, 0, none⟩) xs := lit_at w n l t xs hn h
theorem own_empty' {base size n : Nat} (w : World) (e : TypeId) (hb : base ≤ w.heap.size) (hn : n = w.heap.size) : (w.alloc (.cells #[] e)).ownsRow base e size (.slice (some ⟨n, 0, none⟩) 0 0) 0 [] := by subst hn; exact own_empty hb
theorem below_two {B : Nat} {a W w4 : World} (h3 : Below B W w4) (h4 : Below B a W) : Below B a w4 := h4.trans h3
theorem below_alive2 {w wr W w4 : World} {t : TypeId} {l : List Value} (h1 : Below w.heap.size w wr) (h2 : Blk wr w.heap.size t l) (h3 : Below (w.heap.size + 1) W w4) (h4 : Below wr.heap.size wr W) : Below w.heap.size w w4 ∧ Blk w4 w.heap.size t l :=
  ⟨h1.trans ((h4.mono (by have := h2.lt; omega)).trans (h3.mono (by omega))), (h2.after h4).below h3 (by omega)⟩
theorem cell_keep {B : Nat} {a b : World} {p : Addr} (h : Below B a b) (hb : p.block < B) : b.cell? p = a.cell? p := World.cell?_of_block (h.block _ hb)
theorem cs_each {α : Type} {f : α → List Value} (hf : ∀ a, ∀ u ∈ f a, u.oneCell' = true) (l : List α) : ∀ u ∈ cs f l, u.oneCell' = true := by
  intro u hu
  obtain ⟨a, -, h⟩ := List.mem_flatMap.1 hu
  exact hf a u h
theorem str_one : ∀ a, ∀ u ∈ strC a, u.oneCell' = true := by intro a u hu; simp [strC] at hu; subst hu; rfl
theorem int_one : ∀ a, ∀ u ∈ intC a, u.oneCell' = true := by intro a u hu; simp [intC] at hu; subst hu; rfl
/-- a row so far -/
def RwRel {α β : Type} (w : World) (bx : List Value) (et : TypeId) (cf : β → List Value) (L0 : List β) (N0 : Nat) (f : α → List β) (l : List α) (n : Nat) (v3 vi : Value) (wr : World) : Prop :=
  ∃ (i N c : Nat) (A : Option Addr), v3 = .slice A N c ∧ vi = .int .i64 i ∧ i ≤ n ∧ N ≤ N0 + 200 * i ∧ Hid (wr.ownsRow (w.heap.size + 1) et 1 (.slice A N c) N (cs cf (L0 ++ (l.take i).flatMap f))) ∧ Hid (Below w.heap.size w wr) ∧ Hid (Blk wr w.heap.size 38 bx)
theorem rw_start {α β : Type} {w wr : World} {bx : List Value} {et : TypeId} {cf : β → List Value} {L0 : List β} {N c : Nat} {A : Option Addr} (N0 : Nat) (f : α → List β) (l : List α) (n : Nat) (hN : N ≤ N0) (h : wr.ownsRow (w.heap.size + 1) et 1 (.slice A N c) N (cs cf L0)) (hb : Below w.heap.size w wr) (hk : Blk wr w.heap.size 38 bx) :
    RwRel w bx et cf L0 N0 f l n (.slice A N c) (.int .i64 0) wr := ⟨0, N, c, A, rfl, rfl, by omega, by omega, by show World.ownsRow _ _ _ _ _ _ _; simpa using h, hb, hk⟩
theorem rw_more {α β : Type} {w w' : World} {bx : List Value} {et : TypeId} {cf : β → List Value} {L0 : List β} {N0 N c i m : Nat} {A : Option Addr} {f : α → List β} {l : List α} {n : Nat} {a : α} (ha : l[i]? = some a) (hi : i + 1 ≤ n) (hm : N + m ≤ N0 + 200 * (i + 1)) {news : List Value} (hs : cs cf (f a) = news)
    (h : w'.ownsRow (w.heap.size + 1) et 1 (.slice A (N + m) c) (N + m) (cs cf (L0 ++ (l.take i).flatMap f) ++ news)) (hb : Below w.heap.size w w') (hk : Blk w' w.heap.size 38 bx) :
    RwRel w bx et cf L0 N0 f l n (.slice A (N + m) c) (.int .i64 ((i : Int) + 1)) w' := by
  refine ⟨i + 1, N + m, c, A, rfl, by simp, hi, hm, ?_, hb, hk⟩
  have e : l.take (i + 1) = l.take i ++ [a] := by rw [List.take_add_one, ha]; rfl
  show World.ownsRow _ _ _ _ _ _ _
  rw [e, List.flatMap_append, ← List.append_assoc, cs_append]
  simp only [List.flatMap_cons, List.flatMap_nil, List.append_nil]
  rw [hs]
  exact h
theorem rw_over {α β : Type} {w wr : World} {et : TypeId} {cf : β → List Value} {L0 : List β} {N c : Nat} {A : Option Addr} {f : α → List β} {l : List α} {n : Nat} (hn : n = l.length) (h : wr.ownsRow (w.heap.size + 1) et 1 (.slice A N c) N (cs cf (L0 ++ (l.take n).flatMap f))) :
    wr.ownsRow (w.heap.size + 1) et 1 (.slice A N c) N (cs cf (L0 ++ l.flatMap f)) := by
  subst hn
  rwa [List.take_length] at h
/-- a row that is answered -/
def RwPost {β : Type} (w : World) (cf : β → List Value) (L : List β) (e : Ending) (w' : World) : Prop :=
  ∃ (A : Option Addr) (c n : Nat), e = .returned (.slice A n c) ∧ n ≤ 100000 ∧ Hid (n = L.length) ∧ Hid (Rd w' (· < w'.heap.size) A (cs cf L)) ∧ Below w.heap.size w w'
end Go.Proofs.YtcmlmfcnbmpajaaDoor.Sh

