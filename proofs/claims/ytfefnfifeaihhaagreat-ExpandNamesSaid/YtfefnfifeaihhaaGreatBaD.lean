/- The document's own answers on names and ticks, proved by walking their texts. No conditions. · The document's own lists of a sheet's names and numbers, proved by walking their texts. Conditions: at most 60 things of a kind. · The document's own list of a sheet's numbers, proved by walking its text. Conditions: at most 60 things of a kind. -/
import Derived.Test.YtfefnfifeaihhaaGreatBaC
import Derived.Deep.RegionHeldLaw
set_option linter.unusedVariables false
set_option linter.unusedSimpArgs false
namespace Go.Proofs.YtfefnfifeaihhaaGreat.Sh
open Go.ChangeShapes Go.WideShapes Go.ChangeAt Go.RowKit
open Lx
end Go.Proofs.YtfefnfifeaihhaaGreat.Sh
namespace Go.Proofs.YtfefnfifeaihhaaGreat.Sh
open Go.ChangeShapes Go.WideShapes Go.ChangeAt Go.RowKit
open Lx
/-- few things, short routes -/
structure Lt (x : SheetM) : Prop where
  l1 : x.stops.length ≤ 60
  l2 : x.paths.length ≤ 60
  l3 : x.doors.length ≤ 60
  l4 : x.routes.length ≤ 60
  l5 : x.trips.length ≤ 60
  l6 : x.hazards.length ≤ 60
  lr : ∀ r ∈ x.routes, r.stops.length ≤ 60 ∧ r.rides.length ≤ 60 ∧ r.stays.length ≤ 60
theorem litd_at2 (w : World) (n : Nat) (l : Array Value) (t : TypeId) (xs : List Value) (hn : n = w.heap.size) (h : xs.toArray = l) : Rd (w.alloc (.cells l t)).drew (· < (w.alloc (.cells l t)).heap.size) (some ⟨n, 0, none⟩) xs := lit_at w n l t xs hn h
theorem cell_keep {B : Nat} {a b : World} {p : Addr} (h : Below B a b) (hb : p.block < B) : b.cell? p = a.cell? p := World.cell?_of_block (h.block _ hb)
theorem cs_each {α : Type} {f : α → List Value} (hf : ∀ a, ∀ u ∈ f a, u.oneCell' = true) (l : List α) : ∀ u ∈ cs f l, u.oneCell' = true := by
  intro u hu
  obtain ⟨a, -, h⟩ := List.mem_flatMap.1 hu
  exact hf a u h
theorem str_one : ∀ a, ∀ u ∈ strC a, u.oneCell' = true := by intro a u hu; simp [strC] at hu; subst hu; rfl
theorem int_one : ∀ a, ∀ u ∈ intC a, u.oneCell' = true := by intro a u hu; simp [intC] at hu; subst hu; rfl
end Go.Proofs.YtfefnfifeaihhaaGreat.Sh
namespace Go.Proofs.YtfefnfifeaihhaaGreat.Sh
open Go.ChangeShapes Go.WideShapes Go.ChangeAt Go.RowKit
open Lx
end Go.Proofs.YtfefnfifeaihhaaGreat.Sh
