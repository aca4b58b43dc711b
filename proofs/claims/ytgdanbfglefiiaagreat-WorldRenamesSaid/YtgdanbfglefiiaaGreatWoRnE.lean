/- WorldRenames' last calls in the words of its walk. Conditions: at most 60 things of a kind. -/
import Derived.Test.YtgdanbfglefiiaaGreatWoGd
import Derived.Test.YtgdanbfglefiiaaGreatWoLives
import Derived.Test.YtgdanbfglefiiaaGreatWoWorld
import Derived.Test.YtgdanbfglefiiaaGreatWoRnD
import Derived.ChangeSlices
import Derived.Deep.Strs
import Derived.Deep.SlicePairs
import Derived.ChangeArms
import Derived.Carry
import Derived.Deep.RegionHeld3
import Derived.Deep.RegionHeldLaw
import Derived.Deep.CutRange
import Derived.StillTailTactics
import Derived.WalkSpells
import Derived.Lib.QuietBelow
import Derived.Deep.QuietTactic
namespace Go.Proofs.YtgdanbfglefiiaaGreat.Wo
open Go.ChangeShapes Go.WideShapes Go.ChangeAt Go.RowKit Go.Maps
open Lx Sh It
set_option linter.unusedVariables false
set_option linter.unusedSimpArgs false
theorem xlt_rz {x : SheetM} (h : XLt x) : XLt (rzX x) := ⟨by simpa [rzX] using h.l1, by simpa [rzX] using h.l2, by simpa [rzX] using h.l3, by simpa [rzX] using h.l4, by simpa [rzX] using h.l5, by simpa [rzX] using h.l6, fun r hr => by
  simp only [rzX, List.mem_map] at hr
  obtain ⟨a, ha, rfl⟩ := hr
  simpa [rzR] using h.lr a ha⟩
def MkR (w : World) (x : SheetM) (e : Ending) (w' : World) : Prop := ∃ (a1 a2 a3 a4 a5 a6 b2 b3 b4 b5 b6 : Option Addr) (c1 c2 c3 c4 c5 c6 d2 d3 d4 d5 d6 : Nat), e = .returned (.tuple #[.agg #[.int .i64 x.horizon, .slice a1 x.stops.length c1, .slice a2 x.paths.length c2, .slice a3 x.doors.length c3, .slice a4 x.routes.length c4, .slice a5 x.trips.length c5, .slice a6 x.hazards.length c6, .slice b2 x.paths.length d2, .slice b3 x.doors.length d3, .slice b4 x.routes.length d4, .slice b5 x.trips.length d5, .slice b6 x.hazards.length d6], .agg #[.int .i64 0, .int .i64 0, .int .i64 0]]) ∧ Hid (Wo w' (· < w'.heap.size) (numX (rzX x)) ⟨⟨a1, a2, a3, a4, a5, a6, c1, c2, c3, c4, c5, c6⟩, b2, b3, b4, b5, b6, d2, d3, d4, d5, d6⟩) ∧ Hid (Below w.heap.size w w')
theorem make_rz {x : SheetM} (hy : wrongX (rzX x) = okW) (hl : XLt x) (p : ShA) (w : World) (h : Sh w (· < w.heap.size) (rzX x) p) : Calls Tryz.prog 10 #[.agg #[.int .i64 x.horizon, .slice p.a1 x.stops.length p.c1, .slice p.a2 x.paths.length p.c2, .slice p.a3 x.doors.length p.c3, .slice p.a4 x.routes.length p.c4, .slice p.a5 x.trips.length p.c5, .slice p.a6 x.hazards.length p.c6]] w (MkR w x) := by
  have g := make_good (congrArg WrM.err hy) p w h (xlt_rz hl)
  simp only [shV, rzX, List.length_map] at g
  refine g.mono fun e w' he => ?_
  obtain ⟨a1, a2, a3, a4, a5, a6, b2, b3, b4, b5, b6, c1, c2, c3, c4, c5, c6, d2, d3, d4, d5, d6, h1, h2, h3⟩ := he
  refine ⟨a1, a2, a3, a4, a5, a6, b2, b3, b4, b5, b6, c1, c2, c3, c4, c5, c6, d2, d3, d4, d5, d6, ?_, Lib.hid (h2.out.more fun b hb => hb.2), h3⟩
  simpa only [List.length_map] using h1
theorem wo_names {w : World} {S : Nat → Prop} {x : SheetM} {p q : WoA} (h : Wo w S (numX x) p) (g : Wo w S (numX (rzX x)) q) : Wo w S (numX x) ⟨p.n, q.b2, q.b3, q.b4, q.b5, q.b6, q.d2, q.d3, q.d4, q.d5, q.d6⟩ := by
  rw [rz_num] at g
  exact ⟨h.r1, g.r2, g.r3, g.r4, g.r5, g.r6⟩
theorem kworld_r {z : WorldM} (p q : WoA) {v1 v2 : Value} (e1 : woF z p = v1) (e2 : woF z q = v2) (hf : WLt z) (w : World) (h : Wo w (· < w.heap.size) z p) (g : Wo w (· < w.heap.size) z q) : Calls Tryz.prog 23 #[v1, v2] w (fun e w' => e = .returned (.bool true) ∧ Below w.heap.size w w') := by
  have c := kworld_any z z p q w h g hf hf
  rw [decide_eq_true rfl, e1, e2] at c
  exact c
def sto6v (w : World) (g : Nat) (u1 u2 u3 u4 u5 u6 : Value) : World := ((((((w.setCell ⟨g, 1, none⟩ u1).setCell ⟨g, 2, none⟩ u2).setCell ⟨g, 3, none⟩ u3).setCell ⟨g, 4, none⟩ u4).setCell ⟨g, 5, none⟩ u5).setCell ⟨g, 6, none⟩ u6)
theorem sto6v_ch (w : World) (g : Nat) (u1 u2 u3 u4 u5 u6 : Value) : Ch (· = g) w (sto6v w g u1 u2 u3 u4 u5 u6) := by
  unfold sto6v
  exact (((((((Ch.refl (· = g) w).setCell (p := ⟨g, 1, none⟩) (.inl rfl) u1).setCell (p := ⟨g, 2, none⟩) (.inl rfl) u2).setCell (p := ⟨g, 3, none⟩) (.inl rfl) u3).setCell (p := ⟨g, 4, none⟩) (.inl rfl) u4).setCell (p := ⟨g, 5, none⟩) (.inl rfl) u5).setCell (p := ⟨g, 6, none⟩) (.inl rfl) u6)
theorem sto6v_blk {w : World} {g : Nat} {t : TypeId} {a0 a1 a2 a3 a4 a5 a6 a7 a8 a9 a10 a11 : Value} (h : Blk w g t [a0, a1, a2, a3, a4, a5, a6, a7, a8, a9, a10, a11]) (u1 u2 u3 u4 u5 u6 : Value) : Blk (sto6v w g u1 u2 u3 u4 u5 u6) g t [a0, u1, u2, u3, u4, u5, u6, a7, a8, a9, a10, a11] := by
  unfold sto6v
  exact ((((((h.set_ 1 u1).set_ 2 u2).set_ 3 u3).set_ 4 u4).set_ 5 u5).set_ 6 u6)
theorem sht_of {x : SheetM} (h : (((((True ∧ ∀ q ∈ x.stops, q.length ≤ 22) ∧ ∀ q ∈ x.paths, q.name.length ≤ 22 ∧ q.a.length ≤ 22 ∧ q.b.length ≤ 22) ∧ ∀ q ∈ x.doors, q.name.length ≤ 22 ∧ q.a.length ≤ 22 ∧ q.b.length ≤ 22) ∧ ∀ q ∈ x.routes, q.name.length ≤ 22 ∧ ∀ s ∈ q.stops, s.length ≤ 22) ∧ ∀ q ∈ x.trips, q.name.length ≤ 22 ∧ q.route.length ≤ 22) ∧ ∀ q ∈ x.hazards, q.name.length ≤ 22 ∧ q.at_.length ≤ 22) : Sht x :=
  ⟨h.1.1.1.1.1.2, h.1.1.1.1.2, h.1.1.1.2, h.1.1.2, h.1.2, h.2⟩
structure StrB (x : SheetM) : Prop where
  s : ∀ q ∈ x.stops, q.length ≤ 140737488355328
  p : ∀ q ∈ x.paths, q.name.length ≤ 140737488355328 ∧ q.a.length ≤ 140737488355328 ∧ q.b.length ≤ 140737488355328
  d : ∀ q ∈ x.doors, q.name.length ≤ 140737488355328 ∧ q.a.length ≤ 140737488355328 ∧ q.b.length ≤ 140737488355328
  r : ∀ q ∈ x.routes, q.name.length ≤ 140737488355328 ∧ ∀ s ∈ q.stops, s.length ≤ 140737488355328
  t : ∀ q ∈ x.trips, q.name.length ≤ 140737488355328 ∧ q.route.length ≤ 140737488355328
  h : ∀ q ∈ x.hazards, q.name.length ≤ 140737488355328 ∧ q.at_.length ≤ 140737488355328
end Go.Proofs.YtgdanbfglefiiaaGreat.Wo
