/- A sheet that holds together, as the laws go on with it: what Make, Check, Sheet, Find answer of it. Conditions: at most 60 things of a kind. -/
import Derived.Test.YtgdanbfglefiiaaGreatWoMake
import Derived.ChangeSlices
import Derived.Deep.Strs
import Derived.Deep.SlicePairs
import Derived.ChangeArms
import Derived.Carry
import Derived.Deep.RegionHeld3
import Derived.Deep.RegionHeldLaw
import Derived.Deep.CutRange
import Derived.StillTailTactics
import Derived.WalkSpells
import Derived.Lib.QuietBelow
import Derived.Deep.QuietTactic
namespace Go.Proofs.YtgdanbfglefiiaaGreat.Wo
open Go.ChangeShapes Go.WideShapes Go.ChangeAt Go.RowKit Go.Maps
open Lx Sh It
set_option linter.unusedVariables false
set_option linter.unusedSimpArgs false
def woX (x : SheetM) (q : WoA) : Value := .agg #[.int .i64 x.horizon, .slice q.n.a1 x.stops.length q.n.c1, .slice q.n.a2 x.paths.length q.n.c2, .slice q.n.a3 x.doors.length q.n.c3, .slice q.n.a4 x.routes.length q.n.c4, .slice q.n.a5 x.trips.length q.n.c5, .slice q.n.a6 x.hazards.length q.n.c6, .slice q.b2 x.paths.length q.d2, .slice q.b3 x.doors.length q.d3, .slice q.b4 x.routes.length q.d4, .slice q.b5 x.trips.length q.d5, .slice q.b6 x.hazards.length q.d6]
theorem woF_num (x : SheetM) (q : WoA) : woF (numX x) q = woX x q := by simp [woX, numX, namesX]
theorem wlt_num {x : SheetM} (h : XLt x) : WLt (numX x) := by
  have h1 := h.l1
  have h2 := h.l2
  have h3 := h.l3
  have h4 := h.l4
  have h5 := h.l5
  have h6 := h.l6
  refine ⟨by simpa [numX, namesX] using h1, by simpa [numX, namesX] using h2, by simpa [numX, namesX] using h3, by simpa [numX, namesX] using h4, by simpa [numX, namesX] using h5, by simpa [numX, namesX] using h6, by simpa [numX] using h2, by simpa [numX] using h3, by simpa [numX] using h4, by simpa [numX] using h5, by simpa [numX] using h6, fun r hr => ?_⟩
  simp only [numX, List.mem_map] at hr
  obtain ⟨a, ha, rfl⟩ := hr
  have := h.lr a ha
  simpa [nRoute] using this
def MkG (w : World) (x : SheetM) (e : Ending) (w' : World) : Prop := ∃ (a1 a2 a3 a4 a5 a6 b2 b3 b4 b5 b6 : Option Addr) (c1 c2 c3 c4 c5 c6 d2 d3 d4 d5 d6 : Nat), e = .returned (.tuple #[.agg #[.int .i64 x.horizon, .slice a1 x.stops.length c1, .slice a2 x.paths.length c2, .slice a3 x.doors.length c3, .slice a4 x.routes.length c4, .slice a5 x.trips.length c5, .slice a6 x.hazards.length c6, .slice b2 x.paths.length d2, .slice b3 x.doors.length d3, .slice b4 x.routes.length d4, .slice b5 x.trips.length d5, .slice b6 x.hazards.length d6], .agg #[.int .i64 0, .int .i64 0, .int .i64 0]]) ∧ Hid (Wo w' (fun b => w.heap.size ≤ b ∧ b < w'.heap.size) (numX x) ⟨⟨a1, a2, a3, a4, a5, a6, c1, c2, c3, c4, c5, c6⟩, b2, b3, b4, b5, b6, d2, d3, d4, d5, d6⟩) ∧ Hid (Below w.heap.size w w')
theorem make_good {x : SheetM} (hx : (wrongX x).err = 0) (p : ShA) (w : World) (h : Sh w (· < w.heap.size) x p) (hl : XLt x) : Calls Tryz.prog 10 #[shV x p] w (MkG w x) :=
  (make_any x p w h hl).mono fun e w' he => by
    obtain ⟨q, h1, h2, h3⟩ := he
    rw [(make_back hx).1, (wrong_parts hx).2.2.2] at h1
    rw [(make_back hx).1] at h2
    rw [woF_num] at h1
    obtain ⟨⟨a1, a2, a3, a4, a5, a6, c1, c2, c3, c4, c5, c6⟩, b2, b3, b4, b5, b6, d2, d3, d4, d5, d6⟩ := q
    exact ⟨a1, a2, a3, a4, a5, a6, b2, b3, b4, b5, b6, c1, c2, c3, c4, c5, c6, d2, d3, d4, d5, d6, h1, Lib.hid h2, Lib.hid h3⟩
end Go.Proofs.YtgdanbfglefiiaaGreat.Wo
