/- A world that holds together: what Check, Sheet, Find answer of it. Conditions: at most 60 things of a kind. -/
import Derived.Test.YtgdanbfglefiiaaGreatWoChk
import Derived.Test.YtgdanbfglefiiaaGreatWoGd
import Derived.ChangeSlices
import Derived.Deep.Strs
import Derived.Deep.SlicePairs
import Derived.ChangeArms
import Derived.Carry
import Derived.Deep.RegionHeld3
import Derived.Deep.RegionHeldLaw
import Derived.Deep.CutRange
import Derived.StillTailTactics
import Derived.WalkSpells
import Derived.Lib.QuietBelow
import Derived.Deep.QuietTactic
namespace Go.Proofs.YtgdanbfglefiiaaGreat.Wo
open Go.ChangeShapes Go.WideShapes Go.ChangeAt Go.RowKit Go.Maps
open Lx Sh It
set_option linter.unusedVariables false
set_option linter.unusedSimpArgs false
theorem check_good {x : SheetM} (hx : (wrongX x).err = 0) (q : WoA) (w : World) (h : Wo w (· < w.heap.size) (numX x) q) (hl : XLt x) : Calls Tryz.prog 15 #[woX x q] w (fun e w' => e = .returned (.agg #[.int .i64 0, .int .i64 0, .int .i64 0]) ∧ Below w.heap.size w w') := by
  have hc := wcheck_any (numX x) q w h (wlt_num hl)
  have e : woG (numX x) q = woX x q := woF_num x q
  rw [e, (make_back hx).2.1] at hc
  exact hc
def StG (w : World) (x : SheetM) (e : Ending) (w' : World) : Prop := ∃ (A1 A2 A3 A4 A5 A6 : Option Addr) (k1 k2 k3 k4 k5 k6 : Nat), e = .returned (.tuple #[.agg #[.int .i64 x.horizon, .slice A1 x.stops.length k1, .slice A2 x.paths.length k2, .slice A3 x.doors.length k3, .slice A4 x.routes.length k4, .slice A5 x.trips.length k5, .slice A6 x.hazards.length k6], .int .i64 0]) ∧ Hid (Sh w' (fun b => w.heap.size ≤ b ∧ b < w'.heap.size) x ⟨A1, A2, A3, A4, A5, A6, k1, k2, k3, k4, k5, k6⟩) ∧ Hid (Below w.heap.size w w')
theorem sheet_good {x : SheetM} (hx : (wrongX x).err = 0) (q : WoA) (w : World) (h : Wo w (· < w.heap.size) (numX x) q) (hl : XLt x) : Calls Tryz.prog 12 #[woX x q] w (StG w x) := by
  have hc := sheet_any (numX x) q w h (wlt_num hl)
  have e : woG (numX x) q = woX x q := woF_num x q
  rw [e] at hc
  refine hc.mono fun e w' he => ?_
  obtain ⟨⟨A1, A2, A3, A4, A5, A6, k1, k2, k3, k4, k5, k6⟩, h1, h2, h3⟩ := he
  rw [(make_back hx).2.1, (make_back hx).2.2] at h1
  rw [(make_back hx).2.2] at h2
  exact ⟨A1, A2, A3, A4, A5, A6, k1, k2, k3, k4, k5, k6, h1, Lib.hid h2, Lib.hid h3⟩
end Go.Proofs.YtgdanbfglefiiaaGreat.Wo
