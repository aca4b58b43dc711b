/- A world that holds together: what Find answers of it. Conditions: at most 60 things of a kind. -/
import Derived.Test.YtgdanbfglefiiaaGreatWoFind
import Derived.Test.YtgdanbfglefiiaaGreatWoGd
import Derived.ChangeSlices
import Derived.Deep.Strs
import Derived.Deep.SlicePairs
import Derived.ChangeArms
import Derived.Carry
import Derived.Deep.RegionHeld3
import Derived.Deep.RegionHeldLaw
import Derived.Deep.CutRange
import Derived.StillTailTactics
import Derived.WalkSpells
import Derived.Lib.QuietBelow
import Derived.Deep.QuietTactic
namespace Go.Proofs.YtgdanbfglefiiaaGreat.Wo
open Go.ChangeShapes Go.WideShapes Go.ChangeAt Go.RowKit Go.Maps
open Lx Sh It
set_option linter.unusedVariables false
set_option linter.unusedSimpArgs false
theorem nlt_num {x : SheetM} (h : XLt x) : NLt (numX x).names := fun l hl => by
  have h0 := wlt_num h
  simp only [NamesM.kinds, List.mem_cons, List.not_mem_nil, or_false] at hl
  rcases hl with rfl | rfl | rfl | rfl | rfl | rfl | rfl
  · simp
  · have := h0.n1; omega
  · have := h0.n2; omega
  · have := h0.n3; omega
  · have := h0.n4; omega
  · have := h0.n5; omega
  · have := h0.n6; omega
theorem find_good {x : SheetM} (a : Nm) (k i : Int) (hk : findW (namesX x) a = (k, i)) (q : WoA) (w : World) (h : Wo w (· < w.heap.size) (numX x) q) (hl : XLt x) : Calls Tryz.prog 13 #[woX x q, .string ⟨a.toArray⟩] w (fun e w' => e = .returned (.tuple #[.int .i64 k, .int .i64 i]) ∧ Below w.heap.size w w') := by
  have hc := find_any (numX x) q a w h.r1 (nlt_num hl)
  have e : findW (numX x).names a = (k, i) := hk
  rw [woF_num, e] at hc
  exact hc
end Go.Proofs.YtgdanbfglefiiaaGreat.Wo
