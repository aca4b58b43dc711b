/- The law ExpandLater, of any run. No conditions but that the run lies in memory. -/
import Derived.Test.YtfefnfifeaihhaaGreatExU
set_option linter.unusedVariables false
set_option linter.unusedSimpArgs false
set_option maxHeartbeats 40000000
set_option maxRecDepth 100000
namespace Go.Proofs.YtfefnfifeaihhaaGreat.Wo
open Go.ChangeShapes Go.WideShapes Go.ChangeAt Go.RowKit Go.Maps
open Lx Sh
theorem exlater_all (tr no : Int) (A B : Option Addr) (c d : Nat) (la ld : List Int) (f a b : Int) (w : World) (hx : Rd w (· < w.heap.size) A (cs intC la)) (hy : Rd w (· < w.heap.size) B (cs intC ld)) :
    Calls Tryz.prog 6 #[.agg #[.int .i64 tr, .int .i64 no, .slice A la.length c, .slice B ld.length d], .int .i64 f, .int .i64 a, .int .i64 b] w (BPost w true) := by
  by_cases h : 100 < la.length ∨ 100 < ld.length ∨ a < 0 ∨ b < 0 ∨ 1099511627776 < a ∨ 1099511627776 < b
  · exact exlater_early w tr no A B la.length ld.length c d f a b h
  by_cases he : latE la ld f a = 0
  · obtain ⟨hT, k, rfl, hk, -, z, hz, hbz⟩ := lat_yes he
    have e : ld.length = la.length := hT.2.1
    have hX := la_tim hT hk (show 0 ≤ a by omega) hz hbz
    have := exlater_yes w tr no A B la.length c d k la ld a b (HH rfl) (HH e.symm) (by omega) hx hy (by omega) (by omega) (by omega) (by omega) hk (HH hT) (HH hX) he
    rw [← e] at this ⊢
    exact this
  · exact exlater_no w tr no A B la.length ld.length c d la ld f a b (HH rfl) (HH rfl) (by omega) (by omega) hx hy (by omega) (by omega) (by omega) (by omega) he
end Go.Proofs.YtfefnfifeaihhaaGreat.Wo
