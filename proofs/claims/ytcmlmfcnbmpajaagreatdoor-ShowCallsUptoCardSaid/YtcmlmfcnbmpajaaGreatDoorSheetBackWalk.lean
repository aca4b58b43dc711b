/- A sheet that may be is read from its lines, and each of its lines alone: walked. Conditions: the library's variables hold what start-up lays. -/
import Derived.Test.YtcmlmfcnbmpajaaGreatDoorSheetLessWalk
import Derived.Deep.RegionHeldLaw
import Derived.Deep.CutRange
namespace Go.Proofs.YtcmlmfcnbmpajaaGreatDoor.Sh
open Go.ChangeShapes Go.WideShapes Go.ChangeAt Go.RowKit
open Lx
set_option linter.unusedVariables false
set_option linter.unusedSimpArgs false
/-- what is read, and where it lies; lo: the blocks that it lies in are lo and more -/
def PQ (R : PR SheetM) (lo hi : Nat) (w : World) (a0 a1 a2 a3 a4 a5 a6 b0 b1 b2 : Value) : Prop := match R with
  | .bad e l c => [a0, a1, a2, a3, a4, a5, a6] = [.int .i64 0, .slice none 0 0, .slice none 0 0, .slice none 0 0, .slice none 0 0, .slice none 0 0, .slice none 0 0] ∧ [b0, b1, b2] = [.int .i64 e, .int .i64 l, .int .i64 c]
  | .ok X _ => ∃ p : ShA, [a0, a1, a2, a3, a4, a5, a6] = shL' X p ∧ [b0, b1, b2] = [.int .i64 0, .int .i64 0, .int .i64 0] ∧ Sh w (fun b => lo ≤ b ∧ b < hi) X p
def PQPost (R : PR SheetM) (w : World) (e : Ending) (w' : World) : Prop := ∃ (uh : Int) (uA1 uA2 uA3 uA4 uA5 uA6 : Option Addr) (un1 un2 un3 un4 un5 un6 uc1 uc2 uc3 uc4 uc5 uc6 : Nat) (ue ul uk : Int), e = .returned (.tuple #[.agg #[.int .i64 uh, .slice uA1 un1 uc1, .slice uA2 un2 uc2, .slice uA3 un3 uc3, .slice uA4 un4 uc4, .slice uA5 un5 uc5, .slice uA6 un6 uc6], .agg #[.int .i64 ue, .int .i64 ul, .int .i64 uk]]) ∧ PQ R w.heap.size w'.heap.size w' (.int .i64 uh) (.slice uA1 un1 uc1) (.slice uA2 un2 uc2) (.slice uA3 un3 uc3) (.slice uA4 un4 uc4) (.slice uA5 un5 uc5) (.slice uA6 un6 uc6) (.int .i64 ue) (.int .i64 ul) (.int .i64 uk) ∧ Below w.heap.size w w'
theorem pq_of {R : PR SheetM} {w : World} {e : Ending} {w' : World} (h : ParsePost w R e w') : PQPost R w e w' := by
  cases R with
  | bad er l c => obtain ⟨rfl, hb⟩ := h; exact ⟨0, none, none, none, none, none, none, 0, 0, 0, 0, 0, 0, 0, 0, 0, 0, 0, 0, er, l, c, rfl, ⟨rfl, rfl⟩, hb⟩
  | ok X r => obtain ⟨p, _, rfl, hs, hb⟩ := h; exact ⟨X.horizon, p.a1, p.a2, p.a3, p.a4, p.a5, p.a6, X.stops.length, X.paths.length, X.doors.length, X.routes.length, X.trips.length, X.hazards.length, p.c1, p.c2, p.c3, p.c4, p.c5, p.c6, 0, 0, 0, rfl, ⟨p, rfl, rfl, hs⟩, hb⟩
theorem PQ.keep {R : PR SheetM} {lo hi : Nat} {w w' : World} {a0 a1 a2 a3 a4 a5 a6 b0 b1 b2 : Value} (h : PQ R lo hi w a0 a1 a2 a3 a4 a5 a6 b0 b1 b2) (hk : ∀ b, lo ≤ b → b < hi → w'.heap[b]? = w.heap[b]?) : PQ R lo hi w' a0 a1 a2 a3 a4 a5 a6 b0 b1 b2 := by
  cases R with
  | bad er l c => exact h
  | ok X r => obtain ⟨p, h1, h2, hs⟩ := h; exact ⟨p, h1, h2, hs.keep fun b hb => hk b hb.1 hb.2⟩
def sto7 (w : World) (s : Nat) (v0 v1 v2 v3 v4 v5 v6 : Value) : World := ((((((w.setCell ⟨s, 0, none⟩ v0).setCell ⟨s, 1, none⟩ v1).setCell ⟨s, 2, none⟩ v2).setCell ⟨s, 3, none⟩ v3).setCell ⟨s, 4, none⟩ v4).setCell ⟨s, 5, none⟩ v5).setCell ⟨s, 6, none⟩ v6
def sto3 (w : World) (s : Nat) (v0 v1 v2 : Value) : World := ((w.setCell ⟨s, 0, none⟩ v0).setCell ⟨s, 1, none⟩ v1).setCell ⟨s, 2, none⟩ v2
section
variable {w : World} {s : Nat} {v0 v1 v2 v3 v4 v5 v6 : Value}
theorem sto7_below {B : Nat} {a : World} (h : Below B a w) (hs : B ≤ s) : Below B a (sto7 w s v0 v1 v2 v3 v4 v5 v6) := below_set (p := ⟨s, 6, none⟩) (below_set (p := ⟨s, 5, none⟩) (below_set (p := ⟨s, 4, none⟩) (below_set (p := ⟨s, 3, none⟩) (below_set (p := ⟨s, 2, none⟩) (below_set (p := ⟨s, 1, none⟩) (below_set (p := ⟨s, 0, none⟩) (h) hs _) hs _) hs _) hs _) hs _) hs _) hs _
theorem sto3_below {B : Nat} {a : World} (h : Below B a w) (hs : B ≤ s) : Below B a (sto3 w s v0 v1 v2) := below_set (p := ⟨s, 2, none⟩) (below_set (p := ⟨s, 1, none⟩) (below_set (p := ⟨s, 0, none⟩) (h) hs _) hs _) hs _
theorem sto7_size : (sto7 w s v0 v1 v2 v3 v4 v5 v6).heap.size = w.heap.size := by simp [sto7]
theorem sto3_size : (sto3 w s v0 v1 v2).heap.size = w.heap.size := by simp [sto3]
theorem sto7_blk {t : TypeId} {l : List Value} (h : Blk w s t l) : Blk (sto7 w s v0 v1 v2 v3 v4 v5 v6) s t (((((((l.set 0 v0).set 1 v1).set 2 v2).set 3 v3).set 4 v4).set 5 v5).set 6 v6) := ((((((h.set_ 0 v0).set_ 1 v1).set_ 2 v2).set_ 3 v3).set_ 4 v4).set_ 5 v5).set_ 6 v6
theorem sto3_blk {t : TypeId} {l : List Value} (h : Blk w s t l) : Blk (sto3 w s v0 v1 v2) s t (((l.set 0 v0).set 1 v1).set 2 v2) := ((h.set_ 0 v0).set_ 1 v1).set_ 2 v2
theorem sto7_far {g : Nat} {t : TypeId} {l : List Value} (h : Blk w g t l) (hg : g ≠ s) : Blk (sto7 w s v0 v1 v2 v3 v4 v5 v6) g t l := ((((((h.far (p := ⟨s, 0, none⟩) hg v0).far (p := ⟨s, 1, none⟩) hg v1).far (p := ⟨s, 2, none⟩) hg v2).far (p := ⟨s, 3, none⟩) hg v3).far (p := ⟨s, 4, none⟩) hg v4).far (p := ⟨s, 5, none⟩) hg v5).far (p := ⟨s, 6, none⟩) hg v6
theorem sto3_far {g : Nat} {t : TypeId} {l : List Value} (h : Blk w g t l) (hg : g ≠ s) : Blk (sto3 w s v0 v1 v2) g t l := ((h.far (p := ⟨s, 0, none⟩) hg v0).far (p := ⟨s, 1, none⟩) hg v1).far (p := ⟨s, 2, none⟩) hg v2
theorem sto7_keep {k : Nat} (h : k ≠ s) : (sto7 w s v0 v1 v2 v3 v4 v5 v6).heap[k]? = w.heap[k]? := by
  unfold sto7
  rw [Below.heap_setCell _ _ _ _ (by exact h), Below.heap_setCell _ _ _ _ (by exact h), Below.heap_setCell _ _ _ _ (by exact h), Below.heap_setCell _ _ _ _ (by exact h), Below.heap_setCell _ _ _ _ (by exact h), Below.heap_setCell _ _ _ _ (by exact h), Below.heap_setCell _ _ _ _ (by exact h)]
theorem sto3_keep {k : Nat} (h : k ≠ s) : (sto3 w s v0 v1 v2).heap[k]? = w.heap[k]? := by
  unfold sto3
  rw [Below.heap_setCell _ _ _ _ (by exact h), Below.heap_setCell _ _ _ _ (by exact h), Below.heap_setCell _ _ _ _ (by exact h)]
end
end Go.Proofs.YtcmlmfcnbmpajaaGreatDoor.Sh

