/- Package world's byKind and enter: all names put into the table, kind by kind; proved by walking their texts. Conditions: at most 400 names of a kind; names may be. -/
import Derived.Test.YtfefnfifeaihhaaGreatBaI
import Derived.Test.YtfefnfifeaihhaaGreatWoNames
set_option linter.unusedVariables false
set_option linter.unusedSimpArgs false
set_option maxHeartbeats 1000000
set_option maxRecDepth 100000
namespace Go.Proofs.YtfefnfifeaihhaaGreat.Wo
open Go.ChangeShapes Go.WideShapes Go.ChangeAt Go.RowKit Go.Maps
open Lx Sh It
/-- the names of each kind, at the kind's number, as they lie -/
def kA (n : NamesM) (p : NaA) : Array Value := #[.slice none 0 0, .slice p.a1 n.stops.length p.c1, .slice p.a2 n.paths.length p.c2, .slice p.a3 n.doors.length p.c3, .slice p.a4 n.routes.length p.c4, .slice p.a5 n.trips.length p.c5, .slice p.a6 n.hazards.length p.c6]
theorem kA_size (n : NamesM) (p : NaA) : (kA n p).size = 7 := rfl
theorem kA_at {n : NamesM} {p : NaA} {k : Nat} {l : List Nm} (h : n.kinds[k]? = some l) : ∃ A c, (kA n p)[k]? = some (.slice A l.length c) ∧ ∀ w S, Na w S n p → Rd w S A (cs strC l) := by
  have hk : k < 7 := by have := (List.getElem?_eq_some_iff.1 h).1; simpa [NamesM.kinds] using this
  have hr : k = 0 ∨ k = 1 ∨ k = 2 ∨ k = 3 ∨ k = 4 ∨ k = 5 ∨ k = 6 := by omega
  rcases hr with rfl | rfl | rfl | rfl | rfl | rfl | rfl <;> simp [NamesM.kinds] at h <;> subst h
  · exact ⟨none, 0, rfl, fun w S _ hh => by simp [cs] at hh⟩
  · exact ⟨_, _, rfl, fun w S h => h.r1⟩
  · exact ⟨_, _, rfl, fun w S h => h.r2⟩
  · exact ⟨_, _, rfl, fun w S h => h.r3⟩
  · exact ⟨_, _, rfl, fun w S h => h.r4⟩
  · exact ⟨_, _, rfl, fun w S h => h.r5⟩
  · exact ⟨_, _, rfl, fun w S h => h.r6⟩
theorem bk_read {W : World} {n0 : Nat} {a0 a1 a2 a3 a4 a5 a6 : Value} {tmps : Array Value} (h2 : tmps[2]? = some (.pointer (some ⟨n0, 0, none⟩))) (k0 : Blk W n0 209 [a0, a1, a2, a3, a4, a5, a6]) :
    (results Tryz.f152 tmps).run Tryz.prog W = .ok (.agg #[a0, a1, a2, a3, a4, a5, a6]) W := by
  have x0 : W.cell? ⟨n0, 0, none⟩ = some a0 := k0.cell 0
  have x1 : W.cell? ⟨n0, 1, none⟩ = some a1 := k0.cell 1
  have x2 : W.cell? ⟨n0, 2, none⟩ = some a2 := k0.cell 2
  have x3 : W.cell? ⟨n0, 3, none⟩ = some a3 := k0.cell 3
  have x4 : W.cell? ⟨n0, 4, none⟩ = some a4 := k0.cell 4
  have x5 : W.cell? ⟨n0, 5, none⟩ = some a5 := k0.cell 5
  have x6 : W.cell? ⟨n0, 6, none⟩ = some a6 := k0.cell 6
  simp [results, Tryz.results152, go_sem, h2, x0, x1, x2, x3, x4, x5, x6]
theorem byKind_any (n : NamesM) (p : NaA) (w : World) : Calls Tryz.prog 152 #[naV n p] w (fun e w' => e = .returned (.agg (kA n p)) ∧ Below w.heap.size w w') := by
  unfold kA
  dsimp only [naV]
  go_enter Tryz.func152, Tryz.ntmps152
  go_wp2
  refine bodyPost_ret (bk_read rfl (Blk.new2 w _ _ _)) rfl ?_
  exact ⟨rfl, two_box _ _ _⟩
end Go.Proofs.YtfefnfifeaihhaaGreat.Wo
