/- The law WindowNames at every world: the chapter's examples come out as it tells. No conditions. -/
import Derived.RangeFuncBox
import Derived.RangeFuncLeaves
import Derived.Shelf.Abstract
import Derived.OwnWalkIn
import Derived.TacticsInMore
import Derived.LoopNIn
import Derived.LoopIn
import Derived.BigRegionIn
import Derived.RangeFuncNested
import Derived.RangeFuncCalls
import Derived.Shelf.RegionOpen
import Derived.Sort.QuietIn
import Derived.StillTail
import Derived.StillTactics
import Derived.Maps.AppendAt
import Derived.Lib.SliceRun
import Derived.RangeFuncNested
import Derived.Test.YtejmfhmglbggnaaWinRows
import Derived.IntWalk
import Derived.ChangeSlices
import Derived.Deep.SlicePairs
import Derived.Deep.Strs
import Derived.ChangeArms
import Derived.Carry
import Derived.OpenShut
namespace Go.Proofs.Ytejmfhmglbggnaa.Wn
open Go.ChangeShapes Go.WideShapes Go.ChangeAt Go.RowKit Go.Deep
set_option linter.unusedVariables false
set_option linter.unusedSimpArgs false
attribute [local go_sem] Oper.semAt_some

set_option maxHeartbeats 8000000 in
theorem names_all (w : World) : Calls Try.prog 3 #[] w fun e w' => e = .returned (.bool true) ∧ Below w.heap.size w w' := by
  have u1 : un [(3, 9)] [(9, 11)] = [(3, 11)] := by
    rw [un, if_pos (by decide), ms_ge (by decide), ms_nil_l]; decide
  have D1 := Lib.hid (wins_v (t := ⟨0, 1, 2⟩) (h := 9) (zs := []) (x := 2) (by decide) (by decide))
  have D2 := Lib.hid (wins_v (t := ⟨0, 2, 1⟩) (h := 512) (zs := []) (x := 3) (by decide) (by decide))
  have D3 := Lib.hid (wins_v (t := ⟨0, 2, 1⟩) (h := -1) (zs := []) (x := 9) (by decide) (by decide))
  have D4 := Lib.hid (wins_v (t := ⟨3, 2, 2⟩) (h := 7) (zs := [(3, 9)]) (x := 0) (by decide) (by decide))
  have D5 := Lib.hid (wins_v (t := ⟨3, 0, 2⟩) (h := 2) (zs := []) (x := 0) (by decide) (by decide))
  dsimp only at D1 D2 D3 D4 D5
  have U1 := Lib.hid u1
  have G1 : Hid (good [] = true) := Lib.hid (by decide)
  have G2 : Hid (good [(1, 2), (2, 3)] = false) := Lib.hid (by decide)
  have S6 : Hid (smV [(3, 9)] = 6) := Lib.hid (by decide)
  have H8 : Hid (hs [(3, 9)] 8 = true) := Lib.hid (by decide)
  have H9 : Hid (hs [(3, 9)] 9 = false) := Lib.hid (by decide)
  have X9 : Hid (nx [(3, 9)] 9 = 4611686018427387904) := Lib.hid (by decide)
  have P4 : Hid (gp [(3, 9)] 4 0 = 4) := Lib.hid (by decide)
  have HB := Lib.hid (Below.refl w.heap.size w)
  clear u1
  go_enter Try.func3, Try.ntmps3
  go_wp2_with (first
    | (go_at_call 9; with_reducible refine (D1.out _).mono ?_; rintro e w1 ⟨A0, n0, c0, rfl, _, hb⟩; have HB := Lib.hid (below_then HB.out hb HB.out.size))
    | (go_at_call 9; with_reducible refine (D2.out _).mono ?_; rintro e w1 ⟨A0, n0, c0, rfl, _, hb⟩; have HB := Lib.hid (below_then HB.out hb HB.out.size))
    | (go_at_call 9; with_reducible refine (D3.out _).mono ?_; rintro e w1 ⟨A0, n0, c0, rfl, _, hb⟩; have HB := Lib.hid (below_then HB.out hb HB.out.size))
    | (go_at_call 9; with_reducible refine (D4.out _).mono ?_; rintro e w1 ⟨A1, n1, c1, rfl, r1, hb⟩; have R1 := Lib.hid r1; have N1 : Hid (n1 + 1 ≤ 1000000) := Lib.hid (by have := r1.len.out; simp at this; omega); clear r1; have HB := Lib.hid (below_then HB.out hb HB.out.size))
    | (go_at_call 9; with_reducible refine (D5.out _).mono ?_; rintro e w1 ⟨A2, n2, c2, rfl, r2, hb⟩; obtain rfl : n2 = 0 := r2.zero; have R1 := Lib.hid (R1.out.later hb); have HB := Lib.hid (below_then HB.out hb HB.out.size))
    | (go_at_call 10; with_reducible refine (lives_any _).mono ?_; rintro e w1 ⟨rfl, hb⟩; have R1 := Lib.hid (R1.out.later hb); have HB := Lib.hid (below_then HB.out hb HB.out.size))
    | (go_at_call 11; with_reducible refine (same_r (xs := [(3, 9)]) (ys := [(3, 9)]) (R1.out.alloc _) (RowAt.lit1 _ 3 9) rfl).mono ?_; rintro e w1 ⟨rfl, hb⟩; have R1 := Lib.hid ((R1.out.alloc _).later hb); have HB := Lib.hid (below_then (keep_alloc HB.out _) hb (by have := HB.out.size; simp; omega)))
    | (go_at_call 12; with_reducible refine (good_y (RowAt.nil _) G1.out).mono ?_; rintro e w1 ⟨rfl, hb⟩; have R1 := Lib.hid (R1.out.later hb); have HB := Lib.hid (below_then HB.out hb HB.out.size))
    | (go_at_call 12; with_reducible refine (good_n (RowAt.lit2 _ 1 2 2 3) G2.out).mono ?_; rintro e w1 ⟨rfl, hb⟩; have R1 := Lib.hid ((R1.out.alloc _).later hb); have HB := Lib.hid (below_then (keep_alloc HB.out _) hb (by have := HB.out.size; simp; omega)))
    | (go_at_call 13; with_reducible refine (sum_v (y := 6) R1.out S6.out).mono ?_; rintro e w1 ⟨rfl, hb⟩; have R1 := Lib.hid (R1.out.later hb); have HB := Lib.hid (below_then HB.out hb HB.out.size))
    | (go_at_call 14; with_reducible refine (has_v (x := 8) (b := true) R1.out H8.out).mono ?_; rintro e w1 ⟨rfl, hb⟩; have R1 := Lib.hid (R1.out.later hb); have HB := Lib.hid (below_then HB.out hb HB.out.size))
    | (go_at_call 14; with_reducible refine (has_v (x := 9) (b := false) R1.out H9.out).mono ?_; rintro e w1 ⟨rfl, hb⟩; have R1 := Lib.hid (R1.out.later hb); have HB := Lib.hid (below_then HB.out hb HB.out.size))
    | (go_at_call 15; with_reducible refine (next_v (x := 9) (y := 4611686018427387904) R1.out X9.out).mono ?_; rintro e w1 ⟨rfl, hb⟩; have R1 := Lib.hid (R1.out.later hb); have HB := Lib.hid (below_then HB.out hb HB.out.size))
    | (go_at_call 16; with_reducible refine (gap_v (x := 4) (m := 0) (y := 4) R1.out P4.out).mono ?_; rintro e w1 ⟨rfl, hb⟩; have R1 := Lib.hid (R1.out.later hb); have HB := Lib.hid (below_then HB.out hb HB.out.size))
    | (go_at_call 17; with_reducible refine (union_v (R1.out.alloc _) (RowAt.lit1 _ 9 11) N1.out U1.out).mono ?_; rintro e w1 ⟨A3, n3, c3, rfl, r3, hb⟩; have R3 := Lib.hid r3; have HB := Lib.hid (below_then (keep_alloc HB.out _) hb (by have := HB.out.size; simp; omega)))
    | (go_at_call 11; with_reducible refine (same_r (xs := [(3, 11)]) (ys := [(3, 11)]) (R3.out.alloc _) (RowAt.lit1 _ 3 11) rfl).mono ?_; rintro e w1 ⟨rfl, hb⟩; have HB := Lib.hid (below_then (keep_alloc HB.out _) hb (by have := HB.out.size; simp; omega))) | fail)
  go_ret
  exact ⟨rfl, HB.out⟩
end Go.Proofs.Ytejmfhmglbggnaa.Wn
