/- The law WindowCalls at every world: windows are told, joined and asked as the document says. Conditions: numbers are int64. -/
import Derived.RangeFuncBox
import Derived.RangeFuncLeaves
import Derived.Shelf.Abstract
import Derived.OwnWalkIn
import Derived.TacticsInMore
import Derived.LoopNIn
import Derived.LoopIn
import Derived.BigRegionIn
import Derived.RangeFuncNested
import Derived.RangeFuncCalls
import Derived.Shelf.RegionOpen
import Derived.Sort.QuietIn
import Derived.StillTail
import Derived.StillTactics
import Derived.Maps.AppendAt
import Derived.Lib.SliceRun
import Derived.RangeFuncNested
import Derived.Test.YtejmfhmglbggnaaWinRows
import Derived.IntWalk
import Derived.ChangeSlices
import Derived.Deep.SlicePairs
import Derived.Deep.Strs
import Derived.ChangeArms
import Derived.Carry
import Derived.OpenShut
import Derived.Lib.QuietBelow
import Derived.Deep.QuietTactic
import Derived.Test.YtejmfhmglbggnaaWinRefWins
import Derived.Test.YtejmfhmglbggnaaWinRefUnion
import Derived.Test.YtejmfhmglbggnaaWinNext
import Derived.Test.YtejmfhmglbggnaaWinSum
namespace Go.Proofs.Ytejmfhmglbggnaa.Wn
open Go.ChangeShapes Go.WideShapes Go.ChangeAt Go.RowKit Go.Deep Go.Sort
set_option linter.unusedVariables false
set_option linter.unusedSimpArgs false
attribute [local go_sem] Oper.semAt_some

section
variable {W : World} {A B : Option Addr} {n m c d : Nat} {xs ys zs : List Win}
theorem below_und {w w' : World} (h : Below w.drew.heap.size w.drew w') : Below w.heap.size w w' := ⟨h.os, h.tape, h.output, h.size, h.block⟩
theorem below_undN {w w' : World} {k : Nat} (h : Below (w.drewN k).heap.size (w.drewN k) w') : Below w.heap.size w w' := ⟨h.os, h.tape, h.output, h.size, h.block⟩
theorem rgood_r (h : RowAt W A n c zs) : Calls Try.prog 21 #[.slice A n c] W fun e w' => e = .returned (.bool (good zs)) ∧ Below W.heap.size W w' := refgood_any W A n c zs h.len h.small h.rd
theorem rsum_r (h : RowAt W A n c zs) : Calls Try.prog 24 #[.slice A n c] W fun e w' => e = .returned (.int .i64 (smV zs)) ∧ Below W.heap.size W w' := refsum_any W A n c zs h.len h.small h.rd
theorem rhas_r (h : RowAt W A n c zs) (x : Int) : Calls Try.prog 25 #[.slice A n c, .int .i64 x] W fun e w' => e = .returned (.bool (hs zs x)) ∧ Below W.heap.size W w' := refhas_any W A n c zs x h.len h.small h.rd
theorem rnext_r (h : RowAt W A n c zs) (x : Int) : Calls Try.prog 26 #[.slice A n c, .int .i64 x] W fun e w' => e = .returned (.int .i64 (nx zs x)) ∧ Below W.heap.size W w' := refnext_any W A n c zs x h.len h.small h.rd
theorem rfree_r (h : RowAt W A n c zs) (x : Int) : Calls Try.prog 28 #[.slice A n c, .int .i64 x] W fun e w' => e = .returned (.int .i64 (gp zs x 1)) ∧ Below W.heap.size W w' := reffree_any W A n c zs x h.len h.small h.rd
theorem free_r (h : RowAt W A n c zs) (x : Int) : Calls Try.prog 27 #[.slice A n c, .int .i64 x] W fun e w' => e = .returned (.int .i64 (gp zs x 1)) ∧ Below W.heap.size W w' := free_v h rfl
theorem rgap_r (h : RowAt W A n c zs) (x k : Int) : Calls Try.prog 29 #[.slice A n c, .int .i64 x, .int .i64 k] W fun e w' => e = .returned (.int .i64 (gp zs x k)) ∧ Below W.heap.size W w' := refgap_any W A n c zs x k h.len h.small h.rd
theorem runion_w (hA : RowAt W A n c xs) (hB : RowAt W B m d ys) (hN : Hid (xs.length + ys.length ≤ 1000000)) : Calls Try.prog 23 #[.slice A n c, .slice B m d] W (fun e w' => ∃ A n c, e = .returned (.slice A n c) ∧ RowAt w' A n c (un xs ys) ∧ Below W.heap.size W w') :=
  (refunion_any W A B n m c d xs ys hA.len hB.len (by rw [hA.len.out, hB.len.out]; exact hN.out) hA.rd hB.rd).mono fun e w' h => h.tells (Nat.le_trans (un_length xs ys) hN.out)
theorem union_x (hA : RowAt W A n c xs) (hB : RowAt W B m d ys) (hN : Hid (xs.length + ys.length ≤ 1000000)) : Calls Try.prog 17 #[.slice A n c, .slice B m d] W (fun e w' => ∃ A n c, e = .returned (.slice A n c) ∧ RowAt w' A n c (un xs ys) ∧ Below W.heap.size W w') := union_w hA hB hN (Lib.hid rfl)
theorem wins_x (t : Tm) (h : Int) (W : World) : Calls Try.prog 9 #[.agg #[.int .i64 t.f, .int .i64 t.e, .int .i64 t.l], .int .i64 h] W fun e w' => ∃ A n c, e = .returned (.tuple #[.slice A n c, .int .i64 (we t h)]) ∧ RowAt w' A n c (wn t h) ∧ Below W.heap.size W w' := wins_v rfl rfl W
theorem rwins_x (t : Tm) (h : Int) (W : World) : Calls Try.prog 18 #[.agg #[.int .i64 t.f, .int .i64 t.e, .int .i64 t.l], .int .i64 h] W fun e w' => ∃ A n c, e = .returned (.tuple #[.slice A n c, .int .i64 (we t h)]) ∧ RowAt w' A n c (wn t h) ∧ Below W.heap.size W w' :=
  (refwins_any t h W).mono fun e w' hh => by
    obtain ⟨A, n, c, rfl, h1, h2, h3, h4⟩ := hh
    have hl := wn_length t h
    exact ⟨A, n, c, rfl, ⟨h1, h2, by rw [h1.out]; omega, h3.old⟩, h4⟩
theorem check_x (t : Tm) (W : World) : Calls Try.prog 19 #[.agg #[.int .i64 t.f, .int .i64 t.e, .int .i64 t.l]] W fun e w' => e = .returned (.int .i64 (ck t)) ∧ Below W.heap.size W w' := check_any t W
end

set_option maxRecDepth 100000 in
set_option maxHeartbeats 40000000 in
theorem calls_all (w : World) (T0 : Tm) (h : Int) (A2 A3 : Option Addr) (l2 l3 c2 c3 : Nat) (x n : Int) (Z2 Z3 : List Win) (hl2 : Hid (l2 = Z2.length)) (hl3 : Hid (l3 = Z3.length)) (hc2 : l2 ≤ c2) (hc3 : l3 ≤ c3) (hr2 : Rd w (· < w.heap.size) A2 (kc Z2)) (hr3 : Rd w (· < w.heap.size) A3 (kc Z3)) :
    Calls Try.prog 4 #[tv T0, .int .i64 h, .slice A2 l2 c2, .slice A3 l3 c3, .int .i64 x, .int .i64 n] w fun e w' => e = .returned (.bool true) ∧ Below w.heap.size w w' := by
  have BS := Lib.hid (Blk.new w 27 [.int .i64 T0.f, .int .i64 T0.e, .int .i64 T0.l])
  have HB := Lib.hid ((Below.refl w.heap.size w).alloc (Nat.le_refl _) (.cells #[.int .i64 T0.f, .int .i64 T0.e, .int .i64 T0.l] 27))
  show Calls Try.prog 4 #[.agg #[.int .i64 T0.f, .int .i64 T0.e, .int .i64 T0.l], .int .i64 h, .slice A2 l2 c2, .slice A3 l3 c3, .int .i64 x, .int .i64 n] w _
  have D0 := Lib.hid (wins_x T0 h)
  have D1 := Lib.hid (rwins_x T0 h)
  have D2 := Lib.hid (check_x T0)
  have D3 := Lib.hid (refcheck_any T0)
  by_cases n2 : 300 < l2
  · have n2' : (300 : Int) < (l2 : Int) := by omega
    clear hr2 hr3 D0 D1 D2 D3
    go_enter Try.func4, Try.ntmps4
    go_wp2_with (first
      | (go_at_call 10; (with_reducible refine (lives_any _).mono ?_); rintro e1 wk ⟨rfl, hb⟩; (try (have R0 := Lib.hid (R0.out.later hb))); (try (have R1 := Lib.hid (R1.out.later hb))); (try (have X1 := Lib.hid (X1.out.later hb))); (try (have X2 := Lib.hid (X2.out.later hb))); (try (have X3 := Lib.hid (X3.out.later hb))); (try (have X4 := Lib.hid (X4.out.later hb))); (try (have X5 := Lib.hid (X5.out.later hb))); have BS := Lib.hid (BS.out.after hb); have HB := Lib.hid (below_then HB.out hb HB.out.size); clear hb; obtain ⟨t0, t1, t2⟩ := tcells BS.out)
      | fail)
    go_ret
    exact ⟨rfl, HB.out⟩
  · have n2' : ¬ (300 : Int) < (l2 : Int) := by omega
    by_cases n3 : 300 < l3
    · have n3' : (300 : Int) < (l3 : Int) := by omega
      clear hr2 hr3 D0 D1 D2 D3
      go_enter Try.func4, Try.ntmps4
      go_wp2_with (first
        | (go_at_call 10; (with_reducible refine (lives_any _).mono ?_); rintro e1 wk ⟨rfl, hb⟩; (try (have R0 := Lib.hid (R0.out.later hb))); (try (have R1 := Lib.hid (R1.out.later hb))); (try (have X1 := Lib.hid (X1.out.later hb))); (try (have X2 := Lib.hid (X2.out.later hb))); (try (have X3 := Lib.hid (X3.out.later hb))); (try (have X4 := Lib.hid (X4.out.later hb))); (try (have X5 := Lib.hid (X5.out.later hb))); have BS := Lib.hid (BS.out.after hb); have HB := Lib.hid (below_then HB.out hb HB.out.size); clear hb; obtain ⟨t0, t1, t2⟩ := tcells BS.out)
        | fail)
      go_ret
      exact ⟨rfl, HB.out⟩
    · have n3' : ¬ (300 : Int) < (l3 : Int) := by omega
      have R0 := Lib.hid (((RowAt.mk hl2 hc2 (by omega) hr2)).alloc (.cells #[.int .i64 T0.f, .int .i64 T0.e, .int .i64 T0.l] 27))
      have R1 := Lib.hid (((RowAt.mk hl3 hc3 (by omega) hr3)).alloc (.cells #[.int .i64 T0.f, .int .i64 T0.e, .int .i64 T0.l] 27))
      have E1 : Hid (Z2.length + Z3.length ≤ 1000000) := Lib.hid (by rw [← hl2.out, ← hl3.out]; omega)
      clear hr2 hr3
      obtain ⟨z, hz⟩ : ∃ z, z = we T0 h := ⟨_, rfl⟩
      obtain ⟨k, hk⟩ : ∃ z, z = ck T0 := ⟨_, rfl⟩
      rw [← hz] at D0 D1
      rw [← hk] at D2 D3
      clear hz hk
      have zz : (z == z) = true := by simp
      have kk : (k == k) = true := by simp
      go_enter Try.func4, Try.ntmps4
      go_wp2_with (first
        | (go_at_call 10; (with_reducible refine (lives_any _).mono ?_); rintro e1 wk ⟨rfl, hb⟩; (try (have R0 := Lib.hid (R0.out.later hb))); (try (have R1 := Lib.hid (R1.out.later hb))); (try (have X1 := Lib.hid (X1.out.later hb))); (try (have X2 := Lib.hid (X2.out.later hb))); (try (have X3 := Lib.hid (X3.out.later hb))); (try (have X4 := Lib.hid (X4.out.later hb))); (try (have X5 := Lib.hid (X5.out.later hb))); have BS := Lib.hid (BS.out.after hb); have HB := Lib.hid (below_then HB.out hb HB.out.size); clear hb; obtain ⟨t0, t1, t2⟩ := tcells BS.out)
        | (go_at_call 9; (with_reducible refine (D0.out _).mono ?_); rintro e1 wk ⟨a1, k1, d1, rfl, rr, hb⟩; (try (have R0 := Lib.hid (R0.out.later hb))); (try (have R1 := Lib.hid (R1.out.later hb))); (try (have X1 := Lib.hid (X1.out.later hb))); (try (have X2 := Lib.hid (X2.out.later hb))); (try (have X3 := Lib.hid (X3.out.later hb))); (try (have X4 := Lib.hid (X4.out.later hb))); (try (have X5 := Lib.hid (X5.out.later hb))); have BS := Lib.hid (BS.out.after hb); have HB := Lib.hid (below_then HB.out hb HB.out.size); clear hb; have X1 := Lib.hid rr; clear rr; obtain ⟨t0, t1, t2⟩ := tcells BS.out)
        | (go_at_call 18; (with_reducible refine (D1.out _).mono ?_); rintro e1 wk ⟨a2, k2, d2, rfl, rr, hb⟩; (try (have R0 := Lib.hid (R0.out.later hb))); (try (have R1 := Lib.hid (R1.out.later hb))); (try (have X1 := Lib.hid (X1.out.later hb))); (try (have X2 := Lib.hid (X2.out.later hb))); (try (have X3 := Lib.hid (X3.out.later hb))); (try (have X4 := Lib.hid (X4.out.later hb))); (try (have X5 := Lib.hid (X5.out.later hb))); have BS := Lib.hid (BS.out.after hb); have HB := Lib.hid (below_then HB.out hb HB.out.size); clear hb; have X2 := Lib.hid rr; clear rr; obtain ⟨t0, t1, t2⟩ := tcells BS.out)
        | fail)
      simp only [List.append_eq, List.cons_append, List.nil_append]
      clear D0 D1 t0 t1 t2 n2 n2' n3 n3'
      go_region_held3 (fun w' => w'.cell? ⟨w.heap.size, 0, none⟩ = some (.int .i64 T0.f) ∧ w'.cell? ⟨w.heap.size, 1, none⟩ = some (.int .i64 T0.e) ∧ w'.cell? ⟨w.heap.size, 2, none⟩ = some (.int .i64 T0.l)) (first | exact tcells BS.out | go_keep) (first | (go_at_call 19; (with_reducible refine (D2.out _).mono ?_); rintro e1 wk ⟨rfl, hb⟩; (first | (have hb := below_und hb) | (have hb := below_undN hb) | skip); (try (have R0 := Lib.hid (R0.out.later hb))); (try (have R1 := Lib.hid (R1.out.later hb))); (try (have X1 := Lib.hid (X1.out.later hb))); (try (have X2 := Lib.hid (X2.out.later hb))); (try (have X3 := Lib.hid (X3.out.later hb))); (try (have X4 := Lib.hid (X4.out.later hb))); (try (have X5 := Lib.hid (X5.out.later hb))); have BS := Lib.hid (BS.out.after hb); have HB := Lib.hid (below_then HB.out hb HB.out.size); clear hb; obtain ⟨t0, t1, t2⟩ := tcells BS.out) | (go_at_call 20; (with_reducible refine (D3.out _).mono ?_); rintro e1 wk ⟨rfl, hb⟩; (first | (have hb := below_und hb) | (have hb := below_undN hb) | skip); (try (have R0 := Lib.hid (R0.out.later hb))); (try (have R1 := Lib.hid (R1.out.later hb))); (try (have X1 := Lib.hid (X1.out.later hb))); (try (have X2 := Lib.hid (X2.out.later hb))); (try (have X3 := Lib.hid (X3.out.later hb))); (try (have X4 := Lib.hid (X4.out.later hb))); (try (have X5 := Lib.hid (X5.out.later hb))); have BS := Lib.hid (BS.out.after hb); have HB := Lib.hid (below_then HB.out hb HB.out.size); clear hb) | (go_at_call 11; (with_reducible refine (same_r X1.out X2.out rfl).mono ?_); rintro e1 wk ⟨rfl, hb⟩; (first | (have hb := below_und hb) | (have hb := below_undN hb) | skip); (try (have R0 := Lib.hid (R0.out.later hb))); (try (have R1 := Lib.hid (R1.out.later hb))); (try (have X1 := Lib.hid (X1.out.later hb))); (try (have X2 := Lib.hid (X2.out.later hb))); (try (have X3 := Lib.hid (X3.out.later hb))); (try (have X4 := Lib.hid (X4.out.later hb))); (try (have X5 := Lib.hid (X5.out.later hb))); have BS := Lib.hid (BS.out.after hb); have HB := Lib.hid (below_then HB.out hb HB.out.size); clear hb) | (go_at_call 12; (with_reducible refine (good_r R0.out).mono ?_); rintro e1 wk ⟨rfl, hb⟩; (first | (have hb := below_und hb) | (have hb := below_undN hb) | skip); (try (have R0 := Lib.hid (R0.out.later hb))); (try (have R1 := Lib.hid (R1.out.later hb))); (try (have X1 := Lib.hid (X1.out.later hb))); (try (have X2 := Lib.hid (X2.out.later hb))); (try (have X3 := Lib.hid (X3.out.later hb))); (try (have X4 := Lib.hid (X4.out.later hb))); (try (have X5 := Lib.hid (X5.out.later hb))); have BS := Lib.hid (BS.out.after hb); have HB := Lib.hid (below_then HB.out hb HB.out.size); clear hb) | (go_at_call 21; (with_reducible refine (rgood_r R0.out).mono ?_); rintro e1 wk ⟨rfl, hb⟩; (first | (have hb := below_und hb) | (have hb := below_undN hb) | skip); (try (have R0 := Lib.hid (R0.out.later hb))); (try (have R1 := Lib.hid (R1.out.later hb))); (try (have X1 := Lib.hid (X1.out.later hb))); (try (have X2 := Lib.hid (X2.out.later hb))); (try (have X3 := Lib.hid (X3.out.later hb))); (try (have X4 := Lib.hid (X4.out.later hb))); (try (have X5 := Lib.hid (X5.out.later hb))); have BS := Lib.hid (BS.out.after hb); have HB := Lib.hid (below_then HB.out hb HB.out.size); clear hb) | (go_at_call 22; (with_reducible refine (own_r R0.out).mono ?_); rintro e1 wk ⟨a3, k3, d3, rfl, rr, hb⟩; (try (have R0 := Lib.hid (R0.out.later hb))); (try (have R1 := Lib.hid (R1.out.later hb))); (try (have X1 := Lib.hid (X1.out.later hb))); (try (have X2 := Lib.hid (X2.out.later hb))); (try (have X3 := Lib.hid (X3.out.later hb))); (try (have X4 := Lib.hid (X4.out.later hb))); (try (have X5 := Lib.hid (X5.out.later hb))); have BS := Lib.hid (BS.out.after hb); have HB := Lib.hid (below_then HB.out hb HB.out.size); clear hb; have X3 := Lib.hid rr; clear rr) | (go_at_call 17; (with_reducible refine (union_x X3.out R1.out E1).mono ?_); rintro e1 wk ⟨a4, k4, d4, rfl, rr, hb⟩; (try (have R0 := Lib.hid (R0.out.later hb))); (try (have R1 := Lib.hid (R1.out.later hb))); (try (have X1 := Lib.hid (X1.out.later hb))); (try (have X2 := Lib.hid (X2.out.later hb))); (try (have X3 := Lib.hid (X3.out.later hb))); (try (have X4 := Lib.hid (X4.out.later hb))); (try (have X5 := Lib.hid (X5.out.later hb))); have BS := Lib.hid (BS.out.after hb); have HB := Lib.hid (below_then HB.out hb HB.out.size); clear hb; have X4 := Lib.hid rr; clear rr) | (go_at_call 23; (with_reducible refine (runion_w R0.out R1.out E1).mono ?_); rintro e1 wk ⟨a5, k5, d5, rfl, rr, hb⟩; (try (have R0 := Lib.hid (R0.out.later hb))); (try (have R1 := Lib.hid (R1.out.later hb))); (try (have X1 := Lib.hid (X1.out.later hb))); (try (have X2 := Lib.hid (X2.out.later hb))); (try (have X3 := Lib.hid (X3.out.later hb))); (try (have X4 := Lib.hid (X4.out.later hb))); (try (have X5 := Lib.hid (X5.out.later hb))); have BS := Lib.hid (BS.out.after hb); have HB := Lib.hid (below_then HB.out hb HB.out.size); clear hb; have X5 := Lib.hid rr; clear rr) | (go_at_call 11; (with_reducible refine (same_r X4.out X5.out rfl).mono ?_); rintro e1 wk ⟨rfl, hb⟩; (first | (have hb := below_und hb) | (have hb := below_undN hb) | skip); (try (have R0 := Lib.hid (R0.out.later hb))); (try (have R1 := Lib.hid (R1.out.later hb))); (try (have X1 := Lib.hid (X1.out.later hb))); (try (have X2 := Lib.hid (X2.out.later hb))); (try (have X3 := Lib.hid (X3.out.later hb))); (try (have X4 := Lib.hid (X4.out.later hb))); (try (have X5 := Lib.hid (X5.out.later hb))); have BS := Lib.hid (BS.out.after hb); have HB := Lib.hid (below_then HB.out hb HB.out.size); clear hb) | (go_at_call 13; (with_reducible refine (sum_r R0.out).mono ?_); rintro e1 wk ⟨rfl, hb⟩; (first | (have hb := below_und hb) | (have hb := below_undN hb) | skip); (try (have R0 := Lib.hid (R0.out.later hb))); (try (have R1 := Lib.hid (R1.out.later hb))); (try (have X1 := Lib.hid (X1.out.later hb))); (try (have X2 := Lib.hid (X2.out.later hb))); (try (have X3 := Lib.hid (X3.out.later hb))); (try (have X4 := Lib.hid (X4.out.later hb))); (try (have X5 := Lib.hid (X5.out.later hb))); have BS := Lib.hid (BS.out.after hb); have HB := Lib.hid (below_then HB.out hb HB.out.size); clear hb) | (go_at_call 24; (with_reducible refine (rsum_r R0.out).mono ?_); rintro e1 wk ⟨rfl, hb⟩; (first | (have hb := below_und hb) | (have hb := below_undN hb) | skip); (try (have R0 := Lib.hid (R0.out.later hb))); (try (have R1 := Lib.hid (R1.out.later hb))); (try (have X1 := Lib.hid (X1.out.later hb))); (try (have X2 := Lib.hid (X2.out.later hb))); (try (have X3 := Lib.hid (X3.out.later hb))); (try (have X4 := Lib.hid (X4.out.later hb))); (try (have X5 := Lib.hid (X5.out.later hb))); have BS := Lib.hid (BS.out.after hb); have HB := Lib.hid (below_then HB.out hb HB.out.size); clear hb) | (go_at_call 14; (with_reducible refine (has_r R0.out x).mono ?_); rintro e1 wk ⟨rfl, hb⟩; (first | (have hb := below_und hb) | (have hb := below_undN hb) | skip); (try (have R0 := Lib.hid (R0.out.later hb))); (try (have R1 := Lib.hid (R1.out.later hb))); (try (have X1 := Lib.hid (X1.out.later hb))); (try (have X2 := Lib.hid (X2.out.later hb))); (try (have X3 := Lib.hid (X3.out.later hb))); (try (have X4 := Lib.hid (X4.out.later hb))); (try (have X5 := Lib.hid (X5.out.later hb))); have BS := Lib.hid (BS.out.after hb); have HB := Lib.hid (below_then HB.out hb HB.out.size); clear hb) | (go_at_call 25; (with_reducible refine (rhas_r R0.out x).mono ?_); rintro e1 wk ⟨rfl, hb⟩; (first | (have hb := below_und hb) | (have hb := below_undN hb) | skip); (try (have R0 := Lib.hid (R0.out.later hb))); (try (have R1 := Lib.hid (R1.out.later hb))); (try (have X1 := Lib.hid (X1.out.later hb))); (try (have X2 := Lib.hid (X2.out.later hb))); (try (have X3 := Lib.hid (X3.out.later hb))); (try (have X4 := Lib.hid (X4.out.later hb))); (try (have X5 := Lib.hid (X5.out.later hb))); have BS := Lib.hid (BS.out.after hb); have HB := Lib.hid (below_then HB.out hb HB.out.size); clear hb) | (go_at_call 15; (with_reducible refine (next_r R0.out x).mono ?_); rintro e1 wk ⟨rfl, hb⟩; (first | (have hb := below_und hb) | (have hb := below_undN hb) | skip); (try (have R0 := Lib.hid (R0.out.later hb))); (try (have R1 := Lib.hid (R1.out.later hb))); (try (have X1 := Lib.hid (X1.out.later hb))); (try (have X2 := Lib.hid (X2.out.later hb))); (try (have X3 := Lib.hid (X3.out.later hb))); (try (have X4 := Lib.hid (X4.out.later hb))); (try (have X5 := Lib.hid (X5.out.later hb))); have BS := Lib.hid (BS.out.after hb); have HB := Lib.hid (below_then HB.out hb HB.out.size); clear hb) | (go_at_call 26; (with_reducible refine (rnext_r R0.out x).mono ?_); rintro e1 wk ⟨rfl, hb⟩; (first | (have hb := below_und hb) | (have hb := below_undN hb) | skip); (try (have R0 := Lib.hid (R0.out.later hb))); (try (have R1 := Lib.hid (R1.out.later hb))); (try (have X1 := Lib.hid (X1.out.later hb))); (try (have X2 := Lib.hid (X2.out.later hb))); (try (have X3 := Lib.hid (X3.out.later hb))); (try (have X4 := Lib.hid (X4.out.later hb))); (try (have X5 := Lib.hid (X5.out.later hb))); have BS := Lib.hid (BS.out.after hb); have HB := Lib.hid (below_then HB.out hb HB.out.size); clear hb) | (go_at_call 27; (with_reducible refine (free_r R0.out x).mono ?_); rintro e1 wk ⟨rfl, hb⟩; (first | (have hb := below_und hb) | (have hb := below_undN hb) | skip); (try (have R0 := Lib.hid (R0.out.later hb))); (try (have R1 := Lib.hid (R1.out.later hb))); (try (have X1 := Lib.hid (X1.out.later hb))); (try (have X2 := Lib.hid (X2.out.later hb))); (try (have X3 := Lib.hid (X3.out.later hb))); (try (have X4 := Lib.hid (X4.out.later hb))); (try (have X5 := Lib.hid (X5.out.later hb))); have BS := Lib.hid (BS.out.after hb); have HB := Lib.hid (below_then HB.out hb HB.out.size); clear hb) | (go_at_call 28; (with_reducible refine (rfree_r R0.out x).mono ?_); rintro e1 wk ⟨rfl, hb⟩; (first | (have hb := below_und hb) | (have hb := below_undN hb) | skip); (try (have R0 := Lib.hid (R0.out.later hb))); (try (have R1 := Lib.hid (R1.out.later hb))); (try (have X1 := Lib.hid (X1.out.later hb))); (try (have X2 := Lib.hid (X2.out.later hb))); (try (have X3 := Lib.hid (X3.out.later hb))); (try (have X4 := Lib.hid (X4.out.later hb))); (try (have X5 := Lib.hid (X5.out.later hb))); have BS := Lib.hid (BS.out.after hb); have HB := Lib.hid (below_then HB.out hb HB.out.size); clear hb) | (go_at_call 16; (with_reducible refine (gap_r R0.out x n).mono ?_); rintro e1 wk ⟨rfl, hb⟩; (first | (have hb := below_und hb) | (have hb := below_undN hb) | skip); (try (have R0 := Lib.hid (R0.out.later hb))); (try (have R1 := Lib.hid (R1.out.later hb))); (try (have X1 := Lib.hid (X1.out.later hb))); (try (have X2 := Lib.hid (X2.out.later hb))); (try (have X3 := Lib.hid (X3.out.later hb))); (try (have X4 := Lib.hid (X4.out.later hb))); (try (have X5 := Lib.hid (X5.out.later hb))); have BS := Lib.hid (BS.out.after hb); have HB := Lib.hid (below_then HB.out hb HB.out.size); clear hb) | (go_at_call 29; (with_reducible refine (rgap_r R0.out x n).mono ?_); rintro e1 wk ⟨rfl, hb⟩; (first | (have hb := below_und hb) | (have hb := below_undN hb) | skip); (try (have R0 := Lib.hid (R0.out.later hb))); (try (have R1 := Lib.hid (R1.out.later hb))); (try (have X1 := Lib.hid (X1.out.later hb))); (try (have X2 := Lib.hid (X2.out.later hb))); (try (have X3 := Lib.hid (X3.out.later hb))); (try (have X4 := Lib.hid (X4.out.later hb))); (try (have X5 := Lib.hid (X5.out.later hb))); have BS := Lib.hid (BS.out.after hb); have HB := Lib.hid (below_then HB.out hb HB.out.size); clear hb) | fail)
      go_wp2
      all_goals
        go_ret
        exact ⟨rfl, HB.out⟩
end Go.Proofs.Ytejmfhmglbggnaa.Wn
