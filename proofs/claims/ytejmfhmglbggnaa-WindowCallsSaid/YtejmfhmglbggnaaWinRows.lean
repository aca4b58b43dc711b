/- The contracts in the words of rows that are carried from world to world. Conditions: rows hold fewer than a million windows. -/
import Derived.RangeFuncBox
import Derived.RangeFuncLeaves
import Derived.Shelf.Abstract
import Derived.OwnWalkIn
import Derived.TacticsInMore
import Derived.LoopNIn
import Derived.LoopIn
import Derived.BigRegionIn
import Derived.RangeFuncNested
import Derived.RangeFuncCalls
import Derived.Shelf.RegionOpen
import Derived.Sort.QuietIn
import Derived.StillTail
import Derived.StillTactics
import Derived.Maps.AppendAt
import Derived.Lib.SliceRun
import Derived.RangeFuncNested
import Derived.Test.YtejmfhmglbggnaaWinViews
import Derived.IntWalk
import Derived.ChangeSlices
import Derived.Deep.SlicePairs
import Derived.Deep.Strs
import Derived.ChangeArms
import Derived.Carry
import Derived.OpenShut
namespace Go.Proofs.Ytejmfhmglbggnaa.Wn
open Go.ChangeShapes Go.WideShapes Go.ChangeAt Go.RowKit Go.Deep
set_option linter.unusedVariables false
set_option linter.unusedSimpArgs false
attribute [local go_sem] Oper.semAt_some

/-- the row zs lies there -/
structure RowAt (W : World) (A : Option Addr) (n c : Nat) (zs : List Win) : Prop where
  len : Hid (n = zs.length)
  cap : n ≤ c
  small : n ≤ 1000000
  rd : Rd W (· < W.heap.size) A (kc zs)
section
variable {W W' : World} {A B : Option Addr} {n m c d : Nat} {xs ys zs : List Win}
theorem RowAt.later (h : RowAt W A n c zs) (hb : Below W.heap.size W W') : RowAt W' A n c zs := ⟨h.len, h.cap, h.small, h.rd.later hb⟩
theorem RowAt.alloc (h : RowAt W A n c zs) (o : Obj) : RowAt (W.alloc o) A n c zs := ⟨h.len, h.cap, h.small, h.rd.alloc_ o⟩
theorem RowAt.drewN (h : RowAt W A n c zs) (k : Nat) : RowAt (W.drewN k) A n c zs := ⟨h.len, h.cap, h.small, h.rd⟩
theorem RowAt.zero (h : RowAt W A n c []) : n = 0 := by have := h.len.out; simpa using this
theorem RowAt.nil (W : World) : RowAt W none 0 0 [] := ⟨Lib.hid rfl, Nat.le_refl _, by omega, Rd.none_⟩
theorem RowAt.lit (W : World) (cs : Array Value) (zs : List Win) (n : Nat) (h : (kc zs).toArray = cs) (hn : n = zs.length) (hs : n ≤ 1000000) : RowAt (W.alloc (.cells cs 31)) (some ⟨W.heap.size, 0, none⟩) n n zs :=
  ⟨Lib.hid hn, Nat.le_refl _, hs, lit_rd W cs _ (kc zs) h⟩
theorem RowAt.lit1 (W : World) (a b : Int) : RowAt (W.alloc (.cells #[.int .i64 a, .int .i64 b] 31)) (some ⟨W.heap.size, 0, none⟩) 1 1 [(a, b)] := RowAt.lit W _ [(a, b)] 1 rfl rfl (by omega)
theorem RowAt.lit2 (W : World) (a b c d : Int) : RowAt (W.alloc (.cells #[.int .i64 a, .int .i64 b, .int .i64 c, .int .i64 d] 31)) (some ⟨W.heap.size, 0, none⟩) 2 2 [(a, b), (c, d)] := RowAt.lit W _ [(a, b), (c, d)] 2 rfl rfl (by omega)
theorem RowAt.cells (h : RowAt W A n c zs) {k : Nat} (hk : k < n) : ∃ ad, A = some ad ∧ ad.block < W.heap.size ∧ W.cell? (ad.add (k * 2)) = some (.int .i64 (zs.getD k (0, 0)).1) ∧ W.cell? ⟨(ad.add (k * 2)).block, (ad.add (k * 2)).off + 1, none⟩ = some (.int .i64 (zs.getD k (0, 0)).2) := by
  have hl : k < zs.length := by rw [← h.len.out]; exact hk
  obtain ⟨ad, rfl, hS, hca⟩ := h.rd.key2 (k := k) hl
  exact ⟨ad, rfl, hS, (hca k hl).1, (hca k hl).2⟩
/-- a call tells such a row, and leaves alone what there was -/
def TellsRow (W : World) (zs : List Win) (e : Ending) (w' : World) : Prop := ∃ A n c, e = .returned (.slice A n c) ∧ RowAt w' A n c zs ∧ Below W.heap.size W w'
theorem WinsNew.tells {e : Ending} {w' : World} (h : WinsNew W zs e w') (hs : zs.length ≤ 1000000) : TellsRow W zs e w' := by
  obtain ⟨A, n, c, rfl, h1, h2, h3, h4⟩ := h
  exact ⟨A, n, c, rfl, ⟨h1, h2, by rw [h1.out]; exact hs, h3.old⟩, h4⟩
theorem good_r (h : RowAt W A n c zs) : Calls Try.prog 12 #[.slice A n c] W fun e w' => e = .returned (.bool (good zs)) ∧ Below W.heap.size W w' := good_any W A n c zs h.len h.small h.rd
theorem good_y (h : RowAt W A n c zs) (hg : good zs = true) : Calls Try.prog 12 #[.slice A n c] W fun e w' => e = .returned (.bool true) ∧ Below W.heap.size W w' := by
  have := good_r h; rwa [hg] at this
theorem good_n (h : RowAt W A n c zs) (hg : good zs = false) : Calls Try.prog 12 #[.slice A n c] W fun e w' => e = .returned (.bool false) ∧ Below W.heap.size W w' := by
  have := good_r h; rwa [hg] at this
theorem sum_r (h : RowAt W A n c zs) : Calls Try.prog 13 #[.slice A n c] W fun e w' => e = .returned (.int .i64 (smV zs)) ∧ Below W.heap.size W w' := sum_any W A n c zs h.len h.small h.rd
theorem has_r (h : RowAt W A n c zs) (x : Int) : Calls Try.prog 14 #[.slice A n c, .int .i64 x] W fun e w' => e = .returned (.bool (hs zs x)) ∧ Below W.heap.size W w' := has_any W A n c zs x h.len h.small h.rd
theorem has_v (h : RowAt W A n c zs) {x : Int} {b : Bool} (hb : hs zs x = b) : Calls Try.prog 14 #[.slice A n c, .int .i64 x] W fun e w' => e = .returned (.bool b) ∧ Below W.heap.size W w' := by
  have := has_r h x; rwa [hb] at this
theorem next_r (h : RowAt W A n c zs) (x : Int) : Calls Try.prog 15 #[.slice A n c, .int .i64 x] W fun e w' => e = .returned (.int .i64 (nx zs x)) ∧ Below W.heap.size W w' := next_any W A n c zs x h.len h.small h.rd
theorem next_v (h : RowAt W A n c zs) {x y : Int} (hb : nx zs x = y) : Calls Try.prog 15 #[.slice A n c, .int .i64 x] W fun e w' => e = .returned (.int .i64 y) ∧ Below W.heap.size W w' := by
  have := next_r h x; rwa [hb] at this
theorem gap_r (h : RowAt W A n c zs) (x m : Int) : Calls Try.prog 16 #[.slice A n c, .int .i64 x, .int .i64 m] W fun e w' => e = .returned (.int .i64 (gp zs x m)) ∧ Below W.heap.size W w' := gap_any W A n c zs x m h.len h.small h.rd
theorem gap_v (h : RowAt W A n c zs) {x m y : Int} (hb : gp zs x m = y) : Calls Try.prog 16 #[.slice A n c, .int .i64 x, .int .i64 m] W fun e w' => e = .returned (.int .i64 y) ∧ Below W.heap.size W w' := by
  have := gap_r h x m; rwa [hb] at this
theorem free_v (h : RowAt W A n c zs) {x y : Int} (hb : gp zs x 1 = y) : Calls Try.prog 27 #[.slice A n c, .int .i64 x] W fun e w' => e = .returned (.int .i64 y) ∧ Below W.heap.size W w' := by
  have := free_any W A n c zs x h.len h.small h.rd; rwa [hb] at this
theorem sum_v (h : RowAt W A n c zs) {y : Int} (hb : smV zs = y) : Calls Try.prog 13 #[.slice A n c] W fun e w' => e = .returned (.int .i64 y) ∧ Below W.heap.size W w' := by
  have := sum_r h; rwa [hb] at this
theorem union_r (hA : RowAt W A n c xs) (hB : RowAt W B m d ys) (hN : n + m ≤ 1000000) : Calls Try.prog 17 #[.slice A n c, .slice B m d] W (fun e w' => ∃ A n c, e = .returned (.slice A n c) ∧ RowAt w' A n c (un xs ys) ∧ Below W.heap.size W w') :=
  (union_any W A B n m c d xs ys hA.len hB.len hN hA.cap hB.cap hA.rd hB.rd).mono fun e w' h => h.tells (Nat.le_trans (un_length xs ys) (by rw [← hA.len.out, ← hB.len.out]; exact hN))
theorem union_v (hA : RowAt W A n c xs) (hB : RowAt W B m d ys) (hN : n + m ≤ 1000000) (hz : un xs ys = zs) : Calls Try.prog 17 #[.slice A n c, .slice B m d] W (fun e w' => ∃ A n c, e = .returned (.slice A n c) ∧ RowAt w' A n c zs ∧ Below W.heap.size W w') := by
  have := union_r hA hB hN; rwa [hz] at this
theorem union_w (hA : RowAt W A n c xs) (hB : RowAt W B m d ys) (hN : Hid (xs.length + ys.length ≤ 1000000)) (hz : Hid (un xs ys = zs)) : Calls Try.prog 17 #[.slice A n c, .slice B m d] W (fun e w' => ∃ A n c, e = .returned (.slice A n c) ∧ RowAt w' A n c zs ∧ Below W.heap.size W w') :=
  union_v hA hB (by rw [hA.len.out, hB.len.out]; exact hN.out) hz.out
theorem own_r (hA : RowAt W A n c xs) : Calls Try.prog 22 #[.slice A n c] W (fun e w' => ∃ A n c, e = .returned (.slice A n c) ∧ RowAt w' A n c xs ∧ Below W.heap.size W w') :=
  (ownWin_any W A n c xs hA.len hA.small hA.rd).mono fun e w' h => h.tells (by rw [← hA.len.out]; exact hA.small)
theorem same_r (hA : RowAt W A n c xs) (hB : RowAt W B m d ys) (he : xs = ys) : Calls Try.prog 11 #[.slice A n c, .slice B m d] W fun e w' => e = .returned (.bool true) ∧ Below W.heap.size W w' :=
  same2_win hA.len hB.len he hA.small hA.rd hB.rd
theorem wins_v {t : Tm} {h x : Int} (hz : wn t h = zs) (hx : we t h = x) (W : World) : Calls Try.prog 9 #[.agg #[.int .i64 t.f, .int .i64 t.e, .int .i64 t.l], .int .i64 h] W fun e w' => ∃ A n c, e = .returned (.tuple #[.slice A n c, .int .i64 x]) ∧ RowAt w' A n c zs ∧ Below W.heap.size W w' :=
  (wins_any t h W).mono fun e w' hh => by
    obtain ⟨A, n, c, rfl, h1, h2, h3, h4⟩ := hh
    have hl := wn_length t h
    subst hx
    rw [hz] at h1 h3 hl
    exact ⟨A, n, c, rfl, ⟨h1, h2, by rw [h1.out]; omega, h3.old⟩, h4⟩
end
theorem hs_eq {zs : List Win} (hg : good zs = true) {x : Int} (hx : tick x = true) {b : Bool} (h : mem zs x ↔ b = true) : hs zs x = b := Bool.eq_iff_iff.2 ((hs_mem hg hx).trans h)
end Go.Proofs.Ytejmfhmglbggnaa.Wn
