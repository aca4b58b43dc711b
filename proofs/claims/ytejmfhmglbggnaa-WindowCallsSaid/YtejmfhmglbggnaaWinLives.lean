/- The verifier's helpers at windows (Same of rows that are alike, Own), and the chapter's examples (lives), at every world. Conditions: rows hold fewer than a million windows. -/
import Derived.RangeFuncBox
import Derived.RangeFuncLeaves
import Derived.Shelf.Abstract
import Derived.OwnWalkIn
import Derived.TacticsInMore
import Derived.LoopNIn
import Derived.LoopIn
import Derived.BigRegionIn
import Derived.RangeFuncNested
import Derived.RangeFuncCalls
import Derived.Shelf.RegionOpen
import Derived.Sort.QuietIn
import Derived.StillTail
import Derived.StillTactics
import Derived.Maps.AppendAt
import Derived.Lib.SliceRun
import Derived.RangeFuncNested
import Derived.Test.YtejmfhmglbggnaaWinGap
import Derived.IntWalk
import Derived.Test.YtejmfhmglbggnaaWinWins
namespace Go.Proofs.Ytejmfhmglbggnaa.Wn
open Go.ChangeShapes Go.WideShapes Go.ChangeAt Go.RowKit Go.Shelf
set_option linter.unusedVariables false
set_option linter.unusedSimpArgs false
attribute [local go_sem] Oper.semAt_some

set_option maxHeartbeats 1000000 in
theorem same_win (w : World) (A B : Option Addr) (n c d : Nat) (zs : List Win) (hn : Hid (n = zs.length)) (hN : n ≤ 1000000) (hx : Rd w (· < w.heap.size) A (kc zs)) (hy : Rd w (· < w.heap.size) B (kc zs)) :
    Calls Try.prog 11 #[.slice A n c, .slice B n d] w fun e w' => e = .returned (.bool true) ∧ Below w.heap.size w w' := by
  have HX := Lib.hid hx
  have HY := Lib.hid hy
  clear hx hy
  go_enter Try.func11, Try.ntmps11
  go_wp2
  go_loopw [5] (fun v5 wr => ∃ k : Nat, v5 = .int .i64 k ∧ k ≤ n ∧ Below w.heap.size w wr) (fun v _ => n - (intOf v).toNat)
  case atStart => exact ⟨0, rfl, by omega, Below.refl _ _⟩
  case round =>
    obtain ⟨k, rfl, hk, hbel⟩ := hrel
    by_cases hlt : k < n
    · obtain ⟨ad, rfl, hS, hca⟩ := (HX.out.below2 hbel).key2 (k := k) (by rw [← hn.out]; exact hlt)
      obtain ⟨bd, rfl, hT, hcb⟩ := (HY.out.below2 hbel).key2 (k := k) (by rw [← hn.out]; exact hlt)
      obtain ⟨ha0, ha1⟩ := hca k (by rw [← hn.out]; exact hlt)
      obtain ⟨hb0, hb1⟩ := hcb k (by rw [← hn.out]; exact hlt)
      obtain ⟨p, hp⟩ : ∃ p, p = zs.getD k (0, 0) := ⟨_, rfl⟩
      rw [← hp] at ha0 ha1 hb0 hb1
      have HB := Lib.hid hbel
      clear hca hcb hbel hp
      have hi : (k : Int) < (n : Int) := by omega
      go_wp2
      go_quiet (fail)
      go_wp2
      go_roundw
      case rel => exact ⟨k + 1, by go_num, by omega, below_drewN HB.out _⟩
      case measure => simp [intOf]; omega
    · have HB := Lib.hid hbel
      clear hbel
      go_wp2
      go_ret
      exact ⟨rfl, HB.out⟩

theorem ownWin_any (w : World) (A : Option Addr) (n c : Nat) (zs : List Win) (hn : Hid (n = zs.length)) (hN : n ≤ 1000000) (hx : Rd w (· < w.heap.size) A (kc zs)) :
    Calls Try.prog 22 #[.slice A n c] w (WinsNew w zs) := by
  have hx' : Rd (w.alloc (.cells #[] 31)) (· < w.heap.size) A (kc zs) := hx.keep fun b hb => Below.heap_alloc w _ b hb
  have HX := Lib.hid hx'
  have hl : Hid ((kc zs).length = n * 2) := by show _ = _; rw [kc_length, hn.out]
  clear hx hx'
  go_enter Try.func22, Try.ntmps22
  go_wp2_with (at_builtin; refine wpList_append_rd rfl (.tmp 3) (.tmp 4) 22 rfl w.heap.size 31 _ 2 16 Try.underlying22 info_win rfl (by omega) (by omega) _ 0 [] rfl (own_empty (Nat.le_refl _)) _ A n c (kc zs) rfl hl.out HX.out (kc_one zs) (by omega) (by simp) ?_; intro v' w1 hown hbel)
  obtain ⟨B, d, hv, hnd, hrd⟩ := own_form hown.out
  simp only [Nat.zero_add, List.nil_append] at hv hnd hrd
  subst hv
  go_ret
  exact ⟨B, n, d, rfl, hn, hnd, hrd, ((Below.refl _ _).alloc (Nat.le_refl _) _).trans hbel.out⟩
theorem same2_win {w : World} {A B : Option Addr} {n m c d : Nat} {xs ys : List Win} (hn : Hid (n = xs.length)) (hm : Hid (m = ys.length)) (he : xs = ys) (hN : n ≤ 1000000) (hx : Rd w (· < w.heap.size) A (kc xs)) (hy : Rd w (· < w.heap.size) B (kc ys)) :
    Calls Try.prog 11 #[.slice A n c, .slice B m d] w fun e w' => e = .returned (.bool true) ∧ Below w.heap.size w w' := by
  subst he
  have e : m = n := by rw [hm.out, hn.out]
  subst e
  exact same_win w A B m c d xs hn hN hx hy

set_option maxHeartbeats 4000000 in
theorem lives_any (w : World) : Calls Try.prog 10 #[] w fun e w' => e = .returned (.bool true) ∧ Below w.heap.size w w' := by
  have p1 : wn ⟨5, 10, 2⟩ 20 = [(5, 7), (15, 17)] := by decide
  have p0 : we ⟨5, 10, 2⟩ 20 = 0 := by decide
  have p2 : gp [(5, 7), (15, 17)] 5 1 = 7 := by decide
  have p3 : gp [(5, 7), (15, 17)] 6 8 = 7 := by decide
  have p4 : nx [(5, 7), (15, 17)] 8 = 15 := by decide
  have C1 : Hid (∀ w, Calls Try.prog 9 #[.agg #[.int .i64 5, .int .i64 10, .int .i64 2], .int .i64 20] w (WinsE w [(5, 7), (15, 17)] 0)) := Lib.hid fun w => by
    have := wins_any ⟨5, 10, 2⟩ 20 w; rw [p1, p0] at this; exact this
  have C2 : Hid (∀ (w : World) (A : Option Addr) (n c : Nat), Hid (n = [((5 : Int), (7 : Int)), (15, 17)].length) → Rd w (· < w.heap.size) A (kc [(5, 7), (15, 17)]) → Calls Try.prog 27 #[.slice A n c, .int .i64 5] w fun e w' => e = .returned (.int .i64 7) ∧ Below w.heap.size w w') := Lib.hid fun w A n c hn hx => by
    have := free_any w A n c _ 5 hn (by rw [hn.out]; decide) hx; rw [p2] at this; exact this
  have C3 : Hid (∀ (w : World) (A : Option Addr) (n c : Nat), Hid (n = [((5 : Int), (7 : Int)), (15, 17)].length) → Rd w (· < w.heap.size) A (kc [(5, 7), (15, 17)]) → Calls Try.prog 16 #[.slice A n c, .int .i64 6, .int .i64 8] w fun e w' => e = .returned (.int .i64 7) ∧ Below w.heap.size w w') := Lib.hid fun w A n c hn hx => by
    have := gap_any w A n c _ 6 8 hn (by rw [hn.out]; decide) hx; rw [p3] at this; exact this
  have C4 : Hid (∀ (w : World) (A : Option Addr) (n c : Nat), Hid (n = [((5 : Int), (7 : Int)), (15, 17)].length) → Rd w (· < w.heap.size) A (kc [(5, 7), (15, 17)]) → Calls Try.prog 15 #[.slice A n c, .int .i64 8] w fun e w' => e = .returned (.int .i64 15) ∧ Below w.heap.size w w') := Lib.hid fun w A n c hn hx => by
    have := next_any w A n c _ 8 hn (by rw [hn.out]; decide) hx; rw [p4] at this; exact this
  clear p0 p1 p2 p3 p4
  go_enter Try.func10, Try.ntmps10
  go_wp2_with (first
    | (go_at_call 9; refine (C1.out _).mono ?_; rintro e w1 ⟨A1, n1, c1, rfl, hn1, hc1, hr1, hb1⟩)
    | (go_at_call 11; refine (same2_win (xs := [(5, 7), (15, 17)]) (ys := [(5, 7), (15, 17)]) hn1 rfl rfl (by rw [hn1.out]; decide) (hr1.old.alloc_ _) (lit_rd _ _ _ _ rfl)).mono ?_; rintro e w2 ⟨rfl, hb2⟩; have hb3 := below_then (keep_alloc hb1 _) hb2 (by have := hb1.size; simp; omega))
    | (go_at_call 27; refine (C2.out _ _ _ _ hn1 (((hr1.old.alloc_ _).later hb2))).mono ?_; rintro e w3 ⟨rfl, hb4⟩)
    | (go_at_call 16; refine (C3.out _ _ _ _ hn1 (((hr1.old.alloc_ _).later hb2).later hb4)).mono ?_; rintro e w4 ⟨rfl, hb5⟩)
    | (go_at_call 15; refine (C4.out _ _ _ _ hn1 ((((hr1.old.alloc_ _).later hb2).later hb4).later hb5)).mono ?_; rintro e w5 ⟨rfl, hb6⟩) | fail)
  go_ret
  exact ⟨rfl, keep_trans (keep_trans (keep_trans hb3 hb4) hb5) hb6⟩
end Go.Proofs.Ytejmfhmglbggnaa.Wn
