/- Contracts of window.Union and window.Wins. Conditions: rows hold fewer than a million windows together. -/
import Derived.RangeFuncBox
import Derived.RangeFuncLeaves
import Derived.Shelf.Abstract
import Derived.OwnWalkIn
import Derived.TacticsInMore
import Derived.LoopNIn
import Derived.LoopIn
import Derived.BigRegionIn
import Derived.RangeFuncNested
import Derived.RangeFuncCalls
import Derived.Shelf.RegionOpen
import Derived.Sort.QuietIn
import Derived.StillTail
import Derived.StillTactics
import Derived.Maps.AppendAt
import Derived.Lib.SliceRun
import Derived.Test.YtejmfhmglbggnaaWinJoined
import Derived.IntWalk
namespace Go.Proofs.Ytejmfhmglbggnaa.Wn
open Go.ChangeShapes Go.WideShapes Go.ChangeAt Go.RowKit Go.Shelf
set_option linter.unusedVariables false
set_option linter.unusedSimpArgs false
attribute [local go_sem] Oper.semAt_some

theorem Rd.grow {w w' : World} {n0 : Nat} {A : Option Addr} {xs : List Value} (h : Rd w' (fun b => w.heap.size ≤ b ∧ b < w'.heap.size) A xs) (h0 : n0 ≤ w.heap.size) : Rd w' (fun b => n0 ≤ b ∧ b < w'.heap.size) A xs := h.more fun b hb => ⟨by omega, hb.2⟩
theorem WinsNew.after {w w1 : World} {l : List Win} {e : Ending} {w' : World} (h : WinsNew w1 l e w') (hb : Below w.heap.size w w1) : WinsNew w l e w' := by
  obtain ⟨A, n, c, rfl, h1, h2, h3, h4⟩ := h
  exact ⟨A, n, c, rfl, h1, h2, h3.grow hb.size, below_then hb h4 hb.size⟩
theorem WinsNew.none_ (w w' : World) (hb : Below w.heap.size w w') : WinsNew w [] (.returned (.slice none 0 0)) w' := ⟨none, 0, 0, rfl, Lib.hid rfl, Nat.le_refl _, Rd.none_, hb⟩

/-- joined behind the merge that has just been made -/
theorem joined_merge (w : World) (A1 A2 : Option Addr) (n m c d : Nat) (xs ys : List Win) (hn : Hid (n = xs.length)) (hm : Hid (m = ys.length)) (hN : n + m ≤ 1000000) (hnc : n ≤ c) (hmd : m ≤ d)
    (hx : Rd w (· < w.heap.size) A1 (kc xs)) (hy : Rd w (· < w.heap.size) A2 (kc ys)) :
    Calls Try.prog 33 #[.func (.func 47) #[] #[.pointer (some ⟨w.heap.size, 0, none⟩), .pointer (some ⟨w.heap.size + 1, 0, none⟩), .pointer (some ⟨w.heap.size + 2, 0, none⟩)]]
      (((w.alloc (.cells #[.slice A1 n c] 54)).alloc (.cells #[.slice A2 m d] 54)).alloc (.cells #[.func (.func 38) #[] #[]] 57)) (WinsNew w (jn (ms xs ys))) := by
  obtain ⟨W, hW⟩ : ∃ W, W = ((w.alloc (.cells #[.slice A1 n c] 54)).alloc (.cells #[.slice A2 m d] 54)).alloc (.cells #[.func (.func 38) #[] #[]] 57) := ⟨_, rfl⟩
  have hb : Below w.heap.size w W := by rw [hW]; exact (((Below.refl _ w).alloc (Nat.le_refl _) _).alloc (by simp) _).alloc (by simp; omega) _
  have hs : W.heap.size = w.heap.size + 3 := by rw [hW]; simp
  have b0 : Blk W w.heap.size 54 [.slice A1 n c] := by rw [hW]; exact ((Blk.new w _ [.slice A1 n c]).alloc _).alloc _
  have b1 : Blk W (w.heap.size + 1) 54 [.slice A2 m d] := by
    rw [hW]
    have := (Blk.new (w.alloc (.cells #[.slice A1 n c] 54)) 54 [.slice A2 m d]).alloc (.cells #[.func (.func 38) #[] #[]] 57)
    rwa [World.size_alloc] at this
  have b2 : Blk W (w.heap.size + 2) 57 [.func (.func 38) #[] #[]] := by
    rw [hW]
    have := Blk.new ((w.alloc (.cells #[.slice A1 n c] 54)).alloc (.cells #[.slice A2 m d] 54)) 57 [.func (.func 38) #[] #[]]
    rwa [World.size_alloc, World.size_alloc] at this
  rw [← hW]
  refine (callsIn_wide.1 (joined_in _ _ w.heap.size w.heap.size 3 (ms xs ys) W (enters_of Try.func47 (by kernel_rfl) rfl) (fun W' hW' => ?_) (by omega) (by omega) (by rw [ms_length, ← hn.out, ← hm.out]; exact hN))).mono fun e w' h => WinsNew.after h hb
  exact merge_stops w.heap.size w A1 A2 n m c d xs ys hn hm hN hnc hmd hx hy (Nat.le_refl _) W' (hb.trans (hW'.mono (by omega))) (b0.below hW' b0.lt) (b1.below hW' b1.lt) (b2.below hW' b2.lt)

set_option maxHeartbeats 1000000 in
theorem union_any (w : World) (A B : Option Addr) (n m c d : Nat) (xs ys : List Win) (hn : Hid (n = xs.length)) (hm : Hid (m = ys.length)) (hN : n + m ≤ 1000000) (hnc : n ≤ c) (hmd : m ≤ d)
    (hx : Rd w (· < w.heap.size) A (kc xs)) (hy : Rd w (· < w.heap.size) B (kc ys)) :
    Calls Try.prog 17 #[.slice A n c, .slice B m d] w (WinsNew w (un xs ys)) := by
  have C1 := Lib.hid (good_any w A n c xs hn (by omega) hx)
  have C2 : Hid (∀ W, Below w.heap.size w W → Calls Try.prog 12 #[.slice B m d] W fun e w' => e = .returned (.bool (good ys)) ∧ Below W.heap.size W w') := Lib.hid fun W hW => good_any W B m d ys hm (by omega) (hy.later hW)
  have C3 : Hid (∀ W, Below w.heap.size w W → Calls Try.prog 33 #[.func (.func 47) #[] #[.pointer (some ⟨W.heap.size, 0, none⟩), .pointer (some ⟨W.heap.size + 1, 0, none⟩), .pointer (some ⟨W.heap.size + 2, 0, none⟩)]]
      (((W.alloc (.cells #[.slice A n c] 54)).alloc (.cells #[.slice B m d] 54)).alloc (.cells #[.func (.func 38) #[] #[]] 57)) (WinsNew w (jn (ms xs ys)))) := Lib.hid fun W hW => (joined_merge W A B n m c d xs ys hn hm hN hnc hmd (hx.later hW) (hy.later hW)).mono fun e w' h => WinsNew.after h hW
  clear hx hy
  cases h1 : good xs with
  | false =>
    rw [h1] at C1
    have HR : Hid (un xs ys = []) := Lib.hid (by simp [un, h1])
    go_enter Try.func17, Try.ntmps17
    go_wp2_with (go_at_call 12; with_reducible refine C1.out.mono ?_; rintro e w1 ⟨rfl, hb1⟩)
    go_ret
    rw [HR.out]; exact WinsNew.none_ _ _ hb1
  | true =>
    rw [h1] at C1
    cases h2 : good ys with
    | false =>
      rw [h2] at C2
      have HR : Hid (un xs ys = []) := Lib.hid (by simp [un, h2])
      go_enter Try.func17, Try.ntmps17
      go_wp2_with (first | (go_at_call 12; with_reducible refine C1.out.mono ?_; rintro e w1 ⟨rfl, hb1⟩) | (go_at_call 12; with_reducible refine (C2.out _ hb1).mono ?_; rintro e w2 ⟨rfl, hb2⟩) | fail)
      go_ret
      rw [HR.out]; exact WinsNew.none_ _ _ (keep_trans hb1 hb2)
    | true =>
      rw [h2] at C2
      have HR : Hid (un xs ys = jn (ms xs ys)) := Lib.hid (by simp [un, h1, h2])
      go_enter Try.func17, Try.ntmps17
      go_wp2_with (first | (go_at_call 12; with_reducible refine C1.out.mono ?_; rintro e w1 ⟨rfl, hb1⟩) | (go_at_call 12; with_reducible refine (C2.out _ hb1).mono ?_; rintro e w2 ⟨rfl, hb2⟩; have hb3 := keep_trans hb1 hb2) | (go_at_call 37; with_reducible refine (merge_any A B n m c d w2).mono ?_; rintro e w3 ⟨rfl, rfl⟩) | (go_at_call 33; refine (C3.out _ hb3).mono ?_; rintro e w4 ⟨A4, n4, c4, rfl, hn4, hc4, hr4, hb4⟩) | fail)
      go_ret
      rw [HR.out]; exact ⟨A4, n4, c4, rfl, hn4, hc4, hr4, hb4⟩
end Go.Proofs.Ytejmfhmglbggnaa.Wn
