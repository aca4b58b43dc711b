/- The chapter's examples hold (lives), at every world. -/
import Derived.Test.YtcjpimocbgeheaaOrderOwn
namespace Go.Proofs.Ytcjpimocbgeheaa.Od
open Go.ChangeShapes Go.WideShapes Go.ChangeAt Go.RowKit
set_option linter.unusedVariables false

theorem same2_key {w : World} {A B : Option Addr} {n m c d : Nat} {xs ys : List Key} (hn : Hid (n = xs.length)) (hm : Hid (m = ys.length)) (he : xs = ys) (hN : n ≤ 1000000) (hx : Rd w (· < w.heap.size) A (kc xs)) (hy : Rd w (· < w.heap.size) B (kc ys)) :
    Calls Try.prog 10 #[.slice A n c, .slice B m d] w fun e w' => e = .returned (.bool true) ∧ Below w.heap.size w w' := by
  subst he
  have e : m = n := by rw [hm.out, hn.out]
  subst e
  exact same_key w A B m c d xs hn hN hx hy
theorem same2_int {w : World} {A B : Option Addr} {n m c d : Nat} {xs ys : List Int} (hn : Hid (n = xs.length)) (hm : Hid (m = ys.length)) (he : xs = ys) (hN : n ≤ 1000000) (hx : Rd w (· < w.heap.size) A (ic xs)) (hy : Rd w (· < w.heap.size) B (ic ys)) :
    Calls Try.prog 12 #[.slice A n c, .slice B m d] w fun e w' => e = .returned (.bool true) ∧ Below w.heap.size w w' := by
  subst he
  have e : m = n := by rw [hm.out, hn.out]
  subst e
  exact same_int w A B m c d xs hn hN hx hy
theorem same2_i64 {w : World} {A B : Option Addr} {n m c d : Nat} {xs ys : List Int} (hn : Hid (n = xs.length)) (hm : Hid (m = ys.length)) (he : xs = ys) (hN : n ≤ 1000000) (hx : Rd w (· < w.heap.size) A (ic xs)) (hy : Rd w (· < w.heap.size) B (ic ys)) :
    Calls Try.prog 17 #[.slice A n c, .slice B m d] w fun e w' => e = .returned (.bool true) ∧ Below w.heap.size w w' := by
  subst he
  have e : m = n := by rw [hm.out, hn.out]
  subst e
  exact same_i64 w A B m c d xs hn hN hx hy

theorem lit_rd (w : World) (l : Array Value) (t : TypeId) (xs : List Value) (h : xs.toArray = l) : Rd (w.alloc (.cells l t)) (· < (w.alloc (.cells l t)).heap.size) (some ⟨w.heap.size, 0, none⟩) xs := by
  subst h
  have h := (Blk.new w t xs).rd (S := (· < (w.alloc (.cells xs.toArray t)).heap.size)) (by simp) 0
  simpa using h
theorem Rd.alloc_ {w : World} {A : Option Addr} {xs : List Value} (h : Rd w (· < w.heap.size) A xs) (o : Obj) : Rd (w.alloc o) (· < (w.alloc o).heap.size) A xs :=
  (h.keep (w' := w.alloc o) fun b hb => Below.heap_alloc w o b hb).more fun b hb => by
    have : (w.alloc o).heap.size = w.heap.size + 1 := by simp
    omega
theorem Rd.later {w w' : World} {A : Option Addr} {xs : List Value} (h : Rd w (· < w.heap.size) A xs) (hb : Below w.heap.size w w') : Rd w' (· < w'.heap.size) A xs :=
  (h.below hb).more fun b h1 => by have := hb.size; omega
theorem keep_alloc {w w' : World} (h : Below w.heap.size w w') (o : Obj) : Below w.heap.size w (w'.alloc o) := h.alloc h.size o

set_option maxHeartbeats 2000000 in
theorem lives_any (w : World) : Calls Try.prog 9 #[] w fun e w' => e = .returned (.bool true) ∧ Below w.heap.size w w' := by
  have p1 : placeS (lowB 3) [1, 3, 3, 5] = 1 := by decide
  have p2 : placeS (upB 3) [1, 3, 3, 5] = 3 := by decide
  go_enter Try.func9, Try.ntmps9
  go_wp2_with (first
    | (go_at_call 19; refine (sorted_any _ _ 3 _ [(2, 0), (1, 1), (2, 2)] rfl (by omega) (lit_rd _ _ _ _ rfl) (by omega)).mono ?_; rintro e w1 ⟨A1, n1, c1, rfl, hn1, hc1, hr1, hb1⟩)
    | (go_at_call 10; refine (same2_key (xs := srt [(2, 0), (1, 1), (2, 2)]) (ys := [(1, 1), (2, 0), (2, 2)]) hn1 rfl rfl (by rw [hn1.out, srt_length]; decide) (hr1.old.alloc_ _) (lit_rd _ _ _ _ rfl)).mono ?_; rintro e w2 ⟨rfl, hb2⟩)
    | (go_at_call 15; refine (Lower_any _ _ 4 _ 3 [1, 3, 3, 5] rfl (by omega) (lit_rd _ _ _ _ rfl)).mono ?_; rintro e w3 ⟨rfl, hb3⟩)
    | (go_at_call 16; refine (Upper_any _ _ 4 _ 3 [1, 3, 3, 5] rfl (by omega) (lit_rd _ _ _ _ rfl)).mono ?_; rintro e w4 ⟨rfl, hb4⟩))
  go_ret
  refine ⟨rfl, ?_⟩
  have k1 := keep_alloc (Below.refl w.heap.size w) (.cells #[.int .i64 2, .int .i64 0, .int .i64 1, .int .i64 1, .int .i64 2, .int .i64 2] 25)
  exact keep_trans (keep_alloc (keep_trans (keep_alloc (keep_trans (keep_alloc (keep_trans k1 hb1) _) hb2) _) hb3) _) hb4
end Go.Proofs.Ytcjpimocbgeheaa.Od
