/- The law OrderNames walked: it answers true at every world. No condition. -/
import Derived.Test.YtcjpimocbgeheaaOrderLives
namespace Go.Proofs.Ytcjpimocbgeheaa.Od
open Go.ChangeShapes Go.WideShapes Go.ChangeAt Go.RowKit
set_option linter.unusedVariables false

theorem mg_ex : mg [(1, 0), (0, 0)] [(1, 7)] = [(1, 0), (0, 0), (1, 7)] := by
  rw [mg_ge (by decide), mg_ge (by decide), mg_nil_l]

theorem lit_rd2 (w : World) (l1 : Array Value) (t1 : TypeId) (l : Array Value) (t : TypeId) (xs : List Value) (h : xs.toArray = l) :
    Rd ((w.alloc (.cells l1 t1)).alloc (.cells l t)) (· < ((w.alloc (.cells l1 t1)).alloc (.cells l t)).heap.size) (some ⟨w.heap.size + 1, 0, none⟩) xs := by
  have h1 := lit_rd (w.alloc (.cells l1 t1)) l t xs h
  have e : (w.alloc (.cells l1 t1)).heap.size = w.heap.size + 1 := by simp
  rw [e] at h1
  exact h1

set_option maxHeartbeats 4000000 in
theorem names_all (w : World) : Calls Try.prog 3 #[] w fun e w' => e = .returned (.bool true) ∧ Below w.heap.size w w' := by
  have c6 := Lib.hid (fun W => rising_any W none 0 0 [] rfl (by omega) Rd.none_)
  have p1 : placeS (lowB 0) [2, 1] = -1 := by decide
  have p2 : placeS (upB 5) [] = 0 := by decide
  have p3 : rs [] = true := rfl
  have p4 : rs [1, 1] = false := by decide
  go_enter Try.func3, Try.ntmps3
  go_wp2_with (first
    | (go_at_call 9; refine (lives_any _).mono ?_; rintro e w0 ⟨rfl, hb0⟩)
    | (go_at_call 11; refine (merge_any _ _ _ 2 1 _ _ [(1, 0), (0, 0)] [(1, 7)] rfl rfl (by omega) ((lit_rd _ _ _ _ rfl).alloc_ _) (lit_rd2 _ _ _ _ _ _ rfl) (by omega) (by omega)).mono ?_; rintro e w1 ⟨A1, n1, c1, rfl, hn1, hc1, hr1, hb1⟩)
    | (go_at_call 10; refine (same2_key (xs := mg [(1, 0), (0, 0)] [(1, 7)]) (ys := [(1, 0), (0, 0), (1, 7)]) hn1 rfl mg_ex (by rw [hn1.out, mg_length]; decide) (hr1.old.alloc_ _) (lit_rd _ _ _ _ rfl)).mono ?_; rintro e w2 ⟨rfl, hb2⟩)
    | (go_at_call 13; refine (perm_any _ _ 3 _ [5, 2, 5] rfl (by omega) (by omega) (lit_rd _ _ _ _ rfl)).mono ?_; rintro e w3 ⟨A3, n3, c3, rfl, hn3, hc3, hr3, hb3⟩)
    | (go_at_call 12; refine (same2_int (xs := pm [5, 2, 5]) (ys := [1, 0, 2]) hn3 rfl (by decide) (by rw [hn3.out, pm_length]; decide) (hr3.old.alloc_ _) (lit_rd _ _ _ _ rfl)).mono ?_; rintro e w4 ⟨rfl, hb4⟩)
    | (go_at_call 14; (with_reducible refine (c6.out _).mono ?_); rintro e w5 ⟨rfl, hb5⟩)
    | (go_at_call 14; refine (rising_any _ _ 2 _ [1, 1] rfl (by omega) (lit_rd _ _ _ _ rfl)).mono ?_; rintro e w6 ⟨rfl, hb6⟩)
    | (go_at_call 15; refine (Lower_any _ _ 2 _ 0 [2, 1] rfl (by omega) (lit_rd _ _ _ _ rfl)).mono ?_; rintro e w7 ⟨rfl, hb7⟩)
    | (go_at_call 16; refine (Upper_any _ none 0 0 5 [] rfl (by omega) Rd.none_).mono ?_; rintro e w8 ⟨rfl, hb8⟩)
    | (go_at_call 18; refine (uniq_any _ _ 3 _ [3, 1, 3] rfl (by omega) (by omega) (lit_rd _ _ _ _ rfl)).mono ?_; rintro e w9 ⟨A9, n9, c9, rfl, hn9, hc9, hr9, hb9⟩)
    | (go_at_call 17; refine (same2_i64 (xs := uq [3, 1, 3]) (ys := [1, 3]) hn9 rfl (by decide) (by rw [hn9.out]; decide) (hr9.old.alloc_ _) (lit_rd _ _ _ _ rfl)).mono ?_; rintro e wa ⟨rfl, hba⟩))
  go_ret
  refine ⟨rfl, ?_⟩
  have k0 := keep_alloc (keep_alloc hb0 (.cells #[.int .i64 1, .int .i64 0, .int .i64 0, .int .i64 0] 25)) (.cells #[.int .i64 1, .int .i64 7] 25)
  have k2 := keep_alloc (keep_trans (keep_alloc (keep_trans k0 hb1) _) hb2) (.cells #[.int .i64 5, .int .i64 2, .int .i64 5] 2)
  have k4 := keep_trans (keep_alloc (keep_trans k2 hb3) _) hb4
  have k6 := keep_trans (keep_alloc (keep_trans k4 hb5) _) hb6
  have k8 := keep_trans (keep_trans (keep_alloc k6 _) hb7) hb8
  exact keep_trans (keep_alloc (keep_trans (keep_alloc k8 _) hb9) _) hba
end Go.Proofs.Ytcjpimocbgeheaa.Od
