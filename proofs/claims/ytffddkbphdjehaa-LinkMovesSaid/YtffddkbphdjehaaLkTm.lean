/- Contract of package link's timed. Conditions: rows hold at most 10,000 windows. -/
import Derived.Test.YtffddkbphdjehaaLkSm
import Derived.BigQuiet
namespace Go.Proofs.Ytffddkbphdjehaa.Lk
open Go.ChangeShapes Go.WideShapes Go.ChangeAt Go.RowKit
open Wn
set_option linter.unusedVariables false
set_option linter.unusedSimpArgs false
attribute [local go_sem] Oper.semAt_some

set_option maxHeartbeats 2000000 in
theorem timed_any (y : LnA) (w : World) (h : LnOk w (· < w.heap.size) y) (ho : y.l.op.length ≤ 10000) (hc : y.l.cl.length ≤ 10000) : Calls Try.prog 17 #[lnV y] w fun e w' => e = .returned (.bool (timed y.l)) ∧ Below w.heap.size w w' := by
  have HV : Hid (timed y.l = if y.l.door = true then good y.l.op && decide (y.l.op.length = y.l.op.length ∧ y.l.cl.length = 0) else good y.l.cl && decide (y.l.op.length = 0)) := Lib.hid (by unfold timed; simp)
  generalize timed y.l = R at HV ⊢
  have CO0 : ∀ W, Below w.heap.size w W → Calls Try.prog 14 #[.slice y.p y.l.op.length y.c] W fun e w' => e = .returned (.bool (good y.l.op)) ∧ Below W.heap.size W w' := fun W hW => good_any W _ _ _ _ (Lib.hid rfl) (by omega) (h.later hW).ro
  have CC0 : ∀ W, Below w.heap.size w W → Calls Try.prog 14 #[.slice y.q y.l.cl.length y.d] W fun e w' => e = .returned (.bool (good y.l.cl)) ∧ Below W.heap.size W w' := fun W hW => good_any W _ _ _ _ (Lib.hid rfl) (by omega) (h.later hW).rc
  clear h
  obtain ⟨⟨a, b, len, door, of_, op, cl⟩, p, c, q, d⟩ := y
  obtain ⟨g, hg⟩ : ∃ g, g = good op := ⟨_, rfl⟩
  obtain ⟨f, hf⟩ : ∃ f, f = good cl := ⟨_, rfl⟩
  obtain ⟨n, hn⟩ : ∃ n, n = op.length := ⟨_, rfl⟩
  obtain ⟨m, hm⟩ : ∃ m, m = cl.length := ⟨_, rfl⟩
  dsimp only at HV CO0 CC0 ho hc
  rw [← hg, ← hf, ← hn, ← hm] at HV
  rw [← hg, ← hn] at CO0
  rw [← hf, ← hm] at CC0
  have CO := Lib.hid CO0
  have CC := Lib.hid CC0
  clear CO0 CC0 hg hf
  show Calls _ _ #[.agg #[.int .i64 a, .int .i64 b, .int .i64 len, .bool door, .int .i64 of_, .slice p op.length c, .slice q cl.length d]] _ _
  rw [← hn, ← hm]
  clear hn hm ho hc
  have B0 := Lib.hid ((Below.refl w.heap.size w).alloc (Nat.le_refl _) (.cells #[.int .i64 a, .int .i64 b, .int .i64 len, .bool door, .int .i64 of_, .slice p n c, .slice q m d] 35))
  have KB : Hid (∀ k w1, Below ((w.alloc (.cells #[.int .i64 a, .int .i64 b, .int .i64 len, .bool door, .int .i64 of_, .slice p n c, .slice q m d] 35)).drewN k).heap.size ((w.alloc (.cells #[.int .i64 a, .int .i64 b, .int .i64 len, .bool door, .int .i64 of_, .slice p n c, .slice q m d] 35)).drewN k) w1 → Below w.heap.size w w1) := Lib.hid fun k w1 h1 => (below_drewN B0.out k).trans (h1.mono B0.out.size)
  cases door with
  | true =>
    cases g with
    | false =>
      have HR : Hid (R = false) := Lib.hid (by rw [HV.out]; simp)
      clear HV
      go_enter Try.func17, Try.ntmps17
      go_wp2
      go_quiet (fail)
      go_wp2
      go_quiet (fail)
      go_wp2_with (go_at_call 14; with_reducible refine (CO.out _ (by first | exact B0.out | exact below_drewN B0.out _ | exact below_drewN (below_drewN B0.out _) _)).mono ?_; rintro e w1 ⟨rfl, hb1⟩)
      go_ret
      exact ⟨ret_b HR.out, KB.out _ _ hb1⟩
    | true =>
      by_cases h0 : m = 0
      · subst h0
        have HR : Hid (R = true) := Lib.hid (by rw [HV.out]; simp)
        clear HV
        go_enter Try.func17, Try.ntmps17
        go_wp2
        go_quiet (fail)
        go_wp2
        go_quiet (fail)
        go_wp2_with (go_at_call 14; with_reducible refine (CO.out _ (by first | exact B0.out | exact below_drewN B0.out _ | exact below_drewN (below_drewN B0.out _) _)).mono ?_; rintro e w1 ⟨rfl, hb1⟩)
        go_ret
        exact ⟨ret_b HR.out, KB.out _ _ hb1⟩
      · have HR : Hid (R = false) := Lib.hid (by rw [HV.out]; simp [h0])
        have hne : ((m : Int) == 0) = false := by simpa using h0
        clear HV
        go_enter Try.func17, Try.ntmps17
        go_wp2
        go_quiet (fail)
        go_wp2
        go_quiet (fail)
        go_wp2_with (go_at_call 14; with_reducible refine (CO.out _ (by first | exact B0.out | exact below_drewN B0.out _ | exact below_drewN (below_drewN B0.out _) _)).mono ?_; rintro e w1 ⟨rfl, hb1⟩)
        go_ret
        exact ⟨ret_b HR.out, KB.out _ _ hb1⟩
  | false =>
    cases f with
    | false =>
      have HR : Hid (R = false) := Lib.hid (by rw [HV.out]; simp)
      clear HV
      go_enter Try.func17, Try.ntmps17
      go_wp2
      go_quiet (fail)
      go_wp2_with (go_at_call 14; with_reducible refine (CC.out _ (by first | exact B0.out | exact below_drewN B0.out _ | exact below_drewN (below_drewN B0.out _) _)).mono ?_; rintro e w1 ⟨rfl, hb1⟩)
      go_ret
      exact ⟨ret_b HR.out, KB.out _ _ hb1⟩
    | true =>
      by_cases h0 : n = 0
      · subst h0
        have HR : Hid (R = true) := Lib.hid (by rw [HV.out]; simp)
        clear HV
        go_enter Try.func17, Try.ntmps17
        go_wp2
        go_quiet (fail)
        go_wp2_with (go_at_call 14; with_reducible refine (CC.out _ (by first | exact B0.out | exact below_drewN B0.out _ | exact below_drewN (below_drewN B0.out _) _)).mono ?_; rintro e w1 ⟨rfl, hb1⟩)
        go_ret
        exact ⟨ret_b HR.out, KB.out _ _ hb1⟩
      · have HR : Hid (R = false) := Lib.hid (by rw [HV.out]; simp [h0])
        have hne : ((n : Int) == 0) = false := by simpa using h0
        clear HV
        go_enter Try.func17, Try.ntmps17
        go_wp2
        go_quiet (fail)
        go_wp2_with (go_at_call 14; with_reducible refine (CC.out _ (by first | exact B0.out | exact below_drewN B0.out _ | exact below_drewN (below_drewN B0.out _) _)).mono ?_; rintro e w1 ⟨rfl, hb1⟩)
        go_ret
        exact ⟨ret_b HR.out, KB.out _ _ hb1⟩
end Go.Proofs.Ytffddkbphdjehaa.Lk
