/- The kit: runs that are the same. Conditions: rows of at most a million numbers. -/
import Derived.Test.YtfefnfifeaihhaaGreatExH
set_option linter.unusedVariables false
set_option linter.unusedSimpArgs false
set_option maxHeartbeats 4000000
set_option maxRecDepth 100000
namespace Go.Proofs.YtfefnfifeaihhaaGreat.Wo
open Go.ChangeShapes Go.WideShapes Go.ChangeAt Go.RowKit Go.Maps
open Lx Sh
theorem samet_int (w : World) (A B : Option Addr) (n c d : Nat) (l : List (Int)) (hn : Hid (n = l.length)) (hN : n ≤ 1000000) (hx : Rd w (· < w.heap.size) A (cs intC l)) (hy : Rd w (· < w.heap.size) B (cs intC l)) :
    Calls Tryz.prog 28 #[.slice A n c, .slice B n d] w (BPost w true) := by
  have HX := HH hx
  have HY := HH hy
  clear hx hy
  go_enter Tryz.func28, Tryz.ntmps28
  go_wp2
  go_loopw [5] (fun v wr => ∃ k : Nat, v = .int .i64 k ∧ k ≤ n ∧ Hid (Below w.heap.size w wr)) (fun v _ => n - (intOf v).toNat)
  case atStart => exact ⟨0, rfl, by omega, HH (Below.refl _ _)⟩
  case round =>
    obtain ⟨k, rfl, hk, HB⟩ := hrel
    by_cases hlt : k < n
    · obtain ⟨a, ha⟩ := at_in l hn hlt
      obtain ⟨ad, rfl, hS, h0, hj⟩ := rd_at 1 (fun _ => rfl) (by omega) (HX.out.below HB.out) ha
      obtain ⟨bd, rfl, hT, g0, gj⟩ := rd_at 1 (fun _ => rfl) (by omega) (HY.out.below HB.out) ha
      obtain ⟨x0, hx0⟩ : ∃ x0, x0 = a := ⟨_, rfl⟩
      subst hx0
      rw [Nat.mul_one] at h0 g0
      have a0 : wr.cell? (ad.add k) = some (.int .i64 x0) := h0
      have b0 : wr.cell? (bd.add k) = some (.int .i64 x0) := g0
      have hi : (k : Int) < (n : Int) := by omega
      clear ha h0 hj g0 gj
      go_wp2
      go_quiet (fail)
      go_wp2
      go_roundw
      case rel => exact ⟨k + 1, by go_num, by omega, HH (below_drewN HB.out _)⟩
      case measure => simp [intOf]; omega
    · go_wp2
      go_ret
      exact ⟨rfl, HB.out⟩
/-- the kit's Run, of two runs that are the same -/
theorem krun_any (w : World) (tr no : Int) (A B C D : Option Addr) (n m c d c' d' : Nat) (a e : List Int) (hn : Hid (n = a.length)) (hm : Hid (m = e.length)) (hN : n ≤ 1000000) (hM : m ≤ 1000000) (h1 : Rd w (· < w.heap.size) A (cs intC a)) (h2 : Rd w (· < w.heap.size) B (cs intC e)) (h3 : Rd w (· < w.heap.size) C (cs intC a)) (h4 : Rd w (· < w.heap.size) D (cs intC e)) :
    Calls Tryz.prog 14 #[.agg #[.int .i64 tr, .int .i64 no, .slice A n c, .slice B m d], .agg #[.int .i64 tr, .int .i64 no, .slice C n c', .slice D m d']] w (BPost w true) := by
  have S1 : Hid (∀ w', Below w.heap.size w w' → Calls Tryz.prog 28 #[.slice A n c, .slice C n c'] w' (BPost w' true)) := HH (fun w' hb => samet_int w' A C n c c' a hn hN (rd_later h1 hb) (rd_later h3 hb))
  have S2 : Hid (∀ w', Below w.heap.size w w' → Calls Tryz.prog 28 #[.slice B m d, .slice D m d'] w' (BPost w' true)) := HH (fun w' hb => samet_int w' B D m d d' e hm hM (rd_later h2 hb) (rd_later h4 hb))
  clear h1 h2 h3 h4
  go_enter Tryz.func14, Tryz.ntmps14
  go_wp2_with (first
    | (go_at_call 28; (with_reducible refine (S2.out _ ?q).mono ?_); (case q => exact HB1.out); rintro e w2 ⟨rfl, hb2⟩; have HB2 := HH (keep_trans HB1.out hb2); clear hb2)
    | (go_at_call 28; (with_reducible refine (S1.out _ ?q).mono ?_); (case q => exact two_box _ _ _); rintro e w1 ⟨rfl, hb1⟩; have HB1 := HH (keep_trans (two_box _ _ _) hb1); have k3 : w1.cell? ⟨w.heap.size, 3, none⟩ = some (.slice B m d) := (((Blk.new w 24 [.int .i64 tr, .int .i64 no, .slice A n c, .slice B m d]).alloc (.cells #[.int .i64 tr, .int .i64 no, .slice C n c', .slice D m d'] 24)).after hb1).cell 3; have k4 : w1.cell? ⟨w.heap.size + 1, 3, none⟩ = some (.slice D m d') := ((Blk.new2 w (.cells #[.int .i64 tr, .int .i64 no, .slice A n c, .slice B m d] 24) 24 [.int .i64 tr, .int .i64 no, .slice C n c', .slice D m d']).after hb1).cell 3; clear hb1))
  go_ret
  exact ⟨rfl, HB2.out⟩
end Go.Proofs.YtfefnfifeaihhaaGreat.Wo
