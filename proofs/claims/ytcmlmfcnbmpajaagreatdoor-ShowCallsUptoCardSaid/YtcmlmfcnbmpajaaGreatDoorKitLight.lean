/- The kit's looks at how much there is in a sheet, proved by walking their texts. Conditions: at most a million things in each row. -/
import Derived.Test.YtcmlmfcnbmpajaaGreatDoorSheetCheck
namespace Go.Proofs.YtcmlmfcnbmpajaaGreatDoor.Sh
open Go.ChangeShapes Go.WideShapes Go.ChangeAt Go.RowKit
open Lx
set_option linter.unusedVariables false
set_option linter.unusedSimpArgs false
def lightR (r : RouteM) : Bool := decide (r.stops.length ≤ 60) && (decide (r.rides.length ≤ 60) && decide (r.stays.length ≤ 60))
def lightM (x : SheetM) : Bool := decide (x.stops.length ≤ 60) && decide (x.paths.length ≤ 60) && decide (x.doors.length ≤ 60) && decide (x.routes.length ≤ 60) && decide (x.trips.length ≤ 60) && decide (x.hazards.length ≤ 60) && x.routes.all lightR
set_option maxRecDepth 100000 in
set_option maxHeartbeats 2000000 in
theorem lightR_any (r : RouteM) (sa ra ya : Option Addr) (sc rc yc : Nat) (w : World) : Calls Tryz.prog 8 #[rtV r sa ra ya sc rc yc, .int .i64 60] w (BPost w (lightR r)) := by
  obtain ⟨nm, st, ri, sy⟩ := r
  simp only [lightR]
  show Calls _ _ #[.agg #[.string ⟨nm.toArray⟩, .slice sa st.length sc, .slice ra ri.length rc, .slice ya sy.length yc], .int .i64 60] _ _
  generalize st.length = n1 at *
  generalize ri.length = n2 at *
  generalize sy.length = n3 at *
  go_enter Tryz.func8, Tryz.ntmps8
  go_wp2
  all_goals go_ret
  all_goals exact ⟨congrArg (fun b => Ending.returned (Value.bool b)) (by rw [Bool.eq_iff_iff]; simp; omega), one_box _ _⟩
set_option maxRecDepth 100000 in
set_option maxHeartbeats 4000000 in
theorem light_any (x : SheetM) (p : ShA) (w : World) (h : Sh w (· < w.heap.size) x p) : Calls Tryz.prog 7 #[shV x p, .int .i64 60] w (BPost w (lightM x)) := by
  obtain ⟨cr, r4, r4'⟩ := h.r4
  clear h
  obtain ⟨hz, st, pa, dos, ro, tr, ha⟩ := x
  obtain ⟨a1, a2, a3, a4, a5, a6, c1, c2, c3, c4, c5, c6⟩ := p
  dsimp only at r4 r4'
  have H4 := Lib.hid r4
  have H4' := Lib.hid r4'
  clear r4 r4'
  simp only [lightM]
  show Calls _ _ #[.agg #[.int .i64 hz, .slice a1 st.length c1, .slice a2 pa.length c2, .slice a3 dos.length c3, .slice a4 ro.length c4, .slice a5 tr.length c5, .slice a6 ha.length c6], .int .i64 60] _ _
  obtain ⟨n4, hn4⟩ : ∃ n, n = ro.length := ⟨_, rfl⟩
  rw [← hn4]
  have HN4 := Lib.hid hn4
  clear hn4
  obtain ⟨B, hB⟩ : ∃ B, B = ro.all lightR := ⟨_, rfl⟩
  rw [← hB]
  have HBB := Lib.hid hB
  clear hB
  generalize st.length = n1 at *
  generalize pa.length = n2 at *
  generalize dos.length = n3 at *
  generalize tr.length = n5 at *
  generalize ha.length = n6 at *
  by_cases h1 : 60 < n1
  · have g1 : (60 : Int) < (n1 : Int) := by omega
    have hq : (decide (n1 ≤ 60) && decide (n2 ≤ 60) && decide (n3 ≤ 60) && decide (n4 ≤ 60) && decide (n5 ≤ 60) && decide (n6 ≤ 60) && B) = false := by
      have : decide (n1 ≤ 60) = false := decide_eq_false (by omega)
      rw [this]
      simp
    rw [hq]
    clear hq
    go_enter Tryz.func7, Tryz.ntmps7
    go_wp2
    go_ret
    exact ⟨rfl, one_box _ _⟩
  have g1 : ¬ (60 : Int) < (n1 : Int) := by omega
  by_cases h2 : 60 < n2
  · have g2 : (60 : Int) < (n2 : Int) := by omega
    have hq : (decide (n1 ≤ 60) && decide (n2 ≤ 60) && decide (n3 ≤ 60) && decide (n4 ≤ 60) && decide (n5 ≤ 60) && decide (n6 ≤ 60) && B) = false := by
      have : decide (n2 ≤ 60) = false := decide_eq_false (by omega)
      rw [this]
      simp
    rw [hq]
    clear hq
    go_enter Tryz.func7, Tryz.ntmps7
    go_wp2
    go_ret
    exact ⟨rfl, one_box _ _⟩
  have g2 : ¬ (60 : Int) < (n2 : Int) := by omega
  by_cases h3 : 60 < n3
  · have g3 : (60 : Int) < (n3 : Int) := by omega
    have hq : (decide (n1 ≤ 60) && decide (n2 ≤ 60) && decide (n3 ≤ 60) && decide (n4 ≤ 60) && decide (n5 ≤ 60) && decide (n6 ≤ 60) && B) = false := by
      have : decide (n3 ≤ 60) = false := decide_eq_false (by omega)
      rw [this]
      simp
    rw [hq]
    clear hq
    go_enter Tryz.func7, Tryz.ntmps7
    go_wp2
    go_ret
    exact ⟨rfl, one_box _ _⟩
  have g3 : ¬ (60 : Int) < (n3 : Int) := by omega
  by_cases h4 : 60 < n4
  · have g4 : (60 : Int) < (n4 : Int) := by omega
    have hq : (decide (n1 ≤ 60) && decide (n2 ≤ 60) && decide (n3 ≤ 60) && decide (n4 ≤ 60) && decide (n5 ≤ 60) && decide (n6 ≤ 60) && B) = false := by
      have : decide (n4 ≤ 60) = false := decide_eq_false (by omega)
      rw [this]
      simp
    rw [hq]
    clear hq
    go_enter Tryz.func7, Tryz.ntmps7
    go_wp2
    go_ret
    exact ⟨rfl, one_box _ _⟩
  have g4 : ¬ (60 : Int) < (n4 : Int) := by omega
  by_cases h5 : 60 < n5
  · have g5 : (60 : Int) < (n5 : Int) := by omega
    have hq : (decide (n1 ≤ 60) && decide (n2 ≤ 60) && decide (n3 ≤ 60) && decide (n4 ≤ 60) && decide (n5 ≤ 60) && decide (n6 ≤ 60) && B) = false := by
      have : decide (n5 ≤ 60) = false := decide_eq_false (by omega)
      rw [this]
      simp
    rw [hq]
    clear hq
    go_enter Tryz.func7, Tryz.ntmps7
    go_wp2
    go_ret
    exact ⟨rfl, one_box _ _⟩
  have g5 : ¬ (60 : Int) < (n5 : Int) := by omega
  by_cases h6 : 60 < n6
  · have g6 : (60 : Int) < (n6 : Int) := by omega
    have hq : (decide (n1 ≤ 60) && decide (n2 ≤ 60) && decide (n3 ≤ 60) && decide (n4 ≤ 60) && decide (n5 ≤ 60) && decide (n6 ≤ 60) && B) = false := by
      have : decide (n6 ≤ 60) = false := decide_eq_false (by omega)
      rw [this]
      simp
    rw [hq]
    clear hq
    go_enter Tryz.func7, Tryz.ntmps7
    go_wp2
    go_ret
    exact ⟨rfl, one_box _ _⟩
  have g6 : ¬ (60 : Int) < (n6 : Int) := by omega
  have hq : (decide (n1 ≤ 60) && decide (n2 ≤ 60) && decide (n3 ≤ 60) && decide (n4 ≤ 60) && decide (n5 ≤ 60) && decide (n6 ≤ 60) && B) = B := by
    rw [decide_eq_true (by omega : n1 ≤ 60), decide_eq_true (by omega : n2 ≤ 60), decide_eq_true (by omega : n3 ≤ 60), decide_eq_true (by omega : n4 ≤ 60), decide_eq_true (by omega : n5 ≤ 60), decide_eq_true (by omega : n6 ≤ 60)]
    simp
  rw [hq]
  clear hq
  go_enter Tryz.func7, Tryz.ntmps7
  go_wp2
  go_loopw [5] (fun v wr => ∃ i : Nat, v = .int .i64 i ∧ i ≤ n4 ∧ Hid ((ro.take i).all lightR = true) ∧ Hid (Below w.heap.size w wr) ∧ Hid (Blk wr w.heap.size 29 [.int .i64 hz, .slice a1 n1 c1, .slice a2 n2 c2, .slice a3 n3 c3, .slice a4 n4 c4, .slice a5 n5 c5, .slice a6 n6 c6])) (fun v _ => n4 - (intOf v).toNat)
  case atStart => exact ⟨0, rfl, by omega, Lib.hid (by simp), Lib.hid (one_box _ _), Lib.hid (Blk.new w _ [.int .i64 hz, .slice a1 n1 c1, .slice a2 n2 c2, .slice a3 n3 c3, .slice a4 n4 c4, .slice a5 n5 c5, .slice a6 n6 c6])⟩
  case round =>
    obtain ⟨i, rfl, hi, HT, HB, HK⟩ := hrel
    by_cases hlt : i < n4
    · have hi1 : (i : Int) < (n4 : Int) := by omega
      obtain ⟨a, ha'⟩ := at_in (k := i) ro HN4 hlt
      obtain ⟨ad, rfl, hS, sa, sc, ra, rc, ya, yc, x0, x1, x2, x3, hg⟩ := rts_at (rd_later H4.out HB.out) (H4'.out.later HB.out) ha'
      have kk : wr.cell? ⟨w.heap.size, 4, none⟩ = some (.slice (some ad) n4 c4) := HK.out.cell 4
      have LR := Lib.hid (fun w' => lightR_any a sa ra ya sc rc yc w')
      dsimp only [rtV] at LR
      cases hq : lightR a with
      | true =>
        rw [hq] at LR
        have HT2 := Lib.hid (all_take ha' HT.out hq)
        clear ha' hg hq
        generalize a.stops.length = m1 at *
        generalize a.rides.length = m2 at *
        generalize a.stays.length = m3 at *
        go_wp2_with (first | (go_at_call 8; (with_reducible refine (LR.out _).mono ?_); rintro e w4 ⟨rfl, hb⟩; have Q := Lib.hid hb; clear hb) | fail)
        go_roundw
        case rel => exact ⟨i + 1, by go_num, by omega, HT2, Lib.hid (keep_trans HB.out Q.out), Lib.hid (HK.out.after Q.out)⟩
        case measure => simp [intOf]; omega
      | false =>
        rw [hq] at LR
        have HNO := Lib.hid (HBB.out.trans (all_no ha' hq))
        clear ha' hg hq
        generalize a.stops.length = m1 at *
        generalize a.rides.length = m2 at *
        generalize a.stays.length = m3 at *
        go_wp2_with (first | (go_at_call 8; (with_reducible refine (LR.out _).mono ?_); rintro e w4 ⟨rfl, hb⟩; have Q := Lib.hid hb; clear hb) | fail)
        go_ret
        exact ⟨by rw [HNO.out]; rfl, keep_trans HB.out Q.out⟩
    · have hi1 : ¬ (i : Int) < (n4 : Int) := by omega
      have kk : wr.cell? ⟨w.heap.size, 4, none⟩ = some (.slice a4 n4 c4) := HK.out.cell 4
      have HA := Lib.hid (HBB.out.trans (all_full HT.out (by rw [← HN4.out]; omega)))
      go_wp2
      go_ret
      exact ⟨by rw [HA.out]; rfl, HB.out⟩
end Go.Proofs.YtcmlmfcnbmpajaaGreatDoor.Sh

