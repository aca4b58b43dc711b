/- The kit's Same of two rows that may differ: whether they are the same. Conditions: the rows have at most a million things. · The kit's Route and Sheet of two that may differ: whether they are the same. Conditions: their rows have at most a million things. -/
import Derived.Test.YtgdanbfglefiiaaGreatBaH
import Derived.Deep.RegionHeld3
namespace Go.Proofs.YtgdanbfglefiiaaGreat.Sh
open Go.ChangeShapes Go.WideShapes Go.ChangeAt Go.RowKit
open Lx
set_option linter.unusedVariables false
set_option linter.unusedSimpArgs false
set_option maxRecDepth 100000 in
set_option maxHeartbeats 2000000 in
theorem samed_path (w : World) (A B : Option Addr) (n m c d : Nat) (l q : List (PathM)) (hn : Hid (n = l.length)) (hm : Hid (m = q.length)) (hN : n ≤ 1000000) (hM : m ≤ 1000000) (hx : Rd w (· < w.heap.size) A (cs paC l)) (hy : Rd w (· < w.heap.size) B (cs paC q)) :
    Calls Tryz.prog 39 #[.slice A n c, .slice B m d] w (BPost w (decide (l = q))) := by
  have HX := Lib.hid hx
  have HY := Lib.hid hy
  clear hx hy
  by_cases hnm : n = m
  · subst hnm
    go_enter Tryz.func39, Tryz.ntmps39
    go_wp2
    go_loopw [5] (fun v wr => ∃ k : Nat, v = .int .i64 k ∧ k ≤ n ∧ Hid (l.take k = q.take k) ∧ Hid (Below w.heap.size w wr)) (fun v _ => n - (intOf v).toNat)
    case atStart => exact ⟨0, rfl, by omega, Lib.hid (by simp), Lib.hid (Below.refl _ _)⟩
    case round =>
      obtain ⟨k, rfl, hk, HT, HB⟩ := hrel
      by_cases hlt : k < n
      · obtain ⟨a, ha⟩ := at_in l hn hlt
        obtain ⟨b, hb⟩ := at_in q hm hlt
        have HA := Lib.hid ha
        have HBB := Lib.hid hb
        obtain ⟨ad, rfl, hS, h0, hj⟩ := rd_at 4 (fun _ => rfl) (by omega) (HX.out.below HB.out) ha
        obtain ⟨bd, rfl, hT, g0, gj⟩ := rd_at 4 (fun _ => rfl) (by omega) (HY.out.below HB.out) hb
        have hi : (k : Int) < (n : Int) := by omega
        clear ha hb
        obtain ⟨x0, x1, x2, x3⟩ := a
        obtain ⟨y0, y1, y2, y3⟩ := b
        have a0 : wr.cell? (ad.add (k * 4)) = some (.string ⟨x0.toArray⟩) := h0
        have a1 : wr.cell? ⟨(ad.add (k * 4)).block, (ad.add (k * 4)).off + 1, none⟩ = some (.string ⟨x1.toArray⟩) := (hj 1 (by omega)).resolve_right (by omega)
        have a2 : wr.cell? ⟨(ad.add (k * 4)).block, (ad.add (k * 4)).off + 2, none⟩ = some (.string ⟨x2.toArray⟩) := (hj 2 (by omega)).resolve_right (by omega)
        have a3 : wr.cell? ⟨(ad.add (k * 4)).block, (ad.add (k * 4)).off + 3, none⟩ = some (.int .i64 x3) := (hj 3 (by omega)).resolve_right (by omega)
        have b0 : wr.cell? (bd.add (k * 4)) = some (.string ⟨y0.toArray⟩) := g0
        have b1 : wr.cell? ⟨(bd.add (k * 4)).block, (bd.add (k * 4)).off + 1, none⟩ = some (.string ⟨y1.toArray⟩) := (gj 1 (by omega)).resolve_right (by omega)
        have b2 : wr.cell? ⟨(bd.add (k * 4)).block, (bd.add (k * 4)).off + 2, none⟩ = some (.string ⟨y2.toArray⟩) := (gj 2 (by omega)).resolve_right (by omega)
        have b3 : wr.cell? ⟨(bd.add (k * 4)).block, (bd.add (k * 4)).off + 3, none⟩ = some (.int .i64 y3) := (gj 3 (by omega)).resolve_right (by omega)
        clear h0 hj g0 gj
        by_cases e0 : x0 = y0
        · subst e0
          by_cases e1 : x1 = y1
          · subst e1
            by_cases e2 : x2 = y2
            · subst e2
              by_cases e3 : x3 = y3
              · subst e3
                go_wp2
                go_quiet (fail)
                go_wp2
                go_roundw
                case rel => exact ⟨k + 1, by go_num, by omega, Lib.hid (take_more2 HT.out HA.out HBB.out rfl), Lib.hid (below_drewN HB.out _)⟩
                case measure => simp [intOf]; omega
              · have t3 : (x3 == y3) = false := beq_eq_false_iff_ne.2 e3
                have HNE := Lib.hid (row_ne HA.out HBB.out (by intro e; cases e; exact e3 rfl))
                clear e3
                go_wp2
                go_quiet (fail)
                go_wp2
                go_ret
                exact ⟨by rw [HNE.out]; rfl, below_drewN HB.out _⟩
            · have t2 : (x2 == y2) = false := beq_eq_false_iff_ne.2 e2
              have HNE := Lib.hid (row_ne HA.out HBB.out (by intro e; cases e; exact e2 rfl))
              clear e2
              go_wp2
              go_quiet (fail)
              go_wp2
              go_ret
              exact ⟨by rw [HNE.out]; rfl, below_drewN HB.out _⟩
          · have t1 : (x1 == y1) = false := beq_eq_false_iff_ne.2 e1
            have HNE := Lib.hid (row_ne HA.out HBB.out (by intro e; cases e; exact e1 rfl))
            clear e1
            go_wp2
            go_quiet (fail)
            go_wp2
            go_ret
            exact ⟨by rw [HNE.out]; rfl, below_drewN HB.out _⟩
        · have t0 : (x0 == y0) = false := beq_eq_false_iff_ne.2 e0
          have HNE := Lib.hid (row_ne HA.out HBB.out (by intro e; cases e; exact e0 rfl))
          clear e0
          go_wp2
          go_quiet (fail)
          go_wp2
          go_ret
          exact ⟨by rw [HNE.out]; rfl, below_drewN HB.out _⟩
      · have e : l = q := by
          have h1 := HT.out
          rwa [List.take_of_length_le (by have := hn.out; omega), List.take_of_length_le (by have := hm.out; omega)] at h1
        have HD : Hid (decide (l = q) = true) := Lib.hid (decide_eq_true e)
        clear e
        go_wp2
        go_ret
        exact ⟨by rw [HD.out]; rfl, HB.out⟩
  · have HD : Hid (decide (l = q) = false) := Lib.hid (by rw [decide_eq_false_iff_not]; rintro rfl; exact hnm (hn.out.trans hm.out.symm))
    rw [HD.out]
    have hne : ((n : Int) == (m : Int)) = false := by rw [beq_eq_false_iff_ne]; omega
    have hn2 : ¬ n = m := hnm
    clear hnm
    go_enter Tryz.func39, Tryz.ntmps39
    go_wp2
    go_ret
    exact ⟨rfl, Below.refl _ _⟩
set_option maxRecDepth 100000 in
set_option maxHeartbeats 2000000 in
theorem samed_door (w : World) (A B : Option Addr) (n m c d : Nat) (l q : List (DoorM)) (hn : Hid (n = l.length)) (hm : Hid (m = q.length)) (hN : n ≤ 1000000) (hM : m ≤ 1000000) (hx : Rd w (· < w.heap.size) A (cs doC l)) (hy : Rd w (· < w.heap.size) B (cs doC q)) :
    Calls Tryz.prog 40 #[.slice A n c, .slice B m d] w (BPost w (decide (l = q))) := by
  have HX := Lib.hid hx
  have HY := Lib.hid hy
  clear hx hy
  by_cases hnm : n = m
  · subst hnm
    go_enter Tryz.func40, Tryz.ntmps40
    go_wp2
    go_loopw [5] (fun v wr => ∃ k : Nat, v = .int .i64 k ∧ k ≤ n ∧ Hid (l.take k = q.take k) ∧ Hid (Below w.heap.size w wr)) (fun v _ => n - (intOf v).toNat)
    case atStart => exact ⟨0, rfl, by omega, Lib.hid (by simp), Lib.hid (Below.refl _ _)⟩
    case round =>
      obtain ⟨k, rfl, hk, HT, HB⟩ := hrel
      by_cases hlt : k < n
      · obtain ⟨a, ha⟩ := at_in l hn hlt
        obtain ⟨b, hb⟩ := at_in q hm hlt
        have HA := Lib.hid ha
        have HBB := Lib.hid hb
        obtain ⟨ad, rfl, hS, h0, hj⟩ := rd_at 7 (fun _ => rfl) (by omega) (HX.out.below HB.out) ha
        obtain ⟨bd, rfl, hT, g0, gj⟩ := rd_at 7 (fun _ => rfl) (by omega) (HY.out.below HB.out) hb
        have hi : (k : Int) < (n : Int) := by omega
        clear ha hb
        obtain ⟨x0, x1, x2, x3, ⟨x4, x5, x6⟩⟩ := a
        obtain ⟨y0, y1, y2, y3, ⟨y4, y5, y6⟩⟩ := b
        have a0 : wr.cell? (ad.add (k * 7)) = some (.string ⟨x0.toArray⟩) := h0
        have a1 : wr.cell? ⟨(ad.add (k * 7)).block, (ad.add (k * 7)).off + 1, none⟩ = some (.string ⟨x1.toArray⟩) := (hj 1 (by omega)).resolve_right (by omega)
        have a2 : wr.cell? ⟨(ad.add (k * 7)).block, (ad.add (k * 7)).off + 2, none⟩ = some (.string ⟨x2.toArray⟩) := (hj 2 (by omega)).resolve_right (by omega)
        have a3 : wr.cell? ⟨(ad.add (k * 7)).block, (ad.add (k * 7)).off + 3, none⟩ = some (.int .i64 x3) := (hj 3 (by omega)).resolve_right (by omega)
        have a4 : wr.cell? ⟨(ad.add (k * 7)).block, (ad.add (k * 7)).off + 4, none⟩ = some (.int .i64 x4) := (hj 4 (by omega)).resolve_right (by omega)
        have a5 : wr.cell? ⟨(ad.add (k * 7)).block, (ad.add (k * 7)).off + 5, none⟩ = some (.int .i64 x5) := (hj 5 (by omega)).resolve_right (by omega)
        have a6 : wr.cell? ⟨(ad.add (k * 7)).block, (ad.add (k * 7)).off + 6, none⟩ = some (.int .i64 x6) := (hj 6 (by omega)).resolve_right (by omega)
        have b0 : wr.cell? (bd.add (k * 7)) = some (.string ⟨y0.toArray⟩) := g0
        have b1 : wr.cell? ⟨(bd.add (k * 7)).block, (bd.add (k * 7)).off + 1, none⟩ = some (.string ⟨y1.toArray⟩) := (gj 1 (by omega)).resolve_right (by omega)
        have b2 : wr.cell? ⟨(bd.add (k * 7)).block, (bd.add (k * 7)).off + 2, none⟩ = some (.string ⟨y2.toArray⟩) := (gj 2 (by omega)).resolve_right (by omega)
        have b3 : wr.cell? ⟨(bd.add (k * 7)).block, (bd.add (k * 7)).off + 3, none⟩ = some (.int .i64 y3) := (gj 3 (by omega)).resolve_right (by omega)
        have b4 : wr.cell? ⟨(bd.add (k * 7)).block, (bd.add (k * 7)).off + 4, none⟩ = some (.int .i64 y4) := (gj 4 (by omega)).resolve_right (by omega)
        have b5 : wr.cell? ⟨(bd.add (k * 7)).block, (bd.add (k * 7)).off + 5, none⟩ = some (.int .i64 y5) := (gj 5 (by omega)).resolve_right (by omega)
        have b6 : wr.cell? ⟨(bd.add (k * 7)).block, (bd.add (k * 7)).off + 6, none⟩ = some (.int .i64 y6) := (gj 6 (by omega)).resolve_right (by omega)
        clear h0 hj g0 gj
        by_cases e0 : x0 = y0
        · subst e0
          by_cases e1 : x1 = y1
          · subst e1
            by_cases e2 : x2 = y2
            · subst e2
              by_cases e3 : x3 = y3
              · subst e3
                by_cases e4 : x4 = y4
                · subst e4
                  by_cases e5 : x5 = y5
                  · subst e5
                    by_cases e6 : x6 = y6
                    · subst e6
                      go_wp2
                      go_quiet (fail)
                      go_wp2
                      go_roundw
                      case rel => exact ⟨k + 1, by go_num, by omega, Lib.hid (take_more2 HT.out HA.out HBB.out rfl), Lib.hid (below_drewN HB.out _)⟩
                      case measure => simp [intOf]; omega
                    · have t6 : (x6 == y6) = false := beq_eq_false_iff_ne.2 e6
                      have HNE := Lib.hid (row_ne HA.out HBB.out (by intro e; cases e; exact e6 rfl))
                      clear e6
                      go_wp2
                      go_quiet (fail)
                      go_wp2
                      go_ret
                      exact ⟨by rw [HNE.out]; rfl, below_drewN HB.out _⟩
                  · have t5 : (x5 == y5) = false := beq_eq_false_iff_ne.2 e5
                    have HNE := Lib.hid (row_ne HA.out HBB.out (by intro e; cases e; exact e5 rfl))
                    clear e5
                    go_wp2
                    go_quiet (fail)
                    go_wp2
                    go_ret
                    exact ⟨by rw [HNE.out]; rfl, below_drewN HB.out _⟩
                · have t4 : (x4 == y4) = false := beq_eq_false_iff_ne.2 e4
                  have HNE := Lib.hid (row_ne HA.out HBB.out (by intro e; cases e; exact e4 rfl))
                  clear e4
                  go_wp2
                  go_quiet (fail)
                  go_wp2
                  go_ret
                  exact ⟨by rw [HNE.out]; rfl, below_drewN HB.out _⟩
              · have t3 : (x3 == y3) = false := beq_eq_false_iff_ne.2 e3
                have HNE := Lib.hid (row_ne HA.out HBB.out (by intro e; cases e; exact e3 rfl))
                clear e3
                go_wp2
                go_quiet (fail)
                go_wp2
                go_ret
                exact ⟨by rw [HNE.out]; rfl, below_drewN HB.out _⟩
            · have t2 : (x2 == y2) = false := beq_eq_false_iff_ne.2 e2
              have HNE := Lib.hid (row_ne HA.out HBB.out (by intro e; cases e; exact e2 rfl))
              clear e2
              go_wp2
              go_quiet (fail)
              go_wp2
              go_ret
              exact ⟨by rw [HNE.out]; rfl, below_drewN HB.out _⟩
          · have t1 : (x1 == y1) = false := beq_eq_false_iff_ne.2 e1
            have HNE := Lib.hid (row_ne HA.out HBB.out (by intro e; cases e; exact e1 rfl))
            clear e1
            go_wp2
            go_quiet (fail)
            go_wp2
            go_ret
            exact ⟨by rw [HNE.out]; rfl, below_drewN HB.out _⟩
        · have t0 : (x0 == y0) = false := beq_eq_false_iff_ne.2 e0
          have HNE := Lib.hid (row_ne HA.out HBB.out (by intro e; cases e; exact e0 rfl))
          clear e0
          go_wp2
          go_quiet (fail)
          go_wp2
          go_ret
          exact ⟨by rw [HNE.out]; rfl, below_drewN HB.out _⟩
      · have e : l = q := by
          have h1 := HT.out
          rwa [List.take_of_length_le (by have := hn.out; omega), List.take_of_length_le (by have := hm.out; omega)] at h1
        have HD : Hid (decide (l = q) = true) := Lib.hid (decide_eq_true e)
        clear e
        go_wp2
        go_ret
        exact ⟨by rw [HD.out]; rfl, HB.out⟩
  · have HD : Hid (decide (l = q) = false) := Lib.hid (by rw [decide_eq_false_iff_not]; rintro rfl; exact hnm (hn.out.trans hm.out.symm))
    rw [HD.out]
    have hne : ((n : Int) == (m : Int)) = false := by rw [beq_eq_false_iff_ne]; omega
    have hn2 : ¬ n = m := hnm
    clear hnm
    go_enter Tryz.func40, Tryz.ntmps40
    go_wp2
    go_ret
    exact ⟨rfl, Below.refl _ _⟩
set_option maxRecDepth 100000 in
set_option maxHeartbeats 2000000 in
theorem samed_trip (w : World) (A B : Option Addr) (n m c d : Nat) (l q : List (TripM)) (hn : Hid (n = l.length)) (hm : Hid (m = q.length)) (hN : n ≤ 1000000) (hM : m ≤ 1000000) (hx : Rd w (· < w.heap.size) A (cs trC l)) (hy : Rd w (· < w.heap.size) B (cs trC q)) :
    Calls Tryz.prog 41 #[.slice A n c, .slice B m d] w (BPost w (decide (l = q))) := by
  have HX := Lib.hid hx
  have HY := Lib.hid hy
  clear hx hy
  by_cases hnm : n = m
  · subst hnm
    go_enter Tryz.func41, Tryz.ntmps41
    go_wp2
    go_loopw [5] (fun v wr => ∃ k : Nat, v = .int .i64 k ∧ k ≤ n ∧ Hid (l.take k = q.take k) ∧ Hid (Below w.heap.size w wr)) (fun v _ => n - (intOf v).toNat)
    case atStart => exact ⟨0, rfl, by omega, Lib.hid (by simp), Lib.hid (Below.refl _ _)⟩
    case round =>
      obtain ⟨k, rfl, hk, HT, HB⟩ := hrel
      by_cases hlt : k < n
      · obtain ⟨a, ha⟩ := at_in l hn hlt
        obtain ⟨b, hb⟩ := at_in q hm hlt
        have HA := Lib.hid ha
        have HBB := Lib.hid hb
        obtain ⟨ad, rfl, hS, h0, hj⟩ := rd_at 5 (fun _ => rfl) (by omega) (HX.out.below HB.out) ha
        obtain ⟨bd, rfl, hT, g0, gj⟩ := rd_at 5 (fun _ => rfl) (by omega) (HY.out.below HB.out) hb
        have hi : (k : Int) < (n : Int) := by omega
        clear ha hb
        obtain ⟨x0, x1, x2, x3, x4⟩ := a
        obtain ⟨y0, y1, y2, y3, y4⟩ := b
        have a0 : wr.cell? (ad.add (k * 5)) = some (.string ⟨x0.toArray⟩) := h0
        have a1 : wr.cell? ⟨(ad.add (k * 5)).block, (ad.add (k * 5)).off + 1, none⟩ = some (.string ⟨x1.toArray⟩) := (hj 1 (by omega)).resolve_right (by omega)
        have a2 : wr.cell? ⟨(ad.add (k * 5)).block, (ad.add (k * 5)).off + 2, none⟩ = some (.int .i64 x2) := (hj 2 (by omega)).resolve_right (by omega)
        have a3 : wr.cell? ⟨(ad.add (k * 5)).block, (ad.add (k * 5)).off + 3, none⟩ = some (.int .i64 x3) := (hj 3 (by omega)).resolve_right (by omega)
        have a4 : wr.cell? ⟨(ad.add (k * 5)).block, (ad.add (k * 5)).off + 4, none⟩ = some (.int .i64 x4) := (hj 4 (by omega)).resolve_right (by omega)
        have b0 : wr.cell? (bd.add (k * 5)) = some (.string ⟨y0.toArray⟩) := g0
        have b1 : wr.cell? ⟨(bd.add (k * 5)).block, (bd.add (k * 5)).off + 1, none⟩ = some (.string ⟨y1.toArray⟩) := (gj 1 (by omega)).resolve_right (by omega)
        have b2 : wr.cell? ⟨(bd.add (k * 5)).block, (bd.add (k * 5)).off + 2, none⟩ = some (.int .i64 y2) := (gj 2 (by omega)).resolve_right (by omega)
        have b3 : wr.cell? ⟨(bd.add (k * 5)).block, (bd.add (k * 5)).off + 3, none⟩ = some (.int .i64 y3) := (gj 3 (by omega)).resolve_right (by omega)
        have b4 : wr.cell? ⟨(bd.add (k * 5)).block, (bd.add (k * 5)).off + 4, none⟩ = some (.int .i64 y4) := (gj 4 (by omega)).resolve_right (by omega)
        clear h0 hj g0 gj
        by_cases e0 : x0 = y0
        · subst e0
          by_cases e1 : x1 = y1
          · subst e1
            by_cases e2 : x2 = y2
            · subst e2
              by_cases e3 : x3 = y3
              · subst e3
                by_cases e4 : x4 = y4
                · subst e4
                  go_wp2
                  go_quiet (fail)
                  go_wp2
                  go_roundw
                  case rel => exact ⟨k + 1, by go_num, by omega, Lib.hid (take_more2 HT.out HA.out HBB.out rfl), Lib.hid (below_drewN HB.out _)⟩
                  case measure => simp [intOf]; omega
                · have t4 : (x4 == y4) = false := beq_eq_false_iff_ne.2 e4
                  have HNE := Lib.hid (row_ne HA.out HBB.out (by intro e; cases e; exact e4 rfl))
                  clear e4
                  go_wp2
                  go_quiet (fail)
                  go_wp2
                  go_ret
                  exact ⟨by rw [HNE.out]; rfl, below_drewN HB.out _⟩
              · have t3 : (x3 == y3) = false := beq_eq_false_iff_ne.2 e3
                have HNE := Lib.hid (row_ne HA.out HBB.out (by intro e; cases e; exact e3 rfl))
                clear e3
                go_wp2
                go_quiet (fail)
                go_wp2
                go_ret
                exact ⟨by rw [HNE.out]; rfl, below_drewN HB.out _⟩
            · have t2 : (x2 == y2) = false := beq_eq_false_iff_ne.2 e2
              have HNE := Lib.hid (row_ne HA.out HBB.out (by intro e; cases e; exact e2 rfl))
              clear e2
              go_wp2
              go_quiet (fail)
              go_wp2
              go_ret
              exact ⟨by rw [HNE.out]; rfl, below_drewN HB.out _⟩
          · have t1 : (x1 == y1) = false := beq_eq_false_iff_ne.2 e1
            have HNE := Lib.hid (row_ne HA.out HBB.out (by intro e; cases e; exact e1 rfl))
            clear e1
            go_wp2
            go_quiet (fail)
            go_wp2
            go_ret
            exact ⟨by rw [HNE.out]; rfl, below_drewN HB.out _⟩
        · have t0 : (x0 == y0) = false := beq_eq_false_iff_ne.2 e0
          have HNE := Lib.hid (row_ne HA.out HBB.out (by intro e; cases e; exact e0 rfl))
          clear e0
          go_wp2
          go_quiet (fail)
          go_wp2
          go_ret
          exact ⟨by rw [HNE.out]; rfl, below_drewN HB.out _⟩
      · have e : l = q := by
          have h1 := HT.out
          rwa [List.take_of_length_le (by have := hn.out; omega), List.take_of_length_le (by have := hm.out; omega)] at h1
        have HD : Hid (decide (l = q) = true) := Lib.hid (decide_eq_true e)
        clear e
        go_wp2
        go_ret
        exact ⟨by rw [HD.out]; rfl, HB.out⟩
  · have HD : Hid (decide (l = q) = false) := Lib.hid (by rw [decide_eq_false_iff_not]; rintro rfl; exact hnm (hn.out.trans hm.out.symm))
    rw [HD.out]
    have hne : ((n : Int) == (m : Int)) = false := by rw [beq_eq_false_iff_ne]; omega
    have hn2 : ¬ n = m := hnm
    clear hnm
    go_enter Tryz.func41, Tryz.ntmps41
    go_wp2
    go_ret
    exact ⟨rfl, Below.refl _ _⟩
set_option maxRecDepth 100000 in
set_option maxHeartbeats 2000000 in
theorem samed_haz (w : World) (A B : Option Addr) (n m c d : Nat) (l q : List (HazM)) (hn : Hid (n = l.length)) (hm : Hid (m = q.length)) (hN : n ≤ 1000000) (hM : m ≤ 1000000) (hx : Rd w (· < w.heap.size) A (cs haC l)) (hy : Rd w (· < w.heap.size) B (cs haC q)) :
    Calls Tryz.prog 42 #[.slice A n c, .slice B m d] w (BPost w (decide (l = q))) := by
  have HX := Lib.hid hx
  have HY := Lib.hid hy
  clear hx hy
  by_cases hnm : n = m
  · subst hnm
    go_enter Tryz.func42, Tryz.ntmps42
    go_wp2
    go_loopw [5] (fun v wr => ∃ k : Nat, v = .int .i64 k ∧ k ≤ n ∧ Hid (l.take k = q.take k) ∧ Hid (Below w.heap.size w wr)) (fun v _ => n - (intOf v).toNat)
    case atStart => exact ⟨0, rfl, by omega, Lib.hid (by simp), Lib.hid (Below.refl _ _)⟩
    case round =>
      obtain ⟨k, rfl, hk, HT, HB⟩ := hrel
      by_cases hlt : k < n
      · obtain ⟨a, ha⟩ := at_in l hn hlt
        obtain ⟨b, hb⟩ := at_in q hm hlt
        have HA := Lib.hid ha
        have HBB := Lib.hid hb
        obtain ⟨ad, rfl, hS, h0, hj⟩ := rd_at 5 (fun _ => rfl) (by omega) (HX.out.below HB.out) ha
        obtain ⟨bd, rfl, hT, g0, gj⟩ := rd_at 5 (fun _ => rfl) (by omega) (HY.out.below HB.out) hb
        have hi : (k : Int) < (n : Int) := by omega
        clear ha hb
        obtain ⟨x0, x1, ⟨x2, x3, x4⟩⟩ := a
        obtain ⟨y0, y1, ⟨y2, y3, y4⟩⟩ := b
        have a0 : wr.cell? (ad.add (k * 5)) = some (.string ⟨x0.toArray⟩) := h0
        have a1 : wr.cell? ⟨(ad.add (k * 5)).block, (ad.add (k * 5)).off + 1, none⟩ = some (.string ⟨x1.toArray⟩) := (hj 1 (by omega)).resolve_right (by omega)
        have a2 : wr.cell? ⟨(ad.add (k * 5)).block, (ad.add (k * 5)).off + 2, none⟩ = some (.int .i64 x2) := (hj 2 (by omega)).resolve_right (by omega)
        have a3 : wr.cell? ⟨(ad.add (k * 5)).block, (ad.add (k * 5)).off + 3, none⟩ = some (.int .i64 x3) := (hj 3 (by omega)).resolve_right (by omega)
        have a4 : wr.cell? ⟨(ad.add (k * 5)).block, (ad.add (k * 5)).off + 4, none⟩ = some (.int .i64 x4) := (hj 4 (by omega)).resolve_right (by omega)
        have b0 : wr.cell? (bd.add (k * 5)) = some (.string ⟨y0.toArray⟩) := g0
        have b1 : wr.cell? ⟨(bd.add (k * 5)).block, (bd.add (k * 5)).off + 1, none⟩ = some (.string ⟨y1.toArray⟩) := (gj 1 (by omega)).resolve_right (by omega)
        have b2 : wr.cell? ⟨(bd.add (k * 5)).block, (bd.add (k * 5)).off + 2, none⟩ = some (.int .i64 y2) := (gj 2 (by omega)).resolve_right (by omega)
        have b3 : wr.cell? ⟨(bd.add (k * 5)).block, (bd.add (k * 5)).off + 3, none⟩ = some (.int .i64 y3) := (gj 3 (by omega)).resolve_right (by omega)
        have b4 : wr.cell? ⟨(bd.add (k * 5)).block, (bd.add (k * 5)).off + 4, none⟩ = some (.int .i64 y4) := (gj 4 (by omega)).resolve_right (by omega)
        clear h0 hj g0 gj
        by_cases e0 : x0 = y0
        · subst e0
          by_cases e1 : x1 = y1
          · subst e1
            by_cases e2 : x2 = y2
            · subst e2
              by_cases e3 : x3 = y3
              · subst e3
                by_cases e4 : x4 = y4
                · subst e4
                  go_wp2
                  go_quiet (fail)
                  go_wp2
                  go_roundw
                  case rel => exact ⟨k + 1, by go_num, by omega, Lib.hid (take_more2 HT.out HA.out HBB.out rfl), Lib.hid (below_drewN HB.out _)⟩
                  case measure => simp [intOf]; omega
                · have t4 : (x4 == y4) = false := beq_eq_false_iff_ne.2 e4
                  have HNE := Lib.hid (row_ne HA.out HBB.out (by intro e; cases e; exact e4 rfl))
                  clear e4
                  go_wp2
                  go_quiet (fail)
                  go_wp2
                  go_ret
                  exact ⟨by rw [HNE.out]; rfl, below_drewN HB.out _⟩
              · have t3 : (x3 == y3) = false := beq_eq_false_iff_ne.2 e3
                have HNE := Lib.hid (row_ne HA.out HBB.out (by intro e; cases e; exact e3 rfl))
                clear e3
                go_wp2
                go_quiet (fail)
                go_wp2
                go_ret
                exact ⟨by rw [HNE.out]; rfl, below_drewN HB.out _⟩
            · have t2 : (x2 == y2) = false := beq_eq_false_iff_ne.2 e2
              have HNE := Lib.hid (row_ne HA.out HBB.out (by intro e; cases e; exact e2 rfl))
              clear e2
              go_wp2
              go_quiet (fail)
              go_wp2
              go_ret
              exact ⟨by rw [HNE.out]; rfl, below_drewN HB.out _⟩
          · have t1 : (x1 == y1) = false := beq_eq_false_iff_ne.2 e1
            have HNE := Lib.hid (row_ne HA.out HBB.out (by intro e; cases e; exact e1 rfl))
            clear e1
            go_wp2
            go_quiet (fail)
            go_wp2
            go_ret
            exact ⟨by rw [HNE.out]; rfl, below_drewN HB.out _⟩
        · have t0 : (x0 == y0) = false := beq_eq_false_iff_ne.2 e0
          have HNE := Lib.hid (row_ne HA.out HBB.out (by intro e; cases e; exact e0 rfl))
          clear e0
          go_wp2
          go_quiet (fail)
          go_wp2
          go_ret
          exact ⟨by rw [HNE.out]; rfl, below_drewN HB.out _⟩
      · have e : l = q := by
          have h1 := HT.out
          rwa [List.take_of_length_le (by have := hn.out; omega), List.take_of_length_le (by have := hm.out; omega)] at h1
        have HD : Hid (decide (l = q) = true) := Lib.hid (decide_eq_true e)
        clear e
        go_wp2
        go_ret
        exact ⟨by rw [HD.out]; rfl, HB.out⟩
  · have HD : Hid (decide (l = q) = false) := Lib.hid (by rw [decide_eq_false_iff_not]; rintro rfl; exact hnm (hn.out.trans hm.out.symm))
    rw [HD.out]
    have hne : ((n : Int) == (m : Int)) = false := by rw [beq_eq_false_iff_ne]; omega
    have hn2 : ¬ n = m := hnm
    clear hnm
    go_enter Tryz.func42, Tryz.ntmps42
    go_wp2
    go_ret
    exact ⟨rfl, Below.refl _ _⟩
end Go.Proofs.YtgdanbfglefiiaaGreat.Sh
namespace Go.Proofs.YtgdanbfglefiiaaGreat.Sh
open Go.ChangeShapes Go.WideShapes Go.ChangeAt Go.RowKit
open Lx
set_option linter.unusedVariables false
set_option linter.unusedSimpArgs false
theorem no_dec {α : Type} [DecidableEq α] {a b : α} (h : a ≠ b) : decide (a = b) = false := decide_eq_false h
set_option maxRecDepth 100000 in
set_option maxHeartbeats 2000000 in
theorem kroute_d (r t : RouteM) (sa ra ya sb rb yb : Option Addr) (sc rc yc sd rd yd : Nat) (w : World) (h : RtAt w (· < w.heap.size) r sa ra ya) (g : RtAt w (· < w.heap.size) t sb rb yb) (hf : Few r) (hg : Few t) : Calls Tryz.prog 43 #[rtV r sa ra ya sc rc yc, rtV t sb rb yb sd rd yd] w (BPost w (decide (r = t))) := by
  by_cases ert : r = t
  · subst ert
    rw [decide_eq_true rfl]
    exact kroute_any r sa ra ya sb rb yb sc rc yc sd rd yd w h g hf
  rw [no_dec ert]
  obtain ⟨nm, st, ri, sy⟩ := r
  obtain ⟨nm', st', ri', sy'⟩ := t
  obtain ⟨f1, f2, f3⟩ := hf
  obtain ⟨k1, k2, k3⟩ := hg
  dsimp only at f1 f2 f3 k1 k2 k3
  have H1 := Lib.hid (fun w' (hb : Below w.heap.size w w') => samed_str w' sa sb st.length st'.length sc sd st st' (Lib.hid rfl) (Lib.hid rfl) f1 k1 (rd_later h.hs hb) (rd_later g.hs hb))
  have H2 := Lib.hid (fun w' (hb : Below w.heap.size w w') => samed_int w' ra rb ri.length ri'.length rc rd ri ri' (Lib.hid rfl) (Lib.hid rfl) f2 k2 (rd_later h.hr hb) (rd_later g.hr hb))
  have H3 := Lib.hid (fun w' (hb : Below w.heap.size w w') => samed_int w' ya yb sy.length sy'.length yc yd sy sy' (Lib.hid rfl) (Lib.hid rfl) f3 k3 (rd_later h.hy hb) (rd_later g.hy hb))
  clear h g f1 f2 f3 k1 k2 k3
  show Calls _ _ #[.agg #[.string ⟨nm.toArray⟩, .slice sa st.length sc, .slice ra ri.length rc, .slice ya sy.length yc], .agg #[.string ⟨nm'.toArray⟩, .slice sb st'.length sd, .slice rb ri'.length rd, .slice yb sy'.length yd]] _ _
  generalize st.length = n1 at *
  generalize ri.length = n2 at *
  generalize sy.length = n3 at *
  generalize st'.length = m1 at *
  generalize ri'.length = m2 at *
  generalize sy'.length = m3 at *
  by_cases e0 : nm = nm'
  case neg =>
    have q0 : (nm == nm') = false := beq_eq_false_iff_ne.2 e0
    clear ert e0
    go_enter Tryz.func43, Tryz.ntmps43
    go_wp2
    go_ret
    exact ⟨rfl, two_box _ _ _⟩
  subst e0
  by_cases e1 : st = st'
  case neg =>
    rw [no_dec e1] at H1
    clear ert e1
    go_enter Tryz.func43, Tryz.ntmps43
    go_wp2_with (first
      | (go_at_call 38; (with_reducible refine (H1.out _ (two_box _ _ _)).mono ?_); rintro e' w1 ⟨rfl, hb⟩; have HB1 := Lib.hid (keep_trans (two_box w _ _) hb); have HA1 := Lib.hid (((Blk.new w 72 [.string ⟨nm.toArray⟩, .slice sa n1 sc, .slice ra n2 rc, .slice ya n3 yc]).alloc _).after hb); have HC1 := Lib.hid ((Blk.new2 w _ 72 [.string ⟨nm.toArray⟩, .slice sb m1 sd, .slice rb m2 rd, .slice yb m3 yd]).after hb); have a1_2 : w1.cell? ⟨w.heap.size, 2, none⟩ = some (.slice ra n2 rc) := HA1.out.cell 2; have b1_2 : w1.cell? ⟨w.heap.size + 1, 2, none⟩ = some (.slice rb m2 rd) := HC1.out.cell 2; have a1_3 : w1.cell? ⟨w.heap.size, 3, none⟩ = some (.slice ya n3 yc) := HA1.out.cell 3; have b1_3 : w1.cell? ⟨w.heap.size + 1, 3, none⟩ = some (.slice yb m3 yd) := HC1.out.cell 3; clear hb)
      | fail)
    go_ret
    exact ⟨rfl, HB1.out⟩
  subst e1
  by_cases e2 : ri = ri'
  case neg =>
    rw [decide_eq_true (show st = st from rfl)] at H1
    rw [no_dec e2] at H2
    clear ert e2
    go_enter Tryz.func43, Tryz.ntmps43
    go_wp2_with (first
      | (go_at_call 67; (with_reducible refine (H2.out _ HB1.out).mono ?_); rintro e' w2 ⟨rfl, hb⟩; have HB2 := Lib.hid (keep_trans HB1.out hb); have HA2 := Lib.hid (HA1.out.after hb); have HC2 := Lib.hid (HC1.out.after hb); have a2_3 : w2.cell? ⟨w.heap.size, 3, none⟩ = some (.slice ya n3 yc) := HA2.out.cell 3; have b2_3 : w2.cell? ⟨w.heap.size + 1, 3, none⟩ = some (.slice yb m3 yd) := HC2.out.cell 3; clear hb)
      | (go_at_call 38; (with_reducible refine (H1.out _ (two_box _ _ _)).mono ?_); rintro e' w1 ⟨rfl, hb⟩; have HB1 := Lib.hid (keep_trans (two_box w _ _) hb); have HA1 := Lib.hid (((Blk.new w 72 [.string ⟨nm.toArray⟩, .slice sa n1 sc, .slice ra n2 rc, .slice ya n3 yc]).alloc _).after hb); have HC1 := Lib.hid ((Blk.new2 w _ 72 [.string ⟨nm.toArray⟩, .slice sb m1 sd, .slice rb m2 rd, .slice yb m3 yd]).after hb); have a1_2 : w1.cell? ⟨w.heap.size, 2, none⟩ = some (.slice ra n2 rc) := HA1.out.cell 2; have b1_2 : w1.cell? ⟨w.heap.size + 1, 2, none⟩ = some (.slice rb m2 rd) := HC1.out.cell 2; have a1_3 : w1.cell? ⟨w.heap.size, 3, none⟩ = some (.slice ya n3 yc) := HA1.out.cell 3; have b1_3 : w1.cell? ⟨w.heap.size + 1, 3, none⟩ = some (.slice yb m3 yd) := HC1.out.cell 3; clear hb)
      | fail)
    go_ret
    exact ⟨rfl, HB2.out⟩
  subst e2
  by_cases e3 : sy = sy'
  case neg =>
    rw [decide_eq_true (show st = st from rfl)] at H1
    rw [decide_eq_true (show ri = ri from rfl)] at H2
    rw [no_dec e3] at H3
    clear ert e3
    go_enter Tryz.func43, Tryz.ntmps43
    go_wp2_with (first
      | (go_at_call 67; (with_reducible refine (H3.out _ HB2.out).mono ?_); rintro e' w3 ⟨rfl, hb⟩; have HB3 := Lib.hid (keep_trans HB2.out hb); have HA3 := Lib.hid (HA2.out.after hb); have HC3 := Lib.hid (HC2.out.after hb); clear hb)
      | (go_at_call 67; (with_reducible refine (H2.out _ HB1.out).mono ?_); rintro e' w2 ⟨rfl, hb⟩; have HB2 := Lib.hid (keep_trans HB1.out hb); have HA2 := Lib.hid (HA1.out.after hb); have HC2 := Lib.hid (HC1.out.after hb); have a2_3 : w2.cell? ⟨w.heap.size, 3, none⟩ = some (.slice ya n3 yc) := HA2.out.cell 3; have b2_3 : w2.cell? ⟨w.heap.size + 1, 3, none⟩ = some (.slice yb m3 yd) := HC2.out.cell 3; clear hb)
      | (go_at_call 38; (with_reducible refine (H1.out _ (two_box _ _ _)).mono ?_); rintro e' w1 ⟨rfl, hb⟩; have HB1 := Lib.hid (keep_trans (two_box w _ _) hb); have HA1 := Lib.hid (((Blk.new w 72 [.string ⟨nm.toArray⟩, .slice sa n1 sc, .slice ra n2 rc, .slice ya n3 yc]).alloc _).after hb); have HC1 := Lib.hid ((Blk.new2 w _ 72 [.string ⟨nm.toArray⟩, .slice sb m1 sd, .slice rb m2 rd, .slice yb m3 yd]).after hb); have a1_2 : w1.cell? ⟨w.heap.size, 2, none⟩ = some (.slice ra n2 rc) := HA1.out.cell 2; have b1_2 : w1.cell? ⟨w.heap.size + 1, 2, none⟩ = some (.slice rb m2 rd) := HC1.out.cell 2; have a1_3 : w1.cell? ⟨w.heap.size, 3, none⟩ = some (.slice ya n3 yc) := HA1.out.cell 3; have b1_3 : w1.cell? ⟨w.heap.size + 1, 3, none⟩ = some (.slice yb m3 yd) := HC1.out.cell 3; clear hb)
      | fail)
    go_ret
    exact ⟨rfl, HB3.out⟩
  subst e3
  exact absurd rfl ert
set_option maxRecDepth 100000 in
set_option maxHeartbeats 8000000 in
theorem ksheet_d (x z : SheetM) (p q : ShA) (w : World) (h : Sh w (· < w.heap.size) x p) (g : Sh w (· < w.heap.size) z q) (hf : ShFew x) (hg : ShFew z) : Calls Tryz.prog 14 #[shV x p, shV z q] w (BPost w (decide (x = z))) := by
  by_cases exz : x = z
  · subst exz
    rw [decide_eq_true rfl]
    exact ksheet_any x p q w h g hf
  rw [no_dec exz]
  obtain ⟨r1, r2, r3, ⟨cr, r4, r4'⟩, r5, r6⟩ := h
  obtain ⟨g1, g2, g3, ⟨cg, g4, g4'⟩, g5, g6⟩ := g
  obtain ⟨l1, l2, l3, l4, l5, l6, lr⟩ := hf
  obtain ⟨k1, k2, k3, k4, k5, k6, kr⟩ := hg
  obtain ⟨hz, st, pa, dos, ro, tr, ha⟩ := x
  obtain ⟨hz', st', pa', dos', ro', tr', ha'⟩ := z
  obtain ⟨a1, a2, a3, a4, a5, a6, c1, c2, c3, c4, c5, c6⟩ := p
  obtain ⟨b1, b2, b3, b4, b5, b6, d1, d2, d3, d4, d5, d6⟩ := q
  dsimp only at r1 r2 r3 r4 r4' r5 r6 g1 g2 g3 g4 g4' g5 g6 l1 l2 l3 l4 l5 l6 lr k1 k2 k3 k4 k5 k6 kr
  have H1 := Lib.hid (fun w' (hb : Below w.heap.size w w') => samed_str w' a1 b1 st.length st'.length c1 d1 st st' (Lib.hid rfl) (Lib.hid rfl) l1 k1 (rd_later r1 hb) (rd_later g1 hb))
  have H2 := Lib.hid (fun w' (hb : Below w.heap.size w w') => samed_path w' a2 b2 pa.length pa'.length c2 d2 pa pa' (Lib.hid rfl) (Lib.hid rfl) l2 k2 (rd_later r2 hb) (rd_later g2 hb))
  have H3 := Lib.hid (fun w' (hb : Below w.heap.size w w') => samed_door w' a3 b3 dos.length dos'.length c3 d3 dos dos' (Lib.hid rfl) (Lib.hid rfl) l3 k3 (rd_later r3 hb) (rd_later g3 hb))
  have H5 := Lib.hid (fun w' (hb : Below w.heap.size w w') => samed_trip w' a5 b5 tr.length tr'.length c5 d5 tr tr' (Lib.hid rfl) (Lib.hid rfl) l5 k5 (rd_later r5 hb) (rd_later g5 hb))
  have H6 := Lib.hid (fun w' (hb : Below w.heap.size w w') => samed_haz w' a6 b6 ha.length ha'.length c6 d6 ha ha' (Lib.hid rfl) (Lib.hid rfl) l6 k6 (rd_later r6 hb) (rd_later g6 hb))
  have HX := Lib.hid r4
  have HY := Lib.hid g4
  have HR := Lib.hid r4'
  have HS := Lib.hid g4'
  have HW := Lib.hid lr
  have HV := Lib.hid kr
  obtain ⟨n4, hn4⟩ : ∃ n, n = ro.length := ⟨_, rfl⟩
  obtain ⟨m4, hm4⟩ : ∃ n, n = ro'.length := ⟨_, rfl⟩
  rw [← hn4] at l4
  rw [← hm4] at k4
  have hn := Lib.hid hn4
  have hm := Lib.hid hm4
  clear r1 r2 r3 r4 r4' r5 r6 g1 g2 g3 g4 g4' g5 g6 l1 l2 l3 l5 l6 lr k1 k2 k3 k5 k6 kr
  show Calls _ _ #[.agg #[.int .i64 hz, .slice a1 st.length c1, .slice a2 pa.length c2, .slice a3 dos.length c3, .slice a4 ro.length c4, .slice a5 tr.length c5, .slice a6 ha.length c6], .agg #[.int .i64 hz', .slice b1 st'.length d1, .slice b2 pa'.length d2, .slice b3 dos'.length d3, .slice b4 ro'.length d4, .slice b5 tr'.length d5, .slice b6 ha'.length d6]] _ _
  rw [← hn4, ← hm4]
  clear hn4 hm4
  generalize st.length = n1 at *
  generalize st'.length = m1 at *
  generalize pa.length = n2 at *
  generalize pa'.length = m2 at *
  generalize dos.length = n3 at *
  generalize dos'.length = m3 at *
  generalize tr.length = n5 at *
  generalize tr'.length = m5 at *
  generalize ha.length = n6 at *
  generalize ha'.length = m6 at *
  by_cases e0 : hz = hz'
  case neg =>
    have q0 : (hz == hz') = false := beq_eq_false_iff_ne.2 e0
    have q1 : (hz != hz') = true := by rw [bne, q0]; rfl
    clear exz e0
    go_enter Tryz.func14, Tryz.ntmps14
    go_wp2
    go_ret
    exact ⟨rfl, two_box _ _ _⟩
  subst e0
  by_cases e1 : st = st'
  case neg =>
    rw [no_dec e1] at H1
    clear exz e1
    go_enter Tryz.func14, Tryz.ntmps14
    go_wp2_with (first
      | (go_at_call 38; (with_reducible refine (H1.out _ (two_box _ _ _)).mono ?_); rintro e' w1 ⟨rfl, hb⟩; have HB1 := Lib.hid (keep_trans (two_box w _ _) hb); have HA1 := Lib.hid (((Blk.new w 44 [.int .i64 hz, .slice a1 n1 c1, .slice a2 n2 c2, .slice a3 n3 c3, .slice a4 n4 c4, .slice a5 n5 c5, .slice a6 n6 c6]).alloc _).after hb); have HC1 := Lib.hid ((Blk.new2 w _ 44 [.int .i64 hz, .slice b1 m1 d1, .slice b2 m2 d2, .slice b3 m3 d3, .slice b4 m4 d4, .slice b5 m5 d5, .slice b6 m6 d6]).after hb); have ka1 : w1.cell? ⟨w.heap.size, 2, none⟩ = some (.slice a2 n2 c2) := HA1.out.cell 2; have kb1 : w1.cell? ⟨w.heap.size + 1, 2, none⟩ = some (.slice b2 m2 d2) := HC1.out.cell 2; clear hb)
      | fail)
    go_ret
    exact ⟨rfl, HB1.out⟩
  subst e1
  rw [decide_eq_true (show st = st from rfl)] at H1
  by_cases e2 : pa = pa'
  case neg =>
    rw [no_dec e2] at H2
    clear exz e2
    go_enter Tryz.func14, Tryz.ntmps14
    go_wp2_with (first
      | (go_at_call 39; (with_reducible refine (H2.out _ HB1.out).mono ?_); rintro e' w2 ⟨rfl, hb⟩; have HB2 := Lib.hid (keep_trans HB1.out hb); have HA2 := Lib.hid (HA1.out.after hb); have HC2 := Lib.hid (HC1.out.after hb); have ka2 : w2.cell? ⟨w.heap.size, 3, none⟩ = some (.slice a3 n3 c3) := HA2.out.cell 3; have kb2 : w2.cell? ⟨w.heap.size + 1, 3, none⟩ = some (.slice b3 m3 d3) := HC2.out.cell 3; clear hb)
      | (go_at_call 38; (with_reducible refine (H1.out _ (two_box _ _ _)).mono ?_); rintro e' w1 ⟨rfl, hb⟩; have HB1 := Lib.hid (keep_trans (two_box w _ _) hb); have HA1 := Lib.hid (((Blk.new w 44 [.int .i64 hz, .slice a1 n1 c1, .slice a2 n2 c2, .slice a3 n3 c3, .slice a4 n4 c4, .slice a5 n5 c5, .slice a6 n6 c6]).alloc _).after hb); have HC1 := Lib.hid ((Blk.new2 w _ 44 [.int .i64 hz, .slice b1 m1 d1, .slice b2 m2 d2, .slice b3 m3 d3, .slice b4 m4 d4, .slice b5 m5 d5, .slice b6 m6 d6]).after hb); have ka1 : w1.cell? ⟨w.heap.size, 2, none⟩ = some (.slice a2 n2 c2) := HA1.out.cell 2; have kb1 : w1.cell? ⟨w.heap.size + 1, 2, none⟩ = some (.slice b2 m2 d2) := HC1.out.cell 2; clear hb)
      | fail)
    go_ret
    exact ⟨rfl, HB2.out⟩
  subst e2
  rw [decide_eq_true (show pa = pa from rfl)] at H2
  by_cases e3 : dos = dos'
  case neg =>
    rw [no_dec e3] at H3
    clear exz e3
    go_enter Tryz.func14, Tryz.ntmps14
    go_wp2_with (first
      | (go_at_call 40; (with_reducible refine (H3.out _ HB2.out).mono ?_); rintro e' w3 ⟨rfl, hb⟩; have HB3 := Lib.hid (keep_trans HB2.out hb); have HA3 := Lib.hid (HA2.out.after hb); have HC3 := Lib.hid (HC2.out.after hb); have ka3 : w3.cell? ⟨w.heap.size, 5, none⟩ = some (.slice a5 n5 c5) := HA3.out.cell 5; have kb3 : w3.cell? ⟨w.heap.size + 1, 5, none⟩ = some (.slice b5 m5 d5) := HC3.out.cell 5; clear hb)
      | (go_at_call 39; (with_reducible refine (H2.out _ HB1.out).mono ?_); rintro e' w2 ⟨rfl, hb⟩; have HB2 := Lib.hid (keep_trans HB1.out hb); have HA2 := Lib.hid (HA1.out.after hb); have HC2 := Lib.hid (HC1.out.after hb); have ka2 : w2.cell? ⟨w.heap.size, 3, none⟩ = some (.slice a3 n3 c3) := HA2.out.cell 3; have kb2 : w2.cell? ⟨w.heap.size + 1, 3, none⟩ = some (.slice b3 m3 d3) := HC2.out.cell 3; clear hb)
      | (go_at_call 38; (with_reducible refine (H1.out _ (two_box _ _ _)).mono ?_); rintro e' w1 ⟨rfl, hb⟩; have HB1 := Lib.hid (keep_trans (two_box w _ _) hb); have HA1 := Lib.hid (((Blk.new w 44 [.int .i64 hz, .slice a1 n1 c1, .slice a2 n2 c2, .slice a3 n3 c3, .slice a4 n4 c4, .slice a5 n5 c5, .slice a6 n6 c6]).alloc _).after hb); have HC1 := Lib.hid ((Blk.new2 w _ 44 [.int .i64 hz, .slice b1 m1 d1, .slice b2 m2 d2, .slice b3 m3 d3, .slice b4 m4 d4, .slice b5 m5 d5, .slice b6 m6 d6]).after hb); have ka1 : w1.cell? ⟨w.heap.size, 2, none⟩ = some (.slice a2 n2 c2) := HA1.out.cell 2; have kb1 : w1.cell? ⟨w.heap.size + 1, 2, none⟩ = some (.slice b2 m2 d2) := HC1.out.cell 2; clear hb)
      | fail)
    go_ret
    exact ⟨rfl, HB3.out⟩
  subst e3
  rw [decide_eq_true (show dos = dos from rfl)] at H3
  by_cases e5 : tr = tr'
  case neg =>
    rw [no_dec e5] at H5
    clear exz e5
    go_enter Tryz.func14, Tryz.ntmps14
    go_wp2_with (first
      | (go_at_call 41; (with_reducible refine (H5.out _ HB3.out).mono ?_); rintro e' w4 ⟨rfl, hb⟩; have HB4 := Lib.hid (keep_trans HB3.out hb); have HA4 := Lib.hid (HA3.out.after hb); have HC4 := Lib.hid (HC3.out.after hb); have ka4 : w4.cell? ⟨w.heap.size, 6, none⟩ = some (.slice a6 n6 c6) := HA4.out.cell 6; have kb4 : w4.cell? ⟨w.heap.size + 1, 6, none⟩ = some (.slice b6 m6 d6) := HC4.out.cell 6; clear hb)
      | (go_at_call 40; (with_reducible refine (H3.out _ HB2.out).mono ?_); rintro e' w3 ⟨rfl, hb⟩; have HB3 := Lib.hid (keep_trans HB2.out hb); have HA3 := Lib.hid (HA2.out.after hb); have HC3 := Lib.hid (HC2.out.after hb); have ka3 : w3.cell? ⟨w.heap.size, 5, none⟩ = some (.slice a5 n5 c5) := HA3.out.cell 5; have kb3 : w3.cell? ⟨w.heap.size + 1, 5, none⟩ = some (.slice b5 m5 d5) := HC3.out.cell 5; clear hb)
      | (go_at_call 39; (with_reducible refine (H2.out _ HB1.out).mono ?_); rintro e' w2 ⟨rfl, hb⟩; have HB2 := Lib.hid (keep_trans HB1.out hb); have HA2 := Lib.hid (HA1.out.after hb); have HC2 := Lib.hid (HC1.out.after hb); have ka2 : w2.cell? ⟨w.heap.size, 3, none⟩ = some (.slice a3 n3 c3) := HA2.out.cell 3; have kb2 : w2.cell? ⟨w.heap.size + 1, 3, none⟩ = some (.slice b3 m3 d3) := HC2.out.cell 3; clear hb)
      | (go_at_call 38; (with_reducible refine (H1.out _ (two_box _ _ _)).mono ?_); rintro e' w1 ⟨rfl, hb⟩; have HB1 := Lib.hid (keep_trans (two_box w _ _) hb); have HA1 := Lib.hid (((Blk.new w 44 [.int .i64 hz, .slice a1 n1 c1, .slice a2 n2 c2, .slice a3 n3 c3, .slice a4 n4 c4, .slice a5 n5 c5, .slice a6 n6 c6]).alloc _).after hb); have HC1 := Lib.hid ((Blk.new2 w _ 44 [.int .i64 hz, .slice b1 m1 d1, .slice b2 m2 d2, .slice b3 m3 d3, .slice b4 m4 d4, .slice b5 m5 d5, .slice b6 m6 d6]).after hb); have ka1 : w1.cell? ⟨w.heap.size, 2, none⟩ = some (.slice a2 n2 c2) := HA1.out.cell 2; have kb1 : w1.cell? ⟨w.heap.size + 1, 2, none⟩ = some (.slice b2 m2 d2) := HC1.out.cell 2; clear hb)
      | fail)
    go_ret
    exact ⟨rfl, HB4.out⟩
  subst e5
  rw [decide_eq_true (show tr = tr from rfl)] at H5
  by_cases e6 : ha = ha'
  case neg =>
    rw [no_dec e6] at H6
    clear exz e6
    go_enter Tryz.func14, Tryz.ntmps14
    go_wp2_with (first
      | (go_at_call 42; (with_reducible refine (H6.out _ HB4.out).mono ?_); rintro e' w5 ⟨rfl, hb⟩; have HB5 := Lib.hid (keep_trans HB4.out hb); have HA5 := Lib.hid (HA4.out.after hb); have HC5 := Lib.hid (HC4.out.after hb); have ka5 : w5.cell? ⟨w.heap.size, 4, none⟩ = some (.slice a4 n4 c4) := HA5.out.cell 4; have kb5 : w5.cell? ⟨w.heap.size + 1, 4, none⟩ = some (.slice b4 m4 d4) := HC5.out.cell 4; clear hb)
      | (go_at_call 41; (with_reducible refine (H5.out _ HB3.out).mono ?_); rintro e' w4 ⟨rfl, hb⟩; have HB4 := Lib.hid (keep_trans HB3.out hb); have HA4 := Lib.hid (HA3.out.after hb); have HC4 := Lib.hid (HC3.out.after hb); have ka4 : w4.cell? ⟨w.heap.size, 6, none⟩ = some (.slice a6 n6 c6) := HA4.out.cell 6; have kb4 : w4.cell? ⟨w.heap.size + 1, 6, none⟩ = some (.slice b6 m6 d6) := HC4.out.cell 6; clear hb)
      | (go_at_call 40; (with_reducible refine (H3.out _ HB2.out).mono ?_); rintro e' w3 ⟨rfl, hb⟩; have HB3 := Lib.hid (keep_trans HB2.out hb); have HA3 := Lib.hid (HA2.out.after hb); have HC3 := Lib.hid (HC2.out.after hb); have ka3 : w3.cell? ⟨w.heap.size, 5, none⟩ = some (.slice a5 n5 c5) := HA3.out.cell 5; have kb3 : w3.cell? ⟨w.heap.size + 1, 5, none⟩ = some (.slice b5 m5 d5) := HC3.out.cell 5; clear hb)
      | (go_at_call 39; (with_reducible refine (H2.out _ HB1.out).mono ?_); rintro e' w2 ⟨rfl, hb⟩; have HB2 := Lib.hid (keep_trans HB1.out hb); have HA2 := Lib.hid (HA1.out.after hb); have HC2 := Lib.hid (HC1.out.after hb); have ka2 : w2.cell? ⟨w.heap.size, 3, none⟩ = some (.slice a3 n3 c3) := HA2.out.cell 3; have kb2 : w2.cell? ⟨w.heap.size + 1, 3, none⟩ = some (.slice b3 m3 d3) := HC2.out.cell 3; clear hb)
      | (go_at_call 38; (with_reducible refine (H1.out _ (two_box _ _ _)).mono ?_); rintro e' w1 ⟨rfl, hb⟩; have HB1 := Lib.hid (keep_trans (two_box w _ _) hb); have HA1 := Lib.hid (((Blk.new w 44 [.int .i64 hz, .slice a1 n1 c1, .slice a2 n2 c2, .slice a3 n3 c3, .slice a4 n4 c4, .slice a5 n5 c5, .slice a6 n6 c6]).alloc _).after hb); have HC1 := Lib.hid ((Blk.new2 w _ 44 [.int .i64 hz, .slice b1 m1 d1, .slice b2 m2 d2, .slice b3 m3 d3, .slice b4 m4 d4, .slice b5 m5 d5, .slice b6 m6 d6]).after hb); have ka1 : w1.cell? ⟨w.heap.size, 2, none⟩ = some (.slice a2 n2 c2) := HA1.out.cell 2; have kb1 : w1.cell? ⟨w.heap.size + 1, 2, none⟩ = some (.slice b2 m2 d2) := HC1.out.cell 2; clear hb)
      | fail)
    go_ret
    exact ⟨rfl, HB5.out⟩
  subst e6
  rw [decide_eq_true (show ha = ha from rfl)] at H6
  by_cases hnm : n4 = m4
  case neg =>
    have q4 : ((n4 : Int) == (m4 : Int)) = false := by rw [beq_eq_false_iff_ne]; omega
    have q5 : ((n4 : Int) != (m4 : Int)) = true := by rw [bne, q4]; rfl
    clear exz
    go_enter Tryz.func14, Tryz.ntmps14
    go_wp2_with (first
      | (go_at_call 42; (with_reducible refine (H6.out _ HB4.out).mono ?_); rintro e' w5 ⟨rfl, hb⟩; have HB5 := Lib.hid (keep_trans HB4.out hb); have HA5 := Lib.hid (HA4.out.after hb); have HC5 := Lib.hid (HC4.out.after hb); have ka5 : w5.cell? ⟨w.heap.size, 4, none⟩ = some (.slice a4 n4 c4) := HA5.out.cell 4; have kb5 : w5.cell? ⟨w.heap.size + 1, 4, none⟩ = some (.slice b4 m4 d4) := HC5.out.cell 4; clear hb)
      | (go_at_call 41; (with_reducible refine (H5.out _ HB3.out).mono ?_); rintro e' w4 ⟨rfl, hb⟩; have HB4 := Lib.hid (keep_trans HB3.out hb); have HA4 := Lib.hid (HA3.out.after hb); have HC4 := Lib.hid (HC3.out.after hb); have ka4 : w4.cell? ⟨w.heap.size, 6, none⟩ = some (.slice a6 n6 c6) := HA4.out.cell 6; have kb4 : w4.cell? ⟨w.heap.size + 1, 6, none⟩ = some (.slice b6 m6 d6) := HC4.out.cell 6; clear hb)
      | (go_at_call 40; (with_reducible refine (H3.out _ HB2.out).mono ?_); rintro e' w3 ⟨rfl, hb⟩; have HB3 := Lib.hid (keep_trans HB2.out hb); have HA3 := Lib.hid (HA2.out.after hb); have HC3 := Lib.hid (HC2.out.after hb); have ka3 : w3.cell? ⟨w.heap.size, 5, none⟩ = some (.slice a5 n5 c5) := HA3.out.cell 5; have kb3 : w3.cell? ⟨w.heap.size + 1, 5, none⟩ = some (.slice b5 m5 d5) := HC3.out.cell 5; clear hb)
      | (go_at_call 39; (with_reducible refine (H2.out _ HB1.out).mono ?_); rintro e' w2 ⟨rfl, hb⟩; have HB2 := Lib.hid (keep_trans HB1.out hb); have HA2 := Lib.hid (HA1.out.after hb); have HC2 := Lib.hid (HC1.out.after hb); have ka2 : w2.cell? ⟨w.heap.size, 3, none⟩ = some (.slice a3 n3 c3) := HA2.out.cell 3; have kb2 : w2.cell? ⟨w.heap.size + 1, 3, none⟩ = some (.slice b3 m3 d3) := HC2.out.cell 3; clear hb)
      | (go_at_call 38; (with_reducible refine (H1.out _ (two_box _ _ _)).mono ?_); rintro e' w1 ⟨rfl, hb⟩; have HB1 := Lib.hid (keep_trans (two_box w _ _) hb); have HA1 := Lib.hid (((Blk.new w 44 [.int .i64 hz, .slice a1 n1 c1, .slice a2 n2 c2, .slice a3 n3 c3, .slice a4 n4 c4, .slice a5 n5 c5, .slice a6 n6 c6]).alloc _).after hb); have HC1 := Lib.hid ((Blk.new2 w _ 44 [.int .i64 hz, .slice b1 m1 d1, .slice b2 m2 d2, .slice b3 m3 d3, .slice b4 m4 d4, .slice b5 m5 d5, .slice b6 m6 d6]).after hb); have ka1 : w1.cell? ⟨w.heap.size, 2, none⟩ = some (.slice a2 n2 c2) := HA1.out.cell 2; have kb1 : w1.cell? ⟨w.heap.size + 1, 2, none⟩ = some (.slice b2 m2 d2) := HC1.out.cell 2; clear hb)
      | fail)
    go_ret
    exact ⟨rfl, HB5.out⟩
  subst hnm
  have HNE := Lib.hid exz
  clear exz
  go_enter Tryz.func14, Tryz.ntmps14
  go_wp2_with (first
      | (go_at_call 42; (with_reducible refine (H6.out _ HB4.out).mono ?_); rintro e' w5 ⟨rfl, hb⟩; have HB5 := Lib.hid (keep_trans HB4.out hb); have HA5 := Lib.hid (HA4.out.after hb); have HC5 := Lib.hid (HC4.out.after hb); have ka5 : w5.cell? ⟨w.heap.size, 4, none⟩ = some (.slice a4 n4 c4) := HA5.out.cell 4; have kb5 : w5.cell? ⟨w.heap.size + 1, 4, none⟩ = some (.slice b4 n4 d4) := HC5.out.cell 4; clear hb)
      | (go_at_call 41; (with_reducible refine (H5.out _ HB3.out).mono ?_); rintro e' w4 ⟨rfl, hb⟩; have HB4 := Lib.hid (keep_trans HB3.out hb); have HA4 := Lib.hid (HA3.out.after hb); have HC4 := Lib.hid (HC3.out.after hb); have ka4 : w4.cell? ⟨w.heap.size, 6, none⟩ = some (.slice a6 n6 c6) := HA4.out.cell 6; have kb4 : w4.cell? ⟨w.heap.size + 1, 6, none⟩ = some (.slice b6 m6 d6) := HC4.out.cell 6; clear hb)
      | (go_at_call 40; (with_reducible refine (H3.out _ HB2.out).mono ?_); rintro e' w3 ⟨rfl, hb⟩; have HB3 := Lib.hid (keep_trans HB2.out hb); have HA3 := Lib.hid (HA2.out.after hb); have HC3 := Lib.hid (HC2.out.after hb); have ka3 : w3.cell? ⟨w.heap.size, 5, none⟩ = some (.slice a5 n5 c5) := HA3.out.cell 5; have kb3 : w3.cell? ⟨w.heap.size + 1, 5, none⟩ = some (.slice b5 m5 d5) := HC3.out.cell 5; clear hb)
      | (go_at_call 39; (with_reducible refine (H2.out _ HB1.out).mono ?_); rintro e' w2 ⟨rfl, hb⟩; have HB2 := Lib.hid (keep_trans HB1.out hb); have HA2 := Lib.hid (HA1.out.after hb); have HC2 := Lib.hid (HC1.out.after hb); have ka2 : w2.cell? ⟨w.heap.size, 3, none⟩ = some (.slice a3 n3 c3) := HA2.out.cell 3; have kb2 : w2.cell? ⟨w.heap.size + 1, 3, none⟩ = some (.slice b3 m3 d3) := HC2.out.cell 3; clear hb)
      | (go_at_call 38; (with_reducible refine (H1.out _ (two_box _ _ _)).mono ?_); rintro e' w1 ⟨rfl, hb⟩; have HB1 := Lib.hid (keep_trans (two_box w _ _) hb); have HA1 := Lib.hid (((Blk.new w 44 [.int .i64 hz, .slice a1 n1 c1, .slice a2 n2 c2, .slice a3 n3 c3, .slice a4 n4 c4, .slice a5 n5 c5, .slice a6 n6 c6]).alloc _).after hb); have HC1 := Lib.hid ((Blk.new2 w _ 44 [.int .i64 hz, .slice b1 m1 d1, .slice b2 m2 d2, .slice b3 m3 d3, .slice b4 n4 d4, .slice b5 m5 d5, .slice b6 m6 d6]).after hb); have ka1 : w1.cell? ⟨w.heap.size, 2, none⟩ = some (.slice a2 n2 c2) := HA1.out.cell 2; have kb1 : w1.cell? ⟨w.heap.size + 1, 2, none⟩ = some (.slice b2 m2 d2) := HC1.out.cell 2; clear hb)
      | fail)
  go_loopw [5] (fun v wr => ∃ k : Nat, v = .int .i64 k ∧ k ≤ n4 ∧ Hid (ro.take k = ro'.take k) ∧ Hid (Below w.heap.size w wr) ∧ Hid (Blk wr w.heap.size 44 [.int .i64 hz, .slice a1 n1 c1, .slice a2 n2 c2, .slice a3 n3 c3, .slice a4 n4 c4, .slice a5 n5 c5, .slice a6 n6 c6]) ∧ Hid (Blk wr (w.heap.size + 1) 44 [.int .i64 hz, .slice b1 m1 d1, .slice b2 m2 d2, .slice b3 m3 d3, .slice b4 n4 d4, .slice b5 m5 d5, .slice b6 m6 d6])) (fun v _ => n4 - (intOf v).toNat)
  case atStart => exact ⟨0, rfl, by omega, Lib.hid (by simp), HB5, HA5, HC5⟩
  case round =>
    obtain ⟨k, rfl, hk, HT, HB, HA, HC⟩ := hrel
    have e4 : wr.cell? ⟨w.heap.size, 4, none⟩ = some (.slice a4 n4 c4) := HA.out.cell 4
    have f4 : wr.cell? ⟨w.heap.size + 1, 4, none⟩ = some (.slice b4 n4 d4) := HC.out.cell 4
    by_cases hlt : k < n4
    · obtain ⟨a, ha_⟩ := at_in ro hn hlt
      obtain ⟨b, hb_⟩ := at_in ro' hm hlt
      have HAA := Lib.hid ha_
      have HBB := Lib.hid hb_
      obtain ⟨ad, rfl, hA, sa, sc, ra, rc, ya, yc, x0, x1, x2, x3, ga⟩ := rts_at (rd_later HX.out HB.out) (HR.out.later HB.out) ha_
      obtain ⟨bd, rfl, hB, sb, sd, rb, rd, yb, yd, y0, y1, y2, y3, gb⟩ := rts_at (rd_later HY.out HB.out) (HS.out.later HB.out) hb_
      have HG : ∀ w', Below wr.heap.size wr w' → Calls Tryz.prog 43 #[rtV a sa ra ya sc rc yc, rtV b sb rb yb sd rd yd] w' (BPost w' (decide (a = b))) := fun w' hb => kroute_d a b sa ra ya sb rb yb sc rc yc sd rd yd w' (ga.later hb) (gb.later hb) (HW.out a (List.mem_of_getElem? ha_)) (HV.out b (List.mem_of_getElem? hb_))
      have hi : (k : Int) < (n4 : Int) := by omega
      obtain ⟨bo, hbo⟩ : ∃ bo, bo = decide (a = b) := ⟨_, rfl⟩
      rw [← hbo] at HG
      have HBO := Lib.hid hbo
      have hS1 : ad.block < wr.heap.size := hA
      have hS2 : bd.block < wr.heap.size := hB
      have KC : Hid (∀ w', Below wr.heap.size wr w' → (w'.cell? ⟨w.heap.size, 4, none⟩ = some (.slice (some ad) n4 c4) ∧ w'.cell? ⟨w.heap.size + 1, 4, none⟩ = some (.slice (some bd) n4 d4)) ∧ (w'.cell? (ad.add (k * 4)) = some (.string ⟨a.name.toArray⟩) ∧ w'.cell? ⟨(ad.add (k * 4)).block, (ad.add (k * 4)).off + 1, none⟩ = some (.slice sa a.stops.length sc) ∧ w'.cell? ⟨(ad.add (k * 4)).block, (ad.add (k * 4)).off + 2, none⟩ = some (.slice ra a.rides.length rc) ∧ w'.cell? ⟨(ad.add (k * 4)).block, (ad.add (k * 4)).off + 3, none⟩ = some (.slice ya a.stays.length yc)) ∧ (w'.cell? (bd.add (k * 4)) = some (.string ⟨b.name.toArray⟩) ∧ w'.cell? ⟨(bd.add (k * 4)).block, (bd.add (k * 4)).off + 1, none⟩ = some (.slice sb b.stops.length sd) ∧ w'.cell? ⟨(bd.add (k * 4)).block, (bd.add (k * 4)).off + 2, none⟩ = some (.slice rb b.rides.length rd) ∧ w'.cell? ⟨(bd.add (k * 4)).block, (bd.add (k * 4)).off + 3, none⟩ = some (.slice yb b.stays.length yd))) := by
        have hb1 : (ad.add (k * 4)).block < wr.heap.size := by rw [block_of_add]; exact hS1
        have hb2 : (bd.add (k * 4)).block < wr.heap.size := by rw [block_of_add]; exact hS2
        have gA := HA
        have gC := HC
        refine Lib.hid (fun w' h => ⟨⟨(gA.out.after h).cell 4, (gC.out.after h).cell 4⟩, ⟨(World.cell?_of_block (h.block _ hb1)).trans x0, (World.cell?_of_block (a := ⟨(ad.add (k * 4)).block, (ad.add (k * 4)).off + 1, none⟩) (h.block _ hb1)).trans x1, (World.cell?_of_block (a := ⟨(ad.add (k * 4)).block, (ad.add (k * 4)).off + 2, none⟩) (h.block _ hb1)).trans x2, (World.cell?_of_block (a := ⟨(ad.add (k * 4)).block, (ad.add (k * 4)).off + 3, none⟩) (h.block _ hb1)).trans x3⟩, (World.cell?_of_block (h.block _ hb2)).trans y0, (World.cell?_of_block (a := ⟨(bd.add (k * 4)).block, (bd.add (k * 4)).off + 1, none⟩) (h.block _ hb2)).trans y1, (World.cell?_of_block (a := ⟨(bd.add (k * 4)).block, (bd.add (k * 4)).off + 2, none⟩) (h.block _ hb2)).trans y2, (World.cell?_of_block (a := ⟨(bd.add (k * 4)).block, (bd.add (k * 4)).off + 3, none⟩) (h.block _ hb2)).trans y3⟩)
      simp only [rtV] at HG
      clear ga gb ha_ hb_ hbo x0 x1 x2 x3 y0 y1 y2 y3 hA hB
      generalize a.stops.length = i1 at *
      generalize a.rides.length = i2 at *
      generalize a.stays.length = i3 at *
      generalize b.stops.length = j1 at *
      generalize b.rides.length = j2 at *
      generalize b.stays.length = j3 at *
      have HGG := Lib.hid HG
      clear HG
      cases bo with
      | true =>
        have HAB : Hid (a = b) := Lib.hid (of_decide_eq_true HBO.out.symm)
        go_wp2
        go_region_held3 (fun w' => (w'.cell? ⟨w.heap.size, 4, none⟩ = some (.slice (some ad) n4 c4) ∧ w'.cell? ⟨w.heap.size + 1, 4, none⟩ = some (.slice (some bd) n4 d4)) ∧ (w'.cell? (ad.add (k * 4)) = some (.string ⟨a.name.toArray⟩) ∧ w'.cell? ⟨(ad.add (k * 4)).block, (ad.add (k * 4)).off + 1, none⟩ = some (.slice sa i1 sc) ∧ w'.cell? ⟨(ad.add (k * 4)).block, (ad.add (k * 4)).off + 2, none⟩ = some (.slice ra i2 rc) ∧ w'.cell? ⟨(ad.add (k * 4)).block, (ad.add (k * 4)).off + 3, none⟩ = some (.slice ya i3 yc)) ∧ (w'.cell? (bd.add (k * 4)) = some (.string ⟨b.name.toArray⟩) ∧ w'.cell? ⟨(bd.add (k * 4)).block, (bd.add (k * 4)).off + 1, none⟩ = some (.slice sb j1 sd) ∧ w'.cell? ⟨(bd.add (k * 4)).block, (bd.add (k * 4)).off + 2, none⟩ = some (.slice rb j2 rd) ∧ w'.cell? ⟨(bd.add (k * 4)).block, (bd.add (k * 4)).off + 3, none⟩ = some (.slice yb j3 yd))) (first | exact KC.out _ Q1.out | exact KC.out _ (below_drew (Below.refl _ _)) | go_keep) (first
          | (go_at_call 43; (with_reducible refine (HGG.out _ (below_drew (Below.refl _ _))).mono ?_); rintro e' w9 ⟨rfl, hb⟩; have Q1 : Hid (Below wr.heap.size wr w9) := Lib.hid (keep_trans (below_drew (Below.refl _ _)) hb); clear hb)
          | fail)
        all_goals go_wp2
        all_goals (go_roundw; (case rel => exact ⟨k + 1, by go_num, by omega, Lib.hid (take_more2 HT.out HAA.out HBB.out HAB.out), Lib.hid (keep_trans HB.out Q1.out), Lib.hid (HA.out.after Q1.out), Lib.hid (HC.out.after Q1.out)⟩); (case measure => simp [intOf]; omega))
      | false =>
        go_wp2
        go_region_held3 (fun w' => (w'.cell? ⟨w.heap.size, 4, none⟩ = some (.slice (some ad) n4 c4) ∧ w'.cell? ⟨w.heap.size + 1, 4, none⟩ = some (.slice (some bd) n4 d4)) ∧ (w'.cell? (ad.add (k * 4)) = some (.string ⟨a.name.toArray⟩) ∧ w'.cell? ⟨(ad.add (k * 4)).block, (ad.add (k * 4)).off + 1, none⟩ = some (.slice sa i1 sc) ∧ w'.cell? ⟨(ad.add (k * 4)).block, (ad.add (k * 4)).off + 2, none⟩ = some (.slice ra i2 rc) ∧ w'.cell? ⟨(ad.add (k * 4)).block, (ad.add (k * 4)).off + 3, none⟩ = some (.slice ya i3 yc)) ∧ (w'.cell? (bd.add (k * 4)) = some (.string ⟨b.name.toArray⟩) ∧ w'.cell? ⟨(bd.add (k * 4)).block, (bd.add (k * 4)).off + 1, none⟩ = some (.slice sb j1 sd) ∧ w'.cell? ⟨(bd.add (k * 4)).block, (bd.add (k * 4)).off + 2, none⟩ = some (.slice rb j2 rd) ∧ w'.cell? ⟨(bd.add (k * 4)).block, (bd.add (k * 4)).off + 3, none⟩ = some (.slice yb j3 yd))) (first | exact KC.out _ Q1.out | exact KC.out _ (below_drew (Below.refl _ _)) | go_keep) (first
          | (go_at_call 43; (with_reducible refine (HGG.out _ (below_drew (Below.refl _ _))).mono ?_); rintro e' w9 ⟨rfl, hb⟩; have Q1 : Hid (Below wr.heap.size wr w9) := Lib.hid (keep_trans (below_drew (Below.refl _ _)) hb); clear hb)
          | fail)
        all_goals go_wp2
        all_goals (go_ret; exact ⟨rfl, keep_trans HB.out Q1.out⟩)
    · have e : ro = ro' := by
        have h1 := HT.out
        rwa [List.take_of_length_le (by have := hn.out; omega), List.take_of_length_le (by have := hm.out; omega)] at h1
      exact absurd (by rw [e]) HNE.out
end Go.Proofs.YtgdanbfglefiiaaGreat.Sh
