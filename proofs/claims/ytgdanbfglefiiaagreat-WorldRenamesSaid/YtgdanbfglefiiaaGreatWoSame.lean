/- The kit's Same of rows of a world that may differ: whether they are the same. Conditions: the rows have at most a million things. -/
import Derived.Test.YtgdanbfglefiiaaGreatBaH
import Derived.Test.YtgdanbfglefiiaaGreatWoRep
import Derived.ChangeSlices
import Derived.Deep.Strs
import Derived.Deep.SlicePairs
import Derived.ChangeArms
import Derived.Carry
import Derived.Deep.RegionHeld3
import Derived.Deep.RegionHeldLaw
import Derived.Deep.CutRange
import Derived.StillTailTactics
import Derived.WalkSpells
import Derived.Lib.QuietBelow
import Derived.Deep.QuietTactic
namespace Go.Proofs.YtgdanbfglefiiaaGreat.Wo
open Go.ChangeShapes Go.WideShapes Go.ChangeAt Go.RowKit Go.Maps
open Lx Sh
set_option linter.unusedVariables false
set_option linter.unusedSimpArgs false
set_option maxRecDepth 100000 in
set_option maxHeartbeats 2000000 in
theorem samed_it (w : World) (A B : Option Addr) (n m c d : Nat) (l q : List (Int)) (hn : Hid (n = l.length)) (hm : Hid (m = q.length)) (hN : n ≤ 1000000) (hM : m ≤ 1000000) (hx : Rd w (· < w.heap.size) A (cs intC l)) (hy : Rd w (· < w.heap.size) B (cs intC q)) :
    Calls Tryz.prog 66 #[.slice A n c, .slice B m d] w (BPost w (decide (l = q))) := by
  have HX := Lib.hid hx
  have HY := Lib.hid hy
  clear hx hy
  by_cases hnm : n = m
  · subst hnm
    go_enter Tryz.func66, Tryz.ntmps66
    go_wp2
    go_loopw [5] (fun v wr => ∃ k : Nat, v = .int .i64 k ∧ k ≤ n ∧ Hid (l.take k = q.take k) ∧ Hid (Below w.heap.size w wr)) (fun v _ => n - (intOf v).toNat)
    case atStart => exact ⟨0, rfl, by omega, Lib.hid (by simp), Lib.hid (Below.refl _ _)⟩
    case round =>
      obtain ⟨k, rfl, hk, HT, HB⟩ := hrel
      by_cases hlt : k < n
      · obtain ⟨a, ha⟩ := at_in l hn hlt
        obtain ⟨b, hb⟩ := at_in q hm hlt
        have HA := Lib.hid ha
        have HBB := Lib.hid hb
        obtain ⟨ad, rfl, hS, h0, hj⟩ := rd_at 1 (fun _ => rfl) (by omega) (HX.out.below HB.out) ha
        obtain ⟨bd, rfl, hT, g0, gj⟩ := rd_at 1 (fun _ => rfl) (by omega) (HY.out.below HB.out) hb
        have hi : (k : Int) < (n : Int) := by omega
        clear ha hb
        obtain ⟨x0, hx0⟩ : ∃ x0, x0 = a := ⟨_, rfl⟩
        subst hx0
        obtain ⟨y0, hy0⟩ : ∃ y0, y0 = b := ⟨_, rfl⟩
        subst hy0
        rw [Nat.mul_one] at h0 g0
        have a0 : wr.cell? (ad.add k) = some (.int .i64 x0) := h0
        have b0 : wr.cell? (bd.add k) = some (.int .i64 y0) := g0
        clear h0 hj g0 gj
        by_cases e0 : x0 = y0
        · subst e0
          go_wp2
          go_quiet (fail)
          go_wp2
          go_roundw
          case rel => exact ⟨k + 1, by go_num, by omega, Lib.hid (take_more2 HT.out HA.out HBB.out rfl), Lib.hid (below_drewN HB.out _)⟩
          case measure => simp [intOf]; omega
        · have t0 : (x0 == y0) = false := beq_eq_false_iff_ne.2 e0
          have HNE := Lib.hid (row_ne HA.out HBB.out (by intro e; exact e0 e))
          clear e0
          go_wp2
          go_quiet (fail)
          go_wp2
          go_ret
          exact ⟨by rw [HNE.out]; rfl, below_drewN HB.out _⟩
      · have e : l = q := by
          have h1 := HT.out
          rwa [List.take_of_length_le (by have := hn.out; omega), List.take_of_length_le (by have := hm.out; omega)] at h1
        have HD : Hid (decide (l = q) = true) := Lib.hid (decide_eq_true e)
        clear e
        go_wp2
        go_ret
        exact ⟨by rw [HD.out]; rfl, HB.out⟩
  · have HD : Hid (decide (l = q) = false) := Lib.hid (by rw [decide_eq_false_iff_not]; rintro rfl; exact hnm (hn.out.trans hm.out.symm))
    rw [HD.out]
    have hne : ((n : Int) == (m : Int)) = false := by rw [beq_eq_false_iff_ne]; omega
    have hn2 : ¬ n = m := hnm
    clear hnm
    go_enter Tryz.func66, Tryz.ntmps66
    go_wp2
    go_ret
    exact ⟨rfl, Below.refl _ _⟩
set_option maxRecDepth 100000 in
set_option maxHeartbeats 2000000 in
theorem samed_po (w : World) (A B : Option Addr) (n m c d : Nat) (l q : List (PathO)) (hn : Hid (n = l.length)) (hm : Hid (m = q.length)) (hN : n ≤ 1000000) (hM : m ≤ 1000000) (hx : Rd w (· < w.heap.size) A (cs poC l)) (hy : Rd w (· < w.heap.size) B (cs poC q)) :
    Calls Tryz.prog 62 #[.slice A n c, .slice B m d] w (BPost w (decide (l = q))) := by
  have HX := Lib.hid hx
  have HY := Lib.hid hy
  clear hx hy
  by_cases hnm : n = m
  · subst hnm
    go_enter Tryz.func62, Tryz.ntmps62
    go_wp2
    go_loopw [5] (fun v wr => ∃ k : Nat, v = .int .i64 k ∧ k ≤ n ∧ Hid (l.take k = q.take k) ∧ Hid (Below w.heap.size w wr)) (fun v _ => n - (intOf v).toNat)
    case atStart => exact ⟨0, rfl, by omega, Lib.hid (by simp), Lib.hid (Below.refl _ _)⟩
    case round =>
      obtain ⟨k, rfl, hk, HT, HB⟩ := hrel
      by_cases hlt : k < n
      · obtain ⟨a, ha⟩ := at_in l hn hlt
        obtain ⟨b, hb⟩ := at_in q hm hlt
        have HA := Lib.hid ha
        have HBB := Lib.hid hb
        obtain ⟨ad, rfl, hS, h0, hj⟩ := rd_at 3 (fun _ => rfl) (by omega) (HX.out.below HB.out) ha
        obtain ⟨bd, rfl, hT, g0, gj⟩ := rd_at 3 (fun _ => rfl) (by omega) (HY.out.below HB.out) hb
        have hi : (k : Int) < (n : Int) := by omega
        clear ha hb
        obtain ⟨x0, x1, x2⟩ := a
        obtain ⟨y0, y1, y2⟩ := b
        have a0 : wr.cell? (ad.add (k * 3)) = some (.int .i64 x0) := h0
        have a1 : wr.cell? ⟨(ad.add (k * 3)).block, (ad.add (k * 3)).off + 1, none⟩ = some (.int .i64 x1) := (hj 1 (by omega)).resolve_right (by omega)
        have a2 : wr.cell? ⟨(ad.add (k * 3)).block, (ad.add (k * 3)).off + 2, none⟩ = some (.int .i64 x2) := (hj 2 (by omega)).resolve_right (by omega)
        have b0 : wr.cell? (bd.add (k * 3)) = some (.int .i64 y0) := g0
        have b1 : wr.cell? ⟨(bd.add (k * 3)).block, (bd.add (k * 3)).off + 1, none⟩ = some (.int .i64 y1) := (gj 1 (by omega)).resolve_right (by omega)
        have b2 : wr.cell? ⟨(bd.add (k * 3)).block, (bd.add (k * 3)).off + 2, none⟩ = some (.int .i64 y2) := (gj 2 (by omega)).resolve_right (by omega)
        clear h0 hj g0 gj
        by_cases e0 : x0 = y0
        · subst e0
          by_cases e1 : x1 = y1
          · subst e1
            by_cases e2 : x2 = y2
            · subst e2
              go_wp2
              go_quiet (fail)
              go_wp2
              go_roundw
              case rel => exact ⟨k + 1, by go_num, by omega, Lib.hid (take_more2 HT.out HA.out HBB.out rfl), Lib.hid (below_drewN HB.out _)⟩
              case measure => simp [intOf]; omega
            · have t2 : (x2 == y2) = false := beq_eq_false_iff_ne.2 e2
              have HNE := Lib.hid (row_ne HA.out HBB.out (by intro e; cases e; exact e2 rfl))
              clear e2
              go_wp2
              go_quiet (fail)
              go_wp2
              go_ret
              exact ⟨by rw [HNE.out]; rfl, below_drewN HB.out _⟩
          · have t1 : (x1 == y1) = false := beq_eq_false_iff_ne.2 e1
            have HNE := Lib.hid (row_ne HA.out HBB.out (by intro e; cases e; exact e1 rfl))
            clear e1
            go_wp2
            go_quiet (fail)
            go_wp2
            go_ret
            exact ⟨by rw [HNE.out]; rfl, below_drewN HB.out _⟩
        · have t0 : (x0 == y0) = false := beq_eq_false_iff_ne.2 e0
          have HNE := Lib.hid (row_ne HA.out HBB.out (by intro e; cases e; exact e0 rfl))
          clear e0
          go_wp2
          go_quiet (fail)
          go_wp2
          go_ret
          exact ⟨by rw [HNE.out]; rfl, below_drewN HB.out _⟩
      · have e : l = q := by
          have h1 := HT.out
          rwa [List.take_of_length_le (by have := hn.out; omega), List.take_of_length_le (by have := hm.out; omega)] at h1
        have HD : Hid (decide (l = q) = true) := Lib.hid (decide_eq_true e)
        clear e
        go_wp2
        go_ret
        exact ⟨by rw [HD.out]; rfl, HB.out⟩
  · have HD : Hid (decide (l = q) = false) := Lib.hid (by rw [decide_eq_false_iff_not]; rintro rfl; exact hnm (hn.out.trans hm.out.symm))
    rw [HD.out]
    have hne : ((n : Int) == (m : Int)) = false := by rw [beq_eq_false_iff_ne]; omega
    have hn2 : ¬ n = m := hnm
    clear hnm
    go_enter Tryz.func62, Tryz.ntmps62
    go_wp2
    go_ret
    exact ⟨rfl, Below.refl _ _⟩
set_option maxRecDepth 100000 in
set_option maxHeartbeats 2000000 in
theorem samed_dof (w : World) (A B : Option Addr) (n m c d : Nat) (l q : List (DoorO)) (hn : Hid (n = l.length)) (hm : Hid (m = q.length)) (hN : n ≤ 1000000) (hM : m ≤ 1000000) (hx : Rd w (· < w.heap.size) A (cs dooC l)) (hy : Rd w (· < w.heap.size) B (cs dooC q)) :
    Calls Tryz.prog 63 #[.slice A n c, .slice B m d] w (BPost w (decide (l = q))) := by
  have HX := Lib.hid hx
  have HY := Lib.hid hy
  clear hx hy
  by_cases hnm : n = m
  · subst hnm
    go_enter Tryz.func63, Tryz.ntmps63
    go_wp2
    go_loopw [5] (fun v wr => ∃ k : Nat, v = .int .i64 k ∧ k ≤ n ∧ Hid (l.take k = q.take k) ∧ Hid (Below w.heap.size w wr)) (fun v _ => n - (intOf v).toNat)
    case atStart => exact ⟨0, rfl, by omega, Lib.hid (by simp), Lib.hid (Below.refl _ _)⟩
    case round =>
      obtain ⟨k, rfl, hk, HT, HB⟩ := hrel
      by_cases hlt : k < n
      · obtain ⟨a, ha⟩ := at_in l hn hlt
        obtain ⟨b, hb⟩ := at_in q hm hlt
        have HA := Lib.hid ha
        have HBB := Lib.hid hb
        obtain ⟨ad, rfl, hS, h0, hj⟩ := rd_at 6 (fun _ => rfl) (by omega) (HX.out.below HB.out) ha
        obtain ⟨bd, rfl, hT, g0, gj⟩ := rd_at 6 (fun _ => rfl) (by omega) (HY.out.below HB.out) hb
        have hi : (k : Int) < (n : Int) := by omega
        clear ha hb
        obtain ⟨x0, x1, x2, ⟨x3, x4, x5⟩⟩ := a
        obtain ⟨y0, y1, y2, ⟨y3, y4, y5⟩⟩ := b
        have a0 : wr.cell? (ad.add (k * 6)) = some (.int .i64 x0) := h0
        have a1 : wr.cell? ⟨(ad.add (k * 6)).block, (ad.add (k * 6)).off + 1, none⟩ = some (.int .i64 x1) := (hj 1 (by omega)).resolve_right (by omega)
        have a2 : wr.cell? ⟨(ad.add (k * 6)).block, (ad.add (k * 6)).off + 2, none⟩ = some (.int .i64 x2) := (hj 2 (by omega)).resolve_right (by omega)
        have a3 : wr.cell? ⟨(ad.add (k * 6)).block, (ad.add (k * 6)).off + 3, none⟩ = some (.int .i64 x3) := (hj 3 (by omega)).resolve_right (by omega)
        have a4 : wr.cell? ⟨(ad.add (k * 6)).block, (ad.add (k * 6)).off + 4, none⟩ = some (.int .i64 x4) := (hj 4 (by omega)).resolve_right (by omega)
        have a5 : wr.cell? ⟨(ad.add (k * 6)).block, (ad.add (k * 6)).off + 5, none⟩ = some (.int .i64 x5) := (hj 5 (by omega)).resolve_right (by omega)
        have b0 : wr.cell? (bd.add (k * 6)) = some (.int .i64 y0) := g0
        have b1 : wr.cell? ⟨(bd.add (k * 6)).block, (bd.add (k * 6)).off + 1, none⟩ = some (.int .i64 y1) := (gj 1 (by omega)).resolve_right (by omega)
        have b2 : wr.cell? ⟨(bd.add (k * 6)).block, (bd.add (k * 6)).off + 2, none⟩ = some (.int .i64 y2) := (gj 2 (by omega)).resolve_right (by omega)
        have b3 : wr.cell? ⟨(bd.add (k * 6)).block, (bd.add (k * 6)).off + 3, none⟩ = some (.int .i64 y3) := (gj 3 (by omega)).resolve_right (by omega)
        have b4 : wr.cell? ⟨(bd.add (k * 6)).block, (bd.add (k * 6)).off + 4, none⟩ = some (.int .i64 y4) := (gj 4 (by omega)).resolve_right (by omega)
        have b5 : wr.cell? ⟨(bd.add (k * 6)).block, (bd.add (k * 6)).off + 5, none⟩ = some (.int .i64 y5) := (gj 5 (by omega)).resolve_right (by omega)
        clear h0 hj g0 gj
        by_cases e0 : x0 = y0
        · subst e0
          by_cases e1 : x1 = y1
          · subst e1
            by_cases e2 : x2 = y2
            · subst e2
              by_cases e3 : x3 = y3
              · subst e3
                by_cases e4 : x4 = y4
                · subst e4
                  by_cases e5 : x5 = y5
                  · subst e5
                    go_wp2
                    go_quiet (fail)
                    go_wp2
                    go_roundw
                    case rel => exact ⟨k + 1, by go_num, by omega, Lib.hid (take_more2 HT.out HA.out HBB.out rfl), Lib.hid (below_drewN HB.out _)⟩
                    case measure => simp [intOf]; omega
                  · have t5 : (x5 == y5) = false := beq_eq_false_iff_ne.2 e5
                    have HNE := Lib.hid (row_ne HA.out HBB.out (by intro e; cases e; exact e5 rfl))
                    clear e5
                    go_wp2
                    go_quiet (fail)
                    go_wp2
                    go_ret
                    exact ⟨by rw [HNE.out]; rfl, below_drewN HB.out _⟩
                · have t4 : (x4 == y4) = false := beq_eq_false_iff_ne.2 e4
                  have HNE := Lib.hid (row_ne HA.out HBB.out (by intro e; cases e; exact e4 rfl))
                  clear e4
                  go_wp2
                  go_quiet (fail)
                  go_wp2
                  go_ret
                  exact ⟨by rw [HNE.out]; rfl, below_drewN HB.out _⟩
              · have t3 : (x3 == y3) = false := beq_eq_false_iff_ne.2 e3
                have HNE := Lib.hid (row_ne HA.out HBB.out (by intro e; cases e; exact e3 rfl))
                clear e3
                go_wp2
                go_quiet (fail)
                go_wp2
                go_ret
                exact ⟨by rw [HNE.out]; rfl, below_drewN HB.out _⟩
            · have t2 : (x2 == y2) = false := beq_eq_false_iff_ne.2 e2
              have HNE := Lib.hid (row_ne HA.out HBB.out (by intro e; cases e; exact e2 rfl))
              clear e2
              go_wp2
              go_quiet (fail)
              go_wp2
              go_ret
              exact ⟨by rw [HNE.out]; rfl, below_drewN HB.out _⟩
          · have t1 : (x1 == y1) = false := beq_eq_false_iff_ne.2 e1
            have HNE := Lib.hid (row_ne HA.out HBB.out (by intro e; cases e; exact e1 rfl))
            clear e1
            go_wp2
            go_quiet (fail)
            go_wp2
            go_ret
            exact ⟨by rw [HNE.out]; rfl, below_drewN HB.out _⟩
        · have t0 : (x0 == y0) = false := beq_eq_false_iff_ne.2 e0
          have HNE := Lib.hid (row_ne HA.out HBB.out (by intro e; cases e; exact e0 rfl))
          clear e0
          go_wp2
          go_quiet (fail)
          go_wp2
          go_ret
          exact ⟨by rw [HNE.out]; rfl, below_drewN HB.out _⟩
      · have e : l = q := by
          have h1 := HT.out
          rwa [List.take_of_length_le (by have := hn.out; omega), List.take_of_length_le (by have := hm.out; omega)] at h1
        have HD : Hid (decide (l = q) = true) := Lib.hid (decide_eq_true e)
        clear e
        go_wp2
        go_ret
        exact ⟨by rw [HD.out]; rfl, HB.out⟩
  · have HD : Hid (decide (l = q) = false) := Lib.hid (by rw [decide_eq_false_iff_not]; rintro rfl; exact hnm (hn.out.trans hm.out.symm))
    rw [HD.out]
    have hne : ((n : Int) == (m : Int)) = false := by rw [beq_eq_false_iff_ne]; omega
    have hn2 : ¬ n = m := hnm
    clear hnm
    go_enter Tryz.func63, Tryz.ntmps63
    go_wp2
    go_ret
    exact ⟨rfl, Below.refl _ _⟩
set_option maxRecDepth 100000 in
set_option maxHeartbeats 2000000 in
theorem samed_to (w : World) (A B : Option Addr) (n m c d : Nat) (l q : List (TripO)) (hn : Hid (n = l.length)) (hm : Hid (m = q.length)) (hN : n ≤ 1000000) (hM : m ≤ 1000000) (hx : Rd w (· < w.heap.size) A (cs toC l)) (hy : Rd w (· < w.heap.size) B (cs toC q)) :
    Calls Tryz.prog 64 #[.slice A n c, .slice B m d] w (BPost w (decide (l = q))) := by
  have HX := Lib.hid hx
  have HY := Lib.hid hy
  clear hx hy
  by_cases hnm : n = m
  · subst hnm
    go_enter Tryz.func64, Tryz.ntmps64
    go_wp2
    go_loopw [5] (fun v wr => ∃ k : Nat, v = .int .i64 k ∧ k ≤ n ∧ Hid (l.take k = q.take k) ∧ Hid (Below w.heap.size w wr)) (fun v _ => n - (intOf v).toNat)
    case atStart => exact ⟨0, rfl, by omega, Lib.hid (by simp), Lib.hid (Below.refl _ _)⟩
    case round =>
      obtain ⟨k, rfl, hk, HT, HB⟩ := hrel
      by_cases hlt : k < n
      · obtain ⟨a, ha⟩ := at_in l hn hlt
        obtain ⟨b, hb⟩ := at_in q hm hlt
        have HA := Lib.hid ha
        have HBB := Lib.hid hb
        obtain ⟨ad, rfl, hS, h0, hj⟩ := rd_at 4 (fun _ => rfl) (by omega) (HX.out.below HB.out) ha
        obtain ⟨bd, rfl, hT, g0, gj⟩ := rd_at 4 (fun _ => rfl) (by omega) (HY.out.below HB.out) hb
        have hi : (k : Int) < (n : Int) := by omega
        clear ha hb
        obtain ⟨x0, x1, x2, x3⟩ := a
        obtain ⟨y0, y1, y2, y3⟩ := b
        have a0 : wr.cell? (ad.add (k * 4)) = some (.int .i64 x0) := h0
        have a1 : wr.cell? ⟨(ad.add (k * 4)).block, (ad.add (k * 4)).off + 1, none⟩ = some (.int .i64 x1) := (hj 1 (by omega)).resolve_right (by omega)
        have a2 : wr.cell? ⟨(ad.add (k * 4)).block, (ad.add (k * 4)).off + 2, none⟩ = some (.int .i64 x2) := (hj 2 (by omega)).resolve_right (by omega)
        have a3 : wr.cell? ⟨(ad.add (k * 4)).block, (ad.add (k * 4)).off + 3, none⟩ = some (.int .i64 x3) := (hj 3 (by omega)).resolve_right (by omega)
        have b0 : wr.cell? (bd.add (k * 4)) = some (.int .i64 y0) := g0
        have b1 : wr.cell? ⟨(bd.add (k * 4)).block, (bd.add (k * 4)).off + 1, none⟩ = some (.int .i64 y1) := (gj 1 (by omega)).resolve_right (by omega)
        have b2 : wr.cell? ⟨(bd.add (k * 4)).block, (bd.add (k * 4)).off + 2, none⟩ = some (.int .i64 y2) := (gj 2 (by omega)).resolve_right (by omega)
        have b3 : wr.cell? ⟨(bd.add (k * 4)).block, (bd.add (k * 4)).off + 3, none⟩ = some (.int .i64 y3) := (gj 3 (by omega)).resolve_right (by omega)
        clear h0 hj g0 gj
        by_cases e0 : x0 = y0
        · subst e0
          by_cases e1 : x1 = y1
          · subst e1
            by_cases e2 : x2 = y2
            · subst e2
              by_cases e3 : x3 = y3
              · subst e3
                go_wp2
                go_quiet (fail)
                go_wp2
                go_roundw
                case rel => exact ⟨k + 1, by go_num, by omega, Lib.hid (take_more2 HT.out HA.out HBB.out rfl), Lib.hid (below_drewN HB.out _)⟩
                case measure => simp [intOf]; omega
              · have t3 : (x3 == y3) = false := beq_eq_false_iff_ne.2 e3
                have HNE := Lib.hid (row_ne HA.out HBB.out (by intro e; cases e; exact e3 rfl))
                clear e3
                go_wp2
                go_quiet (fail)
                go_wp2
                go_ret
                exact ⟨by rw [HNE.out]; rfl, below_drewN HB.out _⟩
            · have t2 : (x2 == y2) = false := beq_eq_false_iff_ne.2 e2
              have HNE := Lib.hid (row_ne HA.out HBB.out (by intro e; cases e; exact e2 rfl))
              clear e2
              go_wp2
              go_quiet (fail)
              go_wp2
              go_ret
              exact ⟨by rw [HNE.out]; rfl, below_drewN HB.out _⟩
          · have t1 : (x1 == y1) = false := beq_eq_false_iff_ne.2 e1
            have HNE := Lib.hid (row_ne HA.out HBB.out (by intro e; cases e; exact e1 rfl))
            clear e1
            go_wp2
            go_quiet (fail)
            go_wp2
            go_ret
            exact ⟨by rw [HNE.out]; rfl, below_drewN HB.out _⟩
        · have t0 : (x0 == y0) = false := beq_eq_false_iff_ne.2 e0
          have HNE := Lib.hid (row_ne HA.out HBB.out (by intro e; cases e; exact e0 rfl))
          clear e0
          go_wp2
          go_quiet (fail)
          go_wp2
          go_ret
          exact ⟨by rw [HNE.out]; rfl, below_drewN HB.out _⟩
      · have e : l = q := by
          have h1 := HT.out
          rwa [List.take_of_length_le (by have := hn.out; omega), List.take_of_length_le (by have := hm.out; omega)] at h1
        have HD : Hid (decide (l = q) = true) := Lib.hid (decide_eq_true e)
        clear e
        go_wp2
        go_ret
        exact ⟨by rw [HD.out]; rfl, HB.out⟩
  · have HD : Hid (decide (l = q) = false) := Lib.hid (by rw [decide_eq_false_iff_not]; rintro rfl; exact hnm (hn.out.trans hm.out.symm))
    rw [HD.out]
    have hne : ((n : Int) == (m : Int)) = false := by rw [beq_eq_false_iff_ne]; omega
    have hn2 : ¬ n = m := hnm
    clear hnm
    go_enter Tryz.func64, Tryz.ntmps64
    go_wp2
    go_ret
    exact ⟨rfl, Below.refl _ _⟩
set_option maxRecDepth 100000 in
set_option maxHeartbeats 2000000 in
theorem samed_ho (w : World) (A B : Option Addr) (n m c d : Nat) (l q : List (HazO)) (hn : Hid (n = l.length)) (hm : Hid (m = q.length)) (hN : n ≤ 1000000) (hM : m ≤ 1000000) (hx : Rd w (· < w.heap.size) A (cs hoC l)) (hy : Rd w (· < w.heap.size) B (cs hoC q)) :
    Calls Tryz.prog 65 #[.slice A n c, .slice B m d] w (BPost w (decide (l = q))) := by
  have HX := Lib.hid hx
  have HY := Lib.hid hy
  clear hx hy
  by_cases hnm : n = m
  · subst hnm
    go_enter Tryz.func65, Tryz.ntmps65
    go_wp2
    go_loopw [5] (fun v wr => ∃ k : Nat, v = .int .i64 k ∧ k ≤ n ∧ Hid (l.take k = q.take k) ∧ Hid (Below w.heap.size w wr)) (fun v _ => n - (intOf v).toNat)
    case atStart => exact ⟨0, rfl, by omega, Lib.hid (by simp), Lib.hid (Below.refl _ _)⟩
    case round =>
      obtain ⟨k, rfl, hk, HT, HB⟩ := hrel
      by_cases hlt : k < n
      · obtain ⟨a, ha⟩ := at_in l hn hlt
        obtain ⟨b, hb⟩ := at_in q hm hlt
        have HA := Lib.hid ha
        have HBB := Lib.hid hb
        obtain ⟨ad, rfl, hS, h0, hj⟩ := rd_at 5 (fun _ => rfl) (by omega) (HX.out.below HB.out) ha
        obtain ⟨bd, rfl, hT, g0, gj⟩ := rd_at 5 (fun _ => rfl) (by omega) (HY.out.below HB.out) hb
        have hi : (k : Int) < (n : Int) := by omega
        clear ha hb
        obtain ⟨x0, x1, ⟨x2, x3, x4⟩⟩ := a
        obtain ⟨y0, y1, ⟨y2, y3, y4⟩⟩ := b
        have a0 : wr.cell? (ad.add (k * 5)) = some (.bool x0) := h0
        have a1 : wr.cell? ⟨(ad.add (k * 5)).block, (ad.add (k * 5)).off + 1, none⟩ = some (.int .i64 x1) := (hj 1 (by omega)).resolve_right (by omega)
        have a2 : wr.cell? ⟨(ad.add (k * 5)).block, (ad.add (k * 5)).off + 2, none⟩ = some (.int .i64 x2) := (hj 2 (by omega)).resolve_right (by omega)
        have a3 : wr.cell? ⟨(ad.add (k * 5)).block, (ad.add (k * 5)).off + 3, none⟩ = some (.int .i64 x3) := (hj 3 (by omega)).resolve_right (by omega)
        have a4 : wr.cell? ⟨(ad.add (k * 5)).block, (ad.add (k * 5)).off + 4, none⟩ = some (.int .i64 x4) := (hj 4 (by omega)).resolve_right (by omega)
        have b0 : wr.cell? (bd.add (k * 5)) = some (.bool y0) := g0
        have b1 : wr.cell? ⟨(bd.add (k * 5)).block, (bd.add (k * 5)).off + 1, none⟩ = some (.int .i64 y1) := (gj 1 (by omega)).resolve_right (by omega)
        have b2 : wr.cell? ⟨(bd.add (k * 5)).block, (bd.add (k * 5)).off + 2, none⟩ = some (.int .i64 y2) := (gj 2 (by omega)).resolve_right (by omega)
        have b3 : wr.cell? ⟨(bd.add (k * 5)).block, (bd.add (k * 5)).off + 3, none⟩ = some (.int .i64 y3) := (gj 3 (by omega)).resolve_right (by omega)
        have b4 : wr.cell? ⟨(bd.add (k * 5)).block, (bd.add (k * 5)).off + 4, none⟩ = some (.int .i64 y4) := (gj 4 (by omega)).resolve_right (by omega)
        clear h0 hj g0 gj
        by_cases e0 : x0 = y0
        · subst e0
          by_cases e1 : x1 = y1
          · subst e1
            by_cases e2 : x2 = y2
            · subst e2
              by_cases e3 : x3 = y3
              · subst e3
                by_cases e4 : x4 = y4
                · subst e4
                  go_wp2
                  go_quiet (fail)
                  go_wp2
                  go_roundw
                  case rel => exact ⟨k + 1, by go_num, by omega, Lib.hid (take_more2 HT.out HA.out HBB.out rfl), Lib.hid (below_drewN HB.out _)⟩
                  case measure => simp [intOf]; omega
                · have t4 : (x4 == y4) = false := beq_eq_false_iff_ne.2 e4
                  have HNE := Lib.hid (row_ne HA.out HBB.out (by intro e; cases e; exact e4 rfl))
                  clear e4
                  go_wp2
                  go_quiet (fail)
                  go_wp2
                  go_ret
                  exact ⟨by rw [HNE.out]; rfl, below_drewN HB.out _⟩
              · have t3 : (x3 == y3) = false := beq_eq_false_iff_ne.2 e3
                have HNE := Lib.hid (row_ne HA.out HBB.out (by intro e; cases e; exact e3 rfl))
                clear e3
                go_wp2
                go_quiet (fail)
                go_wp2
                go_ret
                exact ⟨by rw [HNE.out]; rfl, below_drewN HB.out _⟩
            · have t2 : (x2 == y2) = false := beq_eq_false_iff_ne.2 e2
              have HNE := Lib.hid (row_ne HA.out HBB.out (by intro e; cases e; exact e2 rfl))
              clear e2
              go_wp2
              go_quiet (fail)
              go_wp2
              go_ret
              exact ⟨by rw [HNE.out]; rfl, below_drewN HB.out _⟩
          · have t1 : (x1 == y1) = false := beq_eq_false_iff_ne.2 e1
            have HNE := Lib.hid (row_ne HA.out HBB.out (by intro e; cases e; exact e1 rfl))
            clear e1
            go_wp2
            go_quiet (fail)
            go_wp2
            go_ret
            exact ⟨by rw [HNE.out]; rfl, below_drewN HB.out _⟩
        · have t0 : (x0 == y0) = false := beq_eq_false_iff_ne.2 e0
          have HNE := Lib.hid (row_ne HA.out HBB.out (by intro e; cases e; exact e0 rfl))
          clear e0
          go_wp2
          go_quiet (fail)
          go_wp2
          go_ret
          exact ⟨by rw [HNE.out]; rfl, below_drewN HB.out _⟩
      · have e : l = q := by
          have h1 := HT.out
          rwa [List.take_of_length_le (by have := hn.out; omega), List.take_of_length_le (by have := hm.out; omega)] at h1
        have HD : Hid (decide (l = q) = true) := Lib.hid (decide_eq_true e)
        clear e
        go_wp2
        go_ret
        exact ⟨by rw [HD.out]; rfl, HB.out⟩
  · have HD : Hid (decide (l = q) = false) := Lib.hid (by rw [decide_eq_false_iff_not]; rintro rfl; exact hnm (hn.out.trans hm.out.symm))
    rw [HD.out]
    have hne : ((n : Int) == (m : Int)) = false := by rw [beq_eq_false_iff_ne]; omega
    have hn2 : ¬ n = m := hnm
    clear hnm
    go_enter Tryz.func65, Tryz.ntmps65
    go_wp2
    go_ret
    exact ⟨rfl, Below.refl _ _⟩end Go.Proofs.YtgdanbfglefiiaaGreat.Wo
