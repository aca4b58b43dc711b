/- The kit's Same of two rows that may differ: whether they are the same. Conditions: the rows have at most a million things. · The kit's Route and Sheet of two that may differ: whether they are the same. Conditions: their rows have at most a million things. -/
import Derived.Test.YtgdanbfglefiiaaGreatBaC
import Derived.Test.YtgdanbfglefiiaaGreatBaE
import Derived.Test.YtgdanbfglefiiaaGreatBaF
import Derived.Deep.RegionHeld3
namespace Go.Proofs.YtgdanbfglefiiaaGreat.Sh
open Go.ChangeShapes Go.WideShapes Go.ChangeAt Go.RowKit
open Lx
set_option linter.unusedVariables false
set_option linter.unusedSimpArgs false
theorem take_more2 {α : Type} {l k : List α} {i : Nat} {a b : α} (h : l.take i = k.take i) (ha : l[i]? = some a) (hb : k[i]? = some b) (e : a = b) : l.take (i + 1) = k.take (i + 1) := by
  rw [List.take_add_one, List.take_add_one, h, ha, hb, e]
theorem row_ne {α : Type} [DecidableEq α] {l k : List α} {i : Nat} {a b : α} (ha : l[i]? = some a) (hb : k[i]? = some b) (e : a ≠ b) : decide (l = k) = false := by
  rw [decide_eq_false_iff_not]
  rintro rfl
  rw [ha] at hb
  exact e (Option.some.inj hb)
instance decTimesM : DecidableEq TimesM := fun u v => if h : u.frm = v.frm ∧ u.every = v.every ∧ u.len = v.len then isTrue (by cases u; cases v; simp only at h; simp only [TimesM.mk.injEq]; exact h) else isFalse (fun e => h (by subst e; simp))
instance decPathM : DecidableEq PathM := fun u v => if h : u.name = v.name ∧ u.a = v.a ∧ u.b = v.b ∧ u.len = v.len then isTrue (by cases u; cases v; simp only at h; simp only [PathM.mk.injEq]; exact h) else isFalse (fun e => h (by subst e; simp))
instance decDoorM : DecidableEq DoorM := fun u v => if h : u.name = v.name ∧ u.a = v.a ∧ u.b = v.b ∧ u.len = v.len ∧ u.times = v.times then isTrue (by cases u; cases v; simp only at h; simp only [DoorM.mk.injEq]; exact h) else isFalse (fun e => h (by subst e; simp))
instance decTripM : DecidableEq TripM := fun u v => if h : u.name = v.name ∧ u.route = v.route ∧ u.frm = v.frm ∧ u.every = v.every ∧ u.til = v.til then isTrue (by cases u; cases v; simp only at h; simp only [TripM.mk.injEq]; exact h) else isFalse (fun e => h (by subst e; simp))
instance decHazM : DecidableEq HazM := fun u v => if h : u.name = v.name ∧ u.at_ = v.at_ ∧ u.times = v.times then isTrue (by cases u; cases v; simp only at h; simp only [HazM.mk.injEq]; exact h) else isFalse (fun e => h (by subst e; simp))
instance decRouteM : DecidableEq RouteM := fun u v => if h : u.name = v.name ∧ u.stops = v.stops ∧ u.rides = v.rides ∧ u.stays = v.stays then isTrue (by cases u; cases v; simp only at h; simp only [RouteM.mk.injEq]; exact h) else isFalse (fun e => h (by subst e; simp))
instance decSheetM : DecidableEq SheetM := fun u v => if h : u.horizon = v.horizon ∧ u.stops = v.stops ∧ u.paths = v.paths ∧ u.doors = v.doors ∧ u.routes = v.routes ∧ u.trips = v.trips ∧ u.hazards = v.hazards then isTrue (by cases u; cases v; simp only at h; simp only [SheetM.mk.injEq]; exact h) else isFalse (fun e => h (by subst e; simp))
set_option maxRecDepth 100000 in
set_option maxHeartbeats 2000000 in
theorem samed_str (w : World) (A B : Option Addr) (n m c d : Nat) (l q : List (List UInt8)) (hn : Hid (n = l.length)) (hm : Hid (m = q.length)) (hN : n ≤ 1000000) (hM : m ≤ 1000000) (hx : Rd w (· < w.heap.size) A (cs strC l)) (hy : Rd w (· < w.heap.size) B (cs strC q)) :
    Calls Tryz.prog 38 #[.slice A n c, .slice B m d] w (BPost w (decide (l = q))) := by
  have HX := Lib.hid hx
  have HY := Lib.hid hy
  clear hx hy
  by_cases hnm : n = m
  · subst hnm
    go_enter Tryz.func38, Tryz.ntmps38
    go_wp2
    go_loopw [5] (fun v wr => ∃ k : Nat, v = .int .i64 k ∧ k ≤ n ∧ Hid (l.take k = q.take k) ∧ Hid (Below w.heap.size w wr)) (fun v _ => n - (intOf v).toNat)
    case atStart => exact ⟨0, rfl, by omega, Lib.hid (by simp), Lib.hid (Below.refl _ _)⟩
    case round =>
      obtain ⟨k, rfl, hk, HT, HB⟩ := hrel
      by_cases hlt : k < n
      · obtain ⟨a, ha⟩ := at_in l hn hlt
        obtain ⟨b, hb⟩ := at_in q hm hlt
        have HA := Lib.hid ha
        have HBB := Lib.hid hb
        obtain ⟨ad, rfl, hS, h0, hj⟩ := rd_at 1 (fun _ => rfl) (by omega) (HX.out.below HB.out) ha
        obtain ⟨bd, rfl, hT, g0, gj⟩ := rd_at 1 (fun _ => rfl) (by omega) (HY.out.below HB.out) hb
        have hi : (k : Int) < (n : Int) := by omega
        clear ha hb
        obtain ⟨x0, hx0⟩ : ∃ x0, x0 = a := ⟨_, rfl⟩
        subst hx0
        obtain ⟨y0, hy0⟩ : ∃ y0, y0 = b := ⟨_, rfl⟩
        subst hy0
        rw [Nat.mul_one] at h0 g0
        have a0 : wr.cell? (ad.add k) = some (.string ⟨x0.toArray⟩) := h0
        have b0 : wr.cell? (bd.add k) = some (.string ⟨y0.toArray⟩) := g0
        clear h0 hj g0 gj
        by_cases e0 : x0 = y0
        · subst e0
          go_wp2
          go_quiet (fail)
          go_wp2
          go_roundw
          case rel => exact ⟨k + 1, by go_num, by omega, Lib.hid (take_more2 HT.out HA.out HBB.out rfl), Lib.hid (below_drewN HB.out _)⟩
          case measure => simp [intOf]; omega
        · have t0 : (x0 == y0) = false := beq_eq_false_iff_ne.2 e0
          have HNE := Lib.hid (row_ne HA.out HBB.out (by intro e; exact e0 e))
          clear e0
          go_wp2
          go_quiet (fail)
          go_wp2
          go_ret
          exact ⟨by rw [HNE.out]; rfl, below_drewN HB.out _⟩
      · have e : l = q := by
          have h1 := HT.out
          rwa [List.take_of_length_le (by have := hn.out; omega), List.take_of_length_le (by have := hm.out; omega)] at h1
        have HD : Hid (decide (l = q) = true) := Lib.hid (decide_eq_true e)
        clear e
        go_wp2
        go_ret
        exact ⟨by rw [HD.out]; rfl, HB.out⟩
  · have HD : Hid (decide (l = q) = false) := Lib.hid (by rw [decide_eq_false_iff_not]; rintro rfl; exact hnm (hn.out.trans hm.out.symm))
    rw [HD.out]
    have hne : ((n : Int) == (m : Int)) = false := by rw [beq_eq_false_iff_ne]; omega
    have hn2 : ¬ n = m := hnm
    clear hnm
    go_enter Tryz.func38, Tryz.ntmps38
    go_wp2
    go_ret
    exact ⟨rfl, Below.refl _ _⟩
set_option maxRecDepth 100000 in
set_option maxHeartbeats 2000000 in
theorem samed_int (w : World) (A B : Option Addr) (n m c d : Nat) (l q : List (Int)) (hn : Hid (n = l.length)) (hm : Hid (m = q.length)) (hN : n ≤ 1000000) (hM : m ≤ 1000000) (hx : Rd w (· < w.heap.size) A (cs intC l)) (hy : Rd w (· < w.heap.size) B (cs intC q)) :
    Calls Tryz.prog 67 #[.slice A n c, .slice B m d] w (BPost w (decide (l = q))) := by
  have HX := Lib.hid hx
  have HY := Lib.hid hy
  clear hx hy
  by_cases hnm : n = m
  · subst hnm
    go_enter Tryz.func67, Tryz.ntmps67
    go_wp2
    go_loopw [5] (fun v wr => ∃ k : Nat, v = .int .i64 k ∧ k ≤ n ∧ Hid (l.take k = q.take k) ∧ Hid (Below w.heap.size w wr)) (fun v _ => n - (intOf v).toNat)
    case atStart => exact ⟨0, rfl, by omega, Lib.hid (by simp), Lib.hid (Below.refl _ _)⟩
    case round =>
      obtain ⟨k, rfl, hk, HT, HB⟩ := hrel
      by_cases hlt : k < n
      · obtain ⟨a, ha⟩ := at_in l hn hlt
        obtain ⟨b, hb⟩ := at_in q hm hlt
        have HA := Lib.hid ha
        have HBB := Lib.hid hb
        obtain ⟨ad, rfl, hS, h0, hj⟩ := rd_at 1 (fun _ => rfl) (by omega) (HX.out.below HB.out) ha
        obtain ⟨bd, rfl, hT, g0, gj⟩ := rd_at 1 (fun _ => rfl) (by omega) (HY.out.below HB.out) hb
        have hi : (k : Int) < (n : Int) := by omega
        clear ha hb
        obtain ⟨x0, hx0⟩ : ∃ x0, x0 = a := ⟨_, rfl⟩
        subst hx0
        obtain ⟨y0, hy0⟩ : ∃ y0, y0 = b := ⟨_, rfl⟩
        subst hy0
        rw [Nat.mul_one] at h0 g0
        have a0 : wr.cell? (ad.add k) = some (.int .i64 x0) := h0
        have b0 : wr.cell? (bd.add k) = some (.int .i64 y0) := g0
        clear h0 hj g0 gj
        by_cases e0 : x0 = y0
        · subst e0
          go_wp2
          go_quiet (fail)
          go_wp2
          go_roundw
          case rel => exact ⟨k + 1, by go_num, by omega, Lib.hid (take_more2 HT.out HA.out HBB.out rfl), Lib.hid (below_drewN HB.out _)⟩
          case measure => simp [intOf]; omega
        · have t0 : (x0 == y0) = false := beq_eq_false_iff_ne.2 e0
          have HNE := Lib.hid (row_ne HA.out HBB.out (by intro e; exact e0 e))
          clear e0
          go_wp2
          go_quiet (fail)
          go_wp2
          go_ret
          exact ⟨by rw [HNE.out]; rfl, below_drewN HB.out _⟩
      · have e : l = q := by
          have h1 := HT.out
          rwa [List.take_of_length_le (by have := hn.out; omega), List.take_of_length_le (by have := hm.out; omega)] at h1
        have HD : Hid (decide (l = q) = true) := Lib.hid (decide_eq_true e)
        clear e
        go_wp2
        go_ret
        exact ⟨by rw [HD.out]; rfl, HB.out⟩
  · have HD : Hid (decide (l = q) = false) := Lib.hid (by rw [decide_eq_false_iff_not]; rintro rfl; exact hnm (hn.out.trans hm.out.symm))
    rw [HD.out]
    have hne : ((n : Int) == (m : Int)) = false := by rw [beq_eq_false_iff_ne]; omega
    have hn2 : ¬ n = m := hnm
    clear hnm
    go_enter Tryz.func67, Tryz.ntmps67
    go_wp2
    go_ret
    exact ⟨rfl, Below.refl _ _⟩
end Go.Proofs.YtgdanbfglefiiaaGreat.Sh
namespace Go.Proofs.YtgdanbfglefiiaaGreat.Sh
open Go.ChangeShapes Go.WideShapes Go.ChangeAt Go.RowKit
open Lx
set_option linter.unusedVariables false
set_option linter.unusedSimpArgs false
end Go.Proofs.YtgdanbfglefiiaaGreat.Sh
