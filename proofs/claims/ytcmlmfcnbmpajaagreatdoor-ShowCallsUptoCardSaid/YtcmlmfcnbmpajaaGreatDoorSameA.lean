/- Comparing rows that are the same, proved by walking the texts. Conditions: at most a million things. · Comparing rows that are the same, proved by walking the texts. Conditions: at most a million things. -/
import Derived.Test.YtcmlmfcnbmpajaaGreatDoorEachA
namespace Go.Proofs.YtcmlmfcnbmpajaaGreatDoor.Sh
open Go.ChangeShapes Go.WideShapes Go.ChangeAt Go.RowKit
open Lx
set_option linter.unusedVariables false
set_option linter.unusedSimpArgs false

end Go.Proofs.YtcmlmfcnbmpajaaGreatDoor.Sh
namespace Go.Proofs.YtcmlmfcnbmpajaaGreatDoor.Sh
open Go.ChangeShapes Go.WideShapes Go.ChangeAt Go.RowKit
open Lx
set_option linter.unusedVariables false
set_option linter.unusedSimpArgs false

set_option maxRecDepth 100000 in
set_option maxHeartbeats 1000000 in
theorem same_str (w : World) (A B : Option Addr) (n c d : Nat) (l : List (List UInt8)) (hn : Hid (n = l.length)) (hN : n ≤ 1000000) (hx : Rd w (· < w.heap.size) A (cs strC l)) (hy : Rd w (· < w.heap.size) B (cs strC l)) :
    Calls Tryz.prog 14 #[.slice A n c, .slice B n d] w (BPost w true) := by
  have HX := Lib.hid hx
  have HY := Lib.hid hy
  clear hx hy
  go_enter Tryz.func14, Tryz.ntmps14
  go_wp2
  go_loopw [5] (fun v wr => ∃ k : Nat, v = .int .i64 k ∧ k ≤ n ∧ Hid (Below w.heap.size w wr)) (fun v _ => n - (intOf v).toNat)
  case atStart => exact ⟨0, rfl, by omega, Lib.hid (Below.refl _ _)⟩
  case round =>
    obtain ⟨k, rfl, hk, HB⟩ := hrel
    by_cases hlt : k < n
    · obtain ⟨a, ha⟩ := at_in l hn hlt
      obtain ⟨ad, rfl, hS, h0, hj⟩ := rd_at 1 (fun _ => rfl) (by omega) (HX.out.below HB.out) ha
      obtain ⟨bd, rfl, hT, g0, gj⟩ := rd_at 1 (fun _ => rfl) (by omega) (HY.out.below HB.out) ha
      obtain ⟨x0, hx0⟩ : ∃ x0, x0 = a := ⟨_, rfl⟩
      subst hx0
      rw [Nat.mul_one] at h0 g0
      have a0 : wr.cell? (ad.add k) = some (.string ⟨x0.toArray⟩) := h0
      have b0 : wr.cell? (bd.add k) = some (.string ⟨x0.toArray⟩) := g0
      have hi : (k : Int) < (n : Int) := by omega
      clear ha h0 hj g0 gj
      go_wp2
      go_quiet (fail)
      go_wp2
      go_roundw
      case rel => exact ⟨k + 1, by go_num, by omega, Lib.hid (below_drewN HB.out _)⟩
      case measure => simp [intOf]; omega
    · go_wp2
      go_ret
      exact ⟨rfl, HB.out⟩

set_option maxRecDepth 100000 in
set_option maxHeartbeats 1000000 in
theorem same_int (w : World) (A B : Option Addr) (n c d : Nat) (l : List (Int)) (hn : Hid (n = l.length)) (hN : n ≤ 1000000) (hx : Rd w (· < w.heap.size) A (cs intC l)) (hy : Rd w (· < w.heap.size) B (cs intC l)) :
    Calls Tryz.prog 94 #[.slice A n c, .slice B n d] w (BPost w true) := by
  have HX := Lib.hid hx
  have HY := Lib.hid hy
  clear hx hy
  go_enter Tryz.func94, Tryz.ntmps94
  go_wp2
  go_loopw [5] (fun v wr => ∃ k : Nat, v = .int .i64 k ∧ k ≤ n ∧ Hid (Below w.heap.size w wr)) (fun v _ => n - (intOf v).toNat)
  case atStart => exact ⟨0, rfl, by omega, Lib.hid (Below.refl _ _)⟩
  case round =>
    obtain ⟨k, rfl, hk, HB⟩ := hrel
    by_cases hlt : k < n
    · obtain ⟨a, ha⟩ := at_in l hn hlt
      obtain ⟨ad, rfl, hS, h0, hj⟩ := rd_at 1 (fun _ => rfl) (by omega) (HX.out.below HB.out) ha
      obtain ⟨bd, rfl, hT, g0, gj⟩ := rd_at 1 (fun _ => rfl) (by omega) (HY.out.below HB.out) ha
      obtain ⟨x0, hx0⟩ : ∃ x0, x0 = a := ⟨_, rfl⟩
      subst hx0
      rw [Nat.mul_one] at h0 g0
      have a0 : wr.cell? (ad.add k) = some (.int .i64 x0) := h0
      have b0 : wr.cell? (bd.add k) = some (.int .i64 x0) := g0
      have hi : (k : Int) < (n : Int) := by omega
      clear ha h0 hj g0 gj
      go_wp2
      go_quiet (fail)
      go_wp2
      go_roundw
      case rel => exact ⟨k + 1, by go_num, by omega, Lib.hid (below_drewN HB.out _)⟩
      case measure => simp [intOf]; omega
    · go_wp2
      go_ret
      exact ⟨rfl, HB.out⟩

set_option maxRecDepth 100000 in
set_option maxHeartbeats 1000000 in
theorem same_path (w : World) (A B : Option Addr) (n c d : Nat) (l : List (PathM)) (hn : Hid (n = l.length)) (hN : n ≤ 1000000) (hx : Rd w (· < w.heap.size) A (cs paC l)) (hy : Rd w (· < w.heap.size) B (cs paC l)) :
    Calls Tryz.prog 63 #[.slice A n c, .slice B n d] w (BPost w true) := by
  have HX := Lib.hid hx
  have HY := Lib.hid hy
  clear hx hy
  go_enter Tryz.func63, Tryz.ntmps63
  go_wp2
  go_loopw [5] (fun v wr => ∃ k : Nat, v = .int .i64 k ∧ k ≤ n ∧ Hid (Below w.heap.size w wr)) (fun v _ => n - (intOf v).toNat)
  case atStart => exact ⟨0, rfl, by omega, Lib.hid (Below.refl _ _)⟩
  case round =>
    obtain ⟨k, rfl, hk, HB⟩ := hrel
    by_cases hlt : k < n
    · obtain ⟨a, ha⟩ := at_in l hn hlt
      obtain ⟨ad, rfl, hS, h0, hj⟩ := rd_at 4 (fun _ => rfl) (by omega) (HX.out.below HB.out) ha
      obtain ⟨bd, rfl, hT, g0, gj⟩ := rd_at 4 (fun _ => rfl) (by omega) (HY.out.below HB.out) ha
      obtain ⟨x0, x1, x2, x3⟩ := a
      have a0 : wr.cell? (ad.add (k * 4)) = some (.string ⟨x0.toArray⟩) := h0
      have a1 : wr.cell? ⟨(ad.add (k * 4)).block, (ad.add (k * 4)).off + 1, none⟩ = some (.string ⟨x1.toArray⟩) := (hj 1 (by omega)).resolve_right (by omega)
      have a2 : wr.cell? ⟨(ad.add (k * 4)).block, (ad.add (k * 4)).off + 2, none⟩ = some (.string ⟨x2.toArray⟩) := (hj 2 (by omega)).resolve_right (by omega)
      have a3 : wr.cell? ⟨(ad.add (k * 4)).block, (ad.add (k * 4)).off + 3, none⟩ = some (.int .i64 x3) := (hj 3 (by omega)).resolve_right (by omega)
      have b0 : wr.cell? (bd.add (k * 4)) = some (.string ⟨x0.toArray⟩) := g0
      have b1 : wr.cell? ⟨(bd.add (k * 4)).block, (bd.add (k * 4)).off + 1, none⟩ = some (.string ⟨x1.toArray⟩) := (gj 1 (by omega)).resolve_right (by omega)
      have b2 : wr.cell? ⟨(bd.add (k * 4)).block, (bd.add (k * 4)).off + 2, none⟩ = some (.string ⟨x2.toArray⟩) := (gj 2 (by omega)).resolve_right (by omega)
      have b3 : wr.cell? ⟨(bd.add (k * 4)).block, (bd.add (k * 4)).off + 3, none⟩ = some (.int .i64 x3) := (gj 3 (by omega)).resolve_right (by omega)
      have hi : (k : Int) < (n : Int) := by omega
      clear ha h0 hj g0 gj
      go_wp2
      go_quiet (fail)
      go_wp2
      go_roundw
      case rel => exact ⟨k + 1, by go_num, by omega, Lib.hid (below_drewN HB.out _)⟩
      case measure => simp [intOf]; omega
    · go_wp2
      go_ret
      exact ⟨rfl, HB.out⟩

set_option maxRecDepth 100000 in
set_option maxHeartbeats 1000000 in
theorem same_door (w : World) (A B : Option Addr) (n c d : Nat) (l : List (DoorM)) (hn : Hid (n = l.length)) (hN : n ≤ 1000000) (hx : Rd w (· < w.heap.size) A (cs doC l)) (hy : Rd w (· < w.heap.size) B (cs doC l)) :
    Calls Tryz.prog 64 #[.slice A n c, .slice B n d] w (BPost w true) := by
  have HX := Lib.hid hx
  have HY := Lib.hid hy
  clear hx hy
  go_enter Tryz.func64, Tryz.ntmps64
  go_wp2
  go_loopw [5] (fun v wr => ∃ k : Nat, v = .int .i64 k ∧ k ≤ n ∧ Hid (Below w.heap.size w wr)) (fun v _ => n - (intOf v).toNat)
  case atStart => exact ⟨0, rfl, by omega, Lib.hid (Below.refl _ _)⟩
  case round =>
    obtain ⟨k, rfl, hk, HB⟩ := hrel
    by_cases hlt : k < n
    · obtain ⟨a, ha⟩ := at_in l hn hlt
      obtain ⟨ad, rfl, hS, h0, hj⟩ := rd_at 7 (fun _ => rfl) (by omega) (HX.out.below HB.out) ha
      obtain ⟨bd, rfl, hT, g0, gj⟩ := rd_at 7 (fun _ => rfl) (by omega) (HY.out.below HB.out) ha
      obtain ⟨x0, x1, x2, x3, ⟨x4, x5, x6⟩⟩ := a
      have a0 : wr.cell? (ad.add (k * 7)) = some (.string ⟨x0.toArray⟩) := h0
      have a1 : wr.cell? ⟨(ad.add (k * 7)).block, (ad.add (k * 7)).off + 1, none⟩ = some (.string ⟨x1.toArray⟩) := (hj 1 (by omega)).resolve_right (by omega)
      have a2 : wr.cell? ⟨(ad.add (k * 7)).block, (ad.add (k * 7)).off + 2, none⟩ = some (.string ⟨x2.toArray⟩) := (hj 2 (by omega)).resolve_right (by omega)
      have a3 : wr.cell? ⟨(ad.add (k * 7)).block, (ad.add (k * 7)).off + 3, none⟩ = some (.int .i64 x3) := (hj 3 (by omega)).resolve_right (by omega)
      have a4 : wr.cell? ⟨(ad.add (k * 7)).block, (ad.add (k * 7)).off + 4, none⟩ = some (.int .i64 x4) := (hj 4 (by omega)).resolve_right (by omega)
      have a5 : wr.cell? ⟨(ad.add (k * 7)).block, (ad.add (k * 7)).off + 5, none⟩ = some (.int .i64 x5) := (hj 5 (by omega)).resolve_right (by omega)
      have a6 : wr.cell? ⟨(ad.add (k * 7)).block, (ad.add (k * 7)).off + 6, none⟩ = some (.int .i64 x6) := (hj 6 (by omega)).resolve_right (by omega)
      have b0 : wr.cell? (bd.add (k * 7)) = some (.string ⟨x0.toArray⟩) := g0
      have b1 : wr.cell? ⟨(bd.add (k * 7)).block, (bd.add (k * 7)).off + 1, none⟩ = some (.string ⟨x1.toArray⟩) := (gj 1 (by omega)).resolve_right (by omega)
      have b2 : wr.cell? ⟨(bd.add (k * 7)).block, (bd.add (k * 7)).off + 2, none⟩ = some (.string ⟨x2.toArray⟩) := (gj 2 (by omega)).resolve_right (by omega)
      have b3 : wr.cell? ⟨(bd.add (k * 7)).block, (bd.add (k * 7)).off + 3, none⟩ = some (.int .i64 x3) := (gj 3 (by omega)).resolve_right (by omega)
      have b4 : wr.cell? ⟨(bd.add (k * 7)).block, (bd.add (k * 7)).off + 4, none⟩ = some (.int .i64 x4) := (gj 4 (by omega)).resolve_right (by omega)
      have b5 : wr.cell? ⟨(bd.add (k * 7)).block, (bd.add (k * 7)).off + 5, none⟩ = some (.int .i64 x5) := (gj 5 (by omega)).resolve_right (by omega)
      have b6 : wr.cell? ⟨(bd.add (k * 7)).block, (bd.add (k * 7)).off + 6, none⟩ = some (.int .i64 x6) := (gj 6 (by omega)).resolve_right (by omega)
      have hi : (k : Int) < (n : Int) := by omega
      clear ha h0 hj g0 gj
      go_wp2
      go_quiet (fail)
      go_wp2
      go_roundw
      case rel => exact ⟨k + 1, by go_num, by omega, Lib.hid (below_drewN HB.out _)⟩
      case measure => simp [intOf]; omega
    · go_wp2
      go_ret
      exact ⟨rfl, HB.out⟩

set_option maxRecDepth 100000 in
set_option maxHeartbeats 1000000 in
theorem same_trip (w : World) (A B : Option Addr) (n c d : Nat) (l : List (TripM)) (hn : Hid (n = l.length)) (hN : n ≤ 1000000) (hx : Rd w (· < w.heap.size) A (cs trC l)) (hy : Rd w (· < w.heap.size) B (cs trC l)) :
    Calls Tryz.prog 65 #[.slice A n c, .slice B n d] w (BPost w true) := by
  have HX := Lib.hid hx
  have HY := Lib.hid hy
  clear hx hy
  go_enter Tryz.func65, Tryz.ntmps65
  go_wp2
  go_loopw [5] (fun v wr => ∃ k : Nat, v = .int .i64 k ∧ k ≤ n ∧ Hid (Below w.heap.size w wr)) (fun v _ => n - (intOf v).toNat)
  case atStart => exact ⟨0, rfl, by omega, Lib.hid (Below.refl _ _)⟩
  case round =>
    obtain ⟨k, rfl, hk, HB⟩ := hrel
    by_cases hlt : k < n
    · obtain ⟨a, ha⟩ := at_in l hn hlt
      obtain ⟨ad, rfl, hS, h0, hj⟩ := rd_at 5 (fun _ => rfl) (by omega) (HX.out.below HB.out) ha
      obtain ⟨bd, rfl, hT, g0, gj⟩ := rd_at 5 (fun _ => rfl) (by omega) (HY.out.below HB.out) ha
      obtain ⟨x0, x1, x2, x3, x4⟩ := a
      have a0 : wr.cell? (ad.add (k * 5)) = some (.string ⟨x0.toArray⟩) := h0
      have a1 : wr.cell? ⟨(ad.add (k * 5)).block, (ad.add (k * 5)).off + 1, none⟩ = some (.string ⟨x1.toArray⟩) := (hj 1 (by omega)).resolve_right (by omega)
      have a2 : wr.cell? ⟨(ad.add (k * 5)).block, (ad.add (k * 5)).off + 2, none⟩ = some (.int .i64 x2) := (hj 2 (by omega)).resolve_right (by omega)
      have a3 : wr.cell? ⟨(ad.add (k * 5)).block, (ad.add (k * 5)).off + 3, none⟩ = some (.int .i64 x3) := (hj 3 (by omega)).resolve_right (by omega)
      have a4 : wr.cell? ⟨(ad.add (k * 5)).block, (ad.add (k * 5)).off + 4, none⟩ = some (.int .i64 x4) := (hj 4 (by omega)).resolve_right (by omega)
      have b0 : wr.cell? (bd.add (k * 5)) = some (.string ⟨x0.toArray⟩) := g0
      have b1 : wr.cell? ⟨(bd.add (k * 5)).block, (bd.add (k * 5)).off + 1, none⟩ = some (.string ⟨x1.toArray⟩) := (gj 1 (by omega)).resolve_right (by omega)
      have b2 : wr.cell? ⟨(bd.add (k * 5)).block, (bd.add (k * 5)).off + 2, none⟩ = some (.int .i64 x2) := (gj 2 (by omega)).resolve_right (by omega)
      have b3 : wr.cell? ⟨(bd.add (k * 5)).block, (bd.add (k * 5)).off + 3, none⟩ = some (.int .i64 x3) := (gj 3 (by omega)).resolve_right (by omega)
      have b4 : wr.cell? ⟨(bd.add (k * 5)).block, (bd.add (k * 5)).off + 4, none⟩ = some (.int .i64 x4) := (gj 4 (by omega)).resolve_right (by omega)
      have hi : (k : Int) < (n : Int) := by omega
      clear ha h0 hj g0 gj
      go_wp2
      go_quiet (fail)
      go_wp2
      go_roundw
      case rel => exact ⟨k + 1, by go_num, by omega, Lib.hid (below_drewN HB.out _)⟩
      case measure => simp [intOf]; omega
    · go_wp2
      go_ret
      exact ⟨rfl, HB.out⟩

set_option maxRecDepth 100000 in
set_option maxHeartbeats 1000000 in
theorem same_haz (w : World) (A B : Option Addr) (n c d : Nat) (l : List (HazM)) (hn : Hid (n = l.length)) (hN : n ≤ 1000000) (hx : Rd w (· < w.heap.size) A (cs haC l)) (hy : Rd w (· < w.heap.size) B (cs haC l)) :
    Calls Tryz.prog 66 #[.slice A n c, .slice B n d] w (BPost w true) := by
  have HX := Lib.hid hx
  have HY := Lib.hid hy
  clear hx hy
  go_enter Tryz.func66, Tryz.ntmps66
  go_wp2
  go_loopw [5] (fun v wr => ∃ k : Nat, v = .int .i64 k ∧ k ≤ n ∧ Hid (Below w.heap.size w wr)) (fun v _ => n - (intOf v).toNat)
  case atStart => exact ⟨0, rfl, by omega, Lib.hid (Below.refl _ _)⟩
  case round =>
    obtain ⟨k, rfl, hk, HB⟩ := hrel
    by_cases hlt : k < n
    · obtain ⟨a, ha⟩ := at_in l hn hlt
      obtain ⟨ad, rfl, hS, h0, hj⟩ := rd_at 5 (fun _ => rfl) (by omega) (HX.out.below HB.out) ha
      obtain ⟨bd, rfl, hT, g0, gj⟩ := rd_at 5 (fun _ => rfl) (by omega) (HY.out.below HB.out) ha
      obtain ⟨x0, x1, ⟨x2, x3, x4⟩⟩ := a
      have a0 : wr.cell? (ad.add (k * 5)) = some (.string ⟨x0.toArray⟩) := h0
      have a1 : wr.cell? ⟨(ad.add (k * 5)).block, (ad.add (k * 5)).off + 1, none⟩ = some (.string ⟨x1.toArray⟩) := (hj 1 (by omega)).resolve_right (by omega)
      have a2 : wr.cell? ⟨(ad.add (k * 5)).block, (ad.add (k * 5)).off + 2, none⟩ = some (.int .i64 x2) := (hj 2 (by omega)).resolve_right (by omega)
      have a3 : wr.cell? ⟨(ad.add (k * 5)).block, (ad.add (k * 5)).off + 3, none⟩ = some (.int .i64 x3) := (hj 3 (by omega)).resolve_right (by omega)
      have a4 : wr.cell? ⟨(ad.add (k * 5)).block, (ad.add (k * 5)).off + 4, none⟩ = some (.int .i64 x4) := (hj 4 (by omega)).resolve_right (by omega)
      have b0 : wr.cell? (bd.add (k * 5)) = some (.string ⟨x0.toArray⟩) := g0
      have b1 : wr.cell? ⟨(bd.add (k * 5)).block, (bd.add (k * 5)).off + 1, none⟩ = some (.string ⟨x1.toArray⟩) := (gj 1 (by omega)).resolve_right (by omega)
      have b2 : wr.cell? ⟨(bd.add (k * 5)).block, (bd.add (k * 5)).off + 2, none⟩ = some (.int .i64 x2) := (gj 2 (by omega)).resolve_right (by omega)
      have b3 : wr.cell? ⟨(bd.add (k * 5)).block, (bd.add (k * 5)).off + 3, none⟩ = some (.int .i64 x3) := (gj 3 (by omega)).resolve_right (by omega)
      have b4 : wr.cell? ⟨(bd.add (k * 5)).block, (bd.add (k * 5)).off + 4, none⟩ = some (.int .i64 x4) := (gj 4 (by omega)).resolve_right (by omega)
      have hi : (k : Int) < (n : Int) := by omega
      clear ha h0 hj g0 gj
      go_wp2
      go_quiet (fail)
      go_wp2
      go_roundw
      case rel => exact ⟨k + 1, by go_num, by omega, Lib.hid (below_drewN HB.out _)⟩
      case measure => simp [intOf]; omega
    · go_wp2
      go_ret
      exact ⟨rfl, HB.out⟩

end Go.Proofs.YtcmlmfcnbmpajaaGreatDoor.Sh

