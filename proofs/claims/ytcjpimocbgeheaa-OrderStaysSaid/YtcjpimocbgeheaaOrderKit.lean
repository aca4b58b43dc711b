/- The verifier's helpers at keys and numbers: Same of two rows that are alike, Own, Pick. -/
import Derived.Test.YtcjpimocbgeheaaOrderUniq
namespace Go.Proofs.Ytcjpimocbgeheaa.Od
open Go.ChangeShapes Go.WideShapes Go.ChangeAt Go.RowKit
set_option linter.unusedVariables false

set_option maxHeartbeats 1000000 in
theorem same_key (w : World) (A B : Option Addr) (n c d : Nat) (zs : List Key) (hn : Hid (n = zs.length)) (hN : n ≤ 1000000) (hx : Rd w (· < w.heap.size) A (kc zs)) (hy : Rd w (· < w.heap.size) B (kc zs)) :
    Calls Try.prog 10 #[.slice A n c, .slice B n d] w fun e w' => e = .returned (.bool true) ∧ Below w.heap.size w w' := by
  have HX := Lib.hid hx
  have HY := Lib.hid hy
  clear hx hy
  go_enter Try.func10, Try.ntmps10
  go_wp2
  go_loopw [5] (fun v5 wr => ∃ k : Nat, v5 = .int .i64 k ∧ k ≤ n ∧ Below w.heap.size w wr) (fun v _ => n - (intOf v).toNat)
  case atStart => exact ⟨0, rfl, by omega, Below.refl _ _⟩
  case round =>
    obtain ⟨k, rfl, hk, hbel⟩ := hrel
    by_cases hlt : k < n
    · obtain ⟨ad, rfl, hS, hca⟩ := (HX.out.below2 hbel).key2 (k := k) (by rw [← hn.out]; exact hlt)
      obtain ⟨bd, rfl, hT, hcb⟩ := (HY.out.below2 hbel).key2 (k := k) (by rw [← hn.out]; exact hlt)
      obtain ⟨ha0, ha1⟩ := hca k (by rw [← hn.out]; exact hlt)
      obtain ⟨hb0, hb1⟩ := hcb k (by rw [← hn.out]; exact hlt)
      obtain ⟨p, hp⟩ : ∃ p, p = zs.getD k (0, 0) := ⟨_, rfl⟩
      rw [← hp] at ha0 ha1 hb0 hb1
      have HB := Lib.hid hbel
      clear hca hcb hbel hp
      have hi : (k : Int) < (n : Int) := by omega
      go_wp2
      go_quiet (fail)
      go_wp2
      go_roundw
      case rel => exact ⟨k + 1, by go_num, by omega, below_drewN HB.out _⟩
      case measure => simp [intOf]; omega
    · have HB := Lib.hid hbel
      clear hbel
      go_wp2
      go_ret
      exact ⟨rfl, HB.out⟩

set_option maxHeartbeats 1000000 in
theorem same_int (w : World) (A B : Option Addr) (n c d : Nat) (zs : List Int) (hn : Hid (n = zs.length)) (hN : n ≤ 1000000) (hx : Rd w (· < w.heap.size) A (ic zs)) (hy : Rd w (· < w.heap.size) B (ic zs)) :
    Calls Try.prog 12 #[.slice A n c, .slice B n d] w fun e w' => e = .returned (.bool true) ∧ Below w.heap.size w w' := by
  have HX := Lib.hid hx
  have HY := Lib.hid hy
  clear hx hy
  go_enter Try.func12, Try.ntmps12
  go_wp2
  go_loopw [5] (fun v5 wr => ∃ k : Nat, v5 = .int .i64 k ∧ k ≤ n ∧ Below w.heap.size w wr) (fun v _ => n - (intOf v).toNat)
  case atStart => exact ⟨0, rfl, by omega, Below.refl _ _⟩
  case round =>
    obtain ⟨k, rfl, hk, hbel⟩ := hrel
    by_cases hlt : k < n
    · obtain ⟨ad, rfl, hS, hca⟩ := (HX.out.below2 hbel).at_ (k := k) (by rw [← hn.out]; exact hlt)
      obtain ⟨bd, rfl, hT, hcb⟩ := (HY.out.below2 hbel).at_ (k := k) (by rw [← hn.out]; exact hlt)
      have ha0 := hca k (by rw [← hn.out]; exact hlt)
      have hb0 := hcb k (by rw [← hn.out]; exact hlt)
      obtain ⟨p, hp⟩ : ∃ p, p = zs.getD k 0 := ⟨_, rfl⟩
      rw [← hp] at ha0 hb0
      have HB := Lib.hid hbel
      clear hca hcb hbel hp
      have hi : (k : Int) < (n : Int) := by omega
      go_wp2
      go_quiet (fail)
      go_wp2
      go_roundw
      case rel => exact ⟨k + 1, by go_num, by omega, below_drewN HB.out _⟩
      case measure => simp [intOf]; omega
    · have HB := Lib.hid hbel
      clear hbel
      go_wp2
      go_ret
      exact ⟨rfl, HB.out⟩

set_option maxHeartbeats 1000000 in
theorem same_i64 (w : World) (A B : Option Addr) (n c d : Nat) (zs : List Int) (hn : Hid (n = zs.length)) (hN : n ≤ 1000000) (hx : Rd w (· < w.heap.size) A (ic zs)) (hy : Rd w (· < w.heap.size) B (ic zs)) :
    Calls Try.prog 17 #[.slice A n c, .slice B n d] w fun e w' => e = .returned (.bool true) ∧ Below w.heap.size w w' := by
  have HX := Lib.hid hx
  have HY := Lib.hid hy
  clear hx hy
  go_enter Try.func17, Try.ntmps17
  go_wp2
  go_loopw [5] (fun v5 wr => ∃ k : Nat, v5 = .int .i64 k ∧ k ≤ n ∧ Below w.heap.size w wr) (fun v _ => n - (intOf v).toNat)
  case atStart => exact ⟨0, rfl, by omega, Below.refl _ _⟩
  case round =>
    obtain ⟨k, rfl, hk, hbel⟩ := hrel
    by_cases hlt : k < n
    · obtain ⟨ad, rfl, hS, hca⟩ := (HX.out.below2 hbel).at_ (k := k) (by rw [← hn.out]; exact hlt)
      obtain ⟨bd, rfl, hT, hcb⟩ := (HY.out.below2 hbel).at_ (k := k) (by rw [← hn.out]; exact hlt)
      have ha0 := hca k (by rw [← hn.out]; exact hlt)
      have hb0 := hcb k (by rw [← hn.out]; exact hlt)
      obtain ⟨p, hp⟩ : ∃ p, p = zs.getD k 0 := ⟨_, rfl⟩
      rw [← hp] at ha0 hb0
      have HB := Lib.hid hbel
      clear hca hcb hbel hp
      have hi : (k : Int) < (n : Int) := by omega
      go_wp2
      go_quiet (fail)
      go_wp2
      go_roundw
      case rel => exact ⟨k + 1, by go_num, by omega, below_drewN HB.out _⟩
      case measure => simp [intOf]; omega
    · have HB := Lib.hid hbel
      clear hbel
      go_wp2
      go_ret
      exact ⟨rfl, HB.out⟩
end Go.Proofs.Ytcjpimocbgeheaa.Od
