/- The document's own words for numbers and things, proved by walking their text. -/
import Derived.Test.YtcmlmfcnbmpajaaGreatDoorRefTick
import Derived.Test.YtcmlmfcnbmpajaaGreatDoorShowRoute
import Derived.Test.YtcmlmfcnbmpajaaGreatDoorLexOne
import Derived.Lib.ItoaLen
namespace Go.Proofs.YtcmlmfcnbmpajaaGreatDoor.Sw
open Go.ChangeShapes Go.WideShapes Go.ChangeAt Go.RowKit
open Lx Sh Tk
set_option linter.unusedVariables false
set_option linter.unusedSimpArgs false
set_option maxRecDepth 100000

theorem ext_dig (r : Nat) (h : r < 10) : (⟨#[48, 49, 50, 51, 52, 53, 54, 55, 56, 57]⟩ : ByteArray).extract r (r + 1) = ⟨#[UInt8.ofNat (48 + r)]⟩ := by
  have hc : r = 0 ∨ r = 1 ∨ r = 2 ∨ r = 3 ∨ r = 4 ∨ r = 5 ∨ r = 6 ∨ r = 7 ∨ r = 8 ∨ r = 9 := by omega
  rcases hc with rfl | rfl | rfl | rfl | rfl | rfl | rfl | rfl | rfl | rfl <;> decide
/-- what is told of u, and what is to be told yet -/
def DgRel (U u : Nat) (D : List UInt8) : Prop := if u = 0 then D = Lib.decDigits U else Lib.decDigits u ++ D = Lib.decDigits U
theorem dg_len {U u : Nat} {D : List UInt8} (hU : U < 18446744073709551616) (h : DgRel U u D) : D.length ≤ 30 := by
  have hl : (Lib.decDigits U).length ≤ 20 := by rw [Lib.decDigits_length]; exact Lib.nDigits_le20 U hU
  unfold DgRel at h
  split at h
  · rw [h]; omega
  · have := congrArg List.length h
    rw [List.length_append] at this
    omega
theorem slice_dig0 (w : World) : (Instr.slice 9 (.string ⟨#[48, 49, 50, 51, 52, 53, 54, 55, 56, 57]⟩) (some (.int .u64 0)) (some (.int .u64 1)) none).run Tryz.prog w = .ok (.string ⟨#[48]⟩) w := by kernel_rfl
theorem slice_dig1 (w : World) : (Instr.slice 9 (.string ⟨#[48, 49, 50, 51, 52, 53, 54, 55, 56, 57]⟩) (some (.int .u64 1)) (some (.int .u64 2)) none).run Tryz.prog w = .ok (.string ⟨#[49]⟩) w := by kernel_rfl
theorem slice_dig2 (w : World) : (Instr.slice 9 (.string ⟨#[48, 49, 50, 51, 52, 53, 54, 55, 56, 57]⟩) (some (.int .u64 2)) (some (.int .u64 3)) none).run Tryz.prog w = .ok (.string ⟨#[50]⟩) w := by kernel_rfl
theorem slice_dig3 (w : World) : (Instr.slice 9 (.string ⟨#[48, 49, 50, 51, 52, 53, 54, 55, 56, 57]⟩) (some (.int .u64 3)) (some (.int .u64 4)) none).run Tryz.prog w = .ok (.string ⟨#[51]⟩) w := by kernel_rfl
theorem slice_dig4 (w : World) : (Instr.slice 9 (.string ⟨#[48, 49, 50, 51, 52, 53, 54, 55, 56, 57]⟩) (some (.int .u64 4)) (some (.int .u64 5)) none).run Tryz.prog w = .ok (.string ⟨#[52]⟩) w := by kernel_rfl
theorem slice_dig5 (w : World) : (Instr.slice 9 (.string ⟨#[48, 49, 50, 51, 52, 53, 54, 55, 56, 57]⟩) (some (.int .u64 5)) (some (.int .u64 6)) none).run Tryz.prog w = .ok (.string ⟨#[53]⟩) w := by kernel_rfl
theorem slice_dig6 (w : World) : (Instr.slice 9 (.string ⟨#[48, 49, 50, 51, 52, 53, 54, 55, 56, 57]⟩) (some (.int .u64 6)) (some (.int .u64 7)) none).run Tryz.prog w = .ok (.string ⟨#[54]⟩) w := by kernel_rfl
theorem slice_dig7 (w : World) : (Instr.slice 9 (.string ⟨#[48, 49, 50, 51, 52, 53, 54, 55, 56, 57]⟩) (some (.int .u64 7)) (some (.int .u64 8)) none).run Tryz.prog w = .ok (.string ⟨#[55]⟩) w := by kernel_rfl
theorem slice_dig8 (w : World) : (Instr.slice 9 (.string ⟨#[48, 49, 50, 51, 52, 53, 54, 55, 56, 57]⟩) (some (.int .u64 8)) (some (.int .u64 9)) none).run Tryz.prog w = .ok (.string ⟨#[56]⟩) w := by kernel_rfl
theorem slice_dig9 (w : World) : (Instr.slice 9 (.string ⟨#[48, 49, 50, 51, 52, 53, 54, 55, 56, 57]⟩) (some (.int .u64 9)) (some (.int .u64 10)) none).run Tryz.prog w = .ok (.string ⟨#[57]⟩) w := by kernel_rfl
theorem slice_dig (r : Nat) (h : r < 10) (w : World) : (Instr.slice 9 (.string ⟨#[48, 49, 50, 51, 52, 53, 54, 55, 56, 57]⟩) (some (.int .u64 (r : Int))) (some (.int .u64 ((r : Int) + 1))) none).run Tryz.prog w = .ok (.string ⟨#[UInt8.ofNat (48 + r)]⟩) w := by
  have hc : r = 0 ∨ r = 1 ∨ r = 2 ∨ r = 3 ∨ r = 4 ∨ r = 5 ∨ r = 6 ∨ r = 7 ∨ r = 8 ∨ r = 9 := by omega
  rcases hc with e | e | e | e | e | e | e | e | e | e
  · subst e; exact slice_dig0 w
  · subst e; exact slice_dig1 w
  · subst e; exact slice_dig2 w
  · subst e; exact slice_dig3 w
  · subst e; exact slice_dig4 w
  · subst e; exact slice_dig5 w
  · subst e; exact slice_dig6 w
  · subst e; exact slice_dig7 w
  · subst e; exact slice_dig8 w
  · subst e; exact slice_dig9 w
theorem dg_step {U u : Nat} {D : List UInt8} (h : DgRel U u D) (hu : u ≠ 0) : DgRel U (u / 10) (UInt8.ofNat (48 + u % 10) :: D) := by
  unfold DgRel at h ⊢
  rw [if_neg hu] at h
  by_cases h10 : u < 10
  · have e : u / 10 = 0 := by omega
    rw [if_pos e, ← h, Lib.decDigits_one h10]
    rw [show u % 10 = u by omega]; rfl
  · rw [if_neg (by omega), ← h]
    conv => rhs; rw [Lib.decDigits, dif_neg (by omega)]
    simp
set_option maxHeartbeats 4000000 in
theorem rdigs_neg (n : Int) (hn : n < 0) (h1 : -9223372036854775808 ≤ n) (w : World) :
    Calls Tryz.prog 113 #[.int .i64 n] w fun e w' => e = .returned (.string ⟨(Lib.itoa n).toArray⟩) ∧ w = w' := by
  have h0 : ¬ (0 : Int) ≤ n := by omega
  obtain ⟨U, hU⟩ : ∃ U : Nat, (U : Int) = -n := ⟨(-n).toNat, by omega⟩
  go_enter Tryz.func113, Tryz.ntmps113
  go_upto_region 8 with (fail)
  have hw : IntKind.u64.wrap (-IntKind.u64.wrap n) = (U : Int) := by
    unfold IntKind.wrap
    simp [IntKind.bits, IntKind.signed]
    omega
  rw [hw]
  have hUb : U ≤ 9223372036854775808 := by omega
  have hUp : U ≠ 0 := by omega
  have HIT : Hid (Lib.itoa n = 45 :: Lib.decDigits U) := Lib.hid (by
    unfold Lib.itoa
    rw [if_pos hn, show n.natAbs = U by omega])
  go_loopw [3, 5] (fun v3 v5 wr => ∃ (u : Nat) (D : List UInt8), v3 = .int .u64 u ∧ v5 = .string ⟨D.toArray⟩ ∧ u ≤ U ∧ Hid (DgRel U u D) ∧ D.length ≤ 30 ∧ wr = w) (fun v _ _ => (intOf v).toNat)
  case atStart => exact ⟨U, [], rfl, rfl, by omega, Lib.hid (by unfold DgRel; rw [if_neg hUp]; simp), by simp, rfl⟩
  case round =>
    obtain ⟨u, D, rfl, rfl, hu, HD, hdl, rfl⟩ := hrel
    by_cases h0u : u = 0
    · subst h0u
      go_wp2
      go_ret
      have hd := HD.out
      unfold DgRel at hd
      rw [if_pos rfl] at hd
      exact ⟨congrArg (fun b => Ending.returned (Value.string b)) (by apply Go.WideShapes.bytes_inj; rw [HIT.out, hd]; simp), rfl⟩
    · have hup : (0 : Int) < (u : Int) := by omega
      obtain ⟨r, hr⟩ : ∃ r : Nat, r = u % 10 := ⟨_, rfl⟩
      have hri : (u : Int) % 10 = (r : Int) := by omega
      have hqi : (u : Int) / 10 = ((u / 10 : Nat) : Int) := by omega
      have hq10 : IntKind.u64.wrap ((u : Int).tdiv 10) = ((u / 10 : Nat) : Int) := by
        rw [Int.tdiv_eq_ediv_of_nonneg (by omega), IntKind.wrap_u64]; omega
      have hsl := fun w => slice_dig r (by omega) w
      have hr10 : r < 10 := by omega
      have hw1 : IntKind.u64.wrap ((r : Int) + 1) = ((r + 1 : Nat) : Int) := by rw [IntKind.wrap_u64]; omega
      have hr1 : (((r + 1 : Nat) : Int)).toNat = r + 1 := by omega
      have HRH := Lib.hid hr
      have HQI := Lib.hid hqi
      have HQ10 := Lib.hid hq10
      clear hqi hq10
      have HD2 := Lib.hid (dg_step HD.out h0u)
      rw [← hr] at HD2
      clear hr
      generalize UInt8.ofNat (48 + r) = dg at hsl HD2
      go_wp2
      go_roundw
      case rel => exact ⟨u / 10, dg :: D, by simp, congrArg Value.string (by apply Go.WideShapes.bytes_inj; simp), by omega, HD2, dg_len (by omega) HD2.out, trivial⟩
      case measure => simp [intOf]; omega
set_option maxHeartbeats 4000000 in
theorem rdigs_pos (n : Int) (hn : 1099511627776 < n) (h1 : n ≤ 9223372036854775807) (w : World) :
    Calls Tryz.prog 113 #[.int .i64 n] w fun e w' => e = .returned (.string ⟨(Lib.itoa n).toArray⟩) ∧ w = w' := by
  have h0 : (0 : Int) ≤ n := by omega
  have h00 : ¬ n < 0 := by omega
  have h01 : ¬ n ≤ 1099511627776 := by omega
  obtain ⟨U, hU⟩ : ∃ U : Nat, (U : Int) = n := ⟨n.toNat, by omega⟩
  go_enter Tryz.func113, Tryz.ntmps113
  go_upto_region 8 with (fail)
  have hUb : U ≤ 9223372036854775808 := by omega
  have hUp : U ≠ 0 := by omega
  have HIT : Hid (Lib.itoa n = Lib.decDigits U) := Lib.hid (by
    unfold Lib.itoa
    rw [if_neg (by omega), show n.toNat = U by omega])
  go_loopw [3, 5] (fun v3 v5 wr => ∃ (u : Nat) (D : List UInt8), v3 = .int .u64 u ∧ v5 = .string ⟨D.toArray⟩ ∧ u ≤ U ∧ Hid (DgRel U u D) ∧ D.length ≤ 30 ∧ wr = w) (fun v _ _ => (intOf v).toNat)
  case atStart => exact ⟨U, [], by rw [hU], rfl, by omega, Lib.hid (by unfold DgRel; rw [if_neg hUp]; simp), by simp, rfl⟩
  case round =>
    obtain ⟨u, D, rfl, rfl, hu, HD, hdl, rfl⟩ := hrel
    by_cases h0u : u = 0
    · subst h0u
      go_wp2
      go_ret
      have hd := HD.out
      unfold DgRel at hd
      rw [if_pos rfl] at hd
      exact ⟨congrArg (fun b => Ending.returned (Value.string b)) (by apply Go.WideShapes.bytes_inj; rw [HIT.out, hd]; simp), rfl⟩
    · have hup : (0 : Int) < (u : Int) := by omega
      obtain ⟨r, hr⟩ : ∃ r : Nat, r = u % 10 := ⟨_, rfl⟩
      have hri : (u : Int) % 10 = (r : Int) := by omega
      have hqi : (u : Int) / 10 = ((u / 10 : Nat) : Int) := by omega
      have hq10 : IntKind.u64.wrap ((u : Int).tdiv 10) = ((u / 10 : Nat) : Int) := by
        rw [Int.tdiv_eq_ediv_of_nonneg (by omega), IntKind.wrap_u64]; omega
      have hsl := fun w => slice_dig r (by omega) w
      have hr10 : r < 10 := by omega
      have hw1 : IntKind.u64.wrap ((r : Int) + 1) = ((r + 1 : Nat) : Int) := by rw [IntKind.wrap_u64]; omega
      have hr1 : (((r + 1 : Nat) : Int)).toNat = r + 1 := by omega
      have HRH := Lib.hid hr
      have HQI := Lib.hid hqi
      have HQ10 := Lib.hid hq10
      clear hqi hq10
      have HD2 := Lib.hid (dg_step HD.out h0u)
      rw [← hr] at HD2
      clear hr
      generalize UInt8.ofNat (48 + r) = dg at hsl HD2
      go_wp2
      go_roundw
      case rel => exact ⟨u / 10, dg :: D, by simp, congrArg Value.string (by apply Go.WideShapes.bytes_inj; simp), by omega, HD2, dg_len (by omega) HD2.out, trivial⟩
      case measure => simp [intOf]; omega
theorem rdigs_any (n : Int) (h : I64 n) (w : World) : Calls Tryz.prog 113 #[.int .i64 n] w fun e w' => e = .returned (.string ⟨(Lib.itoa n).toArray⟩) ∧ w = w' := by
  by_cases h0 : n < 0
  · exact rdigs_neg n h0 h.1 w
  · by_cases h1 : 1099511627776 < n
    · exact rdigs_pos n h1 h.2 w
    · have CT := Lib.hid (rtext_any n w)
      have e : textL n = Lib.itoa n := by
        unfold textL Lib.itoa
        rw [if_neg (by omega), if_pos (by omega), if_neg h0]
      rw [e] at CT
      have g0 : (0 : Int) ≤ n := by omega
      have g1 : n ≤ 1099511627776 := by omega
      clear e h h0 h1
      go_enter Tryz.func113, Tryz.ntmps113
      go_wp2_with (first
        | (go_at_call 126; (with_reducible refine CT.out.mono ?_); rintro e w1 ⟨rfl, rfl⟩)
        | fail)
      go_ret
      exact ⟨rfl, rfl⟩
end Go.Proofs.YtcmlmfcnbmpajaaGreatDoor.Sw
