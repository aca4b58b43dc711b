/- The document's text of a sheet, proved by walking its text. -/
import Derived.Test.YtcmlmfcnbmpajaaGreatDoorRefLines
import Derived.Test.YtcmlmfcnbmpajaaGreatDoorSheetFacts
namespace Go.Proofs.YtcmlmfcnbmpajaaGreatDoor.Sw
open Go.ChangeShapes Go.WideShapes Go.ChangeAt Go.RowKit
open Lx Sh Tk
set_option linter.unusedVariables false
set_option linter.unusedSimpArgs false
set_option maxRecDepth 100000

set_option maxHeartbeats 2000000 in
theorem rtext_no (x : SheetM) (p : ShA) (w : World) (h : Sh w (· < w.heap.size) x p) (hl : Lt x) (hc : checkM x ≠ 0) :
    Calls Tryz.prog 11 #[shV x p] w fun e w' => e = .returned (.tuple #[.string ⟨#[]⟩, .int .i64 (checkM x)]) ∧ Below w.heap.size w w' := by
  have HC := Lib.hid (fun w' (hb : Below w.heap.size w w') => rlines_no x p w' (h.later hb) hl hc)
  have hc2 : ((checkM x : Int) == 0) = false := by simpa using hc
  have hc3 : ((checkM x : Int) != 0) = true := by simpa using hc
  have hc4 : ¬ checkM x = 0 := hc
  clear h hl hc
  generalize checkM x = C at *
  go_enter Tryz.func11, Tryz.ntmps11
  go_wp2_with (go_at_call 13; refine (HC.out _ (one_box _ _)).mono ?_; rintro e w1 ⟨rfl, hb⟩)
  go_ret2
  exact ⟨rfl, keep_trans (one_box _ _) hb⟩
set_option maxHeartbeats 4000000 in
theorem rtext_ok (x : SheetM) (p : ShA) (w : World) (h : Sh w (· < w.heap.size) x p) (hl : Lt x) (hS : ShS x) (hc : checkM x = 0) :
    Calls Tryz.prog 11 #[shV x p] w fun e w' => e = .returned (.tuple #[.string ⟨(endsOf (linesT x)).toArray⟩, .int .i64 0]) ∧ Below w.heap.size w w' := by
  have hx := may_of hc
  have HC := Lib.hid (fun w' (hb : Below w.heap.size w w') => rlines_any x p w' (h.later hb) hl hS hc)
  have HS := Lib.hid (ends_short (lines_short hx))
  have hLL : (linesT x).length ≤ 4000 := by rw [← preX_lines hx]; exact preX_len hx 7 (by omega)
  clear h hx hl hS hc
  generalize linesT x = L at *
  go_enter Tryz.func11, Tryz.ntmps11
  go_wp2_with (first
    | (go_at_call 13; refine (HC.out _ (one_box _ _)).mono ?_; rintro e w1 ⟨A, n, c, hn, rfl, hnc, hrd, hb⟩; have HN := Lib.hid hn; have HRD := Lib.hid hrd; have HB1 := Lib.hid (keep_trans (one_box _ _) hb); clear hn hrd hb)
    | fail)
  have hN4 : n ≤ 4000 := by have := HN.out; omega
  go_loopw [6, 7] (fun v6 v7 wr => ∃ k : Nat, v6 = .string ⟨(endsOf (L.take k)).toArray⟩ ∧ v7 = .int .i64 (k : Int) ∧ k ≤ n ∧ wr = w1) (fun _ v _ => n - (intOf v).toNat)
  case atStart => exact ⟨0, by simp [endsOf], rfl, by omega, rfl⟩
  case round =>
    obtain ⟨k, rfl, rfl, hk, rfl⟩ := hrel
    by_cases hlt : k < n
    · obtain ⟨a, ha⟩ := at_in L HN hlt
      obtain ⟨ad, rfl, -, h0, -⟩ := rd_at 1 (fun _ => rfl) (by omega) HRD.out ha
      have a0 : wr.cell? (ad.add k) = some (.string ⟨a.toArray⟩) := by rw [Nat.mul_one] at h0; exact h0
      have hl1 := (HS.out (k + 1)).1
      have HM := Lib.hid (ends_more ha).1
      rw [HM.out] at hl1
      simp only [List.length_append, List.length_singleton] at hl1
      have hi : (k : Int) < (n : Int) := by omega
      clear ha h0
      generalize endsOf (L.take k) = T at *
      have g1 : ¬ 9223372036854775807 < T.length + a.length := by omega
      have g2 : ¬ 9223372036854775807 < T.length + a.length + 1 := by omega
      clear hl1
      go_wp2
      go_roundw
      case rel => exact ⟨k + 1, congrArg Value.string (bytes_eq (by rw [HM.out]; simp)), by go_num, by omega, trivial⟩
      case measure => simp [intOf]; omega
    · have hi : ¬ (k : Int) < (n : Int) := by omega
      have HF : Hid (L.take k = L) := Lib.hid (List.take_of_length_le (by rw [← HN.out]; omega))
      go_wp2
      go_ret2
      exact ⟨by rw [HF.out]; rfl, HB1.out⟩
def textM' (x : SheetM) : List UInt8 := if checkM x = 0 then endsOf (linesT x) else []
theorem rtext_any (x : SheetM) (p : ShA) (w : World) (h : Sh w (· < w.heap.size) x p) (hl : Lt x) (hS : ShS x) :
    Calls Tryz.prog 11 #[shV x p] w fun e w' => e = .returned (.tuple #[.string ⟨(textM' x).toArray⟩, .int .i64 (checkM x)]) ∧ Below w.heap.size w w' := by
  by_cases hc : checkM x = 0
  · have := rtext_ok x p w h hl hS hc
    unfold textM'
    rw [if_pos hc, hc]; exact this
  · have := rtext_no x p w h hl hc
    unfold textM'
    rw [if_neg hc]; exact this
end Go.Proofs.YtcmlmfcnbmpajaaGreatDoor.Sw
