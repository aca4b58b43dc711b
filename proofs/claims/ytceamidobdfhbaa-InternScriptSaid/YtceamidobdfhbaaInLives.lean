/- Package intern's calls: what each answers of a table as it lies, and what it changes; proved by walking their texts, and by the library's contracts. Conditions: the table lies as TabAt says; a name has at most as many bytes as a string can have. -/
import Derived.Test.YtceamidobdfhbaaInNew
import Derived.Test.YtceamidobdfhbaaShelf
import Derived.Carry
namespace Go.Proofs.Ytceamidobdfhbaa.It
open Go.ChangeShapes Go.WideShapes Go.ChangeAt Go.RowKit Go.Maps
open Lx Sh
set_option linter.unusedVariables false
set_option linter.unusedSimpArgs false

theorem new_ok {w : World} {A : Option Addr} {n c : Nat} {l : List Nm} (hn : Hid (n = l.length)) (hN : n ≤ 1000000) (hx : Rd w (· < w.heap.size) A (cs strC l)) (hs : ∀ x ∈ l, x.length ≤ maxLen) (h0 : newE [] l = 0) :
    Calls Try.prog 9 #[.slice A n c] w fun e w' => ∃ T, e = .returned (.tuple #[.pointer (some ⟨T, 0, none⟩), .int .i64 0]) ∧ Hid (TabAt w' (Fresh w w') T l) ∧ Hid (Below w.heap.size w w') := by
  refine (new_any hn hN hx hs).mono ?_
  rintro e w' (⟨-, T, rfl, h⟩ | ⟨h, -⟩)
  · exact ⟨T, rfl, h.1, h.2⟩
  · exact absurd h0 h
theorem new_bad {w : World} {A : Option Addr} {n c : Nat} {l : List Nm} (hn : Hid (n = l.length)) (hN : n ≤ 1000000) (hx : Rd w (· < w.heap.size) A (cs strC l)) (hs : ∀ x ∈ l, x.length ≤ maxLen) (k : Nat) (h0 : newE [] l = k) (hk : k ≠ 0) :
    Calls Try.prog 9 #[.slice A n c] w fun e w' => e = .returned (.tuple #[.pointer none, .int .i64 (k : Nat)]) ∧ Hid (Below w.heap.size w w') := by
  refine (new_any hn hN hx hs).mono ?_
  rintro e w' (⟨h, -⟩ | ⟨-, rfl, h⟩)
  · exact absurd (h0 ▸ h) hk
  · rw [h0]; exact ⟨rfl, h⟩
theorem few_long {l : List Nm} (h : l.all (fun x => decide (x.length ≤ 1000)) = true) : ∀ x ∈ l, x.length ≤ maxLen := by
  intro x hx
  have := List.all_eq_true.1 h x hx
  have := maxLen_big
  simp at *
  omega
theorem srt_perm {L K : List Nm} (h : L.Perm K) : srt L = srt K := mergeSort_of_perm h
theorem le_tot (a b : Nm) : (leB a b || leB b a) = true := by simp only [leB, Bool.or_eq_true, decide_eq_true_eq]; exact List.le_total a b
theorem le_tr (a b c : Nm) : leB a b = true → leB b c = true → leB a c = true := by simp only [leB, decide_eq_true_eq]; exact fun h k => List.le_trans h k
theorem srt_self {L : List Nm} (h : L.Pairwise (fun a b => leB a b = true)) : srt L = L := by
  unfold srt
  exact List.mergeSort_of_pairwise h
theorem nb1 : nameB [97] = true := by kernel_rfl
theorem nb2 : nameB [98] = true := by kernel_rfl
theorem newE_ba : newE [] [[98], [97]] = 0 := by
  simp [newE, addE, nb1, nb2]
theorem srt_ba : srt [[98], [97]] = [[97], [98]] := by
  rw [srt_perm (List.Perm.swap [97] [98] [])]
  exact srt_self (List.pairwise_pair.2 (by decide))
theorem sorted_as {w : World} {X : Nat → Prop} {T : Nat} {L S : List Nm} (h : TabAt w X T L) (hS : srt L = S) :
    Calls Try.prog 24 #[.pointer (some ⟨T, 0, none⟩)] w (RowNew w S) := by
  subst hS; exact sorted_any h
/-- a row that was made is read behind other things that were made -/
theorem row_read {w1 w2 : World} {A : Option Addr} {n c k b : Nat} {xs : List Value} (h : w1.ownsRow b 9 1 (.slice A n c) k xs) (hb : Below w1.heap.size w1 w2) : Rd w2 (· < w2.heap.size) A xs :=
  ((own_rd h).keep (fun i hi => hb.block i hi.2)).more (fun i hi => by have := hb.size; omega)
set_option maxRecDepth 100000 in
set_option maxHeartbeats 1000000 in
theorem lives_any (w : World) : Calls Try.prog 13 #[] w (BPost w true) := by
  have HR : Hid (Rd (w.alloc (.cells #[.string ⟨#[98]⟩, .string ⟨#[97]⟩] 9)) (· < (w.alloc (.cells #[.string ⟨#[98]⟩, .string ⟨#[97]⟩] 9)).heap.size) (some ⟨w.heap.size, 0, none⟩) (cs strC [[98], [97]])) := Lib.hid (lit_at _ _ _ _ _ rfl rfl)
  have HM : Hid ((⟨#[97]⟩ : ByteArray).size ≤ maxLen) := Lib.hid (by have h : (⟨#[97]⟩ : ByteArray).size = 1 := rfl; have := maxLen_big; omega)
  go_enter Try.func13, Try.ntmps13
  go_wp2_with (first
    | (go_at_call 9; refine (new_ok (n := 2) (l := [[98], [97]]) (Lib.hid rfl) (by omega) HR.out (few_long rfl) newE_ba).mono ?_; rintro e w1 ⟨T, rfl, ht1, hb1⟩)
    | (go_at_call 11; refine (num_in ht1.out ⟨#[97]⟩ HM.out 1 rfl).mono ?_; rintro e w2 ⟨rfl, hb2⟩)
    | (go_at_call 24; refine (sorted_as (ht1.out.after hb2.out) srt_ba).mono ?_; rintro e w3 ⟨A, c, rfl, ho3, hb3⟩)
    | (go_at_call 22; refine (same_str _ _ _ 2 c 2 [[97], [98]] (Lib.hid rfl) (by omega) (row_read ho3.out (one_box _ _)) (lit_at _ _ _ _ _ rfl rfl)).mono ?_; rintro e w4 ⟨rfl, hb4⟩; have HB4 := Lib.hid hb4; clear hb4)
    | fail)
  go_ret
  exact ⟨rfl, (one_box _ _).trans ((hb1.out.trans ((hb2.out.mono hb1.out.size).trans ((hb3.out.mono (Nat.le_trans hb1.out.size hb2.out.size)).trans (((one_box _ _).mono (Nat.le_trans hb1.out.size (Nat.le_trans hb2.out.size hb3.out.size))).trans (HB4.out.mono (by have := hb1.out.size; have := hb2.out.size; have := hb3.out.size; simp at *; omega)))))).mono (by simp))⟩
end Go.Proofs.Ytceamidobdfhbaa.It
