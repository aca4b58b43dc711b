/- Package intern's calls: what each answers of a table as it lies, and what it changes; proved by walking their texts, and by the library's contracts. Conditions: the table lies as TabAt says; a name has at most as many bytes as a string can have. -/
import Derived.Test.YtceamidobdfhbaaInNamesMath
import Derived.Laws.IdiomStrings
import Derived.Test.YtceamidobdfhbaaShelf
import Derived.Carry
namespace Go.Proofs.Ytceamidobdfhbaa.It
open Go.ChangeShapes Go.WideShapes Go.ChangeAt Go.RowKit Go.Maps
open Lx Sh
set_option linter.unusedVariables false
set_option linter.unusedSimpArgs false

set_option maxRecDepth 100000 in
theorem conv3 (w : World) (i : Nat) (hi : i < 4096) : (convert 29 9 (.slice (some ⟨w.heap.size, 0, none⟩) 3 3)).run Try.prog (w.alloc (.cells #[.int .u8 (97 + (i : Int) % 16), .int .u8 (97 + (i : Int) / 16 % 16), .int .u8 (97 + (i : Int) / 256)] 5)) = .ok (.string ⟨#[lt16 i, lt16 (i / 16), lt16 (i / 256)]⟩) (w.alloc (.cells #[.int .u8 (97 + (i : Int) % 16), .int .u8 (97 + (i : Int) / 16 % 16), .int .u8 (97 + (i : Int) / 256)] 5)) := by
  have e0 : ((lt16 i).toNat : Int) = 97 + (i : Int) % 16 := by rw [lt16_toNat]; omega
  have e1 : ((lt16 (i / 16)).toNat : Int) = 97 + (i : Int) / 16 % 16 := by rw [lt16_toNat]; omega
  have e2 : ((lt16 (i / 256)).toNat : Int) = 97 + (i : Int) / 256 := by rw [lt16_toNat]; omega
  rw [← e0, ← e1, ← e2]
  have hr : Rd (w.alloc (.cells #[.int .u8 ((lt16 i).toNat : Int), .int .u8 ((lt16 (i / 16)).toNat : Int), .int .u8 ((lt16 (i / 256)).toNat : Int)] 5)) (· < (w.alloc (.cells #[.int .u8 ((lt16 i).toNat : Int), .int .u8 ((lt16 (i / 16)).toNat : Int), .int .u8 ((lt16 (i / 256)).toNat : Int)] 5)).heap.size) (some ⟨w.heap.size, 0, none⟩) [.int .u8 ((lt16 i).toNat : Int), .int .u8 ((lt16 (i / 16)).toNat : Int), .int .u8 ((lt16 (i / 256)).toNat : Int)] := lit_at _ _ _ _ _ rfl rfl
  obtain ⟨ad, e, -, hc⟩ := hr (by simp)
  injection e with e
  subst e
  refine run_convert_bytes_back (P := Try.prog) _ 29 9 5 ⟨w.heap.size, 0, none⟩ 3 [lt16 i, lt16 (i / 16), lt16 (i / 256)] Try.underlying29 Try.underlying5 Try.underlying9 (fun j hj => hc j _ ?_)
  match j, hj with
  | 0, _ => rfl
  | 1, _ => rfl
  | 2, _ => rfl
set_option maxRecDepth 100000 in
set_option maxHeartbeats 1000000 in
theorem names_all (w : World) : Calls Try.prog 3 #[] w (BPost w true) := by
  have HR : Hid (Rd (w.alloc (.cells #[.string ⟨#[97]⟩, .string ⟨#[97]⟩] 9)) (· < (w.alloc (.cells #[.string ⟨#[97]⟩, .string ⟨#[97]⟩] 9)).heap.size) (some ⟨w.heap.size, 0, none⟩) (cs strC [[97], [97]])) := Lib.hid (lit_at _ _ _ _ _ rfl rfl)
  have CN : Hid (∀ (W : World), Calls Try.prog 9 #[.slice none 0 0] W fun e w' => ∃ T, e = .returned (.tuple #[.pointer (some ⟨T, 0, none⟩), .int .i64 0]) ∧ Hid (TabAt w' (Fresh W w') T (nms 0)) ∧ Hid (Below W.heap.size W w')) := Lib.hid (fun W => new_ok (n := 0) (l := []) (Lib.hid rfl) (by omega) Rd.none_ (by simp) rfl)
  have CB : Hid (∀ (W : World), Calls Try.prog 9 #[.slice (some ⟨W.heap.size, 0, none⟩) 1 1] (W.alloc (.cells #[.string ⟨#[65]⟩] 9)) fun e w' => e = .returned (.tuple #[.pointer none, .int .i64 7]) ∧ Hid (Below (W.alloc (.cells #[.string ⟨#[65]⟩] 9)).heap.size (W.alloc (.cells #[.string ⟨#[65]⟩] 9)) w')) := Lib.hid (fun W => new_bad (n := 1) (l := [[65]]) (Lib.hid rfl) (by omega) (lit_at _ _ _ _ _ rfl rfl) (few_long rfl) 7 newE_A (by omega))
  have CA : Hid (Calls Try.prog 9 #[.slice (some ⟨w.heap.size, 0, none⟩) 2 2] (w.alloc (.cells #[.string ⟨#[97]⟩, .string ⟨#[97]⟩] 9)) fun e w' => e = .returned (.tuple #[.pointer none, .int .i64 6]) ∧ Hid (Below (w.alloc (.cells #[.string ⟨#[97]⟩, .string ⟨#[97]⟩] 9)).heap.size (w.alloc (.cells #[.string ⟨#[97]⟩, .string ⟨#[97]⟩] 9)) w')) := Lib.hid (new_bad (n := 2) (l := [[97], [97]]) (Lib.hid rfl) (by omega) HR.out (few_long rfl) 6 newE_aa (by omega))
  go_enter Try.func3, Try.ntmps3
  go_wp2_with (first
    | (go_at_call 9; with_reducible refine CA.out.mono ?_; rintro e w1 ⟨rfl, hb1⟩; have B1 := Lib.hid ((one_box _ _).trans (hb1.out.mono (by simp))); clear hb1)
    | (go_at_call 9; with_reducible refine (CN.out _).mono ?_; rintro e w3 ⟨T, rfl, ht3, hb3⟩; have B3 := Lib.hid (keep_trans B2.out hb3.out))
    | (go_at_call 9; with_reducible refine (CB.out _).mono ?_; rintro e w2 ⟨rfl, hb2⟩; have B2 := Lib.hid (keep_trans B1.out ((one_box _ _).trans (hb2.out.mono (by simp)))); clear hb2))
  have N3 : Hid (∃ X, TabAt w3 X T (nms 0) ∧ ∀ k, X k → w.heap.size ≤ k) := Lib.hid ⟨_, ht3.out, fun k hk => Nat.le_trans B2.out.size hk.1⟩
  clear hb3 ht3 CA CB CN HR
  go_loopw [7] (fun v wr => ∃ i : Nat, v = .int .i64 (i : Int) ∧ i ≤ 4096 ∧ Hid (∃ X, TabAt wr X T (nms i) ∧ ∀ k, X k → w.heap.size ≤ k) ∧ Hid (Below w.heap.size w wr)) (fun v _ => 4096 - (intOf v).toNat)
  case atStart => exact ⟨0, rfl, by omega, N3, B3⟩
  case round =>
    obtain ⟨i, rfl, hi, HN, HB⟩ := hrel
    by_cases hlt : i < 4096
    · have hi1 : (i : Int) < 4096 := by omega
      have hi0 : (0 : Int) ≤ (i : Int) := by omega
      obtain ⟨X, hX, hXw⟩ := HN.out
      have HC := conv3 wr i hlt
      have hCA := add_ok (hX.after (one_box wr (.cells #[.int .u8 (97 + (i : Int) % 16), .int .u8 (97 + (i : Int) / 16 % 16), .int .u8 (97 + (i : Int) / 256)] 5))) (nmOf i) (by have := maxLen_big; have : (nmOf i).length = 4 := rfl; omega) (nms_add hlt)
      have eS : (⟨#[120]⟩ : ByteArray) ++ ⟨#[lt16 i, lt16 (i / 16), lt16 (i / 256)]⟩ = ⟨(nmOf i).toArray⟩ := str_app [120] [lt16 i, lt16 (i / 16), lt16 (i / 256)]
      rw [nms_len, ← nms_succ, ← eS] at hCA
      have CA := Lib.hid hCA
      have HX := Lib.hid hX
      clear hCA eS hX
      go_wp2_with (go_at_call 10; with_reducible refine CA.out.mono ?_; rintro e w4 ⟨rfl, ht4, hc4⟩)
      go_roundw
      case rel =>
        have hb1 := HB.out.size
        have hb : Below w.heap.size w (wr.alloc (.cells #[.int .u8 (97 + (i : Int) % 16), .int .u8 (97 + (i : Int) / 16 % 16), .int .u8 (97 + (i : Int) / 256)] 5)) := HB.out.alloc hb1 _
        refine ⟨i + 1, by go_num, by omega, Lib.hid ⟨_, ht4.out, fun k hk => ?_⟩, Lib.hid (hb.trans (hc4.out.below hb.size hXw))⟩
        rcases hk with hk | hk
        · exact hXw k hk
        · have := hb.size; have := hk.1; omega
      case measure => simp [intOf]; omega
    · have hi1 : ¬ ((i : Int) < 4096) := by omega
      obtain rfl : i = 4096 := by omega
      obtain ⟨X, hX, hXw⟩ := HN.out
      have HX := Lib.hid hX
      clear hX
      have hm4 : (4 : Nat) ≤ maxLen := by have := maxLen_big; omega
      have CY : Hid (∀ W, TabAt W X T (nms 4096) → Calls Try.prog 10 #[.pointer (some ⟨T, 0, none⟩), .string ⟨#[121]⟩] W fun e w' => e = .returned (.tuple #[.int .i64 0, .int .i64 3]) ∧ Hid (TabAt w' (Grow X W w') T (nms 4096)) ∧ Hid (Ch X W w')) := Lib.hid (fun W h => add_not h [121] (by show 1 ≤ maxLen; omega) 3 y_err (by omega))
      have CX : Hid (∀ W X, TabAt W X T (nms 4096) → Calls Try.prog 10 #[.pointer (some ⟨T, 0, none⟩), .string ⟨#[120, 97, 97, 97]⟩] W fun e w' => e = .returned (.tuple #[.int .i64 0, .int .i64 6]) ∧ Hid (TabAt w' (Grow X W w') T (nms 4096)) ∧ Hid (Ch X W w')) := Lib.hid (fun W X h => add_not h [120, 97, 97, 97] hm4 6 x_err (by omega))
      go_wp2_with (first
        | (go_at_call 10; with_reducible refine (CY.out _ HX.out).mono ?_; rintro e w4 ⟨rfl, ht4, hc4⟩; have B4 := Lib.hid (HB.out.trans (hc4.out.below HB.out.size hXw)))
        | (go_at_call 10; (with_reducible refine (CX.out _ _ ht4.out).mono ?_); rintro e w5 ⟨rfl, ht5, hc5⟩; have B5 : Hid (Below w.heap.size w w5) := Lib.hid (B4.out.trans (hc5.out.below B4.out.size (fun k hk => by rcases hk with hk | hk; exact hXw k hk; exact Nat.le_trans HB.out.size hk.1))))
        | (go_at_call 11; refine (num_out ht5.out ⟨#[121]⟩ (by show 1 ≤ maxLen; omega) y_not).mono ?_; rintro e w6 ⟨rfl, hb6⟩; have B6 := Lib.hid (B5.out.trans (hb6.out.mono B5.out.size)))
        | (go_at_call 12; refine (name_out (ht5.out.after hb6.out) 4096 (.inr (by rw [nms_len]; omega))).mono ?_; rintro e w7 ⟨rfl, hb7⟩; have B7 := Lib.hid (B6.out.trans (hb7.out.mono B6.out.size)))
        | (go_at_call 13; refine (lives_any _).mono ?_; rintro e w8 ⟨rfl, hb8⟩; have HB8 := Lib.hid hb8; have B8 := Lib.hid (B7.out.trans (hb8.mono B7.out.size)); clear hb8)
        | (go_at_call 14; refine (len_any (((ht5.out.after hb6.out).after hb7.out).after HB8.out)).mono ?_; rintro e w9 ⟨rfl, hb9⟩; have B9 := Lib.hid (B8.out.trans (hb9.out.mono B8.out.size))))
      go_ret
      exact ⟨ret_b (by rw [nms_len]; rfl), B9.out⟩
end Go.Proofs.Ytceamidobdfhbaa.It
