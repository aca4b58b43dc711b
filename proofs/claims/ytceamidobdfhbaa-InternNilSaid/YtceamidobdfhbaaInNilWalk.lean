/- Package intern's calls: what each answers of a table as it lies, and what it changes; proved by walking their texts, and by the library's contracts. Conditions: the table lies as TabAt says; a name has at most as many bytes as a string can have. -/
import Derived.Test.YtceamidobdfhbaaInLives
import Derived.Test.YtceamidobdfhbaaShelf
import Derived.Carry
namespace Go.Proofs.Ytceamidobdfhbaa.It
open Go.ChangeShapes Go.WideShapes Go.ChangeAt Go.RowKit Go.Maps
open Lx Sh
set_option linter.unusedVariables false
set_option linter.unusedSimpArgs false

set_option maxHeartbeats 1000000 in
theorem add_nil (w : World) (s : ByteArray) : Calls Try.prog 10 #[.pointer none, .string s] w fun e w' => e = .returned (.tuple #[.int .i64 0, .int .i64 1]) ∧ Hid (Below w.heap.size w w') := by
  go_enter Try.func10, Try.ntmps10
  go_wp2_with (go_at_call 29; refine (made_nil _).mono ?_; rintro e w1 ⟨rfl, rfl⟩)
  go_ret2
  exact ⟨rfl, Lib.hid (Below.refl _ _)⟩
set_option maxRecDepth 100000 in
set_option maxHeartbeats 1000000 in
theorem nil_all (w : World) (s : ByteArray) (hs : s.size ≤ maxLen) (i : Int) : Calls Try.prog 5 #[.string s, .int .i64 i] w (BPost w true) := by
  have HS := Lib.hid hs
  clear hs
  go_enter Try.func5, Try.ntmps5
  go_wp2_with (first
    | (go_at_call 13; refine (lives_any _).mono ?_; rintro e w1 ⟨rfl, hb1⟩; have B1 := Lib.hid hb1; clear hb1)
    | (go_at_call 10; refine (add_nil _ _).mono ?_; rintro e w2 ⟨rfl, hb2⟩; have B2 := Lib.hid (keep_trans B1.out hb2.out); clear hb2)
    | (go_at_call 11; refine (num_nil _ _ HS.out).mono ?_; rintro e w3 ⟨rfl, hb3⟩; have B3 := Lib.hid (keep_trans B2.out hb3.out); clear hb3)
    | (go_at_call 12; refine (name_nil _ _).mono ?_; rintro e w4 ⟨rfl, hb4⟩; have B4 := Lib.hid (keep_trans B3.out hb4.out); clear hb4)
    | (go_at_call 14; refine (len_nil _).mono ?_; rintro e w5 ⟨rfl, hb5⟩; have B5 := Lib.hid (keep_trans B4.out hb5.out); clear hb5)
    | (go_at_call 23; refine (all_nil _).mono ?_; rintro e w6 ⟨A6, c6, rfl, ho6, hb6⟩; have B6 := Lib.hid (keep_trans B5.out hb6.out); clear hb6)
    | (go_at_call 24; refine (sorted_nil _).mono ?_; rintro e w7 ⟨A7, c7, rfl, ho7, hb7⟩; have B7 := Lib.hid (keep_trans B6.out hb7.out); clear hb7)
    | (go_at_call 17; refine (clone_nil _).mono ?_; rintro e w8 ⟨rfl, rfl⟩))
  go_ret
  exact ⟨rfl, B7.out⟩
end Go.Proofs.Ytceamidobdfhbaa.It
