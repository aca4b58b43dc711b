/- TickBack, walked at any int64 and any text: it returns true. Condition: the library's variables hold what start-up lays (Env). -/
import Derived.Test.YtoijfdcknigikaaDoorTickText
import Derived.Test.YtoijfdcknigikaaDoorTickKeepFacts
namespace Go.Proofs.YtoijfdcknigikaaDoor.Tk
open Go.Shelf Go.ChangeShapes Go.WideShapes Go.ChangeAt Go.RowKit
set_option linter.unusedVariables false

theorem parseV_bounds (l : List UInt8) : 0 ≤ parseV l ∧ parseV l ≤ 4611686018427387904 := by
  unfold parseV; split
  · omega
  · split
    · rename_i h; omega
    · omega
theorem textL_size (t : Int) (h1 : -9223372036854775808 ≤ t) (h2 : t ≤ 9223372036854775807) : (⟨(textL t).toArray⟩ : ByteArray).size ≤ maxLen := by
  have : (⟨(textL t).toArray⟩ : ByteArray).size = (textL t).length := by rw [Lib.size_eq]
  rw [this]
  unfold textL; split
  · simp [infL, maxLen]
  · split
    · rename_i h
      have hl := Lib.itoa_length_le t h1 h2
      have : Lib.itoa t = Lib.decDigits t.toNat := by unfold Lib.itoa; rw [if_neg (by omega)]
      rw [this] at hl
      unfold maxLen; omega
    · simp
theorem parse_text_call (t : Int) (h1 : -9223372036854775808 ≤ t) (h2 : t ≤ 9223372036854775807) (w : World) (hE : Env w) :
    Calls Tryd.prog 9 #[.string ⟨(textL t).toArray⟩] w fun e w' => e = .returned (.tuple #[.int .i64 (parseV (textL t)), .int .i64 (parseE (textL t))]) ∧ Below w.heap.size w w' := by
  have := parse_any ⟨(textL t).toArray⟩ (textL_size t h1 h2) w hE
  unfold ParB at this
  simpa using this

theorem parse_s (s : ByteArray) (hmx : s.size ≤ maxLen) (w : World) (hE : Env w) :
    Calls Tryd.prog 9 #[.string s] w fun e w' => e = .returned (.tuple #[.int .i64 (parseV s.data.toList), .int .i64 (parseE s.data.toList)]) ∧ Below w.heap.size w w' := parse_any s hmx w hE

set_option maxHeartbeats 2000000 in
theorem back_yy (t : Int) (s : ByteArray) (h1 : -9223372036854775808 ≤ t) (h2 : t ≤ 9223372036854775807) (hs : s.size ≤ 60) (w : World) (hE : Env w) (ht : isTk t) (he : parseE s.data.toList = 0) (hz : isTk (parseV s.data.toList)) (hzt : textL (parseV s.data.toList) = s.data.toList) :
    Calls Tryd.prog 5 #[.int .i64 t, .string s] w (Good w) := by
  have HEnv := Lib.hid hE
  obtain ⟨pb1, pb2⟩ := parseV_bounds s.data.toList
  have hmx : s.size ≤ maxLen := by unfold maxLen; omega
  have iB := isB_true ht
  obtain ⟨pv, pe⟩ := parse_text ht
  clear ht
  have iZ := isB_true hz
  have htt : (textL (parseV s.data.toList) == s.toList) = true := by rw [hzt, ByteArray.toList_eq]; simp
  clear hz hzt hE
  go_enter Tryd.func5, Tryd.ntmps5
  go_wp2_with (first | (go_at_call 10; refine (lives_any _).mono ?_; rintro e w' ⟨rfl, hg⟩) | (go_at_call 13; refine (is_any _ _).mono ?_; rintro e w' ⟨rfl, rfl⟩) | (go_at_call 11; refine (text_any _ _ ?_ ?_ ?_).mono ?_; (exact (HEnv.out).on (by repeat (first | assumption | refine keep_trans ?_ (by assumption)))); omega; omega; rintro e w' ⟨rfl, hg⟩) | (go_at_call_of 9 (Value.string s); refine (parse_s s hmx _ ?_).mono ?_; (exact (HEnv.out).on (by repeat (first | assumption | refine keep_trans ?_ (by assumption)))); rintro e w' ⟨rfl, hg⟩) | (go_at_call 9; refine (parse_text_call _ h1 h2 _ ?_).mono ?_; (exact (HEnv.out).on (by repeat (first | assumption | refine keep_trans ?_ (by assumption)))); rintro e w' ⟨rfl, hg⟩))
  go_ret
  refine ⟨?_, by repeat (first | assumption | refine keep_trans ?_ (by assumption))⟩
  first | rfl | (refine ret_b ?_; simp; done) | (refine ret_b ?_; simp; omega)

set_option maxHeartbeats 2000000 in
theorem back_yt (t : Int) (s : ByteArray) (h1 : -9223372036854775808 ≤ t) (h2 : t ≤ 9223372036854775807) (hs : s.size ≤ 60) (w : World) (hE : Env w) (ht : isTk t) (hv : parseV s.data.toList = 0) (he : parseE s.data.toList = 7) :
    Calls Tryd.prog 5 #[.int .i64 t, .string s] w (Good w) := by
  have HEnv := Lib.hid hE
  obtain ⟨pb1, pb2⟩ := parseV_bounds s.data.toList
  have hmx : s.size ≤ maxLen := by unfold maxLen; omega
  have iB := isB_true ht
  obtain ⟨pv, pe⟩ := parse_text ht
  clear ht
  clear hE pb1 pb2
  go_enter Tryd.func5, Tryd.ntmps5
  go_wp2_with (first | (go_at_call 10; refine (lives_any _).mono ?_; rintro e w' ⟨rfl, hg⟩) | (go_at_call 13; refine (is_any _ _).mono ?_; rintro e w' ⟨rfl, rfl⟩) | (go_at_call 11; refine (text_any _ _ ?_ ?_ ?_).mono ?_; (exact (HEnv.out).on (by repeat (first | assumption | refine keep_trans ?_ (by assumption)))); omega; omega; rintro e w' ⟨rfl, hg⟩) | (go_at_call_of 9 (Value.string s); refine (parse_s s hmx _ ?_).mono ?_; (exact (HEnv.out).on (by repeat (first | assumption | refine keep_trans ?_ (by assumption)))); rintro e w' ⟨rfl, hg⟩) | (go_at_call 9; refine (parse_text_call _ h1 h2 _ ?_).mono ?_; (exact (HEnv.out).on (by repeat (first | assumption | refine keep_trans ?_ (by assumption)))); rintro e w' ⟨rfl, hg⟩))
  go_ret
  refine ⟨?_, by repeat (first | assumption | refine keep_trans ?_ (by assumption))⟩
  first | rfl | (refine ret_b ?_; simp; done) | (refine ret_b ?_; simp; omega)

set_option maxHeartbeats 2000000 in
theorem back_yr (t : Int) (s : ByteArray) (h1 : -9223372036854775808 ≤ t) (h2 : t ≤ 9223372036854775807) (hs : s.size ≤ 60) (w : World) (hE : Env w) (ht : isTk t) (hv : parseV s.data.toList = 0) (he : parseE s.data.toList = 9) :
    Calls Tryd.prog 5 #[.int .i64 t, .string s] w (Good w) := by
  have HEnv := Lib.hid hE
  obtain ⟨pb1, pb2⟩ := parseV_bounds s.data.toList
  have hmx : s.size ≤ maxLen := by unfold maxLen; omega
  have iB := isB_true ht
  obtain ⟨pv, pe⟩ := parse_text ht
  clear ht
  clear hE pb1 pb2
  go_enter Tryd.func5, Tryd.ntmps5
  go_wp2_with (first | (go_at_call 10; refine (lives_any _).mono ?_; rintro e w' ⟨rfl, hg⟩) | (go_at_call 13; refine (is_any _ _).mono ?_; rintro e w' ⟨rfl, rfl⟩) | (go_at_call 11; refine (text_any _ _ ?_ ?_ ?_).mono ?_; (exact (HEnv.out).on (by repeat (first | assumption | refine keep_trans ?_ (by assumption)))); omega; omega; rintro e w' ⟨rfl, hg⟩) | (go_at_call_of 9 (Value.string s); refine (parse_s s hmx _ ?_).mono ?_; (exact (HEnv.out).on (by repeat (first | assumption | refine keep_trans ?_ (by assumption)))); rintro e w' ⟨rfl, hg⟩) | (go_at_call 9; refine (parse_text_call _ h1 h2 _ ?_).mono ?_; (exact (HEnv.out).on (by repeat (first | assumption | refine keep_trans ?_ (by assumption)))); rintro e w' ⟨rfl, hg⟩))
  go_ret
  refine ⟨?_, by repeat (first | assumption | refine keep_trans ?_ (by assumption))⟩
  first | rfl | (refine ret_b ?_; simp; done) | (refine ret_b ?_; simp; omega)

set_option maxHeartbeats 2000000 in
theorem back_ny (t : Int) (s : ByteArray) (h1 : -9223372036854775808 ≤ t) (h2 : t ≤ 9223372036854775807) (hs : s.size ≤ 60) (w : World) (hE : Env w) (ht : ¬ isTk t) (he : parseE s.data.toList = 0) (hz : isTk (parseV s.data.toList)) (hzt : textL (parseV s.data.toList) = s.data.toList) :
    Calls Tryd.prog 5 #[.int .i64 t, .string s] w (Good w) := by
  have HEnv := Lib.hid hE
  obtain ⟨pb1, pb2⟩ := parseV_bounds s.data.toList
  have hmx : s.size ≤ maxLen := by unfold maxLen; omega
  have iB := isB_false ht
  have tn := text_no ht
  have te : (textL t).isEmpty = true := by rw [tn]; rfl
  obtain ⟨pv, pe⟩ : parseV (textL t) = 0 ∧ parseE (textL t) = 7 := by rw [tn]; exact ⟨by decide, by decide⟩
  have te2 : (textL t == []) = true := by rw [tn]; rfl
  clear ht tn
  have iZ := isB_true hz
  have htt : (textL (parseV s.data.toList) == s.toList) = true := by rw [hzt, ByteArray.toList_eq]; simp
  clear hz hzt hE
  go_enter Tryd.func5, Tryd.ntmps5
  go_wp2_with (first | (go_at_call 10; refine (lives_any _).mono ?_; rintro e w' ⟨rfl, hg⟩) | (go_at_call 13; refine (is_any _ _).mono ?_; rintro e w' ⟨rfl, rfl⟩) | (go_at_call 11; refine (text_any _ _ ?_ ?_ ?_).mono ?_; (exact (HEnv.out).on (by repeat (first | assumption | refine keep_trans ?_ (by assumption)))); omega; omega; rintro e w' ⟨rfl, hg⟩) | (go_at_call_of 9 (Value.string s); refine (parse_s s hmx _ ?_).mono ?_; (exact (HEnv.out).on (by repeat (first | assumption | refine keep_trans ?_ (by assumption)))); rintro e w' ⟨rfl, hg⟩) | (go_at_call 9; refine (parse_text_call _ h1 h2 _ ?_).mono ?_; (exact (HEnv.out).on (by repeat (first | assumption | refine keep_trans ?_ (by assumption)))); rintro e w' ⟨rfl, hg⟩))
  go_ret
  refine ⟨?_, by repeat (first | assumption | refine keep_trans ?_ (by assumption))⟩
  first | rfl | (refine ret_b ?_; simp; done) | (refine ret_b ?_; simp; omega)

set_option maxHeartbeats 2000000 in
theorem back_nt (t : Int) (s : ByteArray) (h1 : -9223372036854775808 ≤ t) (h2 : t ≤ 9223372036854775807) (hs : s.size ≤ 60) (w : World) (hE : Env w) (ht : ¬ isTk t) (hv : parseV s.data.toList = 0) (he : parseE s.data.toList = 7) :
    Calls Tryd.prog 5 #[.int .i64 t, .string s] w (Good w) := by
  have HEnv := Lib.hid hE
  obtain ⟨pb1, pb2⟩ := parseV_bounds s.data.toList
  have hmx : s.size ≤ maxLen := by unfold maxLen; omega
  have iB := isB_false ht
  have tn := text_no ht
  have te : (textL t).isEmpty = true := by rw [tn]; rfl
  obtain ⟨pv, pe⟩ : parseV (textL t) = 0 ∧ parseE (textL t) = 7 := by rw [tn]; exact ⟨by decide, by decide⟩
  have te2 : (textL t == []) = true := by rw [tn]; rfl
  clear ht tn
  clear hE pb1 pb2
  go_enter Tryd.func5, Tryd.ntmps5
  go_wp2_with (first | (go_at_call 10; refine (lives_any _).mono ?_; rintro e w' ⟨rfl, hg⟩) | (go_at_call 13; refine (is_any _ _).mono ?_; rintro e w' ⟨rfl, rfl⟩) | (go_at_call 11; refine (text_any _ _ ?_ ?_ ?_).mono ?_; (exact (HEnv.out).on (by repeat (first | assumption | refine keep_trans ?_ (by assumption)))); omega; omega; rintro e w' ⟨rfl, hg⟩) | (go_at_call_of 9 (Value.string s); refine (parse_s s hmx _ ?_).mono ?_; (exact (HEnv.out).on (by repeat (first | assumption | refine keep_trans ?_ (by assumption)))); rintro e w' ⟨rfl, hg⟩) | (go_at_call 9; refine (parse_text_call _ h1 h2 _ ?_).mono ?_; (exact (HEnv.out).on (by repeat (first | assumption | refine keep_trans ?_ (by assumption)))); rintro e w' ⟨rfl, hg⟩))
  go_ret
  refine ⟨?_, by repeat (first | assumption | refine keep_trans ?_ (by assumption))⟩
  first | rfl | (refine ret_b ?_; simp; done) | (refine ret_b ?_; simp; omega)

set_option maxHeartbeats 2000000 in
theorem back_nr (t : Int) (s : ByteArray) (h1 : -9223372036854775808 ≤ t) (h2 : t ≤ 9223372036854775807) (hs : s.size ≤ 60) (w : World) (hE : Env w) (ht : ¬ isTk t) (hv : parseV s.data.toList = 0) (he : parseE s.data.toList = 9) :
    Calls Tryd.prog 5 #[.int .i64 t, .string s] w (Good w) := by
  have HEnv := Lib.hid hE
  obtain ⟨pb1, pb2⟩ := parseV_bounds s.data.toList
  have hmx : s.size ≤ maxLen := by unfold maxLen; omega
  have iB := isB_false ht
  have tn := text_no ht
  have te : (textL t).isEmpty = true := by rw [tn]; rfl
  obtain ⟨pv, pe⟩ : parseV (textL t) = 0 ∧ parseE (textL t) = 7 := by rw [tn]; exact ⟨by decide, by decide⟩
  have te2 : (textL t == []) = true := by rw [tn]; rfl
  clear ht tn
  clear hE pb1 pb2
  go_enter Tryd.func5, Tryd.ntmps5
  go_wp2_with (first | (go_at_call 10; refine (lives_any _).mono ?_; rintro e w' ⟨rfl, hg⟩) | (go_at_call 13; refine (is_any _ _).mono ?_; rintro e w' ⟨rfl, rfl⟩) | (go_at_call 11; refine (text_any _ _ ?_ ?_ ?_).mono ?_; (exact (HEnv.out).on (by repeat (first | assumption | refine keep_trans ?_ (by assumption)))); omega; omega; rintro e w' ⟨rfl, hg⟩) | (go_at_call_of 9 (Value.string s); refine (parse_s s hmx _ ?_).mono ?_; (exact (HEnv.out).on (by repeat (first | assumption | refine keep_trans ?_ (by assumption)))); rintro e w' ⟨rfl, hg⟩) | (go_at_call 9; refine (parse_text_call _ h1 h2 _ ?_).mono ?_; (exact (HEnv.out).on (by repeat (first | assumption | refine keep_trans ?_ (by assumption)))); rintro e w' ⟨rfl, hg⟩))
  go_ret
  refine ⟨?_, by repeat (first | assumption | refine keep_trans ?_ (by assumption))⟩
  first | rfl | (refine ret_b ?_; simp; done) | (refine ret_b ?_; simp; omega)

theorem back_long (t : Int) (s : ByteArray) (hs : 60 < s.size) (hmx : s.size ≤ maxLen) (w : World) :
    Calls Tryd.prog 5 #[.int .i64 t, .string s] w (Good w) := by
  unfold maxLen at hmx
  go_enter Tryd.func5, Tryd.ntmps5
  go_wp2_with (go_at_call 10; refine (lives_any _).mono ?_; rintro e w' ⟨rfl, hg⟩)
  go_ret
  exact ⟨rfl, hg⟩
theorem back_all (t : Int) (s : ByteArray) (h1 : -9223372036854775808 ≤ t) (h2 : t ≤ 9223372036854775807) (hmx : s.size ≤ maxLen) (w : World) (hE : Env w) :
    Calls Tryd.prog 5 #[.int .i64 t, .string s] w (Good w) := by
  by_cases hs : s.size ≤ 60
  · by_cases ht : isTk t
    · rcases text_parse s.data.toList with ⟨a, b, c⟩ | ⟨a, b | b⟩
      · exact back_yy t s h1 h2 hs w hE ht a b c
      · exact back_yt t s h1 h2 hs w hE ht a b
      · exact back_yr t s h1 h2 hs w hE ht a b
    · rcases text_parse s.data.toList with ⟨a, b, c⟩ | ⟨a, b | b⟩
      · exact back_ny t s h1 h2 hs w hE ht a b c
      · exact back_nt t s h1 h2 hs w hE ht a b
      · exact back_nr t s h1 h2 hs w hE ht a b
  · exact back_long t s (by omega) hmx w
end Go.Proofs.YtoijfdcknigikaaDoor.Tk
