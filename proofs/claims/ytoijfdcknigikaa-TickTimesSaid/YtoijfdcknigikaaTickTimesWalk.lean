/- TickTimes, walked at all int64: it returns true. Condition: n is an int. -/
import Derived.Test.YtoijfdcknigikaaTickFacts
namespace Go.Proofs.Ytoijfdcknigikaa.Tk
open Go.ChangeShapes Go.WideShapes Go.ChangeAt Go.RowKit
set_option linter.unusedVariables false

theorem mul_z {m : Int} (h : 0 ≤ m) : mulV 0 m = 0 ∧ mulE 0 m = 0 := by
  have : isTk 0 := Or.inr ⟨by omega, by omega⟩
  simp [mulV, mulE, this, h]
theorem mul_zr {a : Int} (h : isTk a) : mulV a 0 = 0 ∧ mulE a 0 = 0 := by simp [mulV, mulE, h]
theorem mul_i {m : Int} (h : 1 ≤ m) : mulV 4611686018427387904 m = 4611686018427387904 ∧ mulE 4611686018427387904 m = 0 := by
  have h1 : 0 ≤ m := by omega
  have h2 : m ≠ 0 := by omega
  simp [mulV, mulE, inf_tk, h1, h2]
theorem mul_f {a m : Int} (ha : fin a) (h : 0 ≤ m) (hp : a * m ≤ 1099511627776) : mulV a m = a * m ∧ mulE a m = 0 := by
  by_cases h0 : a = 0
  · subst h0; rw [Int.zero_mul]; exact mul_z h
  · by_cases h1 : m = 0
    · subst h1; rw [Int.mul_zero]; exact mul_zr (fin_tk ha)
    · simp [mulV, mulE, fin_tk ha, h, h0, h1, fin_ne ha, hp]
theorem mul_o {a m : Int} (ha : fin a) (h : 0 ≤ m) (hp : ¬ a * m ≤ 1099511627776) : mulV a m = 0 ∧ mulE a m = 9 := by
  have h0 : a ≠ 0 := by intro e; subst e; rw [Int.zero_mul] at hp; omega
  have h1 : m ≠ 0 := by intro e; subst e; rw [Int.mul_zero] at hp; omega
  simp [mulV, mulE, fin_tk ha, h, h0, h1, fin_ne ha, hp]
theorem mul_step {a : Int} (ha : isTk a) (k : Nat) (h : mulE a k = 0) : addV (mulV a k) a = mulV a ((k : Int) + 1) ∧ addE (mulV a k) a = mulE a ((k : Int) + 1) := by
  rcases tk_cases a with hn | rfl | hf
  · exact absurd ha hn
  · obtain ⟨v1, e1⟩ := mul_i (m := (k : Int) + 1) (by omega)
    rw [v1, e1]
    by_cases h0 : k = 0
    · subst h0
      have hz : mulV 4611686018427387904 ((0 : Nat) : Int) = 0 := (mul_zr inf_tk).1
      rw [hz]; exact add_ir (Or.inr ⟨by omega, by omega⟩)
    · rw [(mul_i (m := (k : Int)) (by omega)).1]; exact add_il inf_tk
  · have hb : 0 ≤ a := hf.1
    have hp : a * (k : Int) ≤ 1099511627776 := by
      by_cases hp : a * (k : Int) ≤ 1099511627776
      · exact hp
      · rw [(mul_o hf (by omega) hp).2] at h; omega
    have hk0 : 0 ≤ a * (k : Int) := Int.mul_nonneg hb (by omega)
    have hs : a * ((k : Int) + 1) = a * k + a := by rw [Int.mul_add, Int.mul_one]
    rw [(mul_f hf (by omega) hp).1]
    by_cases hq : a * ((k : Int) + 1) ≤ 1099511627776
    · rw [(mul_f hf (by omega) hq).1, (mul_f hf (by omega) hq).2, hs]
      exact add_ff ⟨hk0, hp⟩ hf (by omega)
    · rw [(mul_o hf (by omega) hq).1, (mul_o hf (by omega) hq).2]
      exact add_fo ⟨hk0, hp⟩ hf (by omega)
theorem mul_mono {a : Int} (ha : isTk a) (k m : Nat) (hkm : k ≤ m) (h : mulE a k ≠ 0) : mulE a m = 9 ∧ mulE a k = 9 := by
  rcases tk_cases a with hn | rfl | hf
  · exact absurd ha hn
  · exfalso
    by_cases h0 : k = 0
    · subst h0; exact h (mul_zr inf_tk).2
    · exact h (mul_i (m := (k : Int)) (by omega)).2
  · have hb : 0 ≤ a := hf.1
    by_cases hp : a * (k : Int) ≤ 1099511627776
    · exact absurd (mul_f hf (by omega) hp).2 h
    · have hle : a * (k : Int) ≤ a * (m : Int) := Int.mul_le_mul_of_nonneg_left (by omega) hb
      exact ⟨(mul_o hf (by omega) (by omega)).2, (mul_o hf (by omega) hp).2⟩
theorem mul_01 (a : Int) (k : Int) : mulE a k = 0 ∨ mulE a k = 9 := by
  unfold mulE; split
  · split
    · exact Or.inl rfl
    · split
      · exact Or.inl rfl
      · split
        · exact Or.inl rfl
        · exact Or.inr rfl
  · exact Or.inr rfl
theorem tmod_np {n : Int} (h : n ≤ 0) : n.tmod 61 ≤ 0 := by
  have : n.tmod 61 = -((-n).tmod 61) := by rw [Int.neg_tmod, Int.neg_neg]
  rw [this]
  have := Int.tmod_nonneg (a := -n) 61 (by omega)
  omega
theorem b_t {x y : Int} (h : x = y) : (x == y) = true := by simp [h]
theorem at_bs {f s i : Int} (h : ¬ fin s) : atV f s i = 0 ∧ atE f s i = 9 := at_nf (fun h' => h h'.2)
theorem inf_nf : ¬ fin 4611686018427387904 := by unfold fin; omega

set_option maxHeartbeats 4000000 in
theorem times_fin_p (a : Int) (m : Nat) (hm : m ≤ 60) (n : Int) (hn0 : 0 ≤ n) (hn : n % 61 = (m : Int)) (hn2 : n ≤ 9223372036854775807) (ha : fin a) (h0 : a ≠ 0) (hp : a * (m : Int) ≤ 1099511627776) (w : World) :
    Calls Try.prog 5 #[.int .i64 a, .int .i64 n] w (Good w) := by
  have hn1 : 0 ≤ n % 61 := by omega
  have HTK := Lib.hid (fin_tk ha)
  have iB := isB_true (fin_tk ha)
  have hai := eq_f (fin_ne ha)
  have ha0 := eq_f h0
  obtain ⟨v1, e1⟩ := mul_f ha (Int.natCast_nonneg m) hp
  obtain ⟨v2, e2⟩ := at_yes (f := 0) (i := (m : Int)) ⟨by omega, by omega⟩ ha h0 (Int.natCast_nonneg m) (by omega)
  rw [Int.zero_add] at v2
  have hmm := eq_t (rfl : a * (m : Int) = a * (m : Int))
  clear ha h0 hp
  go_enter Try.func5, Try.ntmps5
  go_wp2_with (first | (go_at_call 7; refine (lives_any _).mono ?_; rintro e w' ⟨rfl, hg⟩) | (go_at_call 8; refine (add_any _ _ _).mono ?_; rintro e w' ⟨rfl, hg⟩) | (go_at_call 9; refine (is_any _ _).mono ?_; rintro e w' ⟨rfl, rfl⟩) | (go_at_call 14; refine (mul_any _ _ _ (by omega)).mono ?_; rintro e w' ⟨rfl, hg⟩) | (go_at_call 13; refine (at_any _ _ _ _ (by omega)).mono ?_; rintro e w' ⟨rfl, hg⟩))
  obtain ⟨w1, hw1, hg0⟩ : ∃ w1, w' = w1 ∧ Grown w w1 := ⟨_, rfl, by repeat (first | assumption | refine grown_trans ?_ (by assumption))⟩
  subst hw1
  go_loopw [7, 8, 9] (fun s f i wr => ∃ k : Nat, k ≤ m ∧ i = .int .i64 k ∧ s = .int .i64 (mulV a k) ∧ f = .int .i64 (mulE a k) ∧ Grown w wr) (fun _ _ i _ => m - (intOf i).toNat)
  case atStart => exact ⟨0, Nat.zero_le _, rfl, by rw [show ((0 : Nat) : Int) = 0 from rfl, (mul_zr HTK.out).1], by rw [show ((0 : Nat) : Int) = 0 from rfl, (mul_zr HTK.out).2], hg0⟩
  case round =>
    obtain ⟨k, hk, rfl, rfl, rfl, hgr⟩ := hrel
    by_cases hlt : k < m
    · rcases mul_01 a k with hz | hz
      · obtain ⟨hv, he⟩ := mul_step HTK.out k hz
        go_wp2_with (first | (go_at_call 7; refine (lives_any _).mono ?_; rintro e w' ⟨rfl, hg⟩) | (go_at_call 8; refine (add_any _ _ _).mono ?_; rintro e w' ⟨rfl, hg⟩) | (go_at_call 9; refine (is_any _ _).mono ?_; rintro e w' ⟨rfl, rfl⟩) | (go_at_call 14; refine (mul_any _ _ _ (by omega)).mono ?_; rintro e w' ⟨rfl, hg⟩) | (go_at_call 13; refine (at_any _ _ _ _ (by omega)).mono ?_; rintro e w' ⟨rfl, hg⟩))
        go_roundw
        case rel => exact ⟨k + 1, by omega, by go_num, rfl, rfl, grown_trans hgr (by assumption)⟩
        case measure => simp [intOf]; omega
      · have hM := (mul_mono HTK.out k m hk (by omega)).1
        go_wp2_with (first | (go_at_call 7; refine (lives_any _).mono ?_; rintro e w' ⟨rfl, hg⟩) | (go_at_call 8; refine (add_any _ _ _).mono ?_; rintro e w' ⟨rfl, hg⟩) | (go_at_call 9; refine (is_any _ _).mono ?_; rintro e w' ⟨rfl, rfl⟩) | (go_at_call 14; refine (mul_any _ _ _ (by omega)).mono ?_; rintro e w' ⟨rfl, hg⟩) | (go_at_call 13; refine (at_any _ _ _ _ (by omega)).mono ?_; rintro e w' ⟨rfl, hg⟩))
        go_ret
        refine ⟨?_, by repeat (first | assumption | refine grown_trans ?_ (by assumption))⟩
        first | rfl | (refine ret_b ?_; simp; done) | (refine ret_b ?_; simp; omega)
    · obtain rfl : k = m := by omega
      go_wp2_with (first | (go_at_call 7; refine (lives_any _).mono ?_; rintro e w' ⟨rfl, hg⟩) | (go_at_call 8; refine (add_any _ _ _).mono ?_; rintro e w' ⟨rfl, hg⟩) | (go_at_call 9; refine (is_any _ _).mono ?_; rintro e w' ⟨rfl, rfl⟩) | (go_at_call 14; refine (mul_any _ _ _ (by omega)).mono ?_; rintro e w' ⟨rfl, hg⟩) | (go_at_call 13; refine (at_any _ _ _ _ (by omega)).mono ?_; rintro e w' ⟨rfl, hg⟩))
      go_ret
      refine ⟨?_, by repeat (first | assumption | refine grown_trans ?_ (by assumption))⟩
      first | rfl | (refine ret_b ?_; simp; done) | (refine ret_b ?_; simp; omega)
set_option maxHeartbeats 4000000 in
theorem times_big_p (a : Int) (m : Nat) (hm : m ≤ 60) (n : Int) (hn0 : 0 ≤ n) (hn : n % 61 = (m : Int)) (hn2 : n ≤ 9223372036854775807) (ha : fin a) (h0 : a ≠ 0) (hp : ¬ a * (m : Int) ≤ 1099511627776) (w : World) :
    Calls Try.prog 5 #[.int .i64 a, .int .i64 n] w (Good w) := by
  have hn1 : 0 ≤ n % 61 := by omega
  have HTK := Lib.hid (fin_tk ha)
  have iB := isB_true (fin_tk ha)
  have hai := eq_f (fin_ne ha)
  have ha0 := eq_f h0
  obtain ⟨v1, e1⟩ := mul_o ha (Int.natCast_nonneg m) hp
  obtain ⟨v2, e2⟩ := at_no (f := 0) (i := (m : Int)) ⟨by omega, by omega⟩ ha h0 (Int.natCast_nonneg m) (by omega)
  clear ha h0 hp
  go_enter Try.func5, Try.ntmps5
  go_wp2_with (first | (go_at_call 7; refine (lives_any _).mono ?_; rintro e w' ⟨rfl, hg⟩) | (go_at_call 8; refine (add_any _ _ _).mono ?_; rintro e w' ⟨rfl, hg⟩) | (go_at_call 9; refine (is_any _ _).mono ?_; rintro e w' ⟨rfl, rfl⟩) | (go_at_call 14; refine (mul_any _ _ _ (by omega)).mono ?_; rintro e w' ⟨rfl, hg⟩) | (go_at_call 13; refine (at_any _ _ _ _ (by omega)).mono ?_; rintro e w' ⟨rfl, hg⟩))
  obtain ⟨w1, hw1, hg0⟩ : ∃ w1, w' = w1 ∧ Grown w w1 := ⟨_, rfl, by repeat (first | assumption | refine grown_trans ?_ (by assumption))⟩
  subst hw1
  go_loopw [7, 8, 9] (fun s f i wr => ∃ k : Nat, k ≤ m ∧ i = .int .i64 k ∧ s = .int .i64 (mulV a k) ∧ f = .int .i64 (mulE a k) ∧ Grown w wr) (fun _ _ i _ => m - (intOf i).toNat)
  case atStart => exact ⟨0, Nat.zero_le _, rfl, by rw [show ((0 : Nat) : Int) = 0 from rfl, (mul_zr HTK.out).1], by rw [show ((0 : Nat) : Int) = 0 from rfl, (mul_zr HTK.out).2], hg0⟩
  case round =>
    obtain ⟨k, hk, rfl, rfl, rfl, hgr⟩ := hrel
    by_cases hlt : k < m
    · rcases mul_01 a k with hz | hz
      · obtain ⟨hv, he⟩ := mul_step HTK.out k hz
        go_wp2_with (first | (go_at_call 7; refine (lives_any _).mono ?_; rintro e w' ⟨rfl, hg⟩) | (go_at_call 8; refine (add_any _ _ _).mono ?_; rintro e w' ⟨rfl, hg⟩) | (go_at_call 9; refine (is_any _ _).mono ?_; rintro e w' ⟨rfl, rfl⟩) | (go_at_call 14; refine (mul_any _ _ _ (by omega)).mono ?_; rintro e w' ⟨rfl, hg⟩) | (go_at_call 13; refine (at_any _ _ _ _ (by omega)).mono ?_; rintro e w' ⟨rfl, hg⟩))
        go_roundw
        case rel => exact ⟨k + 1, by omega, by go_num, rfl, rfl, grown_trans hgr (by assumption)⟩
        case measure => simp [intOf]; omega
      · have hM := (mul_mono HTK.out k m hk (by omega)).1
        go_wp2_with (first | (go_at_call 7; refine (lives_any _).mono ?_; rintro e w' ⟨rfl, hg⟩) | (go_at_call 8; refine (add_any _ _ _).mono ?_; rintro e w' ⟨rfl, hg⟩) | (go_at_call 9; refine (is_any _ _).mono ?_; rintro e w' ⟨rfl, rfl⟩) | (go_at_call 14; refine (mul_any _ _ _ (by omega)).mono ?_; rintro e w' ⟨rfl, hg⟩) | (go_at_call 13; refine (at_any _ _ _ _ (by omega)).mono ?_; rintro e w' ⟨rfl, hg⟩))
        go_ret
        refine ⟨?_, by repeat (first | assumption | refine grown_trans ?_ (by assumption))⟩
        first | rfl | (refine ret_b ?_; simp; done) | (refine ret_b ?_; simp; omega)
    · obtain rfl : k = m := by omega
      go_wp2_with (first | (go_at_call 7; refine (lives_any _).mono ?_; rintro e w' ⟨rfl, hg⟩) | (go_at_call 8; refine (add_any _ _ _).mono ?_; rintro e w' ⟨rfl, hg⟩) | (go_at_call 9; refine (is_any _ _).mono ?_; rintro e w' ⟨rfl, rfl⟩) | (go_at_call 14; refine (mul_any _ _ _ (by omega)).mono ?_; rintro e w' ⟨rfl, hg⟩) | (go_at_call 13; refine (at_any _ _ _ _ (by omega)).mono ?_; rintro e w' ⟨rfl, hg⟩))
      go_ret
      refine ⟨?_, by repeat (first | assumption | refine grown_trans ?_ (by assumption))⟩
      first | rfl | (refine ret_b ?_; simp; done) | (refine ret_b ?_; simp; omega)
set_option maxHeartbeats 4000000 in
theorem times_inf_p (m : Nat) (hm : m ≤ 60) (n : Int) (hn0 : 0 ≤ n) (hn : n % 61 = (m : Int)) (hn2 : n ≤ 9223372036854775807)  (w : World) :
    Calls Try.prog 5 #[.int .i64 4611686018427387904, .int .i64 n] w (Good w) := by
  have hn1 : 0 ≤ n % 61 := by omega
  have HTK := Lib.hid inf_tk
  have iB := isB_inf
  have e1 : mulE 4611686018427387904 (m : Int) = 0 := by
    by_cases h : m = 0
    · subst h; exact (mul_zr inf_tk).2
    · exact (mul_i (by omega)).2
  have HM : (mulV 4611686018427387904 (m : Int) != mulV 4611686018427387904 (m : Int)) = false := by simp
  obtain ⟨v2, e2⟩ := at_bs (f := 0) (i := (m : Int)) inf_nf
  go_enter Try.func5, Try.ntmps5
  go_wp2_with (first | (go_at_call 7; refine (lives_any _).mono ?_; rintro e w' ⟨rfl, hg⟩) | (go_at_call 8; refine (add_any _ _ _).mono ?_; rintro e w' ⟨rfl, hg⟩) | (go_at_call 9; refine (is_any _ _).mono ?_; rintro e w' ⟨rfl, rfl⟩) | (go_at_call 14; refine (mul_any _ _ _ (by omega)).mono ?_; rintro e w' ⟨rfl, hg⟩) | (go_at_call 13; refine (at_any _ _ _ _ (by omega)).mono ?_; rintro e w' ⟨rfl, hg⟩))
  obtain ⟨w1, hw1, hg0⟩ : ∃ w1, w' = w1 ∧ Grown w w1 := ⟨_, rfl, by repeat (first | assumption | refine grown_trans ?_ (by assumption))⟩
  subst hw1
  go_loopw [7, 8, 9] (fun s f i wr => ∃ k : Nat, k ≤ m ∧ i = .int .i64 k ∧ s = .int .i64 (mulV 4611686018427387904 k) ∧ f = .int .i64 (mulE 4611686018427387904 k) ∧ Grown w wr) (fun _ _ i _ => m - (intOf i).toNat)
  case atStart => exact ⟨0, Nat.zero_le _, rfl, by rw [show ((0 : Nat) : Int) = 0 from rfl, (mul_zr HTK.out).1], by rw [show ((0 : Nat) : Int) = 0 from rfl, (mul_zr HTK.out).2], hg0⟩
  case round =>
    obtain ⟨k, hk, rfl, rfl, rfl, hgr⟩ := hrel
    by_cases hlt : k < m
    · rcases mul_01 4611686018427387904 k with hz | hz
      · obtain ⟨hv, he⟩ := mul_step HTK.out k hz
        go_wp2_with (first | (go_at_call 7; refine (lives_any _).mono ?_; rintro e w' ⟨rfl, hg⟩) | (go_at_call 8; refine (add_any _ _ _).mono ?_; rintro e w' ⟨rfl, hg⟩) | (go_at_call 9; refine (is_any _ _).mono ?_; rintro e w' ⟨rfl, rfl⟩) | (go_at_call 14; refine (mul_any _ _ _ (by omega)).mono ?_; rintro e w' ⟨rfl, hg⟩) | (go_at_call 13; refine (at_any _ _ _ _ (by omega)).mono ?_; rintro e w' ⟨rfl, hg⟩))
        go_roundw
        case rel => exact ⟨k + 1, by omega, by go_num, rfl, rfl, grown_trans hgr (by assumption)⟩
        case measure => simp [intOf]; omega
      · have hM := (mul_mono HTK.out k m hk (by omega)).1
        go_wp2_with (first | (go_at_call 7; refine (lives_any _).mono ?_; rintro e w' ⟨rfl, hg⟩) | (go_at_call 8; refine (add_any _ _ _).mono ?_; rintro e w' ⟨rfl, hg⟩) | (go_at_call 9; refine (is_any _ _).mono ?_; rintro e w' ⟨rfl, rfl⟩) | (go_at_call 14; refine (mul_any _ _ _ (by omega)).mono ?_; rintro e w' ⟨rfl, hg⟩) | (go_at_call 13; refine (at_any _ _ _ _ (by omega)).mono ?_; rintro e w' ⟨rfl, hg⟩))
        go_ret
        refine ⟨?_, by repeat (first | assumption | refine grown_trans ?_ (by assumption))⟩
        first | rfl | (refine ret_b ?_; simp; done) | (refine ret_b ?_; simp; omega)
    · obtain rfl : k = m := by omega
      go_wp2_with (first | (go_at_call 7; refine (lives_any _).mono ?_; rintro e w' ⟨rfl, hg⟩) | (go_at_call 8; refine (add_any _ _ _).mono ?_; rintro e w' ⟨rfl, hg⟩) | (go_at_call 9; refine (is_any _ _).mono ?_; rintro e w' ⟨rfl, rfl⟩) | (go_at_call 14; refine (mul_any _ _ _ (by omega)).mono ?_; rintro e w' ⟨rfl, hg⟩) | (go_at_call 13; refine (at_any _ _ _ _ (by omega)).mono ?_; rintro e w' ⟨rfl, hg⟩))
      go_ret
      refine ⟨?_, by repeat (first | assumption | refine grown_trans ?_ (by assumption))⟩
      first | rfl | (refine ret_b ?_; simp; done) | (refine ret_b ?_; simp; omega)
set_option maxHeartbeats 4000000 in
theorem times_zero_p (m : Nat) (hm : m ≤ 60) (n : Int) (hn0 : 0 ≤ n) (hn : n % 61 = (m : Int)) (hn2 : n ≤ 9223372036854775807) (hpos : 1 ≤ m) (w : World) :
    Calls Try.prog 5 #[.int .i64 0, .int .i64 n] w (Good w) := by
  have hn1 : 0 ≤ n % 61 := by omega
  have HTK := Lib.hid (fin_tk (t := 0) ⟨by omega, by omega⟩)
  have iB := isB_true (t := 0) HTK.out
  obtain ⟨v1, e1⟩ := mul_z (Int.natCast_nonneg m)
  obtain ⟨v2, e2⟩ := at_zero_pos (f := 0) (i := (m : Int)) (by omega)
  go_enter Try.func5, Try.ntmps5
  go_wp2_with (first | (go_at_call 7; refine (lives_any _).mono ?_; rintro e w' ⟨rfl, hg⟩) | (go_at_call 8; refine (add_any _ _ _).mono ?_; rintro e w' ⟨rfl, hg⟩) | (go_at_call 9; refine (is_any _ _).mono ?_; rintro e w' ⟨rfl, rfl⟩) | (go_at_call 14; refine (mul_any _ _ _ (by omega)).mono ?_; rintro e w' ⟨rfl, hg⟩) | (go_at_call 13; refine (at_any _ _ _ _ (by omega)).mono ?_; rintro e w' ⟨rfl, hg⟩))
  obtain ⟨w1, hw1, hg0⟩ : ∃ w1, w' = w1 ∧ Grown w w1 := ⟨_, rfl, by repeat (first | assumption | refine grown_trans ?_ (by assumption))⟩
  subst hw1
  go_loopw [7, 8, 9] (fun s f i wr => ∃ k : Nat, k ≤ m ∧ i = .int .i64 k ∧ s = .int .i64 (mulV 0 k) ∧ f = .int .i64 (mulE 0 k) ∧ Grown w wr) (fun _ _ i _ => m - (intOf i).toNat)
  case atStart => exact ⟨0, Nat.zero_le _, rfl, by rw [show ((0 : Nat) : Int) = 0 from rfl, (mul_zr HTK.out).1], by rw [show ((0 : Nat) : Int) = 0 from rfl, (mul_zr HTK.out).2], hg0⟩
  case round =>
    obtain ⟨k, hk, rfl, rfl, rfl, hgr⟩ := hrel
    by_cases hlt : k < m
    · rcases mul_01 0 k with hz | hz
      · obtain ⟨hv, he⟩ := mul_step HTK.out k hz
        go_wp2_with (first | (go_at_call 7; refine (lives_any _).mono ?_; rintro e w' ⟨rfl, hg⟩) | (go_at_call 8; refine (add_any _ _ _).mono ?_; rintro e w' ⟨rfl, hg⟩) | (go_at_call 9; refine (is_any _ _).mono ?_; rintro e w' ⟨rfl, rfl⟩) | (go_at_call 14; refine (mul_any _ _ _ (by omega)).mono ?_; rintro e w' ⟨rfl, hg⟩) | (go_at_call 13; refine (at_any _ _ _ _ (by omega)).mono ?_; rintro e w' ⟨rfl, hg⟩))
        go_roundw
        case rel => exact ⟨k + 1, by omega, by go_num, rfl, rfl, grown_trans hgr (by assumption)⟩
        case measure => simp [intOf]; omega
      · have hM := (mul_mono HTK.out k m hk (by omega)).1
        go_wp2_with (first | (go_at_call 7; refine (lives_any _).mono ?_; rintro e w' ⟨rfl, hg⟩) | (go_at_call 8; refine (add_any _ _ _).mono ?_; rintro e w' ⟨rfl, hg⟩) | (go_at_call 9; refine (is_any _ _).mono ?_; rintro e w' ⟨rfl, rfl⟩) | (go_at_call 14; refine (mul_any _ _ _ (by omega)).mono ?_; rintro e w' ⟨rfl, hg⟩) | (go_at_call 13; refine (at_any _ _ _ _ (by omega)).mono ?_; rintro e w' ⟨rfl, hg⟩))
        go_ret
        refine ⟨?_, by repeat (first | assumption | refine grown_trans ?_ (by assumption))⟩
        first | rfl | (refine ret_b ?_; simp; done) | (refine ret_b ?_; simp; omega)
    · obtain rfl : k = m := by omega
      go_wp2_with (first | (go_at_call 7; refine (lives_any _).mono ?_; rintro e w' ⟨rfl, hg⟩) | (go_at_call 8; refine (add_any _ _ _).mono ?_; rintro e w' ⟨rfl, hg⟩) | (go_at_call 9; refine (is_any _ _).mono ?_; rintro e w' ⟨rfl, rfl⟩) | (go_at_call 14; refine (mul_any _ _ _ (by omega)).mono ?_; rintro e w' ⟨rfl, hg⟩) | (go_at_call 13; refine (at_any _ _ _ _ (by omega)).mono ?_; rintro e w' ⟨rfl, hg⟩))
      go_ret
      refine ⟨?_, by repeat (first | assumption | refine grown_trans ?_ (by assumption))⟩
      first | rfl | (refine ret_b ?_; simp; done) | (refine ret_b ?_; simp; omega)
set_option maxHeartbeats 4000000 in
theorem times_fin_n (a : Int) (m : Nat) (hm : m ≤ 60) (hm1 : 1 ≤ m) (n : Int) (hn0 : n < 0) (hn : n.tmod 61 = -(m : Int)) (hn2 : -9223372036854775808 ≤ n) (ha : fin a) (h0 : a ≠ 0) (hp : a * (m : Int) ≤ 1099511627776) (w : World) :
    Calls Try.prog 5 #[.int .i64 a, .int .i64 n] w (Good w) := by
  have HTK := Lib.hid (fin_tk ha)
  have iB := isB_true (fin_tk ha)
  have hai := eq_f (fin_ne ha)
  have ha0 := eq_f h0
  obtain ⟨v1, e1⟩ := mul_f ha (Int.natCast_nonneg m) hp
  obtain ⟨v2, e2⟩ := at_yes (f := 0) (i := (m : Int)) ⟨by omega, by omega⟩ ha h0 (Int.natCast_nonneg m) (by omega)
  rw [Int.zero_add] at v2
  have hmm := eq_t (rfl : a * (m : Int) = a * (m : Int))
  clear ha h0 hp
  go_enter Try.func5, Try.ntmps5
  go_wp2_with (first | (go_at_call 7; refine (lives_any _).mono ?_; rintro e w' ⟨rfl, hg⟩) | (go_at_call 8; refine (add_any _ _ _).mono ?_; rintro e w' ⟨rfl, hg⟩) | (go_at_call 9; refine (is_any _ _).mono ?_; rintro e w' ⟨rfl, rfl⟩) | (go_at_call 14; refine (mul_any _ _ _ (by omega)).mono ?_; rintro e w' ⟨rfl, hg⟩) | (go_at_call 13; refine (at_any _ _ _ _ (by omega)).mono ?_; rintro e w' ⟨rfl, hg⟩))
  obtain ⟨w1, hw1, hg0⟩ : ∃ w1, w' = w1 ∧ Grown w w1 := ⟨_, rfl, by repeat (first | assumption | refine grown_trans ?_ (by assumption))⟩
  subst hw1
  go_loopw [7, 8, 9] (fun s f i wr => ∃ k : Nat, k ≤ m ∧ i = .int .i64 k ∧ s = .int .i64 (mulV a k) ∧ f = .int .i64 (mulE a k) ∧ Grown w wr) (fun _ _ i _ => m - (intOf i).toNat)
  case atStart => exact ⟨0, Nat.zero_le _, rfl, by rw [show ((0 : Nat) : Int) = 0 from rfl, (mul_zr HTK.out).1], by rw [show ((0 : Nat) : Int) = 0 from rfl, (mul_zr HTK.out).2], hg0⟩
  case round =>
    obtain ⟨k, hk, rfl, rfl, rfl, hgr⟩ := hrel
    by_cases hlt : k < m
    · rcases mul_01 a k with hz | hz
      · obtain ⟨hv, he⟩ := mul_step HTK.out k hz
        go_wp2_with (first | (go_at_call 7; refine (lives_any _).mono ?_; rintro e w' ⟨rfl, hg⟩) | (go_at_call 8; refine (add_any _ _ _).mono ?_; rintro e w' ⟨rfl, hg⟩) | (go_at_call 9; refine (is_any _ _).mono ?_; rintro e w' ⟨rfl, rfl⟩) | (go_at_call 14; refine (mul_any _ _ _ (by omega)).mono ?_; rintro e w' ⟨rfl, hg⟩) | (go_at_call 13; refine (at_any _ _ _ _ (by omega)).mono ?_; rintro e w' ⟨rfl, hg⟩))
        go_roundw
        case rel => exact ⟨k + 1, by omega, by go_num, rfl, rfl, grown_trans hgr (by assumption)⟩
        case measure => simp [intOf]; omega
      · have hM := (mul_mono HTK.out k m hk (by omega)).1
        go_wp2_with (first | (go_at_call 7; refine (lives_any _).mono ?_; rintro e w' ⟨rfl, hg⟩) | (go_at_call 8; refine (add_any _ _ _).mono ?_; rintro e w' ⟨rfl, hg⟩) | (go_at_call 9; refine (is_any _ _).mono ?_; rintro e w' ⟨rfl, rfl⟩) | (go_at_call 14; refine (mul_any _ _ _ (by omega)).mono ?_; rintro e w' ⟨rfl, hg⟩) | (go_at_call 13; refine (at_any _ _ _ _ (by omega)).mono ?_; rintro e w' ⟨rfl, hg⟩))
        go_ret
        refine ⟨?_, by repeat (first | assumption | refine grown_trans ?_ (by assumption))⟩
        first | rfl | (refine ret_b ?_; simp; done) | (refine ret_b ?_; simp; omega)
    · obtain rfl : k = m := by omega
      go_wp2_with (first | (go_at_call 7; refine (lives_any _).mono ?_; rintro e w' ⟨rfl, hg⟩) | (go_at_call 8; refine (add_any _ _ _).mono ?_; rintro e w' ⟨rfl, hg⟩) | (go_at_call 9; refine (is_any _ _).mono ?_; rintro e w' ⟨rfl, rfl⟩) | (go_at_call 14; refine (mul_any _ _ _ (by omega)).mono ?_; rintro e w' ⟨rfl, hg⟩) | (go_at_call 13; refine (at_any _ _ _ _ (by omega)).mono ?_; rintro e w' ⟨rfl, hg⟩))
      go_ret
      refine ⟨?_, by repeat (first | assumption | refine grown_trans ?_ (by assumption))⟩
      first | rfl | (refine ret_b ?_; simp; done) | (refine ret_b ?_; simp; omega)
set_option maxHeartbeats 4000000 in
theorem times_big_n (a : Int) (m : Nat) (hm : m ≤ 60) (hm1 : 1 ≤ m) (n : Int) (hn0 : n < 0) (hn : n.tmod 61 = -(m : Int)) (hn2 : -9223372036854775808 ≤ n) (ha : fin a) (h0 : a ≠ 0) (hp : ¬ a * (m : Int) ≤ 1099511627776) (w : World) :
    Calls Try.prog 5 #[.int .i64 a, .int .i64 n] w (Good w) := by
  have HTK := Lib.hid (fin_tk ha)
  have iB := isB_true (fin_tk ha)
  have hai := eq_f (fin_ne ha)
  have ha0 := eq_f h0
  obtain ⟨v1, e1⟩ := mul_o ha (Int.natCast_nonneg m) hp
  obtain ⟨v2, e2⟩ := at_no (f := 0) (i := (m : Int)) ⟨by omega, by omega⟩ ha h0 (Int.natCast_nonneg m) (by omega)
  clear ha h0 hp
  go_enter Try.func5, Try.ntmps5
  go_wp2_with (first | (go_at_call 7; refine (lives_any _).mono ?_; rintro e w' ⟨rfl, hg⟩) | (go_at_call 8; refine (add_any _ _ _).mono ?_; rintro e w' ⟨rfl, hg⟩) | (go_at_call 9; refine (is_any _ _).mono ?_; rintro e w' ⟨rfl, rfl⟩) | (go_at_call 14; refine (mul_any _ _ _ (by omega)).mono ?_; rintro e w' ⟨rfl, hg⟩) | (go_at_call 13; refine (at_any _ _ _ _ (by omega)).mono ?_; rintro e w' ⟨rfl, hg⟩))
  obtain ⟨w1, hw1, hg0⟩ : ∃ w1, w' = w1 ∧ Grown w w1 := ⟨_, rfl, by repeat (first | assumption | refine grown_trans ?_ (by assumption))⟩
  subst hw1
  go_loopw [7, 8, 9] (fun s f i wr => ∃ k : Nat, k ≤ m ∧ i = .int .i64 k ∧ s = .int .i64 (mulV a k) ∧ f = .int .i64 (mulE a k) ∧ Grown w wr) (fun _ _ i _ => m - (intOf i).toNat)
  case atStart => exact ⟨0, Nat.zero_le _, rfl, by rw [show ((0 : Nat) : Int) = 0 from rfl, (mul_zr HTK.out).1], by rw [show ((0 : Nat) : Int) = 0 from rfl, (mul_zr HTK.out).2], hg0⟩
  case round =>
    obtain ⟨k, hk, rfl, rfl, rfl, hgr⟩ := hrel
    by_cases hlt : k < m
    · rcases mul_01 a k with hz | hz
      · obtain ⟨hv, he⟩ := mul_step HTK.out k hz
        go_wp2_with (first | (go_at_call 7; refine (lives_any _).mono ?_; rintro e w' ⟨rfl, hg⟩) | (go_at_call 8; refine (add_any _ _ _).mono ?_; rintro e w' ⟨rfl, hg⟩) | (go_at_call 9; refine (is_any _ _).mono ?_; rintro e w' ⟨rfl, rfl⟩) | (go_at_call 14; refine (mul_any _ _ _ (by omega)).mono ?_; rintro e w' ⟨rfl, hg⟩) | (go_at_call 13; refine (at_any _ _ _ _ (by omega)).mono ?_; rintro e w' ⟨rfl, hg⟩))
        go_roundw
        case rel => exact ⟨k + 1, by omega, by go_num, rfl, rfl, grown_trans hgr (by assumption)⟩
        case measure => simp [intOf]; omega
      · have hM := (mul_mono HTK.out k m hk (by omega)).1
        go_wp2_with (first | (go_at_call 7; refine (lives_any _).mono ?_; rintro e w' ⟨rfl, hg⟩) | (go_at_call 8; refine (add_any _ _ _).mono ?_; rintro e w' ⟨rfl, hg⟩) | (go_at_call 9; refine (is_any _ _).mono ?_; rintro e w' ⟨rfl, rfl⟩) | (go_at_call 14; refine (mul_any _ _ _ (by omega)).mono ?_; rintro e w' ⟨rfl, hg⟩) | (go_at_call 13; refine (at_any _ _ _ _ (by omega)).mono ?_; rintro e w' ⟨rfl, hg⟩))
        go_ret
        refine ⟨?_, by repeat (first | assumption | refine grown_trans ?_ (by assumption))⟩
        first | rfl | (refine ret_b ?_; simp; done) | (refine ret_b ?_; simp; omega)
    · obtain rfl : k = m := by omega
      go_wp2_with (first | (go_at_call 7; refine (lives_any _).mono ?_; rintro e w' ⟨rfl, hg⟩) | (go_at_call 8; refine (add_any _ _ _).mono ?_; rintro e w' ⟨rfl, hg⟩) | (go_at_call 9; refine (is_any _ _).mono ?_; rintro e w' ⟨rfl, rfl⟩) | (go_at_call 14; refine (mul_any _ _ _ (by omega)).mono ?_; rintro e w' ⟨rfl, hg⟩) | (go_at_call 13; refine (at_any _ _ _ _ (by omega)).mono ?_; rintro e w' ⟨rfl, hg⟩))
      go_ret
      refine ⟨?_, by repeat (first | assumption | refine grown_trans ?_ (by assumption))⟩
      first | rfl | (refine ret_b ?_; simp; done) | (refine ret_b ?_; simp; omega)
set_option maxHeartbeats 4000000 in
theorem times_inf_n (m : Nat) (hm : m ≤ 60) (hm1 : 1 ≤ m) (n : Int) (hn0 : n < 0) (hn : n.tmod 61 = -(m : Int)) (hn2 : -9223372036854775808 ≤ n)  (w : World) :
    Calls Try.prog 5 #[.int .i64 4611686018427387904, .int .i64 n] w (Good w) := by
  have HTK := Lib.hid inf_tk
  have iB := isB_inf
  have e1 : mulE 4611686018427387904 (m : Int) = 0 := by
    by_cases h : m = 0
    · subst h; exact (mul_zr inf_tk).2
    · exact (mul_i (by omega)).2
  have HM : (mulV 4611686018427387904 (m : Int) != mulV 4611686018427387904 (m : Int)) = false := by simp
  obtain ⟨v2, e2⟩ := at_bs (f := 0) (i := (m : Int)) inf_nf
  go_enter Try.func5, Try.ntmps5
  go_wp2_with (first | (go_at_call 7; refine (lives_any _).mono ?_; rintro e w' ⟨rfl, hg⟩) | (go_at_call 8; refine (add_any _ _ _).mono ?_; rintro e w' ⟨rfl, hg⟩) | (go_at_call 9; refine (is_any _ _).mono ?_; rintro e w' ⟨rfl, rfl⟩) | (go_at_call 14; refine (mul_any _ _ _ (by omega)).mono ?_; rintro e w' ⟨rfl, hg⟩) | (go_at_call 13; refine (at_any _ _ _ _ (by omega)).mono ?_; rintro e w' ⟨rfl, hg⟩))
  obtain ⟨w1, hw1, hg0⟩ : ∃ w1, w' = w1 ∧ Grown w w1 := ⟨_, rfl, by repeat (first | assumption | refine grown_trans ?_ (by assumption))⟩
  subst hw1
  go_loopw [7, 8, 9] (fun s f i wr => ∃ k : Nat, k ≤ m ∧ i = .int .i64 k ∧ s = .int .i64 (mulV 4611686018427387904 k) ∧ f = .int .i64 (mulE 4611686018427387904 k) ∧ Grown w wr) (fun _ _ i _ => m - (intOf i).toNat)
  case atStart => exact ⟨0, Nat.zero_le _, rfl, by rw [show ((0 : Nat) : Int) = 0 from rfl, (mul_zr HTK.out).1], by rw [show ((0 : Nat) : Int) = 0 from rfl, (mul_zr HTK.out).2], hg0⟩
  case round =>
    obtain ⟨k, hk, rfl, rfl, rfl, hgr⟩ := hrel
    by_cases hlt : k < m
    · rcases mul_01 4611686018427387904 k with hz | hz
      · obtain ⟨hv, he⟩ := mul_step HTK.out k hz
        go_wp2_with (first | (go_at_call 7; refine (lives_any _).mono ?_; rintro e w' ⟨rfl, hg⟩) | (go_at_call 8; refine (add_any _ _ _).mono ?_; rintro e w' ⟨rfl, hg⟩) | (go_at_call 9; refine (is_any _ _).mono ?_; rintro e w' ⟨rfl, rfl⟩) | (go_at_call 14; refine (mul_any _ _ _ (by omega)).mono ?_; rintro e w' ⟨rfl, hg⟩) | (go_at_call 13; refine (at_any _ _ _ _ (by omega)).mono ?_; rintro e w' ⟨rfl, hg⟩))
        go_roundw
        case rel => exact ⟨k + 1, by omega, by go_num, rfl, rfl, grown_trans hgr (by assumption)⟩
        case measure => simp [intOf]; omega
      · have hM := (mul_mono HTK.out k m hk (by omega)).1
        go_wp2_with (first | (go_at_call 7; refine (lives_any _).mono ?_; rintro e w' ⟨rfl, hg⟩) | (go_at_call 8; refine (add_any _ _ _).mono ?_; rintro e w' ⟨rfl, hg⟩) | (go_at_call 9; refine (is_any _ _).mono ?_; rintro e w' ⟨rfl, rfl⟩) | (go_at_call 14; refine (mul_any _ _ _ (by omega)).mono ?_; rintro e w' ⟨rfl, hg⟩) | (go_at_call 13; refine (at_any _ _ _ _ (by omega)).mono ?_; rintro e w' ⟨rfl, hg⟩))
        go_ret
        refine ⟨?_, by repeat (first | assumption | refine grown_trans ?_ (by assumption))⟩
        first | rfl | (refine ret_b ?_; simp; done) | (refine ret_b ?_; simp; omega)
    · obtain rfl : k = m := by omega
      go_wp2_with (first | (go_at_call 7; refine (lives_any _).mono ?_; rintro e w' ⟨rfl, hg⟩) | (go_at_call 8; refine (add_any _ _ _).mono ?_; rintro e w' ⟨rfl, hg⟩) | (go_at_call 9; refine (is_any _ _).mono ?_; rintro e w' ⟨rfl, rfl⟩) | (go_at_call 14; refine (mul_any _ _ _ (by omega)).mono ?_; rintro e w' ⟨rfl, hg⟩) | (go_at_call 13; refine (at_any _ _ _ _ (by omega)).mono ?_; rintro e w' ⟨rfl, hg⟩))
      go_ret
      refine ⟨?_, by repeat (first | assumption | refine grown_trans ?_ (by assumption))⟩
      first | rfl | (refine ret_b ?_; simp; done) | (refine ret_b ?_; simp; omega)
set_option maxHeartbeats 4000000 in
theorem times_zero_n (m : Nat) (hm : m ≤ 60) (hm1 : 1 ≤ m) (n : Int) (hn0 : n < 0) (hn : n.tmod 61 = -(m : Int)) (hn2 : -9223372036854775808 ≤ n) (hpos : 1 ≤ m) (w : World) :
    Calls Try.prog 5 #[.int .i64 0, .int .i64 n] w (Good w) := by
  have HTK := Lib.hid (fin_tk (t := 0) ⟨by omega, by omega⟩)
  have iB := isB_true (t := 0) HTK.out
  obtain ⟨v1, e1⟩ := mul_z (Int.natCast_nonneg m)
  obtain ⟨v2, e2⟩ := at_zero_pos (f := 0) (i := (m : Int)) (by omega)
  go_enter Try.func5, Try.ntmps5
  go_wp2_with (first | (go_at_call 7; refine (lives_any _).mono ?_; rintro e w' ⟨rfl, hg⟩) | (go_at_call 8; refine (add_any _ _ _).mono ?_; rintro e w' ⟨rfl, hg⟩) | (go_at_call 9; refine (is_any _ _).mono ?_; rintro e w' ⟨rfl, rfl⟩) | (go_at_call 14; refine (mul_any _ _ _ (by omega)).mono ?_; rintro e w' ⟨rfl, hg⟩) | (go_at_call 13; refine (at_any _ _ _ _ (by omega)).mono ?_; rintro e w' ⟨rfl, hg⟩))
  obtain ⟨w1, hw1, hg0⟩ : ∃ w1, w' = w1 ∧ Grown w w1 := ⟨_, rfl, by repeat (first | assumption | refine grown_trans ?_ (by assumption))⟩
  subst hw1
  go_loopw [7, 8, 9] (fun s f i wr => ∃ k : Nat, k ≤ m ∧ i = .int .i64 k ∧ s = .int .i64 (mulV 0 k) ∧ f = .int .i64 (mulE 0 k) ∧ Grown w wr) (fun _ _ i _ => m - (intOf i).toNat)
  case atStart => exact ⟨0, Nat.zero_le _, rfl, by rw [show ((0 : Nat) : Int) = 0 from rfl, (mul_zr HTK.out).1], by rw [show ((0 : Nat) : Int) = 0 from rfl, (mul_zr HTK.out).2], hg0⟩
  case round =>
    obtain ⟨k, hk, rfl, rfl, rfl, hgr⟩ := hrel
    by_cases hlt : k < m
    · rcases mul_01 0 k with hz | hz
      · obtain ⟨hv, he⟩ := mul_step HTK.out k hz
        go_wp2_with (first | (go_at_call 7; refine (lives_any _).mono ?_; rintro e w' ⟨rfl, hg⟩) | (go_at_call 8; refine (add_any _ _ _).mono ?_; rintro e w' ⟨rfl, hg⟩) | (go_at_call 9; refine (is_any _ _).mono ?_; rintro e w' ⟨rfl, rfl⟩) | (go_at_call 14; refine (mul_any _ _ _ (by omega)).mono ?_; rintro e w' ⟨rfl, hg⟩) | (go_at_call 13; refine (at_any _ _ _ _ (by omega)).mono ?_; rintro e w' ⟨rfl, hg⟩))
        go_roundw
        case rel => exact ⟨k + 1, by omega, by go_num, rfl, rfl, grown_trans hgr (by assumption)⟩
        case measure => simp [intOf]; omega
      · have hM := (mul_mono HTK.out k m hk (by omega)).1
        go_wp2_with (first | (go_at_call 7; refine (lives_any _).mono ?_; rintro e w' ⟨rfl, hg⟩) | (go_at_call 8; refine (add_any _ _ _).mono ?_; rintro e w' ⟨rfl, hg⟩) | (go_at_call 9; refine (is_any _ _).mono ?_; rintro e w' ⟨rfl, rfl⟩) | (go_at_call 14; refine (mul_any _ _ _ (by omega)).mono ?_; rintro e w' ⟨rfl, hg⟩) | (go_at_call 13; refine (at_any _ _ _ _ (by omega)).mono ?_; rintro e w' ⟨rfl, hg⟩))
        go_ret
        refine ⟨?_, by repeat (first | assumption | refine grown_trans ?_ (by assumption))⟩
        first | rfl | (refine ret_b ?_; simp; done) | (refine ret_b ?_; simp; omega)
    · obtain rfl : k = m := by omega
      go_wp2_with (first | (go_at_call 7; refine (lives_any _).mono ?_; rintro e w' ⟨rfl, hg⟩) | (go_at_call 8; refine (add_any _ _ _).mono ?_; rintro e w' ⟨rfl, hg⟩) | (go_at_call 9; refine (is_any _ _).mono ?_; rintro e w' ⟨rfl, rfl⟩) | (go_at_call 14; refine (mul_any _ _ _ (by omega)).mono ?_; rintro e w' ⟨rfl, hg⟩) | (go_at_call 13; refine (at_any _ _ _ _ (by omega)).mono ?_; rintro e w' ⟨rfl, hg⟩))
      go_ret
      refine ⟨?_, by repeat (first | assumption | refine grown_trans ?_ (by assumption))⟩
      first | rfl | (refine ret_b ?_; simp; done) | (refine ret_b ?_; simp; omega)
set_option maxHeartbeats 4000000 in
theorem times_fin_z (a : Int) (m : Nat) (hm : m ≤ 60) (n : Int) (hn0 : n < 0) (hn : n.tmod 61 = (m : Int)) (hn2 : -9223372036854775808 ≤ n) (ha : fin a) (h0 : a ≠ 0) (hp : a * (m : Int) ≤ 1099511627776) (w : World) :
    Calls Try.prog 5 #[.int .i64 a, .int .i64 n] w (Good w) := by
  have HTK := Lib.hid (fin_tk ha)
  have iB := isB_true (fin_tk ha)
  have hai := eq_f (fin_ne ha)
  have ha0 := eq_f h0
  obtain ⟨v1, e1⟩ := mul_f ha (Int.natCast_nonneg m) hp
  obtain ⟨v2, e2⟩ := at_yes (f := 0) (i := (m : Int)) ⟨by omega, by omega⟩ ha h0 (Int.natCast_nonneg m) (by omega)
  rw [Int.zero_add] at v2
  have hmm := eq_t (rfl : a * (m : Int) = a * (m : Int))
  clear ha h0 hp
  go_enter Try.func5, Try.ntmps5
  go_wp2_with (first | (go_at_call 7; refine (lives_any _).mono ?_; rintro e w' ⟨rfl, hg⟩) | (go_at_call 8; refine (add_any _ _ _).mono ?_; rintro e w' ⟨rfl, hg⟩) | (go_at_call 9; refine (is_any _ _).mono ?_; rintro e w' ⟨rfl, rfl⟩) | (go_at_call 14; refine (mul_any _ _ _ (by omega)).mono ?_; rintro e w' ⟨rfl, hg⟩) | (go_at_call 13; refine (at_any _ _ _ _ (by omega)).mono ?_; rintro e w' ⟨rfl, hg⟩))
  obtain ⟨w1, hw1, hg0⟩ : ∃ w1, w' = w1 ∧ Grown w w1 := ⟨_, rfl, by repeat (first | assumption | refine grown_trans ?_ (by assumption))⟩
  subst hw1
  go_loopw [7, 8, 9] (fun s f i wr => ∃ k : Nat, k ≤ m ∧ i = .int .i64 k ∧ s = .int .i64 (mulV a k) ∧ f = .int .i64 (mulE a k) ∧ Grown w wr) (fun _ _ i _ => m - (intOf i).toNat)
  case atStart => exact ⟨0, Nat.zero_le _, rfl, by rw [show ((0 : Nat) : Int) = 0 from rfl, (mul_zr HTK.out).1], by rw [show ((0 : Nat) : Int) = 0 from rfl, (mul_zr HTK.out).2], hg0⟩
  case round =>
    obtain ⟨k, hk, rfl, rfl, rfl, hgr⟩ := hrel
    by_cases hlt : k < m
    · rcases mul_01 a k with hz | hz
      · obtain ⟨hv, he⟩ := mul_step HTK.out k hz
        go_wp2_with (first | (go_at_call 7; refine (lives_any _).mono ?_; rintro e w' ⟨rfl, hg⟩) | (go_at_call 8; refine (add_any _ _ _).mono ?_; rintro e w' ⟨rfl, hg⟩) | (go_at_call 9; refine (is_any _ _).mono ?_; rintro e w' ⟨rfl, rfl⟩) | (go_at_call 14; refine (mul_any _ _ _ (by omega)).mono ?_; rintro e w' ⟨rfl, hg⟩) | (go_at_call 13; refine (at_any _ _ _ _ (by omega)).mono ?_; rintro e w' ⟨rfl, hg⟩))
        go_roundw
        case rel => exact ⟨k + 1, by omega, by go_num, rfl, rfl, grown_trans hgr (by assumption)⟩
        case measure => simp [intOf]; omega
      · have hM := (mul_mono HTK.out k m hk (by omega)).1
        go_wp2_with (first | (go_at_call 7; refine (lives_any _).mono ?_; rintro e w' ⟨rfl, hg⟩) | (go_at_call 8; refine (add_any _ _ _).mono ?_; rintro e w' ⟨rfl, hg⟩) | (go_at_call 9; refine (is_any _ _).mono ?_; rintro e w' ⟨rfl, rfl⟩) | (go_at_call 14; refine (mul_any _ _ _ (by omega)).mono ?_; rintro e w' ⟨rfl, hg⟩) | (go_at_call 13; refine (at_any _ _ _ _ (by omega)).mono ?_; rintro e w' ⟨rfl, hg⟩))
        go_ret
        refine ⟨?_, by repeat (first | assumption | refine grown_trans ?_ (by assumption))⟩
        first | rfl | (refine ret_b ?_; simp; done) | (refine ret_b ?_; simp; omega)
    · obtain rfl : k = m := by omega
      go_wp2_with (first | (go_at_call 7; refine (lives_any _).mono ?_; rintro e w' ⟨rfl, hg⟩) | (go_at_call 8; refine (add_any _ _ _).mono ?_; rintro e w' ⟨rfl, hg⟩) | (go_at_call 9; refine (is_any _ _).mono ?_; rintro e w' ⟨rfl, rfl⟩) | (go_at_call 14; refine (mul_any _ _ _ (by omega)).mono ?_; rintro e w' ⟨rfl, hg⟩) | (go_at_call 13; refine (at_any _ _ _ _ (by omega)).mono ?_; rintro e w' ⟨rfl, hg⟩))
      go_ret
      refine ⟨?_, by repeat (first | assumption | refine grown_trans ?_ (by assumption))⟩
      first | rfl | (refine ret_b ?_; simp; done) | (refine ret_b ?_; simp; omega)
set_option maxHeartbeats 4000000 in
theorem times_big_z (a : Int) (m : Nat) (hm : m ≤ 60) (n : Int) (hn0 : n < 0) (hn : n.tmod 61 = (m : Int)) (hn2 : -9223372036854775808 ≤ n) (ha : fin a) (h0 : a ≠ 0) (hp : ¬ a * (m : Int) ≤ 1099511627776) (w : World) :
    Calls Try.prog 5 #[.int .i64 a, .int .i64 n] w (Good w) := by
  have HTK := Lib.hid (fin_tk ha)
  have iB := isB_true (fin_tk ha)
  have hai := eq_f (fin_ne ha)
  have ha0 := eq_f h0
  obtain ⟨v1, e1⟩ := mul_o ha (Int.natCast_nonneg m) hp
  obtain ⟨v2, e2⟩ := at_no (f := 0) (i := (m : Int)) ⟨by omega, by omega⟩ ha h0 (Int.natCast_nonneg m) (by omega)
  clear ha h0 hp
  go_enter Try.func5, Try.ntmps5
  go_wp2_with (first | (go_at_call 7; refine (lives_any _).mono ?_; rintro e w' ⟨rfl, hg⟩) | (go_at_call 8; refine (add_any _ _ _).mono ?_; rintro e w' ⟨rfl, hg⟩) | (go_at_call 9; refine (is_any _ _).mono ?_; rintro e w' ⟨rfl, rfl⟩) | (go_at_call 14; refine (mul_any _ _ _ (by omega)).mono ?_; rintro e w' ⟨rfl, hg⟩) | (go_at_call 13; refine (at_any _ _ _ _ (by omega)).mono ?_; rintro e w' ⟨rfl, hg⟩))
  obtain ⟨w1, hw1, hg0⟩ : ∃ w1, w' = w1 ∧ Grown w w1 := ⟨_, rfl, by repeat (first | assumption | refine grown_trans ?_ (by assumption))⟩
  subst hw1
  go_loopw [7, 8, 9] (fun s f i wr => ∃ k : Nat, k ≤ m ∧ i = .int .i64 k ∧ s = .int .i64 (mulV a k) ∧ f = .int .i64 (mulE a k) ∧ Grown w wr) (fun _ _ i _ => m - (intOf i).toNat)
  case atStart => exact ⟨0, Nat.zero_le _, rfl, by rw [show ((0 : Nat) : Int) = 0 from rfl, (mul_zr HTK.out).1], by rw [show ((0 : Nat) : Int) = 0 from rfl, (mul_zr HTK.out).2], hg0⟩
  case round =>
    obtain ⟨k, hk, rfl, rfl, rfl, hgr⟩ := hrel
    by_cases hlt : k < m
    · rcases mul_01 a k with hz | hz
      · obtain ⟨hv, he⟩ := mul_step HTK.out k hz
        go_wp2_with (first | (go_at_call 7; refine (lives_any _).mono ?_; rintro e w' ⟨rfl, hg⟩) | (go_at_call 8; refine (add_any _ _ _).mono ?_; rintro e w' ⟨rfl, hg⟩) | (go_at_call 9; refine (is_any _ _).mono ?_; rintro e w' ⟨rfl, rfl⟩) | (go_at_call 14; refine (mul_any _ _ _ (by omega)).mono ?_; rintro e w' ⟨rfl, hg⟩) | (go_at_call 13; refine (at_any _ _ _ _ (by omega)).mono ?_; rintro e w' ⟨rfl, hg⟩))
        go_roundw
        case rel => exact ⟨k + 1, by omega, by go_num, rfl, rfl, grown_trans hgr (by assumption)⟩
        case measure => simp [intOf]; omega
      · have hM := (mul_mono HTK.out k m hk (by omega)).1
        go_wp2_with (first | (go_at_call 7; refine (lives_any _).mono ?_; rintro e w' ⟨rfl, hg⟩) | (go_at_call 8; refine (add_any _ _ _).mono ?_; rintro e w' ⟨rfl, hg⟩) | (go_at_call 9; refine (is_any _ _).mono ?_; rintro e w' ⟨rfl, rfl⟩) | (go_at_call 14; refine (mul_any _ _ _ (by omega)).mono ?_; rintro e w' ⟨rfl, hg⟩) | (go_at_call 13; refine (at_any _ _ _ _ (by omega)).mono ?_; rintro e w' ⟨rfl, hg⟩))
        go_ret
        refine ⟨?_, by repeat (first | assumption | refine grown_trans ?_ (by assumption))⟩
        first | rfl | (refine ret_b ?_; simp; done) | (refine ret_b ?_; simp; omega)
    · obtain rfl : k = m := by omega
      go_wp2_with (first | (go_at_call 7; refine (lives_any _).mono ?_; rintro e w' ⟨rfl, hg⟩) | (go_at_call 8; refine (add_any _ _ _).mono ?_; rintro e w' ⟨rfl, hg⟩) | (go_at_call 9; refine (is_any _ _).mono ?_; rintro e w' ⟨rfl, rfl⟩) | (go_at_call 14; refine (mul_any _ _ _ (by omega)).mono ?_; rintro e w' ⟨rfl, hg⟩) | (go_at_call 13; refine (at_any _ _ _ _ (by omega)).mono ?_; rintro e w' ⟨rfl, hg⟩))
      go_ret
      refine ⟨?_, by repeat (first | assumption | refine grown_trans ?_ (by assumption))⟩
      first | rfl | (refine ret_b ?_; simp; done) | (refine ret_b ?_; simp; omega)
set_option maxHeartbeats 4000000 in
theorem times_inf_z (m : Nat) (hm : m ≤ 60) (n : Int) (hn0 : n < 0) (hn : n.tmod 61 = (m : Int)) (hn2 : -9223372036854775808 ≤ n)  (w : World) :
    Calls Try.prog 5 #[.int .i64 4611686018427387904, .int .i64 n] w (Good w) := by
  have HTK := Lib.hid inf_tk
  have iB := isB_inf
  have e1 : mulE 4611686018427387904 (m : Int) = 0 := by
    by_cases h : m = 0
    · subst h; exact (mul_zr inf_tk).2
    · exact (mul_i (by omega)).2
  have HM : (mulV 4611686018427387904 (m : Int) != mulV 4611686018427387904 (m : Int)) = false := by simp
  obtain ⟨v2, e2⟩ := at_bs (f := 0) (i := (m : Int)) inf_nf
  go_enter Try.func5, Try.ntmps5
  go_wp2_with (first | (go_at_call 7; refine (lives_any _).mono ?_; rintro e w' ⟨rfl, hg⟩) | (go_at_call 8; refine (add_any _ _ _).mono ?_; rintro e w' ⟨rfl, hg⟩) | (go_at_call 9; refine (is_any _ _).mono ?_; rintro e w' ⟨rfl, rfl⟩) | (go_at_call 14; refine (mul_any _ _ _ (by omega)).mono ?_; rintro e w' ⟨rfl, hg⟩) | (go_at_call 13; refine (at_any _ _ _ _ (by omega)).mono ?_; rintro e w' ⟨rfl, hg⟩))
  obtain ⟨w1, hw1, hg0⟩ : ∃ w1, w' = w1 ∧ Grown w w1 := ⟨_, rfl, by repeat (first | assumption | refine grown_trans ?_ (by assumption))⟩
  subst hw1
  go_loopw [7, 8, 9] (fun s f i wr => ∃ k : Nat, k ≤ m ∧ i = .int .i64 k ∧ s = .int .i64 (mulV 4611686018427387904 k) ∧ f = .int .i64 (mulE 4611686018427387904 k) ∧ Grown w wr) (fun _ _ i _ => m - (intOf i).toNat)
  case atStart => exact ⟨0, Nat.zero_le _, rfl, by rw [show ((0 : Nat) : Int) = 0 from rfl, (mul_zr HTK.out).1], by rw [show ((0 : Nat) : Int) = 0 from rfl, (mul_zr HTK.out).2], hg0⟩
  case round =>
    obtain ⟨k, hk, rfl, rfl, rfl, hgr⟩ := hrel
    by_cases hlt : k < m
    · rcases mul_01 4611686018427387904 k with hz | hz
      · obtain ⟨hv, he⟩ := mul_step HTK.out k hz
        go_wp2_with (first | (go_at_call 7; refine (lives_any _).mono ?_; rintro e w' ⟨rfl, hg⟩) | (go_at_call 8; refine (add_any _ _ _).mono ?_; rintro e w' ⟨rfl, hg⟩) | (go_at_call 9; refine (is_any _ _).mono ?_; rintro e w' ⟨rfl, rfl⟩) | (go_at_call 14; refine (mul_any _ _ _ (by omega)).mono ?_; rintro e w' ⟨rfl, hg⟩) | (go_at_call 13; refine (at_any _ _ _ _ (by omega)).mono ?_; rintro e w' ⟨rfl, hg⟩))
        go_roundw
        case rel => exact ⟨k + 1, by omega, by go_num, rfl, rfl, grown_trans hgr (by assumption)⟩
        case measure => simp [intOf]; omega
      · have hM := (mul_mono HTK.out k m hk (by omega)).1
        go_wp2_with (first | (go_at_call 7; refine (lives_any _).mono ?_; rintro e w' ⟨rfl, hg⟩) | (go_at_call 8; refine (add_any _ _ _).mono ?_; rintro e w' ⟨rfl, hg⟩) | (go_at_call 9; refine (is_any _ _).mono ?_; rintro e w' ⟨rfl, rfl⟩) | (go_at_call 14; refine (mul_any _ _ _ (by omega)).mono ?_; rintro e w' ⟨rfl, hg⟩) | (go_at_call 13; refine (at_any _ _ _ _ (by omega)).mono ?_; rintro e w' ⟨rfl, hg⟩))
        go_ret
        refine ⟨?_, by repeat (first | assumption | refine grown_trans ?_ (by assumption))⟩
        first | rfl | (refine ret_b ?_; simp; done) | (refine ret_b ?_; simp; omega)
    · obtain rfl : k = m := by omega
      go_wp2_with (first | (go_at_call 7; refine (lives_any _).mono ?_; rintro e w' ⟨rfl, hg⟩) | (go_at_call 8; refine (add_any _ _ _).mono ?_; rintro e w' ⟨rfl, hg⟩) | (go_at_call 9; refine (is_any _ _).mono ?_; rintro e w' ⟨rfl, rfl⟩) | (go_at_call 14; refine (mul_any _ _ _ (by omega)).mono ?_; rintro e w' ⟨rfl, hg⟩) | (go_at_call 13; refine (at_any _ _ _ _ (by omega)).mono ?_; rintro e w' ⟨rfl, hg⟩))
      go_ret
      refine ⟨?_, by repeat (first | assumption | refine grown_trans ?_ (by assumption))⟩
      first | rfl | (refine ret_b ?_; simp; done) | (refine ret_b ?_; simp; omega)
set_option maxHeartbeats 4000000 in
theorem times_zero_z (m : Nat) (hm : m ≤ 60) (n : Int) (hn0 : n < 0) (hn : n.tmod 61 = (m : Int)) (hn2 : -9223372036854775808 ≤ n) (hpos : 1 ≤ m) (w : World) :
    Calls Try.prog 5 #[.int .i64 0, .int .i64 n] w (Good w) := by
  have HTK := Lib.hid (fin_tk (t := 0) ⟨by omega, by omega⟩)
  have iB := isB_true (t := 0) HTK.out
  obtain ⟨v1, e1⟩ := mul_z (Int.natCast_nonneg m)
  obtain ⟨v2, e2⟩ := at_zero_pos (f := 0) (i := (m : Int)) (by omega)
  go_enter Try.func5, Try.ntmps5
  go_wp2_with (first | (go_at_call 7; refine (lives_any _).mono ?_; rintro e w' ⟨rfl, hg⟩) | (go_at_call 8; refine (add_any _ _ _).mono ?_; rintro e w' ⟨rfl, hg⟩) | (go_at_call 9; refine (is_any _ _).mono ?_; rintro e w' ⟨rfl, rfl⟩) | (go_at_call 14; refine (mul_any _ _ _ (by omega)).mono ?_; rintro e w' ⟨rfl, hg⟩) | (go_at_call 13; refine (at_any _ _ _ _ (by omega)).mono ?_; rintro e w' ⟨rfl, hg⟩))
  obtain ⟨w1, hw1, hg0⟩ : ∃ w1, w' = w1 ∧ Grown w w1 := ⟨_, rfl, by repeat (first | assumption | refine grown_trans ?_ (by assumption))⟩
  subst hw1
  go_loopw [7, 8, 9] (fun s f i wr => ∃ k : Nat, k ≤ m ∧ i = .int .i64 k ∧ s = .int .i64 (mulV 0 k) ∧ f = .int .i64 (mulE 0 k) ∧ Grown w wr) (fun _ _ i _ => m - (intOf i).toNat)
  case atStart => exact ⟨0, Nat.zero_le _, rfl, by rw [show ((0 : Nat) : Int) = 0 from rfl, (mul_zr HTK.out).1], by rw [show ((0 : Nat) : Int) = 0 from rfl, (mul_zr HTK.out).2], hg0⟩
  case round =>
    obtain ⟨k, hk, rfl, rfl, rfl, hgr⟩ := hrel
    by_cases hlt : k < m
    · rcases mul_01 0 k with hz | hz
      · obtain ⟨hv, he⟩ := mul_step HTK.out k hz
        go_wp2_with (first | (go_at_call 7; refine (lives_any _).mono ?_; rintro e w' ⟨rfl, hg⟩) | (go_at_call 8; refine (add_any _ _ _).mono ?_; rintro e w' ⟨rfl, hg⟩) | (go_at_call 9; refine (is_any _ _).mono ?_; rintro e w' ⟨rfl, rfl⟩) | (go_at_call 14; refine (mul_any _ _ _ (by omega)).mono ?_; rintro e w' ⟨rfl, hg⟩) | (go_at_call 13; refine (at_any _ _ _ _ (by omega)).mono ?_; rintro e w' ⟨rfl, hg⟩))
        go_roundw
        case rel => exact ⟨k + 1, by omega, by go_num, rfl, rfl, grown_trans hgr (by assumption)⟩
        case measure => simp [intOf]; omega
      · have hM := (mul_mono HTK.out k m hk (by omega)).1
        go_wp2_with (first | (go_at_call 7; refine (lives_any _).mono ?_; rintro e w' ⟨rfl, hg⟩) | (go_at_call 8; refine (add_any _ _ _).mono ?_; rintro e w' ⟨rfl, hg⟩) | (go_at_call 9; refine (is_any _ _).mono ?_; rintro e w' ⟨rfl, rfl⟩) | (go_at_call 14; refine (mul_any _ _ _ (by omega)).mono ?_; rintro e w' ⟨rfl, hg⟩) | (go_at_call 13; refine (at_any _ _ _ _ (by omega)).mono ?_; rintro e w' ⟨rfl, hg⟩))
        go_ret
        refine ⟨?_, by repeat (first | assumption | refine grown_trans ?_ (by assumption))⟩
        first | rfl | (refine ret_b ?_; simp; done) | (refine ret_b ?_; simp; omega)
    · obtain rfl : k = m := by omega
      go_wp2_with (first | (go_at_call 7; refine (lives_any _).mono ?_; rintro e w' ⟨rfl, hg⟩) | (go_at_call 8; refine (add_any _ _ _).mono ?_; rintro e w' ⟨rfl, hg⟩) | (go_at_call 9; refine (is_any _ _).mono ?_; rintro e w' ⟨rfl, rfl⟩) | (go_at_call 14; refine (mul_any _ _ _ (by omega)).mono ?_; rintro e w' ⟨rfl, hg⟩) | (go_at_call 13; refine (at_any _ _ _ _ (by omega)).mono ?_; rintro e w' ⟨rfl, hg⟩))
      go_ret
      refine ⟨?_, by repeat (first | assumption | refine grown_trans ?_ (by assumption))⟩
      first | rfl | (refine ret_b ?_; simp; done) | (refine ret_b ?_; simp; omega)
set_option maxHeartbeats 4000000 in
theorem times_zz_p (m : Nat) (hm : m ≤ 60) (n : Int) (hn0 : 0 ≤ n) (hn : n % 61 = (m : Int)) (hn2 : n ≤ 9223372036854775807) (hz0 : m ≤ 0) (w : World) :
    Calls Try.prog 5 #[.int .i64 0, .int .i64 n] w (Good w) := by
  have hn1 : 0 ≤ n % 61 := by omega
  have HTK := Lib.hid (fin_tk (t := 0) ⟨by omega, by omega⟩)
  have iB := isB_true (t := 0) HTK.out
  obtain ⟨v1, e1⟩ := mul_z (Int.natCast_nonneg m)
  obtain ⟨v2, e2⟩ : atV 0 0 (m : Int) = 0 ∧ atE 0 0 (m : Int) = 0 := by
    rw [show (m : Int) = 0 from by omega]; exact at_zero ⟨by omega, by omega⟩
  go_enter Try.func5, Try.ntmps5
  go_wp2_with (first | (go_at_call 7; refine (lives_any _).mono ?_; rintro e w' ⟨rfl, hg⟩) | (go_at_call 8; refine (add_any _ _ _).mono ?_; rintro e w' ⟨rfl, hg⟩) | (go_at_call 9; refine (is_any _ _).mono ?_; rintro e w' ⟨rfl, rfl⟩) | (go_at_call 14; refine (mul_any _ _ _ (by omega)).mono ?_; rintro e w' ⟨rfl, hg⟩) | (go_at_call 13; refine (at_any _ _ _ _ (by omega)).mono ?_; rintro e w' ⟨rfl, hg⟩))
  obtain ⟨w1, hw1, hg0⟩ : ∃ w1, w' = w1 ∧ Grown w w1 := ⟨_, rfl, by repeat (first | assumption | refine grown_trans ?_ (by assumption))⟩
  subst hw1
  go_loopw [7, 8, 9] (fun s f i wr => ∃ k : Nat, k ≤ m ∧ i = .int .i64 k ∧ s = .int .i64 (mulV 0 k) ∧ f = .int .i64 (mulE 0 k) ∧ Grown w wr) (fun _ _ i _ => m - (intOf i).toNat)
  case atStart => exact ⟨0, Nat.zero_le _, rfl, by rw [show ((0 : Nat) : Int) = 0 from rfl, (mul_zr HTK.out).1], by rw [show ((0 : Nat) : Int) = 0 from rfl, (mul_zr HTK.out).2], hg0⟩
  case round =>
    obtain ⟨k, hk, rfl, rfl, rfl, hgr⟩ := hrel
    by_cases hlt : k < m
    · rcases mul_01 0 k with hz | hz
      · obtain ⟨hv, he⟩ := mul_step HTK.out k hz
        go_wp2_with (first | (go_at_call 7; refine (lives_any _).mono ?_; rintro e w' ⟨rfl, hg⟩) | (go_at_call 8; refine (add_any _ _ _).mono ?_; rintro e w' ⟨rfl, hg⟩) | (go_at_call 9; refine (is_any _ _).mono ?_; rintro e w' ⟨rfl, rfl⟩) | (go_at_call 14; refine (mul_any _ _ _ (by omega)).mono ?_; rintro e w' ⟨rfl, hg⟩) | (go_at_call 13; refine (at_any _ _ _ _ (by omega)).mono ?_; rintro e w' ⟨rfl, hg⟩))
        go_roundw
        case rel => exact ⟨k + 1, by omega, by go_num, rfl, rfl, grown_trans hgr (by assumption)⟩
        case measure => simp [intOf]; omega
      · have hM := (mul_mono HTK.out k m hk (by omega)).1
        go_wp2_with (first | (go_at_call 7; refine (lives_any _).mono ?_; rintro e w' ⟨rfl, hg⟩) | (go_at_call 8; refine (add_any _ _ _).mono ?_; rintro e w' ⟨rfl, hg⟩) | (go_at_call 9; refine (is_any _ _).mono ?_; rintro e w' ⟨rfl, rfl⟩) | (go_at_call 14; refine (mul_any _ _ _ (by omega)).mono ?_; rintro e w' ⟨rfl, hg⟩) | (go_at_call 13; refine (at_any _ _ _ _ (by omega)).mono ?_; rintro e w' ⟨rfl, hg⟩))
        go_ret
        refine ⟨?_, by repeat (first | assumption | refine grown_trans ?_ (by assumption))⟩
        first | rfl | (refine ret_b ?_; simp; done) | (refine ret_b ?_; simp; omega)
    · obtain rfl : k = m := by omega
      go_wp2_with (first | (go_at_call 7; refine (lives_any _).mono ?_; rintro e w' ⟨rfl, hg⟩) | (go_at_call 8; refine (add_any _ _ _).mono ?_; rintro e w' ⟨rfl, hg⟩) | (go_at_call 9; refine (is_any _ _).mono ?_; rintro e w' ⟨rfl, rfl⟩) | (go_at_call 14; refine (mul_any _ _ _ (by omega)).mono ?_; rintro e w' ⟨rfl, hg⟩) | (go_at_call 13; refine (at_any _ _ _ _ (by omega)).mono ?_; rintro e w' ⟨rfl, hg⟩))
      go_ret
      refine ⟨?_, by repeat (first | assumption | refine grown_trans ?_ (by assumption))⟩
      first | rfl | (refine ret_b ?_; simp; done) | (refine ret_b ?_; simp; omega)
set_option maxHeartbeats 4000000 in
theorem times_zz_z (m : Nat) (hm : m ≤ 60) (n : Int) (hn0 : n < 0) (hn : n.tmod 61 = (m : Int)) (hn2 : -9223372036854775808 ≤ n) (hz0 : m ≤ 0) (w : World) :
    Calls Try.prog 5 #[.int .i64 0, .int .i64 n] w (Good w) := by
  have HTK := Lib.hid (fin_tk (t := 0) ⟨by omega, by omega⟩)
  have iB := isB_true (t := 0) HTK.out
  obtain ⟨v1, e1⟩ := mul_z (Int.natCast_nonneg m)
  obtain ⟨v2, e2⟩ : atV 0 0 (m : Int) = 0 ∧ atE 0 0 (m : Int) = 0 := by
    rw [show (m : Int) = 0 from by omega]; exact at_zero ⟨by omega, by omega⟩
  go_enter Try.func5, Try.ntmps5
  go_wp2_with (first | (go_at_call 7; refine (lives_any _).mono ?_; rintro e w' ⟨rfl, hg⟩) | (go_at_call 8; refine (add_any _ _ _).mono ?_; rintro e w' ⟨rfl, hg⟩) | (go_at_call 9; refine (is_any _ _).mono ?_; rintro e w' ⟨rfl, rfl⟩) | (go_at_call 14; refine (mul_any _ _ _ (by omega)).mono ?_; rintro e w' ⟨rfl, hg⟩) | (go_at_call 13; refine (at_any _ _ _ _ (by omega)).mono ?_; rintro e w' ⟨rfl, hg⟩))
  obtain ⟨w1, hw1, hg0⟩ : ∃ w1, w' = w1 ∧ Grown w w1 := ⟨_, rfl, by repeat (first | assumption | refine grown_trans ?_ (by assumption))⟩
  subst hw1
  go_loopw [7, 8, 9] (fun s f i wr => ∃ k : Nat, k ≤ m ∧ i = .int .i64 k ∧ s = .int .i64 (mulV 0 k) ∧ f = .int .i64 (mulE 0 k) ∧ Grown w wr) (fun _ _ i _ => m - (intOf i).toNat)
  case atStart => exact ⟨0, Nat.zero_le _, rfl, by rw [show ((0 : Nat) : Int) = 0 from rfl, (mul_zr HTK.out).1], by rw [show ((0 : Nat) : Int) = 0 from rfl, (mul_zr HTK.out).2], hg0⟩
  case round =>
    obtain ⟨k, hk, rfl, rfl, rfl, hgr⟩ := hrel
    by_cases hlt : k < m
    · rcases mul_01 0 k with hz | hz
      · obtain ⟨hv, he⟩ := mul_step HTK.out k hz
        go_wp2_with (first | (go_at_call 7; refine (lives_any _).mono ?_; rintro e w' ⟨rfl, hg⟩) | (go_at_call 8; refine (add_any _ _ _).mono ?_; rintro e w' ⟨rfl, hg⟩) | (go_at_call 9; refine (is_any _ _).mono ?_; rintro e w' ⟨rfl, rfl⟩) | (go_at_call 14; refine (mul_any _ _ _ (by omega)).mono ?_; rintro e w' ⟨rfl, hg⟩) | (go_at_call 13; refine (at_any _ _ _ _ (by omega)).mono ?_; rintro e w' ⟨rfl, hg⟩))
        go_roundw
        case rel => exact ⟨k + 1, by omega, by go_num, rfl, rfl, grown_trans hgr (by assumption)⟩
        case measure => simp [intOf]; omega
      · have hM := (mul_mono HTK.out k m hk (by omega)).1
        go_wp2_with (first | (go_at_call 7; refine (lives_any _).mono ?_; rintro e w' ⟨rfl, hg⟩) | (go_at_call 8; refine (add_any _ _ _).mono ?_; rintro e w' ⟨rfl, hg⟩) | (go_at_call 9; refine (is_any _ _).mono ?_; rintro e w' ⟨rfl, rfl⟩) | (go_at_call 14; refine (mul_any _ _ _ (by omega)).mono ?_; rintro e w' ⟨rfl, hg⟩) | (go_at_call 13; refine (at_any _ _ _ _ (by omega)).mono ?_; rintro e w' ⟨rfl, hg⟩))
        go_ret
        refine ⟨?_, by repeat (first | assumption | refine grown_trans ?_ (by assumption))⟩
        first | rfl | (refine ret_b ?_; simp; done) | (refine ret_b ?_; simp; omega)
    · obtain rfl : k = m := by omega
      go_wp2_with (first | (go_at_call 7; refine (lives_any _).mono ?_; rintro e w' ⟨rfl, hg⟩) | (go_at_call 8; refine (add_any _ _ _).mono ?_; rintro e w' ⟨rfl, hg⟩) | (go_at_call 9; refine (is_any _ _).mono ?_; rintro e w' ⟨rfl, rfl⟩) | (go_at_call 14; refine (mul_any _ _ _ (by omega)).mono ?_; rintro e w' ⟨rfl, hg⟩) | (go_at_call 13; refine (at_any _ _ _ _ (by omega)).mono ?_; rintro e w' ⟨rfl, hg⟩))
      go_ret
      refine ⟨?_, by repeat (first | assumption | refine grown_trans ?_ (by assumption))⟩
      first | rfl | (refine ret_b ?_; simp; done) | (refine ret_b ?_; simp; omega)

theorem times_no (a n : Int) (hn1 : -9223372036854775808 ≤ n) (hn2 : n ≤ 9223372036854775807) (ha : ¬ isTk a) (w : World) : Calls Try.prog 5 #[.int .i64 a, .int .i64 n] w (Good w) := by
  have iB := isB_false ha
  have e1 : ∀ m, mulV a m = 0 ∧ mulE a m = 9 := fun m => by simp [mulV, mulE, ha]
  by_cases h : 0 ≤ n
  · obtain ⟨v, e⟩ := e1 (n % 61)
    have hb : 0 ≤ n % 61 := by omega
    have hb2 : n % 61 ≤ 60 := by omega
    clear e1 ha
    go_enter Try.func5, Try.ntmps5
    go_wp2_with (first | (go_at_call 7; refine (lives_any _).mono ?_; rintro e w' ⟨rfl, hg⟩) | (go_at_call 8; refine (add_any _ _ _).mono ?_; rintro e w' ⟨rfl, hg⟩) | (go_at_call 9; refine (is_any _ _).mono ?_; rintro e w' ⟨rfl, rfl⟩) | (go_at_call 14; refine (mul_any _ _ _ (by omega)).mono ?_; rintro e w' ⟨rfl, hg⟩) | (go_at_call 13; refine (at_any _ _ _ _ (by omega)).mono ?_; rintro e w' ⟨rfl, hg⟩))
    go_ret
    refine ⟨?_, by repeat (first | assumption | refine grown_trans ?_ (by assumption))⟩
    rfl
  · obtain ⟨v, e⟩ := e1 (-(n.tmod 61))
    obtain ⟨v2, e2⟩ := e1 (n.tmod 61)
    have hb : -60 ≤ n.tmod 61 := by have := Int.lt_tmod_of_pos n (show (0 : Int) < 61 by decide); omega
    have hb2 : n.tmod 61 ≤ 0 := tmod_np (by omega)
    clear e1 ha
    by_cases hz : n.tmod 61 < 0
    · go_enter Try.func5, Try.ntmps5
      go_wp2_with (first | (go_at_call 7; refine (lives_any _).mono ?_; rintro e w' ⟨rfl, hg⟩) | (go_at_call 8; refine (add_any _ _ _).mono ?_; rintro e w' ⟨rfl, hg⟩) | (go_at_call 9; refine (is_any _ _).mono ?_; rintro e w' ⟨rfl, rfl⟩) | (go_at_call 14; refine (mul_any _ _ _ (by omega)).mono ?_; rintro e w' ⟨rfl, hg⟩) | (go_at_call 13; refine (at_any _ _ _ _ (by omega)).mono ?_; rintro e w' ⟨rfl, hg⟩))
      go_ret
      refine ⟨?_, by repeat (first | assumption | refine grown_trans ?_ (by assumption))⟩
      rfl
    · go_enter Try.func5, Try.ntmps5
      go_wp2_with (first | (go_at_call 7; refine (lives_any _).mono ?_; rintro e w' ⟨rfl, hg⟩) | (go_at_call 8; refine (add_any _ _ _).mono ?_; rintro e w' ⟨rfl, hg⟩) | (go_at_call 9; refine (is_any _ _).mono ?_; rintro e w' ⟨rfl, rfl⟩) | (go_at_call 14; refine (mul_any _ _ _ (by omega)).mono ?_; rintro e w' ⟨rfl, hg⟩) | (go_at_call 13; refine (at_any _ _ _ _ (by omega)).mono ?_; rintro e w' ⟨rfl, hg⟩))
      go_ret
      refine ⟨?_, by repeat (first | assumption | refine grown_trans ?_ (by assumption))⟩
      rfl


theorem times_all (a n : Int) (hn1 : -9223372036854775808 ≤ n) (hn2 : n ≤ 9223372036854775807) (w : World) : Calls Try.prog 5 #[.int .i64 a, .int .i64 n] w (Good w) := by
  by_cases h : 0 ≤ n
  · obtain ⟨m, hm⟩ : ∃ m : Nat, n % 61 = (m : Int) := ⟨(n % 61).toNat, by omega⟩
    rcases tk_cases a with ha | rfl | ha
    · exact times_no a n hn1 hn2 ha w
    · exact times_inf_p m (by omega) n h hm hn2  w
    · by_cases h0 : a = 0
      · subst h0
        by_cases h1 : 1 ≤ m
        · exact times_zero_p m (by omega) n h hm hn2 h1 w
        · exact times_zz_p m (by omega) n h hm hn2 (by omega) w
      · by_cases hp : a * (m : Int) ≤ 1099511627776
        · exact times_fin_p a m (by omega) n h hm hn2 ha h0 hp w
        · exact times_big_p a m (by omega) n h hm hn2 ha h0 hp w
  · have hb : -60 ≤ n.tmod 61 := by have := Int.lt_tmod_of_pos n (show (0 : Int) < 61 by decide); omega
    have hb2 : n.tmod 61 ≤ 0 := tmod_np (by omega)
    by_cases hz : n.tmod 61 < 0
    · obtain ⟨m, hm⟩ : ∃ m : Nat, n.tmod 61 = -(m : Int) := ⟨(-(n.tmod 61)).toNat, by omega⟩
      have hm1 : 1 ≤ m := by omega
      rcases tk_cases a with ha | rfl | ha
      · exact times_no a n hn1 hn2 ha w
      · exact times_inf_n m (by omega) hm1 n (by omega) hm hn1 w
      · by_cases h0 : a = 0
        · subst h0
          exact times_zero_n m (by omega) hm1 n (by omega) hm hn1 hm1 w
        · by_cases hp : a * (m : Int) ≤ 1099511627776
          · exact times_fin_n a m (by omega) hm1 n (by omega) hm hn1 ha h0 hp w
          · exact times_big_n a m (by omega) hm1 n (by omega) hm hn1 ha h0 hp w
    · have hm : n.tmod 61 = ((0 : Nat) : Int) := by omega
      rcases tk_cases a with ha | rfl | ha
      · exact times_no a n hn1 hn2 ha w
      · exact times_inf_z 0 (by omega) n (by omega) hm hn1 w
      · by_cases h0 : a = 0
        · subst h0
          exact times_zz_z 0 (by omega) n (by omega) hm hn1 (by omega) w
        · exact times_fin_z a 0 (by omega) n (by omega) hm hn1 ha h0 (by simp) w

end Go.Proofs.Ytoijfdcknigikaa.Tk
