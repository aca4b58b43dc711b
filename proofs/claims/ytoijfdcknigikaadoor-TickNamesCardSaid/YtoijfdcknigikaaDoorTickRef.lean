/- The document's own answers of layer 1 (package timetableref01): what its calls answer, at any numbers and texts, proved by walking their text. No conditions but that numbers are int64. -/
import Derived.Test.YtoijfdcknigikaaDoorTickText
import Derived.Test.YtoijfdcknigikaaDoorTickKeepFacts
namespace Go.Proofs.YtoijfdcknigikaaDoor.Tk
open Go.Shelf Go.ChangeShapes Go.WideShapes Go.ChangeAt Go.RowKit
set_option linter.unusedVariables false
theorem mul_z {m : Int} (h : 0 ≤ m) : mulV 0 m = 0 ∧ mulE 0 m = 0 := by
  have : isTk 0 := Or.inr ⟨by omega, by omega⟩
  simp [mulV, mulE, this, h]
theorem mul_zr {a : Int} (h : isTk a) : mulV a 0 = 0 ∧ mulE a 0 = 0 := by simp [mulV, mulE, h]
theorem mul_i {m : Int} (h : 1 ≤ m) : mulV 4611686018427387904 m = 4611686018427387904 ∧ mulE 4611686018427387904 m = 0 := by
  have h1 : 0 ≤ m := by omega
  have h2 : m ≠ 0 := by omega
  simp [mulV, mulE, inf_tk, h1, h2]
theorem mul_f {a m : Int} (ha : fin a) (h : 0 ≤ m) (hp : a * m ≤ 1099511627776) : mulV a m = a * m ∧ mulE a m = 0 := by
  by_cases h0 : a = 0
  · subst h0; rw [Int.zero_mul]; exact mul_z h
  · by_cases h1 : m = 0
    · subst h1; rw [Int.mul_zero]; exact mul_zr (fin_tk ha)
    · simp [mulV, mulE, fin_tk ha, h, h0, h1, fin_ne ha, hp]
theorem mul_o {a m : Int} (ha : fin a) (h : 0 ≤ m) (hp : ¬ a * m ≤ 1099511627776) : mulV a m = 0 ∧ mulE a m = 9 := by
  have h0 : a ≠ 0 := by intro e; subst e; rw [Int.zero_mul] at hp; omega
  have h1 : m ≠ 0 := by intro e; subst e; rw [Int.mul_zero] at hp; omega
  simp [mulV, mulE, fin_tk ha, h, h0, h1, fin_ne ha, hp]

theorem ris_any (t : Int) (w : World) :
    Calls Tryd.prog 20 #[.int .i64 t] w fun e w' => e = .returned (.bool (isB t)) ∧ w = w' := by
  by_cases hi : t = 4611686018427387904
  · subst hi
    go_enter Tryd.func20, Tryd.ntmps20
    go_wp2
    go_ret
    exact ⟨ret_b isB_inf, rfl⟩
  · have hne : (t == 4611686018427387904) = false := by simp; omega
    by_cases h0 : 0 ≤ t ∧ t ≤ 1099511627776
    · have H := Lib.hid (isB_true (Or.inr h0))
      obtain ⟨h0, h1⟩ := h0
      clear hi
      go_enter Tryd.func20, Tryd.ntmps20
      go_wp2
      go_ret
      exact ⟨ret_b H.out, rfl⟩
    · have H := Lib.hid (isB_false (t := t) (by unfold isTk; omega))
      clear hi
      have h1 : t < 0 ∨ 1099511627776 < t := by omega
      clear h0
      rcases h1 with h1 | h1
      all_goals
        go_enter Tryd.func20, Tryd.ntmps20
        go_wp2
        go_ret
        first | exact ⟨ret_b H.out, rfl⟩ | exact ⟨ret_b (by rw [H.out]; simp; omega), rfl⟩
theorem rcheck_any (t : Int) (w : World) :
    Calls Tryd.prog 21 #[.int .i64 t] w fun e w' => e = .returned (.int .i64 (checkV t)) ∧ w = w' := by
  by_cases h0 : 0 ≤ t ∧ t ≤ 1099511627776
  · have H := Lib.hid (checkV_ok h0)
    obtain ⟨h0, h1⟩ := h0
    go_enter Tryd.func21, Tryd.ntmps21
    go_wp2
    go_ret
    exact ⟨ret_i H.out, rfl⟩
  · have H := Lib.hid (checkV_bad h0)
    have h1 : t < 0 ∨ 1099511627776 < t := by omega
    clear h0
    rcases h1 with h1 | h1
    all_goals
      go_enter Tryd.func21, Tryd.ntmps21
      go_wp2
      go_ret
      exact ⟨ret_i H.out, rfl⟩

set_option maxHeartbeats 1000000 in
theorem radd_any (a b : Int) (w : World) : Calls Tryd.prog 15 #[.int .i64 a, .int .i64 b] w fun e w' => e = .returned (.tuple #[.int .i64 (addV a b), .int .i64 (addE a b)]) ∧ w = w' := by
  rcases tk_cases a with ha | rfl | ha
  · have H := Lib.hid (add_nl (b := b) ha)
    have iA := isB_false ha
    clear ha
    go_enter Tryd.func15, Tryd.ntmps15
    go_wp2_with ((go_at_call 20; refine (ris_any _ _).mono ?_; rintro e w' ⟨rfl, rfl⟩))
    go_ret2
    exact ⟨ret_2 H.out, rfl⟩
  · by_cases hb : isTk b
    · have H := Lib.hid (add_il hb)
      have iB := isB_true hb
      have iA := isB_inf
      clear hb
      go_enter Tryd.func15, Tryd.ntmps15
      go_wp2_with ((go_at_call 20; refine (ris_any _ _).mono ?_; rintro e w' ⟨rfl, rfl⟩))
      go_ret2
      exact ⟨ret_2 H.out, rfl⟩
    · have H := Lib.hid (add_nr (a := 4611686018427387904) hb)
      have iB := isB_false hb
      have iA := isB_inf
      clear hb
      go_enter Tryd.func15, Tryd.ntmps15
      go_wp2_with ((go_at_call 20; refine (ris_any _ _).mono ?_; rintro e w' ⟨rfl, rfl⟩))
      go_ret2
      exact ⟨ret_2 H.out, rfl⟩
  · have iA := isB_true (fin_tk ha)
    have neA := eq_f (fin_ne ha)
    rcases tk_cases b with hb | rfl | hb
    · have H := Lib.hid (add_nr (a := a) hb)
      have iB := isB_false hb
      clear ha hb
      go_enter Tryd.func15, Tryd.ntmps15
      go_wp2_with ((go_at_call 20; refine (ris_any _ _).mono ?_; rintro e w' ⟨rfl, rfl⟩))
      go_ret2
      exact ⟨ret_2 H.out, rfl⟩
    · have H := Lib.hid (add_ir (fin_tk ha))
      have iB := isB_inf
      clear ha
      go_enter Tryd.func15, Tryd.ntmps15
      go_wp2_with ((go_at_call 20; refine (ris_any _ _).mono ?_; rintro e w' ⟨rfl, rfl⟩))
      go_ret2
      exact ⟨ret_2 H.out, rfl⟩
    · have iB := isB_true (fin_tk hb)
      have neB := eq_f (fin_ne hb)
      by_cases hs : a + b ≤ 1099511627776
      · have H := Lib.hid (add_ff ha hb hs)
        obtain ⟨ha1, ha2⟩ := ha
        obtain ⟨hb1, hb2⟩ := hb
        go_enter Tryd.func15, Tryd.ntmps15
        go_wp2_with ((go_at_call 20; refine (ris_any _ _).mono ?_; rintro e w' ⟨rfl, rfl⟩))
        go_ret2
        exact ⟨ret_2 H.out, rfl⟩
      · have H := Lib.hid (add_fo ha hb hs)
        obtain ⟨ha1, ha2⟩ := ha
        obtain ⟨hb1, hb2⟩ := hb
        go_enter Tryd.func15, Tryd.ntmps15
        go_wp2_with ((go_at_call 20; refine (ris_any _ _).mono ?_; rintro e w' ⟨rfl, rfl⟩))
        go_ret2
        exact ⟨ret_2 H.out, rfl⟩

set_option maxHeartbeats 1000000 in
theorem rsub_any (a b : Int) (w : World) : Calls Tryd.prog 16 #[.int .i64 a, .int .i64 b] w fun e w' => e = .returned (.tuple #[.int .i64 (subV a b), .int .i64 (subE a b)]) ∧ w = w' := by
  rcases tk_cases a with ha | rfl | ha
  · have H := Lib.hid (sub_nl (b := b) ha)
    have iA := isB_false ha
    clear ha
    go_enter Tryd.func16, Tryd.ntmps16
    go_wp2_with ((go_at_call 20; refine (ris_any _ _).mono ?_; rintro e w' ⟨rfl, rfl⟩))
    go_ret2
    exact ⟨ret_2 H.out, rfl⟩
  · have iA := isB_inf
    rcases tk_cases b with hb | rfl | hb
    · have H := Lib.hid (sub_nr (a := 4611686018427387904) hb)
      have iB := isB_false hb
      clear hb
      go_enter Tryd.func16, Tryd.ntmps16
      go_wp2_with ((go_at_call 20; refine (ris_any _ _).mono ?_; rintro e w' ⟨rfl, rfl⟩))
      go_ret2
      exact ⟨ret_2 H.out, rfl⟩
    · have H := Lib.hid (sub_ir 4611686018427387904)
      go_enter Tryd.func16, Tryd.ntmps16
      go_wp2_with ((go_at_call 20; refine (ris_any _ _).mono ?_; rintro e w' ⟨rfl, rfl⟩))
      go_ret2
      exact ⟨ret_2 H.out, rfl⟩
    · have H := Lib.hid (sub_il hb)
      have iB := isB_true (fin_tk hb)
      have neB := eq_f (fin_ne hb)
      obtain ⟨hb1, hb2⟩ := hb
      go_enter Tryd.func16, Tryd.ntmps16
      go_wp2_with ((go_at_call 20; refine (ris_any _ _).mono ?_; rintro e w' ⟨rfl, rfl⟩))
      go_ret2
      exact ⟨ret_2 H.out, rfl⟩
  · have iA := isB_true (fin_tk ha)
    have neA := eq_f (fin_ne ha)
    rcases tk_cases b with hb | rfl | hb
    · have H := Lib.hid (sub_nr (a := a) hb)
      have iB := isB_false hb
      clear ha hb
      go_enter Tryd.func16, Tryd.ntmps16
      go_wp2_with ((go_at_call 20; refine (ris_any _ _).mono ?_; rintro e w' ⟨rfl, rfl⟩))
      go_ret2
      exact ⟨ret_2 H.out, rfl⟩
    · have H := Lib.hid (sub_ir a)
      have iB := isB_inf
      clear ha
      go_enter Tryd.func16, Tryd.ntmps16
      go_wp2_with ((go_at_call 20; refine (ris_any _ _).mono ?_; rintro e w' ⟨rfl, rfl⟩))
      go_ret2
      exact ⟨ret_2 H.out, rfl⟩
    · have iB := isB_true (fin_tk hb)
      have neB := eq_f (fin_ne hb)
      by_cases hs : b ≤ a
      · have H := Lib.hid (sub_ff ha hb hs)
        obtain ⟨ha1, ha2⟩ := ha
        obtain ⟨hb1, hb2⟩ := hb
        go_enter Tryd.func16, Tryd.ntmps16
        go_wp2_with ((go_at_call 20; refine (ris_any _ _).mono ?_; rintro e w' ⟨rfl, rfl⟩))
        go_ret2
        exact ⟨ret_2 H.out, rfl⟩
      · have H := Lib.hid (sub_fo ha hb hs)
        obtain ⟨ha1, ha2⟩ := ha
        obtain ⟨hb1, hb2⟩ := hb
        go_enter Tryd.func16, Tryd.ntmps16
        go_wp2_with ((go_at_call 20; refine (ris_any _ _).mono ?_; rintro e w' ⟨rfl, rfl⟩))
        go_ret2
        exact ⟨ret_2 H.out, rfl⟩

theorem mul_nl {a n : Int} (h : ¬ isTk a) : mulV a n = 0 ∧ mulE a n = 9 := by simp [mulV, mulE, h]
theorem mul_neg {a n : Int} (h : n < 0) : mulV a n = 0 ∧ mulE a n = 9 := by
  have : ¬ 0 ≤ n := by omega
  simp [mulV, mulE, this]
set_option maxHeartbeats 1000000 in
theorem rmul_any (a n : Int) (w : World) (hw : n ≤ 9223372036854775807) : Calls Tryd.prog 17 #[.int .i64 a, .int .i64 n] w fun e w' => e = .returned (.tuple #[.int .i64 (mulV a n), .int .i64 (mulE a n)]) ∧ w = w' := by
  by_cases hn : n < 0
  · have H := Lib.hid (mul_neg (a := a) hn)
    have iA : isB a = true ∨ isB a = false := by cases isB a <;> simp
    rcases iA with iA | iA
    all_goals
      go_enter Tryd.func17, Tryd.ntmps17
      go_wp2_with ((go_at_call 20; refine (ris_any _ _).mono ?_; rintro e w' ⟨rfl, rfl⟩))
      go_ret2
      exact ⟨ret_2 H.out, rfl⟩
  · by_cases ha : isTk a
    · have iA := isB_true ha
      by_cases h0 : n = 0
      · subst h0
        have H := Lib.hid (mul_zr ha)
        clear ha hn
        go_enter Tryd.func17, Tryd.ntmps17
        go_wp2_with ((go_at_call 20; refine (ris_any _ _).mono ?_; rintro e w' ⟨rfl, rfl⟩))
        go_ret2
        exact ⟨ret_2 H.out, rfl⟩
      · have ne0 := eq_f h0
        have hn1 : 1 ≤ n := by omega
        rcases tk_cases a with h | rfl | hf
        · exact absurd ha h
        · have H := Lib.hid (mul_i hn1)
          clear ha hn h0
          go_enter Tryd.func17, Tryd.ntmps17
          go_wp2_with ((go_at_call 20; refine (ris_any _ _).mono ?_; rintro e w' ⟨rfl, rfl⟩))
          go_ret2
          exact ⟨ret_2 H.out, rfl⟩
        · have neA := eq_f (fin_ne hf)
          have hq0 : 0 ≤ 1099511627776 / n := Int.ediv_nonneg (by omega) (by omega)
          by_cases hq : a ≤ 1099511627776 / n
          · have hp := le_div (by omega) hq
            rw [Int.mul_comm] at hp
            have H := Lib.hid (mul_f hf (by omega) hp)
            have hp0 : 0 ≤ a * n := Int.mul_nonneg hf.1 (by omega)
            obtain ⟨ha1, ha2⟩ := hf
            clear ha hn h0
            go_enter Tryd.func17, Tryd.ntmps17
            go_wp2_with ((go_at_call 20; refine (ris_any _ _).mono ?_; rintro e w' ⟨rfl, rfl⟩))
            go_ret2
            exact ⟨ret_2 H.out, rfl⟩
          · have hp : ¬ a * n ≤ 1099511627776 := by have := div_lt (by omega) hq; rw [Int.mul_comm] at this; omega
            have H := Lib.hid (mul_o hf (by omega) hp)
            obtain ⟨ha1, ha2⟩ := hf
            clear ha hn h0 hp
            go_enter Tryd.func17, Tryd.ntmps17
            go_wp2_with ((go_at_call 20; refine (ris_any _ _).mono ?_; rintro e w' ⟨rfl, rfl⟩))
            go_ret2
            exact ⟨ret_2 H.out, rfl⟩
    · have iA := isB_false ha
      have H := Lib.hid (mul_nl (n := n) ha)
      clear ha
      go_enter Tryd.func17, Tryd.ntmps17
      go_wp2_with ((go_at_call 20; refine (ris_any _ _).mono ?_; rintro e w' ⟨rfl, rfl⟩))
      go_ret2
      exact ⟨ret_2 H.out, rfl⟩

set_option maxHeartbeats 1000000 in
theorem rat_any (f s i : Int) (w : World) (hw : i ≤ 9223372036854775807) : Calls Tryd.prog 18 #[.int .i64 f, .int .i64 s, .int .i64 i] w fun e w' => e = .returned (.tuple #[.int .i64 (atV f s i), .int .i64 (atE f s i)]) ∧ w = w' := by
  by_cases hf : fin f
  · have hF := checkV_ok hf
    by_cases hs : fin s
    · have hS := checkV_ok hs
      by_cases hi : i < 0
      · have H := Lib.hid (at_neg (f := f) (s := s) hi)
        clear hf hs
        go_enter Tryd.func18, Tryd.ntmps18
        go_wp2_with ((go_at_call 21; refine (rcheck_any _ _).mono ?_; rintro e w' ⟨rfl, rfl⟩))
        go_ret2
        exact ⟨ret_2 H.out, rfl⟩
      · by_cases h0 : s = 0
        · subst h0
          by_cases hi0 : 0 < i
          · have H := Lib.hid (at_zero_pos (f := f) hi0)
            clear hf hs
            go_enter Tryd.func18, Tryd.ntmps18
            go_wp2_with ((go_at_call 21; refine (rcheck_any _ _).mono ?_; rintro e w' ⟨rfl, rfl⟩))
            go_ret2
            exact ⟨ret_2 H.out, rfl⟩
          · obtain rfl : i = 0 := by omega
            have H := Lib.hid (at_zero hf)
            clear hs hi hi0
            obtain ⟨hf1, hf2⟩ := hf
            go_enter Tryd.func18, Tryd.ntmps18
            go_wp2_with ((go_at_call 21; refine (rcheck_any _ _).mono ?_; rintro e w' ⟨rfl, rfl⟩))
            go_ret2
            exact ⟨ret_2 H.out, rfl⟩
        · have ne0 := eq_f h0
          have hs1 : 1 ≤ s := by unfold fin at hs; omega
          have hq0 : 0 ≤ (1099511627776 - f) / s := Int.ediv_nonneg (by unfold fin at hf; omega) (by omega)
          by_cases hq : i ≤ (1099511627776 - f) / s
          · have hp := le_div (by omega) hq
            have hx : f + s * i ≤ 1099511627776 := by omega
            have H := Lib.hid (at_yes hf hs h0 (by omega) hx)
            have hcm : i * s = s * i := Int.mul_comm i s
            have hp0 : 0 ≤ s * i := Int.mul_nonneg (by omega) (by omega)
            obtain ⟨hf1, hf2⟩ := hf
            obtain ⟨hs1, hs2⟩ := hs
            clear h0
            go_enter Tryd.func18, Tryd.ntmps18
            go_wp2_with ((go_at_call 21; refine (rcheck_any _ _).mono ?_; rintro e w' ⟨rfl, rfl⟩))
            go_ret2
            exact ⟨ret_2 H.out, rfl⟩
          · have hx : ¬ f + s * i ≤ 1099511627776 := by have := div_lt (by omega) hq; omega
            have H := Lib.hid (at_no hf hs h0 (by omega) hx)
            obtain ⟨hf1, hf2⟩ := hf
            obtain ⟨hs1, hs2⟩ := hs
            clear h0 hx
            go_enter Tryd.func18, Tryd.ntmps18
            go_wp2_with ((go_at_call 21; refine (rcheck_any _ _).mono ?_; rintro e w' ⟨rfl, rfl⟩))
            go_ret2
            exact ⟨ret_2 H.out, rfl⟩
    · have hS := checkV_bad hs
      have H := Lib.hid (at_nf (f := f) (s := s) (i := i) (fun h => hs h.2))
      clear hf hs
      go_enter Tryd.func18, Tryd.ntmps18
      go_wp2_with ((go_at_call 21; refine (rcheck_any _ _).mono ?_; rintro e w' ⟨rfl, rfl⟩))
      go_ret2
      exact ⟨ret_2 H.out, rfl⟩
  · have hF := checkV_bad hf
    have H := Lib.hid (at_nf (f := f) (s := s) (i := i) (fun h => hf h.1))
    clear hf
    go_enter Tryd.func18, Tryd.ntmps18
    go_wp2_with ((go_at_call 21; refine (rcheck_any _ _).mono ?_; rintro e w' ⟨rfl, rfl⟩))
    go_ret2
    exact ⟨ret_2 H.out, rfl⟩

set_option maxHeartbeats 1000000 in
theorem rcount_any (f s u : Int) (w : World) : Calls Tryd.prog 23 #[.int .i64 f, .int .i64 s, .int .i64 u] w fun e w' => e = .returned (.int .i64 (countV f s u)) ∧ w = w' := by
  by_cases hf : fin f
  · have hF := checkV_ok hf
    by_cases hs : fin s
    · have hS := checkV_ok hs
      by_cases hu : fin u
      · have hU := checkV_ok hu
        by_cases hfu : f ≤ u
        · by_cases h0 : s = 0
          · subst h0
            have H := Lib.hid (count_one hf hu hfu)
            obtain ⟨hf, hf2⟩ := hf
            obtain ⟨hu, hu2⟩ := hu
            clear hs
            go_enter Tryd.func23, Tryd.ntmps23
            go_wp2_with ((go_at_call 21; refine (rcheck_any _ _).mono ?_; rintro e w' ⟨rfl, rfl⟩))
            go_ret
            exact ⟨ret_i H.out, rfl⟩
          · have H := Lib.hid (count_many hf hs hu hfu h0)
            have hne := eq_f h0
            obtain ⟨hf, hf2⟩ := hf
            obtain ⟨hs, hs2⟩ := hs
            obtain ⟨hu, hu2⟩ := hu
            have hs1 : 1 ≤ s := by omega
            have hq : 0 ≤ (u - f) / s := Int.ediv_nonneg (by omega) (by omega)
            have hq2 : (u - f) / s ≤ 1099511627776 := Int.le_trans (Int.ediv_le_self _ (by omega)) (by omega)
            clear h0
            go_enter Tryd.func23, Tryd.ntmps23
            go_wp2_with ((go_at_call 21; refine (rcheck_any _ _).mono ?_; rintro e w' ⟨rfl, rfl⟩))
            go_ret
            exact ⟨ret_i H.out, rfl⟩
        · have H := Lib.hid (count_none (s := s) hfu)
          clear hf hs hu
          go_enter Tryd.func23, Tryd.ntmps23
          go_wp2_with ((go_at_call 21; refine (rcheck_any _ _).mono ?_; rintro e w' ⟨rfl, rfl⟩))
          go_ret
          exact ⟨ret_i H.out, rfl⟩
      · have hU := checkV_bad hu
        have H := Lib.hid (count_bad (f := f) (s := s) (u := u) (fun h => hu h.2.2))
        clear hf hs hu
        go_enter Tryd.func23, Tryd.ntmps23
        go_wp2_with ((go_at_call 21; refine (rcheck_any _ _).mono ?_; rintro e w' ⟨rfl, rfl⟩))
        go_ret
        exact ⟨ret_i H.out, rfl⟩
    · have hS := checkV_bad hs
      have H := Lib.hid (count_bad (f := f) (s := s) (u := u) (fun h => hs h.2.1))
      clear hf hs
      go_enter Tryd.func23, Tryd.ntmps23
      go_wp2_with ((go_at_call 21; refine (rcheck_any _ _).mono ?_; rintro e w' ⟨rfl, rfl⟩))
      go_ret
      exact ⟨ret_i H.out, rfl⟩
  · have hF := checkV_bad hf
    have H := Lib.hid (count_bad (f := f) (s := s) (u := u) (fun h => hf h.1))
    clear hf
    go_enter Tryd.func23, Tryd.ntmps23
    go_wp2_with ((go_at_call 21; refine (rcheck_any _ _).mono ?_; rintro e w' ⟨rfl, rfl⟩))
    go_ret
    exact ⟨ret_i H.out, rfl⟩


theorem dec_len {u : Nat} (h : u < 10000000000000) : (Lib.decDigits u).length ≤ 13 := by
  rw [Lib.decDigits_length]; exact nDigits_le 12 u (by have : (10 : Nat) ^ (12 + 1) = 10000000000000 := by decide
                                                       omega)
theorem str_app (a b : List UInt8) : (⟨a.toArray⟩ ++ ⟨b.toArray⟩ : ByteArray) = ⟨(a ++ b).toArray⟩ := by
  apply Go.WideShapes.bytes_inj
  simp
theorem rdig_small (n : Int) (h0 : 0 ≤ n) (h : n < 10) (w : World) :
    Calls Tryd.prog 36 #[.int .i64 n] w fun e w' => e = .returned (.string ⟨(Lib.decDigits n.toNat).toArray⟩) ∧ w = w' := by
  have hc : n = 0 ∨ n = 1 ∨ n = 2 ∨ n = 3 ∨ n = 4 ∨ n = 5 ∨ n = 6 ∨ n = 7 ∨ n = 8 ∨ n = 9 := by omega
  rcases hc with rfl | rfl | rfl | rfl | rfl | rfl | rfl | rfl | rfl | rfl
  all_goals
    go_enter Tryd.func36, Tryd.ntmps36
    go_wp2_with fail
    go_ret
    exact ⟨by rw [Lib.decDigits_one (by decide)]; rfl, rfl⟩
theorem rdig_any (k : Nat) : ∀ (n : Int) (w : World), n ≤ k → 0 ≤ n → n ≤ 1099511627776 →
    Calls Tryd.prog 36 #[.int .i64 n] w fun e w' => e = .returned (.string ⟨(Lib.decDigits n.toNat).toArray⟩) ∧ w = w' := by
  induction k with
  | zero => intro n w hk h0 _; exact rdig_small n h0 (by omega) w
  | succ k ih =>
    intro n w hk h0 hM
    by_cases h : n < 10
    · exact rdig_small n h0 h w
    · have H : Hid (Lib.decDigits n.toNat = Lib.decDigits (n / 10).toNat ++ Lib.decDigits (n % 10).toNat) := Lib.hid (by
        rw [Lib.decDigits, dif_neg (by omega), Lib.decDigits_one (i := (n % 10).toNat) (by omega)]
        rw [show n.toNat / 10 = (n / 10).toNat by omega, show n.toNat % 10 = (n % 10).toNat by omega])
      have HI := Lib.hid ih
      have hl1 : (Lib.decDigits (n / 10).toNat).length ≤ 13 := dec_len (by omega)
      have hl2 : (Lib.decDigits (n % 10).toNat).length ≤ 13 := dec_len (by omega)
      clear ih
      have hq0 : 0 ≤ n / 10 := by omega
      have hq1 : n / 10 ≤ k := by omega
      have hr0 : 0 ≤ n % 10 := by omega
      have hr1 : n % 10 < 10 := by omega
      go_enter Tryd.func36, Tryd.ntmps36
      go_wp2_with fail
      refine (HI.out _ _ hq1 hq0 (by omega)).mono ?_
      rintro e w' ⟨rfl, rfl⟩
      go_wp2_with fail
      refine (rdig_small _ hr0 hr1 _).mono ?_
      rintro e w' ⟨rfl, rfl⟩
      go_wp2_with fail
      go_ret
      exact ⟨congrArg (fun b => Ending.returned (Value.string b)) (by rw [H.out]; exact str_app _ _), rfl⟩
theorem rtext_any (t : Int) (w : World) :
    Calls Tryd.prog 24 #[.int .i64 t] w fun e w' => e = .returned (.string ⟨(textL t).toArray⟩) ∧ w = w' := by
  rcases tk_cases t with ht | rfl | ht
  · have iB := isB_false ht
    have H := Lib.hid (text_no ht)
    clear ht
    go_enter Tryd.func24, Tryd.ntmps24
    go_wp2_with (go_at_call 20; refine (ris_any _ _).mono ?_; rintro e w' ⟨rfl, rfl⟩)
    go_ret
    exact ⟨ret_s (b := []) H.out, rfl⟩
  · have iB := isB_inf
    have H := Lib.hid text_inf
    go_enter Tryd.func24, Tryd.ntmps24
    go_wp2_with (go_at_call 20; refine (ris_any _ _).mono ?_; rintro e w' ⟨rfl, rfl⟩)
    go_ret
    exact ⟨ret_s (b := infL) H.out, rfl⟩
  · have iB := isB_true (fin_tk ht)
    have neB := eq_f (fin_ne ht)
    have H := Lib.hid (text_fin ht)
    obtain ⟨h0, h1⟩ := ht
    go_enter Tryd.func24, Tryd.ntmps24
    go_wp2_with (first | (go_at_call 20; refine (ris_any _ _).mono ?_; rintro e w' ⟨rfl, rfl⟩) | (go_at_call 36; refine (rdig_any t.toNat _ _ ?_ h0 h1).mono ?_; omega; rintro e w' ⟨rfl, rfl⟩))
    go_ret
    exact ⟨ret_s H.out, rfl⟩

def RPar (l : List UInt8) (w : World) (e : Ending) (w' : World) : Prop := e = .returned (.tuple #[.int .i64 (parseV l), .int .i64 (parseE l)]) ∧ w = w'
theorem rparse_inf (s : ByteArray) (h : s.data.toList = infL) (w : World) :
    Calls Tryd.prog 19 #[.string s] w (RPar s.data.toList w) := by
  have hi := inf_t h
  have H : Hid (parseV s.data.toList = 4611686018427387904 ∧ parseE s.data.toList = 0) := Lib.hid (by rw [h]; exact parse_inf)
  clear h
  go_enter Tryd.func19, Tryd.ntmps19
  go_wp2_with fail
  go_ret2
  exact ⟨ret_2 H.out, rfl⟩
theorem rparse_nil (s : ByteArray) (h : s.size = 0) (w : World) :
    Calls Tryd.prog 19 #[.string s] w (RPar s.data.toList w) := by
  have hl : s.data.toList = [] := List.eq_nil_of_length_eq_zero (by rw [← Lib.size_eq]; exact h)
  have hi := inf_f (s := s) (by rw [hl]; decide)
  have H : Hid (parseV s.data.toList = 0 ∧ parseE s.data.toList = 7) := Lib.hid (by rw [hl]; exact ⟨by decide, by decide⟩)
  have h0 : ((s.size : Int) == 0) = true := eq_t (by omega)
  clear hl
  have h' : s.size ≤ 0 := by omega
  clear h
  go_enter Tryd.func19, Tryd.ntmps19
  go_wp2_with fail
  go_ret2
  exact ⟨ret_2 H.out, rfl⟩
theorem get_head (s : ByteArray) (h : 0 < s.size) : s.data.toList.head? = some s[0] := by
  rw [List.head?_eq_getElem?, List.getElem?_eq_getElem (by rw [← Lib.size_eq]; exact h)]; rfl
theorem rparse_zero (s : ByteArray) (hi0 : s.data.toList ≠ infL) (h : 1 < s.size) (hmx : s.size ≤ maxLen) (h48 : s[0].toNat = 48) (w : World) :
    Calls Tryd.prog 19 #[.string s] w (RPar s.data.toList w) := by
  have hi := inf_f hi0
  have H := Lib.hid (parse_no hi0 (not_canon_zero (by rw [← Lib.size_eq]; exact h) s[0] (get_head s (by omega)) h48))
  have h0 : ((s.size : Int) == 0) = false := eq_f (by omega)
  have hb : ((s[0].toNat : Int) == 48) = true := by simp; omega
  unfold maxLen at hmx
  clear hi0 h48
  go_enter Tryd.func19, Tryd.ntmps19
  go_wp2_with fail
  go_ret2
  exact ⟨ret_2 H.out, rfl⟩
set_option maxHeartbeats 2000000 in
theorem rparse_run (s : ByteArray) (hi0 : s.data.toList ≠ infL) (h : 0 < s.size) (hmx : s.size ≤ maxLen) (h48 : s.size = 1 ∨ s[0].toNat ≠ 48) (w : World) :
    Calls Tryd.prog 19 #[.string s] w (RPar s.data.toList w) := by
  have hi := inf_f hi0
  have h0 : ((s.size : Int) == 0) = false := eq_f (by omega)
  have HI0 := Lib.hid hi0
  have HCAN : Hid (allDig s.data.toList = true → canon s.data.toList = true) := Lib.hid (fun ha => canon_of (by intro e; have := Lib.size_eq s; rw [e] at this; have h2 : s.size = 0 := this; omega) ha (by
    rcases h48 with h48 | h48
    · left; rw [← Lib.size_eq]; exact h48
    · right; intro c hc; rw [get_head s h] at hc; injection hc with hc; subst hc; exact h48))
  have hdec : (s.size ≤ 1) ∨ (1 < s.size ∧ ((s[0].toNat : Int) == 48) = false) := by
    rcases h48 with h48 | h48
    · left; omega
    · by_cases h1 : s.size ≤ 1
      · left; exact h1
      · right; exact ⟨by omega, by simp; omega⟩
  unfold maxLen at hmx
  clear hi0 h48
  rcases hdec with hd | ⟨hd, hb⟩
  all_goals
    go_enter Tryd.func19, Tryd.ntmps19
    go_wp2_with fail
    go_loop [5] (fun i => ∃ k : Nat, k ≤ s.size ∧ i = .int .i64 k ∧ Hid (allDig (s.data.toList.take k) = true)) (fun i => s.size - (intOf i).toNat)
    case atStart => exact ⟨0, Nat.zero_le _, rfl, Lib.hid (by simp [allDig])⟩
    case round =>
      obtain ⟨k, hk, rfl, HD⟩ := hrel
      by_cases hlt : k < s.size
      · have HS := Lib.hid (take_snoc s k hlt)
        cases hdig : isDig s[k] with
        | true =>
          have hb : 48 ≤ s[k].toNat ∧ s[k].toNat ≤ 57 := by simpa [isDig] using hdig
          obtain ⟨hb1, hb2⟩ := hb
          have HDG := Lib.hid hdig
          clear hdig
          go_wp2_with fail
          go_round
          case rel => exact ⟨k + 1, by omega, by go_num, Lib.hid (by rw [HS.out, allDig_app, HD.out]; simp [allDig, HDG.out])⟩
          case measure => simp [intOf]; omega
        | false =>
          have hb : s[k].toNat < 48 ∨ 57 < s[k].toNat := by simp [isDig] at hdig; omega
          have H := Lib.hid (parse_no HI0.out (not_canon_dig (allDig_no (k := k) (by rw [← Lib.size_eq]; exact hlt) hdig)))
          clear hdig
          rcases hb with hb | hb
          all_goals
            go_wp2_with fail
            go_ret2
            exact ⟨ret_2 H.out, rfl⟩
      · have HA : Hid (allDig s.data.toList = true) := Lib.hid (by have := HD.out; rw [List.take_of_length_le (by rw [← Lib.size_eq]; omega)] at this; exact this)
        have HC := Lib.hid (HCAN.out HA.out)
        go_wp2_with fail
        go_loop [6, 4] (fun i n => ∃ k : Nat, k ≤ s.size ∧ i = .int .i64 k ∧ dval (s.data.toList.take k) ≤ 1099511627776 ∧ n = .int .i64 (dval (s.data.toList.take k))) (fun i _ => s.size - (intOf i).toNat)
        case atStart => exact ⟨0, Nat.zero_le _, rfl, by simp [dval, dfrom], by simp [dval, dfrom]⟩
        case round =>
          obtain ⟨j, hj, rfl, hdv, rfl⟩ := hrel
          by_cases hjl : j < s.size
          · have hdg : 48 ≤ s[j].toNat ∧ s[j].toNat ≤ 57 := by
              have this : isDig s[j] = true := List.all_eq_true.1 HA.out (s.data.toList[j]'(by rw [← Lib.size_eq]; exact hjl)) (List.getElem_mem _)
              simpa [isDig] using this
            obtain ⟨hb1, hb2⟩ := hdg
            have HS : Hid (dval (s.data.toList.take (j + 1)) = 10 * dval (s.data.toList.take j) + (s[j].toNat - 48)) := Lib.hid (by rw [take_snoc s j hjl, dval_snoc])
            by_cases hbig : 10 * dval (s.data.toList.take j) + (s[j].toNat - 48) ≤ 1099511627776
            · go_wp2_with fail
              go_round
              case rel => exact ⟨j + 1, by omega, by go_num, by rw [HS.out]; exact hbig, by rw [HS.out]; congr 1; omega⟩
              case measure => simp [intOf]; omega
            · have H := Lib.hid (parse_big HC.out (by have := dval_take_le s.data.toList (j + 1); rw [HS.out] at this; omega))
              go_wp2_with fail
              go_ret2
              exact ⟨ret_2 H.out, rfl⟩
          · have H := Lib.hid (parse_ok HC.out (by rw [List.take_of_length_le (by rw [← Lib.size_eq]; omega)] at hdv; exact hdv))
            have HT : Hid (s.data.toList.take j = s.data.toList) := Lib.hid (List.take_of_length_le (by rw [← Lib.size_eq]; omega))
            go_wp2_with fail
            go_ret2
            exact ⟨ret_2 (by rw [HT.out]; exact H.out), rfl⟩
theorem rparse_any (s : ByteArray) (hmx : s.size ≤ maxLen) (w : World) :
    Calls Tryd.prog 19 #[.string s] w (RPar s.data.toList w) := by
  by_cases hi : s.data.toList = infL
  · exact rparse_inf s hi w
  · by_cases h0 : s.size = 0
    · exact rparse_nil s h0 w
    · by_cases h1 : s.size = 1
      · exact rparse_run s hi (by omega) hmx (Or.inl h1) w
      · by_cases h48 : (s[0]'(by omega)).toNat = 48
        · exact rparse_zero s hi (by omega) hmx h48 w
        · exact rparse_run s hi (by omega) hmx (Or.inr h48) w
end Go.Proofs.YtoijfdcknigikaaDoor.Tk
