/- Contracts of package tick, in the form that says that all that was there stands as it stood (Below): what Check, Is, Add, Sub, Mul, Count and At answer at any int64, each proved by walking its text. No conditions but that numbers are int64. -/
import Derived.Test.YtejmfhmglbggnaaRows
import Derived.WalkKit
import Derived.ProofKit
import Derived.OpenShut
import Derived.Handy
import Derived.Lib.Hide
namespace Go.Proofs.Ytejmfhmglbggnaa.Tk
open Go.ChangeShapes Go.WideShapes Go.ChangeAt Go.RowKit
set_option linter.unusedVariables false

theorem check_ok (t : Int) (w : World) (h0 : 0 ≤ t) (h1 : t ≤ 1099511627776) :
    Calls Try.prog 31 #[.int .i64 t] w fun e w' => e = .returned (.int .i64 0) ∧ w = w' := by
  go_enter Try.func31, Try.ntmps31
  go_wp2
  go_ret
  exact ⟨rfl, rfl⟩

theorem check_bad (t : Int) (w : World) (h : t < 0 ∨ 1099511627776 < t) :
    Calls Try.prog 31 #[.int .i64 t] w fun e w' => e = .returned (.int .i64 9) ∧ w = w' := by
  rcases h with h | h
  all_goals
    go_enter Try.func31, Try.ntmps31
    go_wp2
    go_ret
    exact ⟨rfl, rfl⟩
theorem ret_b {a b : Bool} (h : a = b) : Ending.returned (.bool b) = .returned (.bool a) := by rw [h]
theorem ret_2 {a b c d : Int} (h : a = c ∧ b = d) : Ending.returned (.tuple #[.int .i64 c, .int .i64 d]) = .returned (.tuple #[.int .i64 a, .int .i64 b]) := by rw [h.1, h.2]
def isTk (t : Int) : Prop := t = 4611686018427387904 ∨ (0 ≤ t ∧ t ≤ 1099511627776)
instance (t : Int) : Decidable (isTk t) := by unfold isTk; infer_instance
/-- what Is answers -/
def isB (t : Int) : Bool := decide (isTk t)
theorem isB_true {t : Int} (h : isTk t) : isB t = true := by simp [isB, h]
theorem isB_false {t : Int} (h : ¬ isTk t) : isB t = false := by simp [isB, h]
def checkV (t : Int) : Int := if 0 ≤ t ∧ t ≤ 1099511627776 then 0 else 9

theorem check_any (t : Int) (w : World) :
    Calls Try.prog 31 #[.int .i64 t] w fun e w' => e = .returned (.int .i64 (checkV t)) ∧ w = w' := by
  by_cases h0 : 0 ≤ t ∧ t ≤ 1099511627776
  · have H : Hid (checkV t = 0) := Lib.hid (by simp [checkV, h0])
    obtain ⟨h0, h1⟩ := h0
    refine (check_ok t w h0 h1).mono ?_
    rintro e w' ⟨rfl, rfl⟩
    exact ⟨by rw [H.out], rfl⟩
  · refine (check_bad t w (by omega)).mono ?_
    rintro e w' ⟨rfl, rfl⟩
    exact ⟨by rw [checkV, if_neg h0], rfl⟩

/-- what Add answers: its number and its error -/
def addV (a b : Int) : Int := if isTk a ∧ isTk b then (if a = 4611686018427387904 ∨ b = 4611686018427387904 then 4611686018427387904 else if a + b ≤ 1099511627776 then a + b else 0) else 0
def addE (a b : Int) : Int := if isTk a ∧ isTk b then (if a = 4611686018427387904 ∨ b = 4611686018427387904 then 0 else if a + b ≤ 1099511627776 then 0 else 9) else 9
def Add (a b : Int) (w : World) (e : Ending) (w' : World) : Prop := e = .returned (.tuple #[.int .i64 (addV a b), .int .i64 (addE a b)]) ∧ Below w.heap.size w w'

/-- what Sub answers -/
def subV (a b : Int) : Int := if isTk a ∧ isTk b ∧ b ≠ 4611686018427387904 then (if a = 4611686018427387904 then 4611686018427387904 else if b ≤ a then a - b else 0) else 0
def subE (a b : Int) : Int := if isTk a ∧ isTk b ∧ b ≠ 4611686018427387904 then (if a = 4611686018427387904 then 0 else if b ≤ a then 0 else 9) else 9
def Sub (a b : Int) (w : World) (e : Ending) (w' : World) : Prop := e = .returned (.tuple #[.int .i64 (subV a b), .int .i64 (subE a b)]) ∧ Below w.heap.size w w'

theorem le_div {a n m : Int} (ha : 0 < a) (h : n ≤ m / a) : a * n ≤ m := by
  have := (Int.le_ediv_iff_mul_le ha).1 h
  rw [Int.mul_comm]; exact this
theorem div_lt {a n m : Int} (ha : 0 < a) (h : ¬ n ≤ m / a) : m < a * n := by
  have h2 : ¬ n * a ≤ m := fun h' => h ((Int.le_ediv_iff_mul_le ha).2 h')
  rw [Int.mul_comm a n]; omega

/-- what Mul answers -/
def mulV (a n : Int) : Int := if isTk a ∧ 0 ≤ n then (if a = 0 ∨ n = 0 then 0 else if a = 4611686018427387904 then 4611686018427387904 else if a * n ≤ 1099511627776 then a * n else 0) else 0
def mulE (a n : Int) : Int := if isTk a ∧ 0 ≤ n then (if a = 0 ∨ n = 0 then 0 else if a = 4611686018427387904 then 0 else if a * n ≤ 1099511627776 then 0 else 9) else 9
def Mul (a b : Int) (w : World) (e : Ending) (w' : World) : Prop := e = .returned (.tuple #[.int .i64 (mulV a b), .int .i64 (mulE a b)]) ∧ Below w.heap.size w w'

/-- what Count answers -/
def countV (f s u : Int) : Int := if (0 ≤ f ∧ f ≤ 1099511627776) ∧ (0 ≤ s ∧ s ≤ 1099511627776) ∧ (0 ≤ u ∧ u ≤ 1099511627776) ∧ f ≤ u then (if s = 0 then 1 else (u - f) / s + 1) else 0

theorem ret_i {a b : Int} (h : a = b) : Ending.returned (.int .i64 b) = .returned (.int .i64 a) := by rw [h]
theorem checkV_ok {t : Int} (h : 0 ≤ t ∧ t ≤ 1099511627776) : checkV t = 0 := by simp [checkV, h]
theorem checkV_bad {t : Int} (h : ¬ (0 ≤ t ∧ t ≤ 1099511627776)) : checkV t = 9 := by rw [checkV, if_neg h]

set_option maxHeartbeats 1000000 in
theorem count_any (f s u : Int) (w : World) : Calls Try.prog 32 #[.int .i64 f, .int .i64 s, .int .i64 u] w fun e w' => e = .returned (.int .i64 (countV f s u)) ∧ w = w' := by
  by_cases hf : 0 ≤ f ∧ f ≤ 1099511627776
  · have hF := checkV_ok hf
    by_cases hs : 0 ≤ s ∧ s ≤ 1099511627776
    · have hS := checkV_ok hs
      by_cases hu : 0 ≤ u ∧ u ≤ 1099511627776
      · have hU := checkV_ok hu
        by_cases hfu : f ≤ u
        · by_cases h0 : s = 0
          · have H : Hid (countV f s u = 1) := Lib.hid (by simp [countV, hf, hu, hfu, h0])
            have hne : (s == 0) = true := by simp; omega
            clear h0
            obtain ⟨hf, hf2⟩ := hf
            obtain ⟨hs, hs2⟩ := hs
            obtain ⟨hu, hu2⟩ := hu
            go_enter Try.func32, Try.ntmps32
            go_wp2_with (go_at_call 31; refine (check_any _ _).mono ?_; rintro e w' ⟨rfl, rfl⟩)
            go_ret
            exact ⟨ret_i H.out, rfl⟩
          · have H : Hid (countV f s u = (u - f) / s + 1) := Lib.hid (by simp [countV, hf, hs, hu, hfu, h0])
            have hne : (s == 0) = false := by simp; omega
            obtain ⟨hf, hf2⟩ := hf
            obtain ⟨hs, hs2⟩ := hs
            obtain ⟨hu, hu2⟩ := hu
            have hs1 : 1 ≤ s := by omega
            have hq : 0 ≤ (u - f) / s := Int.ediv_nonneg (by omega) (by omega)
            have hq2 : (u - f) / s ≤ 1099511627776 := Int.le_trans (Int.ediv_le_self _ (by omega)) (by omega)
            clear h0
            go_enter Try.func32, Try.ntmps32
            go_wp2_with (go_at_call 31; refine (check_any _ _).mono ?_; rintro e w' ⟨rfl, rfl⟩)
            go_ret
            exact ⟨ret_i H.out, rfl⟩
        · have H : Hid (countV f s u = 0) := Lib.hid (by simp [countV, hfu])
          obtain ⟨hf, hf2⟩ := hf
          obtain ⟨hs, hs2⟩ := hs
          obtain ⟨hu, hu2⟩ := hu
          go_enter Try.func32, Try.ntmps32
          go_wp2_with (go_at_call 31; refine (check_any _ _).mono ?_; rintro e w' ⟨rfl, rfl⟩)
          go_ret
          exact ⟨ret_i H.out, rfl⟩
      · have hU := checkV_bad hu
        have H : Hid (countV f s u = 0) := Lib.hid (by rw [countV, if_neg (fun h => hu h.2.2.1)])
        clear hf hs hu
        go_enter Try.func32, Try.ntmps32
        go_wp2_with (go_at_call 31; refine (check_any _ _).mono ?_; rintro e w' ⟨rfl, rfl⟩)
        go_ret
        exact ⟨ret_i H.out, rfl⟩
    · have hS := checkV_bad hs
      have H : Hid (countV f s u = 0) := Lib.hid (by rw [countV, if_neg (fun h => hs h.2.1)])
      clear hf hs
      go_enter Try.func32, Try.ntmps32
      go_wp2_with (go_at_call 31; refine (check_any _ _).mono ?_; rintro e w' ⟨rfl, rfl⟩)
      go_ret
      exact ⟨ret_i H.out, rfl⟩
  · have hF := checkV_bad hf
    have H : Hid (countV f s u = 0) := Lib.hid (by rw [countV, if_neg (fun h => hf h.1)])
    clear hf
    go_enter Try.func32, Try.ntmps32
    go_wp2_with (go_at_call 31; refine (check_any _ _).mono ?_; rintro e w' ⟨rfl, rfl⟩)
    go_ret
    exact ⟨ret_i H.out, rfl⟩

/-- what At answers -/
def atV (f s i : Int) : Int := if (0 ≤ f ∧ f ≤ 1099511627776) ∧ (0 ≤ s ∧ s ≤ 1099511627776) ∧ 0 ≤ i then (if s = 0 then (if i ≤ 0 then f else 0) else if f + s * i ≤ 1099511627776 then f + s * i else 0) else 0
def atE (f s i : Int) : Int := if (0 ≤ f ∧ f ≤ 1099511627776) ∧ (0 ≤ s ∧ s ≤ 1099511627776) ∧ 0 ≤ i then (if s = 0 then (if i ≤ 0 then 0 else 9) else if f + s * i ≤ 1099511627776 then 0 else 9) else 9
def At (f s i : Int) (w : World) (e : Ending) (w' : World) : Prop := e = .returned (.tuple #[.int .i64 (atV f s i), .int .i64 (atE f s i)]) ∧ Below w.heap.size w w'

set_option maxHeartbeats 1000000 in
theorem at_any (f s i : Int) (w : World) (hw : i ≤ 9223372036854775807) : Calls Try.prog 45 #[.int .i64 f, .int .i64 s, .int .i64 i] w (At f s i w) := by
  by_cases hf : 0 ≤ f ∧ f ≤ 1099511627776
  · have hF := checkV_ok hf
    by_cases hs : 0 ≤ s ∧ s ≤ 1099511627776
    · have hS := checkV_ok hs
      by_cases hi : 0 ≤ i
      · by_cases h0 : s = 0
        · have hne : (s == 0) = true := by simp; omega
          by_cases hi0 : i ≤ 0
          · have H : Hid (atV f s i = f ∧ atE f s i = 0) := Lib.hid (by subst h0; simp [atV, atE, hf, hi, hi0])
            clear h0
            obtain ⟨hf, hf2⟩ := hf
            obtain ⟨hs, hs2⟩ := hs
            go_enter Try.func45, Try.ntmps45
            go_wp2_with (first | (go_at_call 31; refine (check_any _ _).mono ?_; rintro e w' ⟨rfl, rfl⟩) | go_in)
            go_ret2
            exact ⟨ret_2 H.out, by go_grown⟩
          · have H : Hid (atV f s i = 0 ∧ atE f s i = 9) := Lib.hid (by subst h0; simp [atV, atE, hf, hi, hi0])
            clear h0
            obtain ⟨hf, hf2⟩ := hf
            obtain ⟨hs, hs2⟩ := hs
            go_enter Try.func45, Try.ntmps45
            go_wp2_with (first | (go_at_call 31; refine (check_any _ _).mono ?_; rintro e w' ⟨rfl, rfl⟩) | go_in)
            go_ret2
            exact ⟨ret_2 H.out, by go_grown⟩
        · have hne : (s == 0) = false := by simp; omega
          have hs1 : 1 ≤ s := by omega
          by_cases hb : i ≤ (1099511627776 - f) / s
          · have hp := le_div (by omega) hb
            have hp0 : 0 ≤ s * i := Int.mul_nonneg (by omega) hi
            have hsum : f + s * i ≤ 1099511627776 := by omega
            have H : Hid (atV f s i = f + s * i ∧ atE f s i = 0) := Lib.hid (by simp [atV, atE, hf, hs, hi, h0, hsum])
            clear h0
            obtain ⟨hf, hf2⟩ := hf
            obtain ⟨hs, hs2⟩ := hs
            go_enter Try.func45, Try.ntmps45
            go_wp2_with (first | (go_at_call 31; refine (check_any _ _).mono ?_; rintro e w' ⟨rfl, rfl⟩) | go_in)
            go_ret2
            exact ⟨ret_2 H.out, by go_grown⟩
          · have hsum : ¬ f + s * i ≤ 1099511627776 := by have := div_lt (by omega) hb; omega
            have H : Hid (atV f s i = 0 ∧ atE f s i = 9) := Lib.hid (by simp [atV, atE, hf, hs, hi, h0, hsum])
            clear h0 hsum
            obtain ⟨hf, hf2⟩ := hf
            obtain ⟨hs, hs2⟩ := hs
            go_enter Try.func45, Try.ntmps45
            go_wp2_with (first | (go_at_call 31; refine (check_any _ _).mono ?_; rintro e w' ⟨rfl, rfl⟩) | go_in)
            go_ret2
            exact ⟨ret_2 H.out, by go_grown⟩
      · have H : Hid (atV f s i = 0 ∧ atE f s i = 9) := Lib.hid (by simp [atV, atE, hi])
        obtain ⟨hf, hf2⟩ := hf
        obtain ⟨hs, hs2⟩ := hs
        go_enter Try.func45, Try.ntmps45
        go_wp2_with (go_at_call 31; refine (check_any _ _).mono ?_; rintro e w' ⟨rfl, rfl⟩)
        go_ret2
        exact ⟨ret_2 H.out, by go_grown⟩
    · have hS := checkV_bad hs
      have H : Hid (atV f s i = 0 ∧ atE f s i = 9) := Lib.hid (by constructor; (rw [atV, if_neg (fun h => hs h.2.1)]); (rw [atE, if_neg (fun h => hs h.2.1)]))
      clear hf hs
      go_enter Try.func45, Try.ntmps45
      go_wp2_with (go_at_call 31; refine (check_any _ _).mono ?_; rintro e w' ⟨rfl, rfl⟩)
      go_ret2
      exact ⟨ret_2 H.out, by go_grown⟩
  · have hF := checkV_bad hf
    have H : Hid (atV f s i = 0 ∧ atE f s i = 9) := Lib.hid (by constructor; (rw [atV, if_neg (fun h => hf h.1)]); (rw [atE, if_neg (fun h => hf h.1)]))
    clear hf
    go_enter Try.func45, Try.ntmps45
    go_wp2_with (go_at_call 31; refine (check_any _ _).mono ?_; rintro e w' ⟨rfl, rfl⟩)
    go_ret2
    exact ⟨ret_2 H.out, by go_grown⟩
end Go.Proofs.Ytejmfhmglbggnaa.Tk

