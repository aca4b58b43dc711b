/- Contracts of package tick, in the form that says that all that was there stands as it stood (Below): what Check, Is, Add, Sub, Mul, Count and At answer at any int64, each proved by walking its text. No conditions but that numbers are int64. -/
import Derived.Test.YtffddkbphdjehaaRows
import Derived.WalkKit
import Derived.ProofKit
import Derived.OpenShut
import Derived.Handy
import Derived.Lib.Hide
namespace Go.Proofs.Ytffddkbphdjehaa.Tk
open Go.ChangeShapes Go.WideShapes Go.ChangeAt Go.RowKit
set_option linter.unusedVariables false

theorem check_ok (t : Int) (w : World) (h0 : 0 ≤ t) (h1 : t ≤ 1099511627776) :
    Calls Try.prog 13 #[.int .i64 t] w fun e w' => e = .returned (.int .i64 0) ∧ w = w' := by
  go_enter Try.func13, Try.ntmps13
  go_wp2
  go_ret
  exact ⟨rfl, rfl⟩

theorem check_bad (t : Int) (w : World) (h : t < 0 ∨ 1099511627776 < t) :
    Calls Try.prog 13 #[.int .i64 t] w fun e w' => e = .returned (.int .i64 9) ∧ w = w' := by
  rcases h with h | h
  all_goals
    go_enter Try.func13, Try.ntmps13
    go_wp2
    go_ret
    exact ⟨rfl, rfl⟩
theorem ret_b {a b : Bool} (h : a = b) : Ending.returned (.bool b) = .returned (.bool a) := by rw [h]
theorem ret_2 {a b c d : Int} (h : a = c ∧ b = d) : Ending.returned (.tuple #[.int .i64 c, .int .i64 d]) = .returned (.tuple #[.int .i64 a, .int .i64 b]) := by rw [h.1, h.2]
def isTk (t : Int) : Prop := t = 4611686018427387904 ∨ (0 ≤ t ∧ t ≤ 1099511627776)
instance (t : Int) : Decidable (isTk t) := by unfold isTk; infer_instance
/-- what Is answers -/
def isB (t : Int) : Bool := decide (isTk t)
theorem isB_true {t : Int} (h : isTk t) : isB t = true := by simp [isB, h]
theorem isB_false {t : Int} (h : ¬ isTk t) : isB t = false := by simp [isB, h]
def checkV (t : Int) : Int := if 0 ≤ t ∧ t ≤ 1099511627776 then 0 else 9

theorem check_any (t : Int) (w : World) :
    Calls Try.prog 13 #[.int .i64 t] w fun e w' => e = .returned (.int .i64 (checkV t)) ∧ w = w' := by
  by_cases h0 : 0 ≤ t ∧ t ≤ 1099511627776
  · have H : Hid (checkV t = 0) := Lib.hid (by simp [checkV, h0])
    obtain ⟨h0, h1⟩ := h0
    refine (check_ok t w h0 h1).mono ?_
    rintro e w' ⟨rfl, rfl⟩
    exact ⟨by rw [H.out], rfl⟩
  · refine (check_bad t w (by omega)).mono ?_
    rintro e w' ⟨rfl, rfl⟩
    exact ⟨by rw [checkV, if_neg h0], rfl⟩

/-- what Add answers: its number and its error -/
def addV (a b : Int) : Int := if isTk a ∧ isTk b then (if a = 4611686018427387904 ∨ b = 4611686018427387904 then 4611686018427387904 else if a + b ≤ 1099511627776 then a + b else 0) else 0
def addE (a b : Int) : Int := if isTk a ∧ isTk b then (if a = 4611686018427387904 ∨ b = 4611686018427387904 then 0 else if a + b ≤ 1099511627776 then 0 else 9) else 9
def Add (a b : Int) (w : World) (e : Ending) (w' : World) : Prop := e = .returned (.tuple #[.int .i64 (addV a b), .int .i64 (addE a b)]) ∧ Below w.heap.size w w'

/-- what Sub answers -/
def subV (a b : Int) : Int := if isTk a ∧ isTk b ∧ b ≠ 4611686018427387904 then (if a = 4611686018427387904 then 4611686018427387904 else if b ≤ a then a - b else 0) else 0
def subE (a b : Int) : Int := if isTk a ∧ isTk b ∧ b ≠ 4611686018427387904 then (if a = 4611686018427387904 then 0 else if b ≤ a then 0 else 9) else 9
def Sub (a b : Int) (w : World) (e : Ending) (w' : World) : Prop := e = .returned (.tuple #[.int .i64 (subV a b), .int .i64 (subE a b)]) ∧ Below w.heap.size w w'

theorem le_div {a n m : Int} (ha : 0 < a) (h : n ≤ m / a) : a * n ≤ m := by
  have := (Int.le_ediv_iff_mul_le ha).1 h
  rw [Int.mul_comm]; exact this
theorem div_lt {a n m : Int} (ha : 0 < a) (h : ¬ n ≤ m / a) : m < a * n := by
  have h2 : ¬ n * a ≤ m := fun h' => h ((Int.le_ediv_iff_mul_le ha).2 h')
  rw [Int.mul_comm a n]; omega

/-- what Mul answers -/
def mulV (a n : Int) : Int := if isTk a ∧ 0 ≤ n then (if a = 0 ∨ n = 0 then 0 else if a = 4611686018427387904 then 4611686018427387904 else if a * n ≤ 1099511627776 then a * n else 0) else 0
def mulE (a n : Int) : Int := if isTk a ∧ 0 ≤ n then (if a = 0 ∨ n = 0 then 0 else if a = 4611686018427387904 then 0 else if a * n ≤ 1099511627776 then 0 else 9) else 9
def Mul (a b : Int) (w : World) (e : Ending) (w' : World) : Prop := e = .returned (.tuple #[.int .i64 (mulV a b), .int .i64 (mulE a b)]) ∧ Below w.heap.size w w'

/-- what Count answers -/
def countV (f s u : Int) : Int := if (0 ≤ f ∧ f ≤ 1099511627776) ∧ (0 ≤ s ∧ s ≤ 1099511627776) ∧ (0 ≤ u ∧ u ≤ 1099511627776) ∧ f ≤ u then (if s = 0 then 1 else (u - f) / s + 1) else 0

theorem ret_i {a b : Int} (h : a = b) : Ending.returned (.int .i64 b) = .returned (.int .i64 a) := by rw [h]
theorem checkV_ok {t : Int} (h : 0 ≤ t ∧ t ≤ 1099511627776) : checkV t = 0 := by simp [checkV, h]
theorem checkV_bad {t : Int} (h : ¬ (0 ≤ t ∧ t ≤ 1099511627776)) : checkV t = 9 := by rw [checkV, if_neg h]

end Go.Proofs.Ytffddkbphdjehaa.Tk
