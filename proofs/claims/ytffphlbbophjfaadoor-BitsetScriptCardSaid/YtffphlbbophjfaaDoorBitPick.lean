/- Pick answers the remainder from 0 on. -/
import Derived.Test.YtffphlbbophjfaaDoorBitKit
namespace Go.Proofs.YtffphlbbophjfaaDoor.Bs
open Go.ChangeShapes Go.WideShapes Go.ChangeAt Go.RowKit
set_option linter.unusedVariables false

/-- the remainder from 0 on -/
def pk (k m : Int) : Nat := (k % m).toNat
theorem pk_eq {k m : Int} (hm : 1 ≤ m) : k % m = (pk k m : Int) := by
  have := Int.emod_nonneg k (show m ≠ 0 by omega)
  unfold pk; omega
theorem pk_lt {k m : Int} (hm : 1 ≤ m) : (pk k m : Int) < m := by
  rw [← pk_eq hm]; exact Int.emod_lt_of_pos k (by omega)
theorem tmod_emod {k m : Int} (hm : 1 ≤ m) : k % m = if k.tmod m < 0 then k.tmod m + m else k.tmod m := by
  have h1 := Int.lt_tmod_of_pos k (show 0 < m by omega)
  have h2 := Int.tmod_lt_of_pos k (show 0 < m by omega)
  have h3 := Int.mul_tdiv_add_tmod k m
  split
  · have e : k = (k.tmod m + m) + m * (k.tdiv m - 1) := by rw [Int.mul_sub, Int.mul_one]; omega
    conv => lhs; rw [e]
    rw [Int.add_mul_emod_self_left, Int.emod_eq_of_lt (by omega) (by omega)]
  · have e : k = k.tmod m + m * k.tdiv m := by omega
    conv => lhs; rw [e]
    rw [Int.add_mul_emod_self_left, Int.emod_eq_of_lt (by omega) (by omega)]
def PkPost (r : Nat) (w : World) (e : Ending) (w' : World) : Prop := e = .returned (.int .i64 r) ∧ w = w'
theorem pk_mk {r : Nat} {x : Int} {w : World} (h : x = (r : Int)) : PkPost r w (.returned (.int .i64 x)) w := ⟨by rw [h], rfl⟩
theorem pick_eq (k m : Int) (w : World) (h0 : -9223372036854775808 ≤ k) (h1 : k ≤ 9223372036854775807) (hm0 : 1 ≤ m) (hm : m ≤ 1000000) :
    Calls Tryd.prog 19 #[.int .i64 k, .int .i64 m] w (PkPost (pk k m) w) := by
  have HE : Hid ((if k.tmod m < 0 then k.tmod m + m else k.tmod m) = (pk k m : Int)) := Lib.hid (by rw [← tmod_emod hm0, pk_eq hm0])
  by_cases hk : 0 ≤ k
  · have e : k % m = k.tmod m := by rw [Int.tmod_eq_emod_of_nonneg hk]
    have HE2 : Hid (k % m = (pk k m : Int)) := Lib.hid (pk_eq hm0)
    have H1 := Int.emod_nonneg k (show m ≠ 0 by omega)
    have H2 := Int.emod_lt_of_pos k (show 0 < m by omega)
    clear HE e
    go_enter Tryd.func19, Tryd.ntmps19
    go_wp2
    go_ret
    exact pk_mk HE2.out
  · have H1 : -m < k.tmod m := Int.lt_tmod_of_pos k (by omega)
    have H2 : k.tmod m < m := Int.tmod_lt_of_pos k (by omega)
    by_cases hneg : k.tmod m < 0
    · have HE2 : Hid (k.tmod m + m = (pk k m : Int)) := Lib.hid (by have := HE.out; rwa [if_pos hneg] at this)
      clear HE
      go_enter Tryd.func19, Tryd.ntmps19
      go_wp2
      go_ret
      exact pk_mk HE2.out
    · have HE2 : Hid (k.tmod m = (pk k m : Int)) := Lib.hid (by have := HE.out; rwa [if_neg hneg] at this)
      clear HE
      go_enter Tryd.func19, Tryd.ntmps19
      go_wp2
      go_ret
      exact pk_mk HE2.out
end Go.Proofs.YtffphlbbophjfaaDoor.Bs
