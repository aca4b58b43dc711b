/- Plain facts on what package tick answers, case by case; the chapter's examples hold (lives), at every world, in the form of Below. -/
import Derived.Test.YtoijfdcknigikaaDoorTickKeep
namespace Go.Proofs.YtoijfdcknigikaaDoor.Tk
open Go.ChangeShapes Go.WideShapes Go.ChangeAt Go.RowKit
set_option linter.unusedVariables false

theorem keep_trans {a b c : World} (h1 : Below a.heap.size a b) (h2 : Below b.heap.size b c) : Below a.heap.size a c :=
  h1.trans (h2.mono h1.size)

/-- a finite tick -/
def fin (t : Int) : Prop := 0 ≤ t ∧ t ≤ 1099511627776
theorem fin_tk {t : Int} (h : fin t) : isTk t := Or.inr h
theorem inf_tk : isTk 4611686018427387904 := Or.inl rfl
theorem fin_ne {t : Int} (h : fin t) : t ≠ 4611686018427387904 := by unfold fin at h; omega
theorem tk_cases (t : Int) : ¬ isTk t ∨ t = 4611686018427387904 ∨ fin t := by unfold isTk fin; omega
theorem ntk_ne {t : Int} (h : ¬ isTk t) : t ≠ 4611686018427387904 := fun e => h (Or.inl e)

theorem add_nl {a b : Int} (h : ¬ isTk a) : addV a b = 0 ∧ addE a b = 9 := by simp [addV, addE, h]
theorem add_nr {a b : Int} (h : ¬ isTk b) : addV a b = 0 ∧ addE a b = 9 := by simp [addV, addE, h]
theorem add_il {b : Int} (h : isTk b) : addV 4611686018427387904 b = 4611686018427387904 ∧ addE 4611686018427387904 b = 0 := by simp [addV, addE, h, inf_tk]
theorem add_ir {a : Int} (h : isTk a) : addV a 4611686018427387904 = 4611686018427387904 ∧ addE a 4611686018427387904 = 0 := by simp [addV, addE, h, inf_tk]
theorem add_ff {a b : Int} (ha : fin a) (hb : fin b) (h : a + b ≤ 1099511627776) : addV a b = a + b ∧ addE a b = 0 := by
  simp [addV, addE, fin_tk ha, fin_tk hb, fin_ne ha, fin_ne hb, h]
theorem add_fo {a b : Int} (ha : fin a) (hb : fin b) (h : ¬ a + b ≤ 1099511627776) : addV a b = 0 ∧ addE a b = 9 := by
  simp [addV, addE, fin_tk ha, fin_tk hb, fin_ne ha, fin_ne hb, h]
theorem sub_nl {a b : Int} (h : ¬ isTk a) : subV a b = 0 ∧ subE a b = 9 := by simp [subV, subE, h]
theorem sub_nr {a b : Int} (h : ¬ isTk b) : subV a b = 0 ∧ subE a b = 9 := by simp [subV, subE, h]
theorem sub_ir (a : Int) : subV a 4611686018427387904 = 0 ∧ subE a 4611686018427387904 = 9 := by simp [subV, subE]
theorem sub_il {b : Int} (h : fin b) : subV 4611686018427387904 b = 4611686018427387904 ∧ subE 4611686018427387904 b = 0 := by simp [subV, subE, fin_tk h, inf_tk, fin_ne h]
theorem sub_ff {a b : Int} (ha : fin a) (hb : fin b) (h : b ≤ a) : subV a b = a - b ∧ subE a b = 0 := by
  simp [subV, subE, fin_tk ha, fin_tk hb, fin_ne ha, fin_ne hb, h]
theorem sub_fo {a b : Int} (ha : fin a) (hb : fin b) (h : ¬ b ≤ a) : subV a b = 0 ∧ subE a b = 9 := by
  simp [subV, subE, fin_tk ha, fin_tk hb, fin_ne ha, fin_ne hb, h]
theorem isB_inf : isB 4611686018427387904 = true := isB_true inf_tk
theorem eq_f {a b : Int} (h : a ≠ b) : (a == b) = false := by simp [h]
theorem ne_t {a b : Int} (h : a ≠ b) : (a != b) = true := by simp [h]

theorem lives_any (w : World) : Calls Tryd.prog 10 #[] w fun e w' => e = .returned (.bool true) ∧ Below w.heap.size w w' := by
  have h1 : addV 4611686018427387904 3 = 4611686018427387904 := by decide
  have h2 : addE 4611686018427387904 3 = 0 := by decide
  have h3 : addE 1099511627776 1 = 9 := by decide
  have h5 : countV 5 10 25 = 3 := by decide
  have h6 : countV 5 0 25 = 1 := by decide
  go_enter Tryd.func10, Tryd.ntmps10
  go_wp2_with (first | (go_at_call 14; refine (add_any _ _ _).mono ?_; rintro e w' ⟨rfl, hg⟩) | (go_at_call 22; refine (count_any _ _ _ _).mono ?_; rintro e w' ⟨rfl, rfl⟩))
  go_ret
  exact ⟨rfl, by repeat (first | assumption | refine keep_trans ?_ (by assumption))⟩

theorem count_bad {f s u : Int} (h : ¬ (fin f ∧ fin s ∧ fin u)) : countV f s u = 0 := by
  unfold countV; rw [if_neg]; intro h'; exact h ⟨h'.1, h'.2.1, h'.2.2.1⟩
theorem count_none {f s u : Int} (h : ¬ f ≤ u) : countV f s u = 0 := by
  unfold countV; rw [if_neg]; intro h'; exact h h'.2.2.2
theorem count_one {f u : Int} (hf : fin f) (hu : fin u) (h : f ≤ u) : countV f 0 u = 1 := by
  unfold countV; unfold fin at hf hu; rw [if_pos ⟨hf, by omega, hu, h⟩, if_pos rfl]
theorem count_many {f s u : Int} (hf : fin f) (hs : fin s) (hu : fin u) (h : f ≤ u) (h0 : s ≠ 0) : countV f s u = (u - f) / s + 1 := by
  unfold countV; unfold fin at hf hs hu; rw [if_pos ⟨hf, hs, hu, h⟩, if_neg h0]
theorem at_neg {f s i : Int} (h : i < 0) : atV f s i = 0 ∧ atE f s i = 9 := by
  unfold atV atE; rw [if_neg (by omega), if_neg (by omega)]; exact ⟨rfl, rfl⟩
theorem at_nf {f s i : Int} (h : ¬ (fin f ∧ fin s)) : atV f s i = 0 ∧ atE f s i = 9 := by
  have h2 : ¬ ((0 ≤ f ∧ f ≤ 1099511627776) ∧ (0 ≤ s ∧ s ≤ 1099511627776) ∧ 0 ≤ i) := fun h' => h ⟨h'.1, h'.2.1⟩
  unfold atV atE; rw [if_neg h2, if_neg h2]; exact ⟨rfl, rfl⟩
theorem at_zero {f : Int} (hf : fin f) : atV f 0 0 = f ∧ atE f 0 0 = 0 := by
  unfold atV atE; unfold fin at hf; constructor <;> (rw [if_pos ⟨hf, by omega, by omega⟩, if_pos rfl]; simp)
theorem at_zero_pos {f i : Int} (hi : 0 < i) : atV f 0 i = 0 ∧ atE f 0 i = 9 := by
  unfold atV atE; constructor <;> (split; (rw [if_pos rfl, if_neg (by omega)]); rfl)
theorem at_yes {f s i : Int} (hf : fin f) (hs : fin s) (h0 : s ≠ 0) (hi : 0 ≤ i) (h : f + s * i ≤ 1099511627776) : atV f s i = f + s * i ∧ atE f s i = 0 := by
  unfold atV atE; unfold fin at hf hs; constructor <;> rw [if_pos ⟨hf, hs, hi⟩, if_neg h0, if_pos h]
theorem at_no {f s i : Int} (hf : fin f) (hs : fin s) (h0 : s ≠ 0) (hi : 0 ≤ i) (h : ¬ f + s * i ≤ 1099511627776) : atV f s i = 0 ∧ atE f s i = 9 := by
  unfold atV atE; unfold fin at hf hs; constructor <;> rw [if_pos ⟨hf, hs, hi⟩, if_neg h0, if_neg h]
theorem eq_t {a b : Int} (h : a = b) : (a == b) = true := by simp [h]
theorem ne_f {a b : Int} (h : a = b) : (a != b) = false := by simp [h]


def Good (w : World) (e : Ending) (w' : World) : Prop := e = .returned (.bool true) ∧ Below w.heap.size w w'
end Go.Proofs.YtoijfdcknigikaaDoor.Tk
