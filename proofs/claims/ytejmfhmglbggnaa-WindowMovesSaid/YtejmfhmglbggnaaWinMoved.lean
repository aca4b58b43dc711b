/- Windows moved by so many ticks: rows, sums, what is told of them. No conditions. -/
import Derived.Test.YtejmfhmglbggnaaWinMath
namespace Go.Proofs.Ytejmfhmglbggnaa.Wn

set_option linter.unusedVariables false
set_option linter.unusedSimpArgs false

/-- moved by so many ticks -/
def mv (d : Int) (l : List Win) : List Win := l.map fun w => (w.1 + d, w.2 + d)
theorem mv_length (d : Int) (l : List Win) : (mv d l).length = l.length := by simp [mv]
theorem mv_getD {d : Int} {l : List Win} {k : Nat} (hk : k < l.length) : (mv d l).getD k (0, 0) = ((l.getD k (0, 0)).1 + d, (l.getD k (0, 0)).2 + d) := by
  simp [mv, List.getD_eq_getElem?_getD, List.getElem?_eq_getElem hk]
theorem mv_jr (d : Int) (l : List Win) (c : Win) : jr (c.1 + d, c.2 + d) (mv d l) = mv d (jr c l) := by
  induction l generalizing c with
  | nil => rfl
  | cons w r ih =>
    show jr (c.1 + d, c.2 + d) ((w.1 + d, w.2 + d) :: mv d r) = _
    simp only [jr]
    by_cases h : w.1 ≤ c.2
    · rw [if_pos h, if_pos (by omega)]
      have e : max (c.2 + d) (w.2 + d) = max c.2 w.2 + d := by omega
      rw [e]
      exact ih (c.1, max c.2 w.2)
    · rw [if_neg h, if_neg (by omega), ih w]; rfl
theorem mv_jn (d : Int) (l : List Win) : jn (mv d l) = mv d (jn l) := by
  cases l with
  | nil => rfl
  | cons w r => rw [jn_cons]; show jn ((w.1 + d, w.2 + d) :: mv d r) = _; rw [jn_cons]; exact mv_jr d r w
theorem mv_ws (t : Tm) (d : Int) (n : Nat) : ws ⟨t.f + d, t.e, t.l⟩ n = mv d (ws t n) := by
  unfold ws mv
  rw [List.map_map]
  apply List.map_congr_left
  intro i _
  show (t.f + d + t.e * (i : Int), t.f + d + t.e * (i : Int) + t.l) = (t.f + t.e * (i : Int) + d, t.f + t.e * (i : Int) + t.l + d)
  congr 1 <;> omega
theorem mv_cn (t : Tm) (d h : Int) : cn ⟨t.f + d, t.e, t.l⟩ (h + d) = cn t h := by
  unfold cn
  dsimp only
  have e : h + d - (t.f + d) = h - t.f := by omega
  rw [e]
  by_cases h1 : t.f > h
  · rw [if_pos h1, if_pos (by omega)]
  · rw [if_neg h1, if_neg (by omega)]
theorem mv_sm (d : Int) (l : List Win) : sm (mv d l) = sm l := by
  induction l with
  | nil => rfl
  | cons w r ih => show sm ((w.1 + d, w.2 + d) :: mv d r) = _; rw [sm_cons, sm_cons, ih]; dsimp only; omega
theorem mv_bh (d x : Int) (l : List Win) : bh (x + d) (mv d l) = mv d (bh x l) := by
  induction l with
  | nil => rfl
  | cons w r ih =>
    show bh (x + d) ((w.1 + d, w.2 + d) :: mv d r) = _
    rw [bh_cons, bh_cons, ih]
    by_cases h : x < w.2
    · rw [if_pos h, if_pos (by show x + d < w.2 + d; omega)]; rfl
    · rw [if_neg h, if_neg (by show ¬ x + d < w.2 + d; omega)]
theorem mv_gpB (d n x : Int) (l : List Win) : gpB n (x + d) (mv d l) = gpB n x l + d := by
  induction l generalizing x with
  | nil => rfl
  | cons w r ih =>
    show gpB n (x + d) ((w.1 + d, w.2 + d) :: mv d r) = _
    simp only [gpB]
    by_cases h : n ≤ w.1 - x
    · rw [if_pos h, if_pos (by omega)]
    · rw [if_neg h, if_neg (by omega), ih]
theorem moves_err {t : Tm} {h d : Int} (d0 : 0 ≤ d) (d1 : d ≤ 549755813888) (hf : t.f ≤ 549755813888) (hh : h ≤ 549755813888) (f0 : 0 ≤ t.f) (h0 : 0 ≤ h) : we ⟨t.f + d, t.e, t.l⟩ (h + d) = we t h := by
  have ec : ck ⟨t.f + d, t.e, t.l⟩ = ck t := by
    unfold ck
    dsimp only
    by_cases hc : 1 ≤ t.l ∧ t.l ≤ 1099511627776 ∧ (t.e = 0 ∨ (t.l ≤ t.e ∧ t.e ≤ 1099511627776))
    · rw [if_pos ⟨by omega, by omega, hc⟩, if_pos ⟨by omega, by omega, hc⟩]
    · rw [if_neg (fun h => hc h.2.2), if_neg (fun h => hc h.2.2)]
  have e1 : tick (h + d) = true := (tick_iff _).2 ⟨by omega, by omega⟩
  have e2 : tick h = true := (tick_iff _).2 ⟨by omega, by omega⟩
  unfold we
  rw [ec, e1, e2, mv_cn]
theorem moves_row {t : Tm} {h d : Int} (e : we t h = 0) (e' : we ⟨t.f + d, t.e, t.l⟩ (h + d) = 0) : wn ⟨t.f + d, t.e, t.l⟩ (h + d) = mv d (wn t h) := by
  unfold wn
  rw [if_pos e, if_pos e', mv_cn, mv_ws, mv_jn]
theorem moves_math {a b : List Win} {d x n : Int} (hb : b = mv d a) (ga : good a = true) (gb : good b = true) (d0 : 0 ≤ d) (d1 : d ≤ 549755813888) (x0 : 0 ≤ x) (x1 : x ≤ 549755813888) (n0 : 0 ≤ n) (n1 : n ≤ 549755813888) :
    ((nx a x = 4611686018427387904 ∧ nx b (x + d) = 4611686018427387904) ∨ (nx a x ≤ 2199023255552 ∧ 0 ≤ nx a x ∧ nx b (x + d) = nx a x + d)) ∧ hs b (x + d) = hs a x ∧ gp b (x + d) n = gp a x n + d ∧ 0 ≤ gp a x n ∧ gp a x n ≤ 2199023255552 := by
  have tx : tick x = true := (tick_iff _).2 ⟨x0, by omega⟩
  have txd : tick (x + d) = true := (tick_iff _).2 ⟨by omega, by omega⟩
  have tn : tick n = true := (tick_iff _).2 ⟨n0, by omega⟩
  have ea : nx a x = nxB x (bh x a) := by unfold nx; rw [if_pos ⟨ga, tx⟩]
  have eb : nx b (x + d) = nxB (x + d) (mv d (bh x a)) := by unfold nx; rw [if_pos ⟨gb, txd⟩, hb, mv_bh]
  have N : (nx a x = 4611686018427387904 ∧ nx b (x + d) = 4611686018427387904) ∨ (nx a x ≤ 2199023255552 ∧ 0 ≤ nx a x ∧ nx b (x + d) = nx a x + d) := by
    rw [ea, eb]
    cases hq : bh x a with
    | nil => exact .inl ⟨rfl, rfl⟩
    | cons w r =>
      have hw := (good_gd ga).all w (bh_mem.1 (by rw [hq]; exact List.mem_cons_self ..)).1
      refine .inr ⟨by show max x w.1 ≤ _; omega, by show 0 ≤ max x w.1; omega, ?_⟩
      show max (x + d) (w.1 + d) = max x w.1 + d
      omega
  refine ⟨N, ?_, ?_, ?_, ?_⟩
  · unfold hs
    rw [tx, txd, Bool.true_and, Bool.true_and]
    apply decide_eq_decide.2
    rcases N with ⟨p, q⟩ | ⟨p, _, q⟩
    · rw [p, q]; omega
    · rw [q]; omega
  · have e1 : gp a x n = if n = 0 then x else gpB n x (bh x a) := by unfold gp; rw [if_pos ⟨ga, tx, tn⟩]
    have e2 : gp b (x + d) n = if n = 0 then x + d else gpB n (x + d) (mv d (bh x a)) := by unfold gp; rw [if_pos ⟨gb, txd, tn⟩, hb, mv_bh]
    rw [e1, e2]
    split
    · rfl
    · exact mv_gpB d n x _
  · unfold gp
    rw [if_pos ⟨ga, tx, tn⟩]
    split
    · exact x0
    · have := (gp_spec ga tx tn (by omega)).1
      unfold gp at this
      rw [if_pos ⟨ga, tx, tn⟩, if_neg (by assumption)] at this
      omega
  · unfold gp
    rw [if_pos ⟨ga, tx, tn⟩]
    split
    · omega
    · exact gpB_le _ _ (by omega) fun w hw => ((good_gd ga).all w (bh_mem.1 hw).1).2.2
end Go.Proofs.Ytejmfhmglbggnaa.Wn
