/- Times that may be, place by place; what is later. No conditions. -/
import Derived.Test.YtfefnfifeaihhaaGreatExH
set_option linter.unusedVariables false
set_option linter.unusedSimpArgs false
set_option maxHeartbeats 4000000
set_option maxRecDepth 100000
namespace Go.Proofs.YtfefnfifeaihhaaGreat.Wo
open Go.ChangeShapes Go.WideShapes Go.ChangeAt Go.RowKit Go.Maps
open Lx Sh
theorem rise_iff : ∀ (z : List (Int × Int)) (h M : Int), h ≤ M → ((∃ h', z.foldl rsF (some h) = some h' ∧ h' ≤ M) ↔ ((∀ (k : Nat) (x y : Int), z[k]? = some (x, y) → h < x ∧ x ≤ y ∧ y ≤ M) ∧ ∀ (k : Nat) (x y x' y' : Int), z[k]? = some (x, y) → z[k + 1]? = some (x', y') → y < x'))
  | [], h, M, hM => ⟨fun _ => ⟨fun k x y e => by simp at e, fun k x y x' y' e => by simp at e⟩, fun _ => ⟨h, rfl, hM⟩⟩
  | (x0, y0) :: z, h, M, hM => by
    rw [List.foldl_cons]
    by_cases hb : x0 ≤ h ∨ y0 < x0
    · rw [show rsF (some h) (x0, y0) = none by simp [rsF, hb], rsF_none]
      refine ⟨fun ⟨h', e, _⟩ => (by cases e), fun ⟨h1, _⟩ => ?_⟩
      have := h1 0 x0 y0 rfl
      omega
    · rw [show rsF (some h) (x0, y0) = some y0 by simp only [rsF, Option.bind_some, if_neg hb]]
      constructor
      · rintro ⟨h', e, hh⟩
        have ⟨g1, g2⟩ := rise_all z y0 h' e
        have ⟨i1, i2⟩ := (rise_iff z y0 M (by omega)).1 ⟨h', e, hh⟩
        refine ⟨fun k x y hk => ?_, fun k x y x' y' hk hk' => ?_⟩
        · cases k with
          | zero => simp at hk; obtain ⟨rfl, rfl⟩ := hk; omega
          | succ k => have := i1 k x y (by simpa using hk); omega
        · cases k with
          | zero => simp at hk; obtain ⟨rfl, rfl⟩ := hk; exact (i1 0 x' y' (by simpa using hk')).1
          | succ k => exact i2 k x y x' y' (by simpa using hk) (by simpa using hk')
      · rintro ⟨h1, h2⟩
        have h0 := h1 0 x0 y0 rfl
        exact (rise_iff z y0 M (by omega)).2 ⟨fun k x y hk => by
          have hh := h1 (k + 1) x y (by simpa using hk)
          refine ⟨?_, hh.2⟩
          cases k with
          | zero => exact h2 0 x0 y0 x y rfl (by simpa using hk)
          | succ k =>
            have hk0 : 0 < z.length := by have := (List.getElem?_eq_some_iff.1 hk).1; omega
            obtain ⟨q, hq⟩ : ∃ q, z[0]? = some q := ⟨_, List.getElem?_eq_getElem hk0⟩
            have hq1 := h2 0 x0 y0 q.1 q.2 rfl (by simpa using hq)
            have hup : ∀ (j : Nat) (p : Int × Int), z[j]? = some p → y0 < p.1 := by
              intro j
              induction j with
              | zero => intro p hp; rw [hq] at hp; injection hp with hp; subst hp; exact hq1
              | succ j ih =>
                intro p hp
                have hj : j < z.length := by have := (List.getElem?_eq_some_iff.1 hp).1; omega
                have hpj := List.getElem?_eq_getElem hj
                have a1 := ih _ hpj
                have a2 := h2 (j + 1) z[j].1 z[j].2 p.1 p.2 (show z[j]? = some z[j] from hpj) (show z[j + 1]? = some p from hp)
                have a3 := h1 (j + 1) z[j].1 z[j].2 (show z[j]? = some z[j] from hpj)
                omega
            exact hup (k + 1) (x, y) hk, fun k x y x' y' hk hk' => h2 (k + 1) x y x' y' (by simpa using hk) (by simpa using hk')⟩
/-- times that may be, place by place -/
def Tim (a d : List Int) : Prop := 2 ≤ a.length ∧ d.length = a.length ∧ a[0]? = d[0]? ∧ a[a.length - 1]? = d[a.length - 1]? ∧ (∀ (k : Nat) (x y : Int), a[k]? = some x → d[k]? = some y → 0 ≤ x ∧ x ≤ y ∧ y ≤ 1099511627776) ∧ ∀ (k : Nat) (x y : Int), d[k]? = some x → a[k + 1]? = some y → x < y
theorem zp_iff {a d : List Int} {k : Nat} {x y : Int} : (a.zip d)[k]? = some (x, y) ↔ a[k]? = some x ∧ d[k]? = some y := by rw [List.getElem?_zip_eq_some]
theorem tim_iff {a d : List Int} : timB a d = true ↔ Tim a d := by
  have key : riseB (riseZ (a.zip d)) = true ↔ ∃ h', (a.zip d).foldl rsF (some (-1)) = some h' ∧ h' ≤ 1099511627776 := by
    unfold riseZ riseB
    cases hz : (a.zip d).foldl rsF (some (-1)) with
    | none => simp
    | some h' => simp
  constructor
  · intro h
    obtain ⟨f1, f2, f3, f4, -, -⟩ := tim_facts h
    simp only [timB, Bool.and_eq_true] at h
    obtain ⟨g1, g2⟩ := (rise_iff _ _ _ (by omega)).1 (key.1 h.2.2.2.2)
    refine ⟨f1, f2, f3, f4, fun k x y hx hy => ?_, fun k x y hx hy => ?_⟩
    · have := g1 k x y (zp_iff.2 ⟨hx, hy⟩); omega
    · have l1 := (List.getElem?_eq_some_iff.1 hx).1
      have l2 := (List.getElem?_eq_some_iff.1 hy).1
      exact g2 k _ x y _ (zp_iff.2 ⟨List.getElem?_eq_getElem (by omega), hx⟩) (zp_iff.2 ⟨hy, List.getElem?_eq_getElem (by omega)⟩)
  · rintro ⟨f1, f2, f3, f4, f5, f6⟩
    have h5 : riseB (riseZ (a.zip d)) = true := key.2 ((rise_iff _ _ _ (by omega)).2 ⟨fun k x y hk => by
      obtain ⟨hx, hy⟩ := zp_iff.1 hk
      have := f5 k x y hx hy; omega, fun k x y x' y' hk hk' => f6 k y x' (zp_iff.1 hk).2 (zp_iff.1 hk').1⟩)
    simp only [timB, h5, Bool.and_true, Bool.and_eq_true, decide_eq_true_eq]
    exact ⟨f1, f2, by rw [f3], by rw [f4]⟩
/-- how much later each time comes -/
theorem laA_at (k : Nat) (b : Int) (a : List Int) (i : Nat) : (laA k b a)[i]? = (a[i]?).map (fun x => if k < i ∨ (i = 0 ∧ k = 0) then x + b else x) := by
  unfold laA
  cases hi : a[i]? with
  | none => split <;> rw [mvT_at, hi] <;> rfl
  | some y =>
    have := (List.getElem?_eq_some_iff.1 hi).1
    split <;> rw [mvT_at, hi] <;> simp only [Option.map_some, Option.some.injEq]
    · subst k
      rw [if_pos (by omega), if_pos (by omega)]
    · by_cases h : k < i
      · rw [if_pos (by omega), if_pos (.inl h)]
      · rw [if_neg (by omega), if_neg (by omega)]
theorem laD_at (k : Nat) (b : Int) (d : List Int) (i : Nat) : (mvT k (d.length - k) b d)[i]? = (d[i]?).map (fun x => if k ≤ i then x + b else x) := by
  rw [mvT_at]
  cases hi : d[i]? with
  | none => rfl
  | some y =>
    have := (List.getElem?_eq_some_iff.1 hi).1
    simp only [Option.map_some, Option.some.injEq]
    by_cases h : k ≤ i
    · rw [if_pos (by omega), if_pos h]
    · rw [if_neg (by omega), if_neg h]
theorem la_tim {a d : List Int} {k : Nat} {b z : Int} (h : Tim a d) (hk : k + 1 < a.length) (hb : 0 ≤ b) (hz : a[a.length - 1]? = some z) (hbz : b ≤ 1099511627776 - z) : Tim (laA k b a) (mvT k (d.length - k) b d) := by
  obtain ⟨f1, f2, f3, f4, f5, f6⟩ := h
  have hzd : d[a.length - 1]? = some z := f4 ▸ hz
  have hup : ∀ (j i : Nat) (y : Int), d[i]? = some y → i + j = a.length - 1 → y ≤ z := by
    intro j
    induction j with
    | zero =>
      intro i y hy e
      obtain rfl : i = a.length - 1 := by omega
      rw [hzd] at hy; injection hy with hy; omega
    | succ j ih =>
      intro i y hy e
      have g1 : i + 1 < a.length := by omega
      have hx := List.getElem?_eq_getElem (l := a) g1
      have hy' := List.getElem?_eq_getElem (l := d) (i := i + 1) (by omega)
      have a1 := f6 i y _ hy hx
      have a2 := f5 (i + 1) _ _ hx hy'
      have a3 := ih (i + 1) _ hy' (by omega)
      omega
  have hmax : ∀ (i : Nat) (y : Int), d[i]? = some y → y ≤ z := fun i y hy => hup (a.length - 1 - i) i y hy (by have := (List.getElem?_eq_some_iff.1 hy).1; omega)
  refine ⟨by rw [laA_len]; exact f1, by rw [mvT_len, laA_len]; exact f2, ?_, ?_, fun i x y hx hy => ?_, fun i x y hx hy => ?_⟩
  · rw [laA_at, laD_at, f3]
    congr 1
    funext x
    by_cases h : k = 0
    · subst h; simp
    · rw [if_neg (by omega), if_neg (by omega)]
  · rw [laA_len, laA_at, laD_at, hz, hzd, Option.map_some, Option.map_some, if_pos (by omega), if_pos (by omega)]
  · rw [laA_at] at hx
    rw [laD_at] at hy
    obtain ⟨x', hx', rfl⟩ := Option.map_eq_some_iff.1 hx
    obtain ⟨y', hy', rfl⟩ := Option.map_eq_some_iff.1 hy
    have g1 := f5 i x' y' hx' hy'
    have g2 := hmax i y' hy'
    have g0 : i = 0 → x' = y' := fun e => by subst e; rw [f3, hy'] at hx'; injection hx' with hx'; exact hx'.symm
    split <;> split <;> omega
  · rw [laD_at] at hx
    rw [laA_at] at hy
    obtain ⟨x', hx', rfl⟩ := Option.map_eq_some_iff.1 hx
    obtain ⟨y', hy', rfl⟩ := Option.map_eq_some_iff.1 hy
    have g1 := f6 i x' y' hx' hy'
    split <;> split <;> omega
end Go.Proofs.YtfefnfifeaihhaaGreat.Wo
