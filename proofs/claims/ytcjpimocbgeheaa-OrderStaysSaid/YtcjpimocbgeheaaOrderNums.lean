/- Plain lists of numbers: sorted, each once, searched. -/
import Derived.Test.YtcjpimocbgeheaaOrderLex
namespace Go.Proofs.Ytcjpimocbgeheaa.Od
set_option linter.unusedVariables false

theorem getD_get (l : List Int) (i : Nat) (h : i < l.length) : l.getD i 0 = l[i] := by simp [List.getD_eq_getElem?_getD, List.getElem?_eq_getElem h]
theorem nf_of {l : List Int} (h : l.Pairwise (· ≤ ·)) : nf l = true := by
  rw [nf_iff]
  intro i h0 hl
  rw [getD_get _ _ hl, getD_get _ _ (by omega)]
  exact List.pairwise_iff_getElem.1 h (i - 1) i (by omega) hl (by omega)
theorem rs_of {l : List Int} (h : l.Pairwise (· < ·)) : rs l = true := by
  rw [rs_iff]
  intro i h0 hl
  rw [getD_get _ _ hl, getD_get _ _ (by omega)]
  exact List.pairwise_iff_getElem.1 h (i - 1) i (by omega) hl (by omega)
theorem sv_nf (zs : List Int) : nf (sv zs) = true := by
  refine nf_of ?_
  unfold sv
  rw [List.pairwise_map]
  exact (kz_lex zs).imp (fun {a b} h => by unfold lexLt at h; omega)
/-- the number at the place that Perm tells -/
theorem sv_pm (zs : List Int) (i : Nat) (h : i < zs.length) : ∃ q : Nat, (pm zs).getD i 0 = (q : Int) ∧ q < zs.length ∧ (sv zs).getD i 0 = zs.getD q 0 := by
  have hl : i < (srt (kz zs)).length := by rw [srt_length, kz_length]; exact h
  have hm : (srt (kz zs))[i] ∈ kz zs := (srt_perm _).mem_iff.1 (List.getElem_mem hl)
  unfold kz kzF at hm
  obtain ⟨q, hq, e⟩ := List.mem_map.1 hm
  refine ⟨q, ?_, by simpa using hq, ?_⟩
  · rw [getD_get _ _ (by rw [pm_length]; exact h)]
    unfold pm
    rw [List.getElem_map]
    have := congrArg Prod.snd e
    exact this.symm
  · rw [getD_get _ _ (by rw [sv_length]; exact h)]
    unfold sv
    rw [List.getElem_map]
    have := congrArg Prod.fst e
    exact this.symm

theorem cpF_mem {s : List Int} {k : Nat} (hk : k ≤ s.length) : ∀ i, i < k → s.getD i 0 ∈ cpF s k := by
  induction k with
  | zero => intro i hi; omega
  | succ k ih =>
    intro i hi
    by_cases hd : k ≠ 0 ∧ s.getD k 0 = s.getD (k - 1) 0
    · rw [cpF_dup (by omega) hd.2]
      by_cases e : i = k
      · subst e; rw [hd.2]; exact ih (by omega) _ (by omega)
      · exact ih (by omega) i (by omega)
    · have e1 : cpF s (k + 1) = cpF s k ++ [s.getD k 0] := by conv => lhs; unfold cpF
                                                              rw [if_neg hd]
      rw [e1]
      by_cases e : i = k
      · subst e; simp
      · exact List.mem_append_left _ (ih (by omega) i (by omega))
theorem cpF_of {s : List Int} {k : Nat} (hk : k ≤ s.length) : ∀ x ∈ cpF s k, ∃ i, i < k ∧ x = s.getD i 0 := by
  induction k with
  | zero => intro x hx; simp [cpF] at hx
  | succ k ih =>
    intro x hx
    by_cases hd : k ≠ 0 ∧ s.getD k 0 = s.getD (k - 1) 0
    · rw [cpF_dup (by omega) hd.2] at hx
      obtain ⟨i, hi, e⟩ := ih (by omega) x hx
      exact ⟨i, by omega, e⟩
    · have e1 : cpF s (k + 1) = cpF s k ++ [s.getD k 0] := by conv => lhs; unfold cpF
                                                              rw [if_neg hd]
      rw [e1] at hx
      rcases List.mem_append.1 hx with h | h
      · obtain ⟨i, hi, e⟩ := ih (by omega) x h
        exact ⟨i, by omega, e⟩
      · exact ⟨k, by omega, by simpa using h⟩
theorem cpF_rise {s : List Int} (hs : nf s = true) {k : Nat} (hk : k ≤ s.length) : (cpF s k).Pairwise (· < ·) := by
  induction k with
  | zero => simp [cpF]
  | succ k ih =>
    by_cases hd : k ≠ 0 ∧ s.getD k 0 = s.getD (k - 1) 0
    · rw [cpF_dup (by omega) hd.2]; exact ih (by omega)
    · have e1 : cpF s (k + 1) = cpF s k ++ [s.getD k 0] := by conv => lhs; unfold cpF
                                                              rw [if_neg hd]
      rw [e1, List.pairwise_append]
      refine ⟨ih (by omega), by simp, fun a ha b hb => ?_⟩
      obtain ⟨i, hi, rfl⟩ := cpF_of (by omega) a ha
      have hb' : b = s.getD k 0 := by simpa using hb
      subst hb'
      have h1 := nf_mono hs (i := i) (j := k - 1) (by omega) (by omega)
      have h2 := nf_mono hs (i := k - 1) (j := k) (by omega) (by omega)
      have h3 : s.getD k 0 ≠ s.getD (k - 1) 0 := fun e => hd ⟨by omega, e⟩
      omega
theorem cpF_full {s : List Int} {k : Nat} (h : ∀ i, 0 < i → i < k → s.getD i 0 ≠ s.getD (i - 1) 0) : (cpF s k).length = k := by
  induction k with
  | zero => rfl
  | succ k ih =>
    have e1 : cpF s (k + 1) = cpF s k ++ [s.getD k 0] := by
      conv => lhs; unfold cpF
      rw [if_neg (fun e => h k (by omega) (by omega) e.2)]
    rw [e1, List.length_append, ih (fun i h0 h1 => h i h0 (by omega))]; rfl
theorem cpF_short {s : List Int} {k i : Nat} (h0 : 0 < i) (hi : i < k) (h : s.getD i 0 = s.getD (i - 1) 0) : (cpF s k).length < k := by
  induction k with
  | zero => omega
  | succ k ih =>
    by_cases e : i = k
    · subst e
      rw [cpF_dup h0 h]
      have := cpF_le s i
      omega
    · have := ih (by omega)
      conv => lhs; unfold cpF
      split
      · omega
      · simp; omega
theorem rs_cpF {s : List Int} (hs : nf s = true) : rs s = decide ((cpF s s.length).length = s.length) := by
  by_cases h : rs s = true
  · rw [h]
    have := (rs_iff s).1 h
    symm
    rw [decide_eq_true_eq]
    exact cpF_full (fun i h0 hl e => by have := this i h0 hl; omega)
  · have h' : rs s = false := by simpa using h
    rw [h']
    symm
    rw [decide_eq_false_iff_not]
    intro e
    refine h ((rs_iff s).2 (fun i h0 hl => ?_))
    have h1 := (nf_iff s).1 hs i h0 hl
    by_cases e2 : s.getD i 0 = s.getD (i - 1) 0
    · have := cpF_short h0 hl e2
      omega
    · omega

/-- where one searches -/
theorem place_low {s : List Int} (hs : nf s = true) (x : Int) : ∃ a : Nat, placeS (lowB x) s = (a : Int) ∧ a ≤ s.length ∧ (∀ i, i < s.length → (s.getD i 0 < x ↔ i < a)) := by
  have hle : s.findIdx (lowB x) ≤ s.length := List.findIdx_le_length
  refine ⟨s.findIdx (lowB x), by simp [placeS, hs], hle, fun i hi => ?_⟩
  constructor
  · intro h
    rcases Nat.lt_or_ge i (s.findIdx (lowB x)) with h1 | h1
    · exact h1
    · have hf : s.findIdx (lowB x) < s.length := by omega
      have h2 := List.findIdx_getElem (w := hf)
      have h3 := nf_mono hs h1 hi
      rw [getD_get _ _ hf] at h3
      simp only [lowB, decide_eq_true_eq] at h2
      omega
  · intro h
    have h2 := List.not_of_lt_findIdx h
    rw [getD_get _ _ hi]
    simp only [lowB, decide_eq_false_iff_not] at h2
    omega
theorem place_up {s : List Int} (hs : nf s = true) (x : Int) : ∃ b : Nat, placeS (upB x) s = (b : Int) ∧ b ≤ s.length ∧ (∀ i, i < s.length → (x < s.getD i 0 ↔ b ≤ i)) := by
  have hle : s.findIdx (upB x) ≤ s.length := List.findIdx_le_length
  refine ⟨s.findIdx (upB x), by simp [placeS, hs], hle, fun i hi => ?_⟩
  constructor
  · intro h
    rcases Nat.lt_or_ge i (s.findIdx (upB x)) with h1 | h1
    · have h2 := List.not_of_lt_findIdx h1
      rw [getD_get _ _ hi] at h
      simp only [upB, decide_eq_false_iff_not] at h2
      omega
    · exact h1
  · intro h1
    have hf : s.findIdx (upB x) < s.length := by omega
    have h2 := List.findIdx_getElem (w := hf)
    have h3 := nf_mono hs h1 hi
    rw [getD_get _ _ hf] at h3
    simp only [upB, decide_eq_true_eq] at h2
    omega
theorem low_up_le {s : List Int} {x : Int} {a b : Nat} (hb : b ≤ s.length) (h1 : ∀ i, i < s.length → (s.getD i 0 < x ↔ i < a)) (h2 : ∀ i, i < s.length → (x < s.getD i 0 ↔ b ≤ i)) (ha : a ≤ s.length) : a ≤ b := by
  rcases Nat.lt_or_ge b a with h | h
  · have h3 := (h2 b (by omega)).2 (Nat.le_refl _)
    have h4 := (h1 b (by omega)).2 h
    omega
  · exact h
theorem place_in {u : List Int} (hu : u.Pairwise (· < ·)) {y : Int} (hy : y ∈ u) : ∃ k : Nat, placeS (lowB y) u = (k : Int) ∧ k < u.length ∧ u.getD k 0 = y := by
  have hn : nf u = true := nf_of (hu.imp (fun {a b} h => by omega))
  obtain ⟨a, e, hle, h⟩ := place_low hn y
  obtain ⟨j, hj, ej⟩ := List.getElem_of_mem hy
  have hja : ¬ j < a := fun h1 => by
    have := (h j hj).2 h1
    rw [getD_get _ _ hj, ej] at this; omega
  have hal : a < u.length := by omega
  refine ⟨a, e, hal, ?_⟩
  have h1 : ¬ u.getD a 0 < y := fun h2 => by have := (h a hal).1 h2; omega
  have h2 := nf_mono hn (i := a) (j := j) (by omega) hj
  rw [getD_get _ _ hj, ej] at h2
  omega
end Go.Proofs.Ytcjpimocbgeheaa.Od
