/- The rules of sets that the law BitsetRules asks: counts, joins with itself, the row found by Next. Plain lists and Booleans. -/
import Derived.Test.YtffphlbbophjfaaDoorBitKit
namespace Go.Proofs.YtffphlbbophjfaaDoor.Bs
set_option linter.unusedVariables false

theorem cnt_or_and (f g : Fs) (n : Nat) : cnt (fOr f g) n + cnt (fAnd f g) n = cnt f n + cnt g n := by
  induction n with
  | zero => rfl
  | succ n ih =>
    have e1 : fOr f g n = (f n || g n) := rfl
    have e2 : fAnd f g n = (f n && g n) := rfl
    cases hf : f n <;> cases hg : g n <;> rw [hf, hg] at e1 e2 <;> simp [cnt, e1, e2, hf, hg] <;> omega
theorem cnt_minus_and (f g : Fs) (n : Nat) : cnt (fMinus f g) n + cnt (fAnd f g) n = cnt f n := by
  induction n with
  | zero => rfl
  | succ n ih =>
    have e1 : fMinus f g n = (f n && !g n) := rfl
    have e2 : fAnd f g n = (f n && g n) := rfl
    cases hf : f n <;> cases hg : g n <;> rw [hf, hg] at e1 e2 <;> simp [cnt, e1, e2, hf] <;> omega
theorem cnt_empty (n : Nat) : cnt fEmpty n = 0 := by
  induction n with
  | zero => rfl
  | succ n ih => simp only [cnt, ih]; simp [fEmpty]
theorem minus_minus (f g : Fs) : fMinus f (fMinus f g) = fAnd f g := by funext i; simp only [fMinus, fAnd]; cases f i <;> cases g i <;> rfl
theorem minus_or_and (f g : Fs) : fOr (fMinus f g) (fAnd f g) = f := by funext i; simp only [fMinus, fAnd, fOr]; cases f i <;> cases g i <;> rfl
theorem or_self (f : Fs) : fOr f f = f := by funext i; simp only [fOr]; cases f i <;> rfl
theorem minus_self (f : Fs) : fMinus f f = fEmpty := by funext i; simp only [fMinus, fEmpty]; cases f i <;> rfl
theorem lst_prefix (f : Fs) {d n : Nat} (h : d ≤ n) : ∃ t, lst f n = lst f d ++ t := by
  obtain ⟨e, rfl⟩ := Nat.exists_eq_add_of_le h
  induction e with
  | zero => exact ⟨[], by simp⟩
  | succ e ih =>
    obtain ⟨t, ht⟩ := ih (by omega)
    rw [← Nat.add_assoc, lst]
    split
    · exact ⟨t ++ [((d + e : Nat) : Int)], by rw [ht, List.append_assoc]⟩
    · exact ⟨t, ht⟩
/-- number i of the row is what Next tells behind the i first ones -/
theorem lst_next {f : Fs} {n d i : Nat} (hd : d ≤ n) (hi : i = (lst f d).length) (hlt : i < (lst f n).length) : ∃ j : Nat, nxt f n d = (j : Int) ∧ j < n ∧ (lst f n).getD i 0 = (j : Int) ∧ i + 1 = (lst f (j + 1)).length := by
  rcases nxt_cases f n d with ⟨e, h1⟩ | ⟨j, e, h1, h2, h3, h4⟩
  · have := lst_skip f hd h1
    rw [this] at hlt; omega
  · have e1 := ls_step h1 h3 h4
    obtain ⟨t, ht⟩ := lst_prefix f (show j + 1 ≤ n by omega)
    refine ⟨j, e, h2, ?_, by rw [e1, List.length_append, ← hi]; rfl⟩
    rw [ht, e1, List.getD_eq_getElem?_getD, List.append_assoc, List.getElem?_append_right (by omega), hi]
    simp
theorem lst_done {f : Fs} {n d i : Nat} (hd : d ≤ n) (hi : i = (lst f d).length) (hge : (lst f n).length ≤ i) : nxt f n d = -1 := by
  rcases nxt_cases f n d with ⟨e, h1⟩ | ⟨j, e, h1, h2, h3, h4⟩
  · exact e
  · have e1 := ls_step h1 h3 h4
    obtain ⟨t, ht⟩ := lst_prefix f (show j + 1 ≤ n by omega)
    rw [ht, e1] at hge
    simp at hge
    omega
end Go.Proofs.YtffphlbbophjfaaDoor.Bs
