/- Plain lists: keys put in one by one, each behind all that are not above it, are what halves sorted and merged are; bottom up too. -/
import Derived.Test.YtcjpimocbgeheaaOrderPass
namespace Go.Proofs.Ytcjpimocbgeheaa.Od
set_option linter.unusedVariables false

/-- x put in behind all that are not above it -/
def ins (x : Key) : List Key → List Key
  | [] => [x]
  | y :: t => if x.1 < y.1 then x :: y :: t else y :: ins x t
/-- sorted; what is the same as it stood -/
def srt (l : List Key) : List Key := l.foldl (fun s x => ins x s) []

theorem ins_length (x : Key) (s : List Key) : (ins x s).length = s.length + 1 := by
  induction s with
  | nil => rfl
  | cons y t ih => unfold ins; split <;> simp [ih]
theorem mg_ins (x : Key) (s t : List Key) : mg s (ins x t) = ins x (mg s t) := by
  induction s, t using mg.induct with
  | case1 t => rw [mg_nil_l, mg_nil_l]
  | case2 a s =>
    rw [mg_nil_r]
    show mg (a :: s) [x] = _
    by_cases h : x.1 < a.1
    · rw [mg_lt h, mg_nil_r]; unfold ins; rw [if_pos h]
    · rw [mg_ge h]; conv => rhs; unfold ins; rw [if_neg h]
      congr 1
      clear h
      induction s with
      | nil => rw [mg_nil_l]; rfl
      | cons b s ih =>
        by_cases h : x.1 < b.1
        · rw [mg_lt h, mg_nil_r]; unfold ins; rw [if_pos h]
        · rw [mg_ge h]; conv => rhs; unfold ins; rw [if_neg h]
          rw [ih]
  | case3 a s b t h ih =>
    by_cases hx : x.1 < b.1
    · have hxa : x.1 < a.1 := by omega
      conv => lhs; arg 2; unfold ins; rw [if_pos hx]
      rw [mg_lt hxa, mg_lt h]
      conv => rhs; unfold ins; rw [if_pos hx]
    · conv => lhs; arg 2; unfold ins; rw [if_neg hx]
      rw [mg_lt h, mg_lt h]
      conv => rhs; unfold ins; rw [if_neg hx]
      rw [ih]
  | case4 a s b t h ih =>
    by_cases hx : x.1 < b.1
    · conv => lhs; arg 2; unfold ins; rw [if_pos hx]
      by_cases hxa : x.1 < a.1
      · rw [mg_lt hxa, mg_ge h]
        conv => rhs; unfold ins; rw [if_pos hxa]
      · rw [mg_ge hxa, mg_ge h]
        conv => rhs; unfold ins; rw [if_neg hxa]
        rw [← ih]; conv => rhs; arg 2; arg 2; unfold ins; rw [if_pos hx]
    · have hxa : ¬ x.1 < a.1 := by omega
      conv => lhs; arg 2; unfold ins; rw [if_neg hx]
      rw [mg_ge h, mg_ge h]
      conv => rhs; unfold ins; rw [if_neg hxa]
      rw [← ih]
      conv => rhs; arg 2; unfold ins; rw [if_neg hx]
theorem mg_fold (s : List Key) (b : List Key) : ∀ t, mg s (b.foldl (fun s x => ins x s) t) = b.foldl (fun s x => ins x s) (mg s t) := by
  induction b with
  | nil => intro t; rfl
  | cons x b ih => intro t; simp only [List.foldl_cons]; rw [ih, mg_ins]
theorem mg_srt (a b : List Key) : mg (srt a) (srt b) = srt (a ++ b) := by
  unfold srt
  rw [mg_fold, mg_nil_r, List.foldl_append]
theorem srt_snoc (l : List Key) (x : Key) : srt (l ++ [x]) = ins x (srt l) := by simp [srt, List.foldl_append]
theorem fold_length (b : List Key) : ∀ t, (b.foldl (fun s x => ins x s) t).length = t.length + b.length := by
  induction b with
  | nil => intro t; simp
  | cons x b ih => intro t; simp only [List.foldl_cons, ih, ins_length, List.length_cons]; omega
theorem srt_length (l : List Key) : (srt l).length = l.length := by simp [srt, fold_length]
theorem srt_nil : srt [] = [] := rfl

/-- so many keys at a time, sorted -/
def chK (s : Nat) (l : List Key) : List Key := if h : 0 < s ∧ l ≠ [] then srt (l.take s) ++ chK s (l.drop s) else []
termination_by l.length
decreasing_by
  have : 0 < l.length := List.length_pos_iff.2 h.2
  simp; omega
theorem chK_nil (s : Nat) : chK s [] = [] := by unfold chK; simp
theorem chK_step {s : Nat} {l : List Key} (hs : 0 < s) (hl : l ≠ []) : chK s l = srt (l.take s) ++ chK s (l.drop s) := by rw [chK, dif_pos ⟨hs, hl⟩]
theorem chK_all {s : Nat} {l : List Key} (hs : 0 < s) (h : l.length ≤ s) : chK s l = srt l := by
  by_cases hl : l = []
  · subst hl; rw [chK_nil]; rfl
  · rw [chK_step hs hl, List.take_of_length_le h, List.drop_eq_nil_of_le h, chK_nil, List.append_nil]
theorem chK_take {s : Nat} (hs : 0 < s) (l : List Key) : (chK s l).take s = srt (l.take s) := by
  by_cases h : l.length ≤ s
  · rw [chK_all hs h, List.take_of_length_le h, List.take_of_length_le (by rw [srt_length]; exact h)]
  · rw [chK_step hs (fun e => by subst e; simp at h), List.take_left' (by rw [srt_length]; simp; omega)]
theorem chK_drop {s : Nat} (hs : 0 < s) (l : List Key) : (chK s l).drop s = chK s (l.drop s) := by
  by_cases h : l.length ≤ s
  · rw [chK_all hs h, List.drop_eq_nil_of_le h, chK_nil, List.drop_eq_nil_of_le (by rw [srt_length]; exact h)]
  · rw [chK_step hs (fun e => by subst e; simp at h), List.drop_left' (by rw [srt_length]; simp; omega)]
theorem chK_length {s : Nat} (hs : 0 < s) (l : List Key) : (chK s l).length = l.length := by
  induction hl : l.length using Nat.strongRecOn generalizing l with
  | _ n ih =>
    by_cases hm : l = []
    · subst hm; rw [chK_nil]; simpa using hl
    · have hp : 0 < l.length := List.length_pos_iff.2 hm
      rw [chK_step hs hm, List.length_append, srt_length, ih (l.drop s).length (by simp; omega) _ rfl]
      simp; omega
theorem chK_one (l : List Key) : chK 1 l = l := by
  induction l with
  | nil => exact chK_nil 1
  | cons x l ih => rw [chK_step (by omega) (by simp)]; simp [ih, srt, ins]
theorem psK_chK {s : Nat} (hs : 0 < s) (l : List Key) : psK s (chK s l) = chK (2 * s) l := by
  induction hl : l.length using Nat.strongRecOn generalizing l with
  | _ n ih =>
    by_cases hm : l = []
    · subst hm; rw [chK_nil, chK_nil, psK_nil]
    · have hp : 0 < l.length := List.length_pos_iff.2 hm
      have hne : chK s l ≠ [] := fun e => by have := chK_length hs l; rw [e] at this; simp at this; omega
      have e2 : (chK s l).drop (2 * s) = chK s (l.drop (2 * s)) := by
        have : 2 * s = s + s := by omega
        rw [this, ← List.drop_drop, chK_drop hs, chK_drop hs, List.drop_drop]
      rw [psK_step hs hne, chK_take hs, chK_drop hs, chK_take hs, mg_srt, e2, ih (l.drop (2 * s)).length (by simp; omega) _ rfl, chK_step (s := 2 * s) (by omega) hm]
      congr 2
      have : 2 * s = s + s := by omega
      rw [this, List.take_add]
end Go.Proofs.Ytcjpimocbgeheaa.Od
