/- Package intern's calls: what each answers of a table as it lies, and what it changes; proved by walking their texts, and by the library's contracts. Conditions: the table lies as TabAt says; a name has at most as many bytes as a string can have. -/
import Derived.Test.YtceamidobdfhbaaInLives
import Derived.Test.YtceamidobdfhbaaShelf
import Derived.Carry
namespace Go.Proofs.Ytceamidobdfhbaa.It
open Go.ChangeShapes Go.WideShapes Go.ChangeAt Go.RowKit Go.Maps
open Lx Sh
set_option linter.unusedVariables false
set_option linter.unusedSimpArgs false

/-! ### many names, the ones that may be -/
def adds (L l : List Nm) : List Nm := l.foldl addL L
theorem adds_take (L l : List Nm) (i : Nat) (x : Nm) (h : l[i]? = some x) : adds L (l.take (i + 1)) = addL (adds L (l.take i)) x := by
  unfold adds
  rw [List.take_add_one, h, List.foldl_append]
  rfl
theorem adds_good {L : List Nm} (h : Good L) (l : List Nm) : Good (adds L l) := by
  induction l generalizing L with
  | nil => exact h
  | cons x r ih => exact ih (h.add x)
theorem addL_len (L : List Nm) (x : Nm) : (addL L x).length ≤ L.length + 1 := by
  unfold addL
  split
  · simp
  · omega
theorem adds_len (L l : List Nm) : (adds L l).length ≤ L.length + l.length := by
  induction l generalizing L with
  | nil => exact Nat.le_refl _
  | cons x r ih =>
    have h1 := ih (addL L x)
    have h2 := addL_len L x
    have e : adds L (x :: r) = adds (addL L x) r := rfl
    rw [e, List.length_cons]; omega
theorem addL_pre (L : List Nm) (x : Nm) : ∃ K, addL L x = L ++ K := by
  unfold addL
  split
  · exact ⟨_, rfl⟩
  · exact ⟨[], by simp⟩
theorem adds_pre (L l : List Nm) : ∃ K, adds L l = L ++ K := by
  induction l generalizing L with
  | nil => exact ⟨[], by simp [adds]⟩
  | cons x r ih =>
    obtain ⟨K1, h1⟩ := addL_pre L x
    obtain ⟨K2, h2⟩ := ih (addL L x)
    refine ⟨K1 ++ K2, ?_⟩
    have e : adds L (x :: r) = adds (addL L x) r := rfl
    rw [e, h2, h1, List.append_assoc]
theorem addL_mem {L : List Nm} {x y : Nm} (hl : L.length < 4096) : y ∈ addL L x ↔ y ∈ L ∨ (y = x ∧ nameB x = true) := by
  unfold addL
  rcases add_cases L x with ⟨h0, h1, h2, h3⟩ | ⟨h0, h1⟩ | ⟨h0, h1, h2⟩ | ⟨h0, h1, h2, h3⟩
  · rw [if_pos h0]; simp [h1]
  · rw [if_neg (by omega)]; simp [h1]
  · rw [if_neg (by omega)]
    constructor
    · exact .inl
    · rintro (h | ⟨rfl, -⟩)
      · exact h
      · exact h2
  · omega
theorem adds_mem (L l : List Nm) (hl : L.length + l.length ≤ 4096) (y : Nm) : y ∈ adds L l ↔ y ∈ L ∨ (y ∈ l ∧ nameB y = true) := by
  induction l generalizing L with
  | nil => simp [adds]
  | cons x r ih =>
    have e : adds L (x :: r) = adds (addL L x) r := rfl
    rw [List.length_cons] at hl
    have h2 := addL_len L x
    rw [e, ih (addL L x) (by omega), addL_mem (by omega), List.mem_cons]
    constructor
    · rintro ((h | ⟨rfl, h⟩) | ⟨h, k⟩)
      · exact .inl h
      · exact .inr ⟨.inl rfl, h⟩
      · exact .inr ⟨.inr h, k⟩
    · rintro (h | ⟨rfl | h, k⟩)
      · exact .inl (.inl h)
      · exact .inl (.inr ⟨rfl, k⟩)
      · exact .inr ⟨h, k⟩
theorem newE_good {L : List Nm} : ∀ l : List Nm, Good (L ++ l) → newE L l = 0 := by
  intro l
  induction l generalizing L with
  | nil => intro _; rfl
  | cons x r ih =>
    intro h
    have hx : addE L x = 0 := by
      have h1 := h.1
      rw [List.nodup_append] at h1
      have h2 : x ∉ L := fun hx => h1.2.2 x hx x (by simp) rfl
      have h3 : nameB x = true := h.2.1 x (by simp)
      have h4 := h.2.2
      rw [List.length_append, List.length_cons] at h4
      unfold addE
      rw [h3, if_neg (by simp), if_neg h2, if_neg (by omega)]
    have e1 : newE L (x :: r) = if addE L x = 0 then newE (L ++ [x]) r else addE L x := rfl
    rw [e1, if_pos hx]
    exact ih (by rw [List.append_assoc]; exact h)
theorem newE_self {L : List Nm} (h : Good L) : newE [] L = 0 := newE_good L h
theorem perm_of {L K : List Nm} (hL : L.Nodup) (hK : K.Nodup) (h : ∀ y, y ∈ L ↔ y ∈ K) : L.Perm K := (List.perm_ext_iff_of_nodup hL hK).2 h
/-- turned about: from place b on, then the first b -/
def rot (b : Nat) (l : List Nm) : List Nm := l.drop b ++ l.take b
theorem rot_perm (b : Nat) (l : List Nm) : (rot b l).Perm l := by
  unfold rot
  exact List.perm_append_comm.trans (by rw [List.take_append_drop])
theorem rot_at {b : Nat} {l : List Nm} (hb : b ≤ l.length) {i : Nat} (hi : i < l.length) : (rot b l)[i]? = l[(i + b) % l.length]? := by
  unfold rot
  rw [List.getElem?_append, List.length_drop]
  split
  · rw [List.getElem?_drop, Nat.mod_eq_of_lt (by omega), Nat.add_comm]
  · rw [List.getElem?_take]
    have e : (i + b) % l.length = i - (l.length - b) := by
      rcases Nat.lt_or_ge (i + b) l.length with h | h
      · omega
      · rw [Nat.mod_eq_sub_mod h, Nat.mod_eq_of_lt (by omega)]; omega
    rw [e, if_pos (by omega)]
theorem rot_len (b : Nat) (l : List Nm) : (rot b l).length = l.length := (rot_perm b l).length_eq
theorem adds_rot {l : List Nm} (b : Nat) (hl : l.length ≤ 150) : (adds [] l).Perm (adds [] (rot b l)) := by
  refine perm_of (adds_good good_nil l).1 (adds_good good_nil _).1 (fun y => ?_)
  rw [adds_mem _ _ (by simp; omega), adds_mem _ _ (by rw [rot_len]; simp; omega), (rot_perm b l).mem_iff]
end Go.Proofs.Ytceamidobdfhbaa.It
