/- Plain facts: tokens with blanks of whatever kind ahead of each, and a remark at the end of each line, are cut into the like. Imports no program. -/
import Derived.Test.YtgcphhialllieaaDoorLexGood
namespace Go.Proofs.YtgcphhialllieaaDoor.Lx
open Tk

/-- a gap: a blank, and blanks by the bytes of a text -/
def gapOf (gs : List (List UInt8)) (i : Nat) : List UInt8 := 32 :: (match gs[i]? with
  | none => []
  | Option.some x => if x.length ≤ 30 then x.map (fun c => if c.toNat % 2 = 0 then 32 else 9) else [])
def remB : List UInt8 := [35, 32, 120, 32, 48, 48, 55, 32, 65, 10, 10]
def rendB (g : Nat → List UInt8) : Nat → List Tok → List UInt8
  | _, [] => []
  | i, t :: r => g i ++ (if t.kind = 4 then remB else t.text) ++ rendB g (i + 1) r
theorem gap_blank (gs : List (List UInt8)) (i : Nat) : ∀ c ∈ gapOf gs i, kindOf c = 2 := by
  intro c hc
  unfold gapOf at hc
  rcases List.mem_cons.1 hc with rfl | hc
  · decide
  · split at hc
    · cases hc
    · split at hc
      · obtain ⟨d, _, rfl⟩ := List.mem_map.1 hc
        split <;> decide
      · cases hc
theorem gap_len (gs : List (List UInt8)) (i : Nat) : (gapOf gs i).length ≤ 31 := by
  unfold gapOf
  rw [List.length_cons]
  split
  · simp
  · split
    · simp; omega
    · simp
theorem gap_ne (gs : List (List UInt8)) (i : Nat) : ∃ r, gapOf gs i = 32 :: r := ⟨_, rfl⟩
theorem lex_gap : ∀ (x : List UInt8), (∀ c ∈ x, kindOf c = 2) → ∀ (q : List UInt8) (line col : Nat) (sm : Bool), lex (x ++ q) line col sm = lex q line (col + x.length) sm := by
  intro x
  induction x with
  | nil => intro _ q line col sm; rfl
  | cons c r ih =>
    intro h q line col sm
    rw [List.cons_append, lex_bl (h c List.mem_cons_self), ih (fun d hd => h d (List.mem_cons_of_mem _ hd)), List.length_cons]
    congr 1; omega
theorem lex_rem (q : List UInt8) (line col : Nat) : ∃ l2, lex (remB ++ q) line col true = (lex q l2 1 false).cons (endT line (col + 9)) := by
  refine ⟨line + 2, ?_⟩
  show lex (35 :: (32 :: 120 :: 32 :: 48 :: 48 :: 55 :: 32 :: 65 :: 10 :: 10 :: q)) line col true = _
  rw [lex_hash (by decide)]
  have hd : (32 :: 120 :: 32 :: 48 :: 48 :: 55 :: 32 :: 65 :: 10 :: 10 :: q : List UInt8).dropWhile inLine = 10 :: 10 :: q := by
    rw [List.dropWhile_cons_of_pos (by decide), List.dropWhile_cons_of_pos (by decide), List.dropWhile_cons_of_pos (by decide), List.dropWhile_cons_of_pos (by decide), List.dropWhile_cons_of_pos (by decide), List.dropWhile_cons_of_pos (by decide), List.dropWhile_cons_of_pos (by decide), List.dropWhile_cons_of_pos (by decide), List.dropWhile_cons_of_neg (by decide)]
  have ht : (32 :: 120 :: 32 :: 48 :: 48 :: 55 :: 32 :: 65 :: 10 :: 10 :: q : List UInt8).takeWhile inLine = [32, 120, 32, 48, 48, 55, 32, 65] := by
    rw [List.takeWhile_cons_of_pos (by decide), List.takeWhile_cons_of_pos (by decide), List.takeWhile_cons_of_pos (by decide), List.takeWhile_cons_of_pos (by decide), List.takeWhile_cons_of_pos (by decide), List.takeWhile_cons_of_pos (by decide), List.takeWhile_cons_of_pos (by decide), List.takeWhile_cons_of_pos (by decide), List.takeWhile_cons_of_neg (by decide)]
  rw [hd, ht, lex_nl k10, if_pos rfl, lex_nl k10, if_neg (by decide)]
  rfl
theorem free_rend {gs : List (List UInt8)} {i : Nat} {l : List Tok} (h : l ≠ []) : free (rendB (gapOf gs) i l) := by
  cases l with
  | nil => exact absurd rfl h
  | cons t r =>
    obtain ⟨x, hx⟩ := gap_ne gs i
    have e : rendB (gapOf gs) i (t :: r) = 32 :: (x ++ (if t.kind = 4 then remB else t.text) ++ rendB (gapOf gs) (i + 1) r) := by simp [rendB, hx]
    rw [e]; refine ⟨?_, ?_, ?_⟩ <;> simp [nextK, k32]
theorem rend_good (gs : List (List UInt8)) : ∀ (l : List Tok) (b : Bool), good b l → ∀ (i line col : Nat), ∃ l', lex (rendB (gapOf gs) i l) line col b = .ok l' ∧ Alike l l' := by
  intro l
  induction l with
  | nil =>
    intro b h i line col
    obtain rfl : b = false := h
    exact ⟨[], rfl, rfl⟩
  | cons t r ih =>
    intro b h i line col
    have hg := lex_gap (gapOf gs i) (gap_blank gs i)
    rcases h with ⟨hk, rfl, hx, hn, hr⟩ | ⟨hv, hr⟩
    · have e : rendB (gapOf gs) i (t :: r) = gapOf gs i ++ (remB ++ rendB (gapOf gs) (i + 1) r) := by simp [rendB, hk]
      rw [e, hg]
      obtain ⟨l2, h2⟩ := lex_rem (rendB (gapOf gs) (i + 1) r) line (col + (gapOf gs i).length)
      obtain ⟨l', h1, ha⟩ := ih false hr (i + 1) l2 1
      rw [h2, h1]
      refine ⟨_, rfl, ?_⟩
      show bare t :: r.map bare = bare (endT line (col + (gapOf gs i).length + 9)) :: l'.map bare
      rw [show r.map bare = l'.map bare from ha]
      simp [bare, endT, hk, hx, hn]
    · have hkf : t.kind ≠ 4 := by have := valid_kind hv; simpa using this
      have e : rendB (gapOf gs) i (t :: r) = gapOf gs i ++ (t.text ++ rendB (gapOf gs) (i + 1) r) := by simp [rendB, hkf]
      obtain ⟨u, v, huv⟩ := good_true hr
      obtain ⟨t', hb, he⟩ := lex_tok hv (free_rend (gs := gs) (i := i + 1) (l := r) (by rw [huv]; exact List.cons_ne_nil _ _)) line (col + (gapOf gs i).length) b
      obtain ⟨l', h1, h2⟩ := ih true hr (i + 1) line (col + (gapOf gs i).length + t.text.length)
      rw [e, hg, he, h1]
      refine ⟨_, rfl, ?_⟩
      show bare t :: r.map bare = bare t' :: l'.map bare
      rw [show r.map bare = l'.map bare from h2, hb]
theorem rend_len (gs : List (List UInt8)) : ∀ (l : List Tok) (b : Bool), good b l → ∀ i, (rendB (gapOf gs) i l).length ≤ 42 * l.length + (textF b l).length := by
  intro l
  induction l with
  | nil => intro b _ i; simp [rendB]
  | cons t r ih =>
    intro b h i
    have hg := gap_len gs i
    rcases h with ⟨hk, rfl, hx, hn, hr⟩ | ⟨hv, hr⟩
    · have := ih false hr (i + 1)
      simp [rendB, textF, tokB, hk, remB] at this ⊢
      omega
    · have hkf : t.kind ≠ 4 := by have := valid_kind hv; simpa using this
      have := ih true hr (i + 1)
      have hk4 := valid_kind hv
      simp only [rendB, textF, hkf, if_false, hk4, valid_tokB hv, List.length_append, Bool.not_false, List.length_cons] at this ⊢
      omega
end Go.Proofs.YtgcphhialllieaaDoor.Lx
