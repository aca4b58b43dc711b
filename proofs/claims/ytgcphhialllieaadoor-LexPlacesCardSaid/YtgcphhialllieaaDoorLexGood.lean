/- Plain facts: which rows of tokens come out of a text, and that what is written of such a row, with whatever blanks and remarks, is cut into the like. Imports no program. -/
import Derived.Test.YtgcphhialllieaaDoorLexLaws
import Derived.Test.YtgcphhialllieaaDoorLexLike
import Derived.Test.YtgcphhialllieaaDoorLexText
namespace Go.Proofs.YtgcphhialllieaaDoor.Lx
open Tk

def isWord (x : List UInt8) : Prop := nextK x = 5 ∧ x.all isMore = true ∧ x.length ≤ 24
/-- a token that is no end, as it comes -/
def validT (t : Tok) : Prop := (isWord t.text ∧ t.kind = (if isRes t.text then 2 else 1) ∧ t.num = 0) ∨ (canon t.text = true ∧ dval t.text ≤ 1099511627776 ∧ t.kind = 3 ∧ t.num = dval t.text)
/-- lines of some tokens, each with its end behind it; b: is there a token in the line already? -/
def good : Bool → List Tok → Prop
  | b, [] => b = false
  | b, t :: r => (t.kind = 4 ∧ b = true ∧ t.text = [] ∧ t.num = 0 ∧ good false r) ∨ (validT t ∧ good true r)
theorem valid_kind {t : Tok} (h : validT t) : (t.kind == 4) = false := by
  rcases h with ⟨_, h, _⟩ | ⟨_, _, h, _⟩
  · rw [h]; split <;> decide
  · rw [h]; decide
theorem tw_all (p : UInt8 → Bool) (l : List UInt8) : (l.takeWhile p).all p = true := List.all_takeWhile
theorem nextK_tw {p : UInt8 → Bool} {c : UInt8} {r : List UInt8} (h : p c = true) : nextK ((c :: r).takeWhile p) = kindOf c := by rw [List.takeWhile_cons_of_pos h]; rfl
theorem cons_ok {t : Tok} {r : Res} {l : List Tok} (h : r.cons t = .ok l) : ∃ l', r = .ok l' ∧ l = t :: l' := by
  cases r with
  | bad e a b => cases h
  | ok l' => exact ⟨l', rfl, by injection h with h; exact h.symm⟩
theorem lex_good : ∀ bs (line col : Nat) (sm : Bool) (l : List Tok), lex bs line col sm = .ok l → good sm l := by
  intro bs
  induction bs using lex_induct with
  | nil =>
    intro line col sm l h
    rw [lex_nil] at h
    injection h with h
    cases sm with
    | true => rw [if_pos rfl] at h; subst h; exact .inl ⟨rfl, rfl, rfl, rfl, rfl⟩
    | false => rw [if_neg (by decide)] at h; subst h; rfl
  | nl c r hk ih =>
    intro line col sm l h
    rw [lex_nl hk] at h
    cases sm with
    | true =>
      rw [if_pos rfl] at h
      obtain ⟨l', h1, rfl⟩ := cons_ok h
      exact .inl ⟨rfl, rfl, rfl, rfl, ih _ _ _ _ h1⟩
    | false => rw [if_neg (by decide)] at h; exact ih _ _ _ _ h
  | bl c r hk ih => intro line col sm l h; rw [lex_bl hk] at h; exact ih _ _ _ _ h
  | hash c r hk ih => intro line col sm l h; rw [lex_hash hk] at h; exact ih _ _ _ _ h
  | word c r hk ih =>
    intro line col sm l h
    rw [lex_let hk] at h
    by_cases h24 : 24 < ((c :: r).takeWhile isMore).length
    · rw [if_pos h24] at h; cases h
    · rw [if_neg h24] at h
      obtain ⟨l', h1, rfl⟩ := cons_ok h
      exact .inr ⟨.inl ⟨⟨by show nextK ((c :: r).takeWhile isMore) = 5; rw [nextK_tw (more_let hk)]; exact hk, tw_all _ _, by show ((c :: r).takeWhile isMore).length ≤ 24; omega⟩, rfl, rfl⟩, ih _ _ _ _ h1⟩
  | num c r hk ih =>
    intro line col sm l h
    rw [lex_dig hk] at h
    split at h
    · cases h
    · rename_i hc
      split at h
      · cases h
      · rename_i hd
        split at h
        · cases h
        · obtain ⟨l', h1, rfl⟩ := cons_ok h
          exact .inr ⟨.inr ⟨by show canon ((c :: r).takeWhile isDig) = true; simpa using hc, by show dval ((c :: r).takeWhile isDig) ≤ _; omega, rfl, rfl⟩, ih _ _ _ _ h1⟩
  | bad c r hk => intro line col sm l h; rw [lex_bad (bs := c :: r) hk] at h; cases h

theorem good_num {b : Bool} {l : List Tok} (h : good b l) : numOk l := by
  induction l generalizing b with
  | nil => intro t ht; cases ht
  | cons t r ih =>
    intro u hu
    rcases h with ⟨_, _, _, hn, hr⟩ | ⟨hv, hr⟩
    · rcases List.mem_cons.1 hu with rfl | hu
      · omega
      · exact ih hr u hu
    · rcases List.mem_cons.1 hu with rfl | hu
      · rcases hv with ⟨_, _, hn⟩ | ⟨_, hd, _, hn⟩ <;> omega
      · exact ih hr u hu

theorem tw_of_all {p : UInt8 → Bool} {x q : List UInt8} (h : x.all p = true) (hq : stops p q) : (x ++ q).takeWhile p = x ∧ (x ++ q).dropWhile p = q := by
  have h1 : x.takeWhile p = x := by
    induction x with
    | nil => rfl
    | cons c r ih => simp at h; rw [List.takeWhile_cons_of_pos h.1, ih (by simpa using h.2)]
  have h2 : x.dropWhile p = [] := by
    induction x with
    | nil => rfl
    | cons c r ih =>
      simp at h
      rw [List.dropWhile_cons_of_pos h.1]
      refine ih (by simpa using h.2) ?_
      rw [List.takeWhile_cons_of_pos h.1] at h1
      injection h1
  exact ⟨by rw [tw_app x hq, h1], by rw [dw_app x hq, h2, List.nil_append]⟩
theorem nextK_app {x q : List UInt8} (h : x ≠ []) : nextK (x ++ q) = nextK x := by cases x with | nil => exact absurd rfl h | cons c r => rfl
/-- nothing that could go on a token comes next -/
def free (q : List UInt8) : Prop := nextK q ≠ 5 ∧ nextK q ≠ 6 ∧ nextK q ≠ 7
theorem free_more {q : List UInt8} (h : free q) : stops isMore q := by
  cases q with
  | nil => trivial
  | cons c r => obtain ⟨a, b, d⟩ := h; simp only [nextK] at a b d; simp [stops, isMore, a, b, d]
theorem free_dig {q : List UInt8} (h : free q) : stops isDig q := by
  cases q with
  | nil => trivial
  | cons c r => obtain ⟨a, b, d⟩ := h; simp only [nextK] at a b d; simp [stops, isDig_kind, b]
/-- the token's bytes are cut as they were -/
theorem lex_tok {t : Tok} (h : validT t) {q : List UInt8} (hq : free q) (line col : Nat) (sm : Bool) :
    ∃ t', bare t' = bare t ∧ lex (t.text ++ q) line col sm = (lex q line (col + t.text.length) true).cons t' := by
  rcases h with ⟨⟨h5, ha, h24⟩, hk, hn⟩ | ⟨hc, hd, hk, hn⟩
  · have hne : t.text ≠ [] := by intro e; rw [e] at h5; simp [nextK] at h5
    obtain ⟨e1, e2⟩ := tw_of_all ha (free_more hq)
    rw [lex_word (bs := t.text ++ q) (by rw [nextK_app hne]; exact h5), e1, e2, if_neg (by omega)]
    exact ⟨_, by simp [bare, wordT, hk, hn], rfl⟩
  · have hne : t.text ≠ [] := canon_ne hc
    have ha : t.text.all isDig = true := canon_all hc
    have h6 : nextK t.text = 6 := by
      cases hx : t.text with
      | nil => exact absurd hx hne
      | cons c r =>
        rw [hx] at ha
        simp at ha
        have := ha.1
        rw [isDig_kind] at this
        simpa [nextK] using this
    obtain ⟨e1, e2⟩ := tw_of_all ha (free_dig hq)
    rw [lex_num (bs := t.text ++ q) (by rw [nextK_app hne]; exact h6), e1, e2, if_neg (by simp [hc]), if_neg (by omega), if_neg (fun h => h.elim hq.1 hq.2.2)]
    exact ⟨_, by simp [bare, numT, hk, hn], rfl⟩
theorem valid_tokB {t : Tok} (h : validT t) : tokB t = t.text := by
  unfold tokB
  have := valid_kind h
  rw [if_neg (by simpa using this)]
  rcases h with ⟨_, hk, _⟩ | ⟨hc, _, hk, hn⟩
  · rw [if_neg (by rw [hk]; split <;> decide)]
  · rw [if_pos hk, hn, itoa_canon hc]

theorem k32 : kindOf 32 = 2 := by decide
theorem good_true {l : List Tok} (h : good true l) : ∃ t r, l = t :: r := by
  cases l with
  | nil => cases h
  | cons t r => exact ⟨t, r, rfl⟩
theorem free_text {l : List Tok} (h : good true l) : free (textF true l) := by
  obtain ⟨t, r, rfl⟩ := good_true h
  rcases h with ⟨hk, _⟩ | ⟨hv, _⟩
  · have e : textF true (t :: r) = 10 :: textF (!(t.kind == 4)) r := by simp [textF, tokB, hk]
    rw [e]; refine ⟨?_, ?_, ?_⟩ <;> simp [nextK, k10]
  · have e : textF true (t :: r) = 32 :: (tokB t ++ textF (!(t.kind == 4)) r) := by simp [textF, valid_kind hv]
    rw [e]; refine ⟨?_, ?_, ?_⟩ <;> simp [nextK, k32]
/-- All of Text -/
theorem back_good : ∀ (l : List Tok) (b : Bool), good b l → ∀ (line col : Nat), ∃ l', lex (textF b l) line col b = .ok l' ∧ Alike l l' := by
  intro l
  induction l with
  | nil =>
    intro b h line col
    obtain rfl : b = false := h
    exact ⟨[], rfl, rfl⟩
  | cons t r ih =>
    intro b h line col
    rcases h with ⟨hk, rfl, hx, hn, hr⟩ | ⟨hv, hr⟩
    · obtain ⟨l', h1, h2⟩ := ih false hr (line + 1) 1
      have e : textF true (t :: r) = 10 :: textF false r := by simp [textF, tokB, hk]
      rw [e, lex_nl k10, if_pos rfl, h1]
      refine ⟨_, rfl, ?_⟩
      show bare t :: r.map bare = bare (endT line col) :: l'.map bare
      rw [show r.map bare = l'.map bare from h2]
      simp [bare, endT, hk, hx, hn]
    · have hkf := valid_kind hv
      have core : ∀ col, ∃ l', lex (t.text ++ textF true r) line col b = .ok l' ∧ Alike (t :: r) l' := by
        intro col
        obtain ⟨t', hb, he⟩ := lex_tok hv (free_text hr) line col b
        obtain ⟨l', h1, h2⟩ := ih true hr line (col + t.text.length)
        rw [he, h1]
        refine ⟨_, rfl, ?_⟩
        show bare t :: r.map bare = bare t' :: l'.map bare
        rw [show r.map bare = l'.map bare from h2, hb]
      cases b with
      | false =>
        have e : textF false (t :: r) = t.text ++ textF true r := by simp [textF, hkf, valid_tokB hv]
        rw [e]; exact core col
      | true =>
        have e : textF true (t :: r) = 32 :: (t.text ++ textF true r) := by simp [textF, hkf, valid_tokB hv]
        rw [e, lex_bl k32]
        exact core (col + 1)
theorem alike_text {a b : List Tok} (h : Alike a b) : ∀ c, textF c a = textF c b := by
  induction a generalizing b with
  | nil => intro c; have := h.len; cases b with | nil => rfl | cons x y => simp at this
  | cons t r ih =>
    intro c
    cases b with
    | nil => have := h.len; simp at this
    | cons u v =>
      have h' : bare t :: r.map bare = bare u :: v.map bare := h
      injection h' with h1 h2
      simp only [bare, Prod.mk.injEq] at h1
      obtain ⟨e1, e2, e3⟩ := h1
      simp only [textF, tokB, e1, e2, e3, ih (b := v) h2]
/-- how long a text's text is -/
theorem text_len : ∀ bs (line col : Nat) (sm : Bool) (l : List Tok), lex bs line col sm = .ok l → (textF sm l).length ≤ 3 * bs.length + (if sm then 1 else 0) := by
  intro bs
  induction bs using lex_induct with
  | nil =>
    intro line col sm l h
    rw [lex_nil] at h
    injection h with h
    cases sm with
    | true => rw [if_pos rfl] at h; subst h; simp [textF, tokB, endT]
    | false => rw [if_neg (by decide)] at h; subst h; simp [textF]
  | nl c r hk ih =>
    intro line col sm l h
    rw [lex_nl hk] at h
    cases sm with
    | true =>
      rw [if_pos rfl] at h
      obtain ⟨l', h1, rfl⟩ := cons_ok h
      have := ih _ _ _ _ h1
      simp [textF, tokB, endT] at this ⊢
      omega
    | false => rw [if_neg (by decide)] at h; have := ih _ _ _ _ h; simp at this ⊢; omega
  | bl c r hk ih => intro line col sm l h; rw [lex_bl hk] at h; have := ih _ _ _ _ h; simp at this ⊢; omega
  | hash c r hk ih => intro line col sm l h; rw [lex_hash hk] at h; have := ih _ _ _ _ h; have := dropWhile_le (p := inLine) r; simp at *; omega
  | word c r hk ih =>
    intro line col sm l h
    have hg := lex_good _ _ _ _ _ h
    rw [lex_let hk] at h
    by_cases h24 : 24 < ((c :: r).takeWhile isMore).length
    · rw [if_pos h24] at h; cases h
    · rw [if_neg h24] at h
      obtain ⟨l', h1, rfl⟩ := cons_ok h
      have h3 := ih _ _ _ _ h1
      have hv : validT (wordT ((c :: r).takeWhile isMore) line col) := by
        rcases hg with ⟨hk4, _⟩ | ⟨hv, _⟩
        · have := wordT_kind ((c :: r).takeWhile isMore) line col; rw [hk4] at this; simp at this
        · exact hv
      have hl : ((c :: r).takeWhile isMore).length + ((c :: r).dropWhile isMore).length = (c :: r).length := by rw [← List.length_append, List.takeWhile_append_dropWhile]
      have h1l : 1 ≤ ((c :: r).takeWhile isMore).length := by rw [List.takeWhile_cons_of_pos (more_let hk)]; simp
      have hx : (wordT ((c :: r).takeWhile isMore) line col).text = (c :: r).takeWhile isMore := rfl
      simp only [textF, wordT_kind, valid_tokB hv, hx, List.length_append, Bool.not_false, Bool.and_true]
      simp only [if_true] at h3
      cases sm <;> simp <;> simp at hl <;> omega
  | num c r hk ih =>
    intro line col sm l h
    have hg := lex_good _ _ _ _ _ h
    rw [lex_dig hk] at h
    split at h
    · cases h
    · split at h
      · cases h
      · split at h
        · cases h
        · obtain ⟨l', h1, rfl⟩ := cons_ok h
          have h3 := ih _ _ _ _ h1
          have hv : validT (numT ((c :: r).takeWhile isDig) line col) := by
            rcases hg with ⟨hk4, _⟩ | ⟨hv, _⟩
            · cases hk4
            · exact hv
          have hl : ((c :: r).takeWhile isDig).length + ((c :: r).dropWhile isDig).length = (c :: r).length := by rw [← List.length_append, List.takeWhile_append_dropWhile]
          have h1l : 1 ≤ ((c :: r).takeWhile isDig).length := by rw [List.takeWhile_cons_of_pos (dig_num hk)]; simp
          have hx : (numT ((c :: r).takeWhile isDig) line col).text = (c :: r).takeWhile isDig := rfl
          simp only [textF, valid_kind hv, valid_tokB hv, hx, List.length_append, Bool.not_false, Bool.and_true]
          simp only [if_true] at h3
          cases sm <;> simp <;> simp at hl <;> omega
  | bad c r hk => intro line col sm l h; rw [lex_bad (bs := c :: r) hk] at h; cases h
end Go.Proofs.YtgcphhialllieaaDoor.Lx
