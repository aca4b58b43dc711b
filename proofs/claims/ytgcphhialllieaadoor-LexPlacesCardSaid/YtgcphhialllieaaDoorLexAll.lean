/- Package lex's All: what it answers, at any text, proved by walking its text; the loop goes from state to state, and what it all comes to stays the same. Conditions: the library's variables hold what start-up lays. -/
import Derived.Test.YtgcphhialllieaaDoorLexEnd
namespace Go.Proofs.YtgcphhialllieaaDoor.Lx
open Go.ChangeShapes Go.WideShapes Go.ChangeAt Go.RowKit
set_option linter.unusedVariables false

/-- what it comes to, the cursor being about to do f -/
def Due (f : Nat) (s : ByteArray) (pos line first : Nat) (toks : List Tok) (R : Res) : Prop :=
  (f = 19 ∧ out (rest s pos) line (pos - first + 1) toks = R) ∨
  (f = 28 ∧ nextK (rest s pos) = 2 ∧ out (rest s pos) line (pos - first + 1) toks = R) ∨
  (f = 29 ∧ nextK (rest s pos) = 4 ∧ out (rest s pos) line (pos - first + 1) toks = R) ∨
  (f = 30 ∧ nextK (rest s pos) = 5 ∧ out (rest s pos) line (pos - first + 1) toks = R) ∨
  (f = 31 ∧ nextK (rest s pos) = 6 ∧ out (rest s pos) line (pos - first + 1) toks = R) ∨
  (f = 32 ∧ (nextK (rest s pos) = 3 ∨ nextK (rest s pos) = 1) ∧ out (rest s pos) line (pos - first + 1) toks = R) ∨
  (f = 33 ∧ R = .bad 7 line (pos - first + 1)) ∨
  (f = 42 ∧ (if nextK (rest s pos) = 5 ∨ nextK (rest s pos) = 7 then R = .bad 7 line (pos - first + 1) else out (rest s pos) line (pos - first + 1) toks = R))
def rank (f : Nat) : Nat := if f = 19 then 2 else if f = 42 then 3 else 1
/-- the cursor goes on -/
def Active (w : World) (n0 B : Nat) (s : ByteArray) (R : Res) (k : Nat) (v : Value) (wr : World) : Prop :=
  ∃ f pos line first toks, v = .func (.func f) #[.pointer (some ⟨B, 0, none⟩)] #[] ∧ CurAt wr n0 B s pos line first toks ∧ Below n0 w wr ∧ Due f s pos line first toks R ∧ k = 4 * (s.size - pos) + rank f
/-- the cursor is through -/
def Done (w : World) (n0 B : Nat) (s : ByteArray) (R : Res) (v : Value) (wr : World) : Prop :=
  v = .nilFunc ∧ Below n0 w wr ∧ ((∃ e l c pos line first, R = .bad e l c ∧ RefAt wr B s pos line first e l c) ∨ (∃ pos line first toks, R = .ok toks ∧ CurAt wr n0 B s pos line first toks))
def AllRel (w : World) (n0 B : Nat) (s : ByteArray) (R : Res) (k : Nat) (v : Value) (wr : World) : Prop := Active w n0 B s R k v wr ∨ Done w n0 B s R v wr
def NextPost (w : World) (n0 B : Nat) (s : ByteArray) (R : Res) (k : Nat) (e : Ending) (w' : World) : Prop := ∃ v k', e = .returned v ∧ k' < k ∧ AllRel w n0 B s R k' v w'

section
variable {w : World} {n0 B : Nat} {s : ByteArray} {R : Res}
theorem go_on {k : Nat} {a wr : World} {f pos line first : Nat} {toks : List Tok} {e : Ending} (h : StepPost wr n0 B s pos line first toks f e a) (hb : Below n0 w wr) (hd : Due f s pos line first toks R) (hk : 4 * (s.size - pos) + rank f < k) : NextPost w n0 B s R k e a :=
  ⟨_, _, h.1, hk, .inl ⟨f, pos, line, first, toks, rfl, h.2.1, hb.trans h.2.2, hd, rfl⟩⟩
theorem go_bad {k : Nat} {a wr : World} {pos line first : Nat} {er l c : Nat} {e : Ending} (h : RefPost wr n0 B s pos line first er l c e a) (hb : Below n0 w wr) (hR : R = .bad er l c) (hk : 0 < k) : NextPost w n0 B s R k e a :=
  ⟨_, 0, h.1, hk, .inr ⟨rfl, hb.trans h.2.2, .inl ⟨er, l, c, pos, line, first, hR, h.2.1⟩⟩⟩
theorem runN_more (s : ByteArray) (pos : Nat) : runN [5, 6, 7] s pos = ((rest s pos).takeWhile isMore).length := by unfold runN; rw [passP_more]
theorem runN_dig (s : ByteArray) (pos : Nat) : runN [6] s pos = ((rest s pos).takeWhile Tk.isDig).length := by unfold runN; rw [passP_dig]
theorem runN_bl (s : ByteArray) (pos : Nat) : runN [2] s pos = ((rest s pos).takeWhile isBl).length := by unfold runN; rw [passP_bl]
theorem runN_in (s : ByteArray) (pos : Nat) : runN [0, 2, 4, 5, 6, 7] s pos = ((rest s pos).takeWhile inLine).length := by unfold runN; rw [passP_in]
theorem rest_run (p : UInt8 → Bool) (s : ByteArray) (pos m : Nat) (h : m = ((rest s pos).takeWhile p).length) : rest s (pos + m) = (rest s pos).dropWhile p := by
  rw [rest_add, h]; exact drop_run p _
theorem col_add {pos first m : Nat} (h : first ≤ pos) : pos + m - first + 1 = pos - first + 1 + m := by omega

theorem next_state {k : Nat} {wr : World} {f pos line first : Nat} {toks : List Tok} (hE : ∀ w', Below n0 wr w' → Tk.Env w') (hc : CurAt wr n0 B s pos line first toks) (hb : Below n0 w wr) (hd : Due f s pos line first toks R) (hk : k = 4 * (s.size - pos) + rank f) :
    Calls Tryd.prog f #[.pointer (some ⟨B, 0, none⟩)] wr (NextPost w n0 B s R k) := by
  have hp := hc.posLe
  have hf := hc.firstLe
  rcases hd with ⟨rfl, ho⟩ | ⟨rfl, h2, ho⟩ | ⟨rfl, h4, ho⟩ | ⟨rfl, h5, ho⟩ | ⟨rfl, h6, ho⟩ | ⟨rfl, h31, ho⟩ | ⟨rfl, hR⟩ | ⟨rfl, hR⟩
  · -- between
    refine (between_any hc).mono fun e w' h => go_on h hb ?_ ?_
    · have hk7 := nextK_le (rest s pos)
      obtain ⟨q, hq⟩ : ∃ q, q = nextK (rest s pos) := ⟨_, rfl⟩
      rw [← hq] at hk7 ⊢
      have h8 : q = 0 ∨ q = 1 ∨ q = 2 ∨ q = 3 ∨ q = 4 ∨ q = 5 ∨ q = 6 ∨ q = 7 := by omega
      rcases h8 with rfl | rfl | rfl | rfl | rfl | rfl | rfl | rfl
      · exact .inr (.inr (.inr (.inr (.inr (.inr (.inl ⟨rfl, by rw [← ho]; exact out_bad (.inl hq.symm) _ _ _⟩))))))
      · exact .inr (.inr (.inr (.inr (.inr (.inl ⟨rfl, .inr hq.symm, ho⟩)))))
      · exact .inr (.inl ⟨rfl, hq.symm, ho⟩)
      · exact .inr (.inr (.inr (.inr (.inr (.inl ⟨rfl, .inl hq.symm, ho⟩)))))
      · exact .inr (.inr (.inl ⟨rfl, hq.symm, ho⟩))
      · exact .inr (.inr (.inr (.inl ⟨rfl, hq.symm, ho⟩)))
      · exact .inr (.inr (.inr (.inr (.inl ⟨rfl, hq.symm, ho⟩))))
      · exact .inr (.inr (.inr (.inr (.inr (.inr (.inl ⟨rfl, by rw [← ho]; exact out_bad (.inr hq.symm) _ _ _⟩))))))
    · rw [hk]
      have : rank (nextF (nextK (rest s pos))) = 1 := by
        unfold nextF
        split
        · rfl
        · split
          · rfl
          · split
            · rfl
            · split
              · rfl
              · split <;> rfl
      rw [this]
      show _ < 4 * (s.size - pos) + 2
      omega
  · -- blanks
    have h1 : 1 ≤ runN [2] s pos := run_pos (by rw [h2]; rfl) rfl
    have hle := run_le [2] s pos hp
    refine (blanks_any hc).mono fun e w' h => go_on h hb (.inl ⟨rfl, ?_⟩) ?_
    · rw [rest_run isBl s pos _ (runN_bl s pos), col_add hf, runN_bl, ← out_blanks]; exact ho
    · rw [hk]; show 4 * (s.size - (pos + runN [2] s pos)) + 2 < 4 * (s.size - pos) + 1; omega
  · -- remark
    have h1 : 1 ≤ runN [0, 2, 4, 5, 6, 7] s pos := run_pos (by rw [h4]; rfl) rfl
    have hle := run_le [0, 2, 4, 5, 6, 7] s pos hp
    refine (remark_any hc).mono fun e w' h => go_on h hb (.inl ⟨rfl, ?_⟩) ?_
    · rw [rest_run inLine s pos _ (runN_in s pos), col_add hf, runN_in, ← out_remark h4]; exact ho
    · rw [hk]; show 4 * (s.size - (pos + runN [0, 2, 4, 5, 6, 7] s pos)) + 2 < 4 * (s.size - pos) + 1; omega
  · -- word
    have h1 : 1 ≤ runN [5, 6, 7] s pos := run_pos (by rw [h5]; rfl) rfl
    have hle := run_le [5, 6, 7] s pos hp
    by_cases h24 : runN [5, 6, 7] s pos ≤ 24
    · refine (word_short hc h1 h24).mono fun e w' h => go_on h hb (.inl ⟨rfl, ?_⟩) ?_
      · rw [rest_run isMore s pos _ (runN_more s pos), col_add hf, runN_more, ← out_word h5 (by rw [← runN_more]; exact h24)]; exact ho
      · rw [hk]; show 4 * (s.size - (pos + runN [5, 6, 7] s pos)) + 2 < 4 * (s.size - pos) + 1; omega
    · refine (word_long hc (by omega)).mono fun e w' h => go_bad (er := 3) h hb ?_ (by rw [hk]; show 0 < _ + 1; omega)
      rw [← ho]; exact out_long h5 (by rw [← runN_more]; omega) _ _ _
  · -- number
    have h1 : 1 ≤ runN [6] s pos := run_pos (by rw [h6]; rfl) rfl
    have hle := run_le [6] s pos hp
    cases hcn : Tk.canon ((rest s pos).takeWhile Tk.isDig) with
    | false =>
      refine (number_bad hc hE 0 7 7 (Tk.parse_no (digs_not_inf _) hcn) (.inl ⟨rfl, rfl⟩)).mono fun e w' h => go_bad (er := 7) h hb ?_ (by rw [hk]; show 0 < _ + 1; omega)
      rw [← ho]; exact out_num_text h6 hcn _ _ _
    | true =>
      by_cases hd : Tk.dval ((rest s pos).takeWhile Tk.isDig) ≤ 1099511627776
      · refine (number_good hc hE h1 hcn hd).mono fun e w' h => go_on h hb (.inr (.inr (.inr (.inr (.inr (.inr (.inr ⟨rfl, ?_⟩))))))) ?_
        · rw [rest_run Tk.isDig s pos _ (runN_dig s pos), col_add hf, runN_dig]
          by_cases hn : nextK ((rest s pos).dropWhile Tk.isDig) = 5 ∨ nextK ((rest s pos).dropWhile Tk.isDig) = 7
          · rw [if_pos hn, ← ho]; exact out_num_behind h6 hcn hd hn _ _ _
          · rw [if_neg hn, ← out_num h6 hcn hd hn]; exact ho
        · rw [hk]; show 4 * (s.size - (pos + runN [6] s pos)) + 3 < 4 * (s.size - pos) + 1; omega
      · refine (number_bad hc hE 0 9 3 (Tk.parse_big hcn hd) (.inr ⟨rfl, rfl⟩)).mono fun e w' h => go_bad (er := 3) h hb ?_ (by rw [hk]; show 0 < _ + 1; omega)
        rw [← ho]; exact out_num_big h6 hcn (by omega) _ _ _
  · -- end
    rcases h31 with h3 | h1
    · have hlt := rest_lt h3
      refine (end_nl hc h3).mono fun e w' h => go_on h hb (.inl ⟨rfl, ?_⟩) ?_
      · rw [rest_at hlt] at h3 ho
        have hk3 : kindOf s[pos] = 3 := h3
        rw [out_nl hk3] at ho
        have e1 : pos + 1 - (pos + 1) + 1 = 1 := by omega
        rw [e1]
        exact ho
      · rw [hk]; show 4 * (s.size - (pos + 1)) + 2 < 4 * (s.size - pos) + 1; omega
    · refine (end_over hc h1).mono fun e w' h => ?_
      have hr : rest s pos = [] := by
        cases hr : rest s pos with
        | nil => rfl
        | cons c r =>
          rw [hr] at h1
          have : kindOf c ≠ 1 := by unfold kindOf; split <;> (try omega); split <;> (try omega); split <;> (try omega); split <;> (try omega); split <;> (try omega); split <;> omega
          exact absurd h1 this
      rw [hr, out_over] at ho
      exact ⟨_, 0, h.1, by rw [hk]; show 0 < _ + 1; omega, .inr ⟨rfl, hb.trans h.2.2, .inr ⟨pos, line, first, _, ho.symm, h.2.1⟩⟩⟩
  · -- wrong
    exact (wrong_any hc).mono fun e w' h => go_bad (er := 7) h hb hR (by rw [hk]; show 0 < _ + 1; omega)
  · -- behind a number
    refine (behind_any hc).mono fun e w' h => ?_
    by_cases hn : nextK (rest s pos) = 5 ∨ nextK (rest s pos) = 7
    · rw [if_pos hn] at hR h
      exact go_on h hb (.inr (.inr (.inr (.inr (.inr (.inr (.inl ⟨rfl, hR⟩))))))) (by rw [hk]; show _ + 1 < _ + 3; omega)
    · rw [if_neg hn] at hR h
      exact go_on h hb (.inl ⟨rfl, hR⟩) (by rw [hk]; show _ + 2 < _ + 3; omega)
end
end Go.Proofs.YtgcphhialllieaaDoor.Lx
