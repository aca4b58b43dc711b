/- Package lex's cursor at a line's end, and at the text's: where it stands then, the token it lays. Conditions: the cursor lies in memory as CurAt says; a line's end, or nothing, comes next. -/
import Derived.Test.YtgcphhialllieaaDoorLexNumber
namespace Go.Proofs.YtgcphhialllieaaDoor.Lx
open Go.ChangeShapes Go.WideShapes Go.ChangeAt Go.RowKit
set_option linter.unusedVariables false
section
variable {w : World} {n0 B : Nat} {s : ByteArray} {pos line first : Nat} {toks : List Tok}

theorem CurAt.last (h : CurAt w n0 B s pos line first toks) {k : Nat} (hk : toks.length = k + 1) : ∃ g cap kd, w.cell? ⟨B, 4, none⟩ = some (.slice (some ⟨g, 0, none⟩) (k + 1) cap) ∧ w.cell? ⟨g, k * 5, none⟩ = some (.int .i64 kd) ∧ someT toks = !(kd == 4) := by
  obtain ⟨v, h1, h2⟩ := h.obj
  rcases h2.2 with ⟨_, h0⟩ | ⟨g, cap, cur, rfl, _⟩
  · omega
  · have hlt : k < toks.length := by omega
    have hc := h2.cellAt (k * 5) (by omega)
    have ht : toks[k]? = some toks[k] := List.getElem?_eq_getElem hlt
    rw [(tc_at toks k _ ht).1] at hc
    refine ⟨g, cap, toks[k].kind, by rw [← hk]; exact h1.cell 4, hc, ?_⟩
    unfold someT
    rw [List.getLast?_eq_getElem?, hk]
    simp [ht]
/-- behind the end of a line -/
def lineToks (line col : Nat) (toks : List Tok) : List Tok := if someT toks then toks ++ [endT line col] else toks

set_option maxHeartbeats 1000000 in
theorem end_over_empty (h : CurAt w n0 B s pos line first toks) (hn : nextK (rest s pos) = 1) (h0 : toks = []) :
    Calls Tryd.prog 32 #[.pointer (some ⟨B, 0, none⟩)] w (EndPost w n0 B s pos line first toks) := by
  subst h0
  have HC := Lib.hid h
  have HN := Lib.hid hn
  obtain ⟨v, h1, h2⟩ := h.obj
  obtain ⟨A, c, rfl, _, _⟩ := own_form h2
  have d4 : w.cell? ⟨B, 4, none⟩ = some (.slice A 0 c) := h1.cell 4
  clear h1 h2 h hn
  go_enter Tryd.func32, Tryd.ntmps32
  go_wp2_with (first
    | (go_at_call 20; refine (next_any HC.out).mono ?_; rintro e w1 ⟨rfl, hb1⟩; rw [HN.out]; have HB1 := Lib.hid hb1; clear hb1))
  go_ret
  exact ⟨rfl, HC.out.after HB1.out, HB1.out.mono HC.out.base⟩
set_option maxHeartbeats 1000000 in
theorem end_over_done (h : CurAt w n0 B s pos line first toks) (hn : nextK (rest s pos) = 1) (h0 : toks ≠ []) (hs : someT toks = false) :
    Calls Tryd.prog 32 #[.pointer (some ⟨B, 0, none⟩)] w (EndPost w n0 B s pos line first toks) := by
  obtain ⟨k, hk⟩ : ∃ k, toks.length = k + 1 := ⟨toks.length - 1, by have := List.length_pos_iff.2 h0; omega⟩
  obtain ⟨g, cap, kd, d4, d5, hkd⟩ := h.last hk
  have hk2 : kd = 4 := by rw [hs] at hkd; simpa using hkd.symm
  subst hk2
  have HC := Lib.hid h
  have HN := Lib.hid hn
  have hkb : k < 200000 := by have := h.count; have := h.posLe; have := h.size; omega
  clear h hn hk h0 hs hkd
  go_enter Tryd.func32, Tryd.ntmps32
  go_wp2_with (first
    | (go_at_call 20; refine (next_any HC.out).mono ?_; rintro e w1 ⟨rfl, hb1⟩; rw [HN.out]; have HB1 := Lib.hid hb1; clear hb1))
  go_ret
  exact ⟨rfl, HC.out.after HB1.out, HB1.out.mono HC.out.base⟩

set_option maxHeartbeats 1000000 in
theorem end_over_some (h : CurAt w n0 B s pos line first toks) (hn : nextK (rest s pos) = 1) (hs : someT toks = true) :
    Calls Tryd.prog 32 #[.pointer (some ⟨B, 0, none⟩)] w (EndPost w n0 B s pos line first (toks ++ [endT line (pos - first + 1)])) := by
  obtain ⟨k, hk⟩ : ∃ k, toks.length = k + 1 := ⟨toks.length - 1, by cases toks with | nil => simp [someT] at hs | cons a b => simp⟩
  obtain ⟨g, cap, kd, d4, d5, hkd⟩ := h.last hk
  have hk2 : (kd == 4) = false := by rw [hs] at hkd; simpa using hkd.symm
  have c1 := h.c1
  have hct := h.count
  rw [hs] at hct
  simp only [if_true] at hct
  have hp := put_any h 4 0 0 0 ⟨#[]⟩ pos h.firstLe (by have := h.posLe; have := h.size; omega) (by simpa using hct)
  have HP := Lib.hid hp
  have HC := Lib.hid h
  have HN := Lib.hid hn
  have hkb : k < 200000 := by have := h.posLe; have := h.size; omega
  clear h hn hk hs hkd hp hct
  go_enter Tryd.func32, Tryd.ntmps32
  go_wp2_with (first
    | (go_at_call 40; refine HP.out.mono ?_; rintro e w2 ⟨rfl, hc2, hb2⟩; have HC2 := Lib.hid hc2; have HB2 := Lib.hid hb2; clear hc2 hb2)
    | (go_at_call 20; refine (next_any HC2.out).mono ?_; rintro e w1 ⟨rfl, hb1⟩; rw [HN.out]; have HB1 := Lib.hid hb1; clear hb1))
  go_ret
  exact ⟨rfl, HC2.out.after HB1.out, below_then HB2.out HB1.out HC2.out.base⟩

theorem nl_fin {w1 : World} (h : CurAt w1 n0 B s pos line first toks) (hp : pos < s.size) {u1 u2 : Value} (h1 : u1 = .int .i64 ((pos + 1 : Nat) : Int)) (h2 : u2 = .int .i64 ((line + 1 : Nat) : Int)) :
    CurAt (((w1.setCell ⟨B, 1, none⟩ u1).setCell ⟨B, 2, none⟩ u2).setCell ⟨B, 3, none⟩ u1) n0 B s (pos + 1) (line + 1) (pos + 1) toks := by
  subst h1; subst h2
  have hl := h.lineLe
  have hf := h.firstLe
  have a := h.step hp rfl
  have b := a.wrote (pos' := pos + 1) (line' := line + 1) (first' := first) 2 _ (fun v => rfl) (by omega) (by omega) (by omega) (by omega)
  exact b.wrote (pos' := pos + 1) (line' := line + 1) (first' := pos + 1) 3 _ (fun v => rfl) (by omega) (by omega) (by omega) (by omega)
theorem rest_lt (h : nextK (rest s pos) = 3) : pos < s.size := by
  rcases Nat.lt_or_ge pos s.size with hl | hl
  · exact hl
  · rw [rest_over hl] at h; simp [nextK] at h

set_option maxHeartbeats 1000000 in
theorem end_nl_empty (h : CurAt w n0 B s pos line first toks) (hn : nextK (rest s pos) = 3) (h0 : toks = []) :
    Calls Tryd.prog 32 #[.pointer (some ⟨B, 0, none⟩)] w (StepPost w n0 B s (pos + 1) (line + 1) (pos + 1) toks 19) := by
  subst h0
  have HC := Lib.hid h
  have HN := Lib.hid hn
  have hps : pos < 65536 := by have := rest_lt hn; have := h.size; omega
  have hln : line < 65538 := by have := h.lineLe; omega
  obtain ⟨v, h1, h2⟩ := h.obj
  obtain ⟨A, c, rfl, _, _⟩ := own_form h2
  have d4 : w.cell? ⟨B, 4, none⟩ = some (.slice A 0 c) := h1.cell 4
  clear h1 h2 h hn
  go_enter Tryd.func32, Tryd.ntmps32
  go_wp2_with (first
    | (go_at_call 20; refine (next_any HC.out).mono ?_; rintro e w1 ⟨rfl, hb1⟩; rw [HN.out]; have HB1 := Lib.hid hb1; clear hb1; have HC1 := Lib.hid (HC.out.after HB1.out); have e1 := HC1.out.c1; have e2 := HC1.out.c2; have e3 := HC1.out.c3; have ef := HC1.out.fr))
  go_ret
  have hlo := HC.out.lo
  exact ⟨rfl, nl_fin HC1.out (rest_lt HN.out) (by go_num) (by go_num), (((HB1.out.mono HC.out.base).setCell hlo _).setCell hlo _).setCell hlo _⟩
set_option maxHeartbeats 1000000 in
theorem end_nl_done (h : CurAt w n0 B s pos line first toks) (hn : nextK (rest s pos) = 3) (h0 : toks ≠ []) (hs : someT toks = false) :
    Calls Tryd.prog 32 #[.pointer (some ⟨B, 0, none⟩)] w (StepPost w n0 B s (pos + 1) (line + 1) (pos + 1) toks 19) := by
  obtain ⟨k, hk⟩ : ∃ k, toks.length = k + 1 := ⟨toks.length - 1, by have := List.length_pos_iff.2 h0; omega⟩
  obtain ⟨g, cap, kd, d4, d5, hkd⟩ := h.last hk
  have hk2 : kd = 4 := by rw [hs] at hkd; simpa using hkd.symm
  subst hk2
  have HC := Lib.hid h
  have HN := Lib.hid hn
  have hps : pos < 65536 := by have := rest_lt hn; have := h.size; omega
  have hln : line < 65538 := by have := h.lineLe; omega
  have hkb : k < 200000 := by have := h.count; have := h.posLe; have := h.size; omega
  clear h hn hk h0 hs hkd
  go_enter Tryd.func32, Tryd.ntmps32
  go_wp2_with (first
    | (go_at_call 20; refine (next_any HC.out).mono ?_; rintro e w1 ⟨rfl, hb1⟩; rw [HN.out]; have HB1 := Lib.hid hb1; clear hb1; have HC1 := Lib.hid (HC.out.after HB1.out); have e1 := HC1.out.c1; have e2 := HC1.out.c2; have e3 := HC1.out.c3; have ef := HC1.out.fr))
  go_ret
  have hlo := HC.out.lo
  exact ⟨rfl, nl_fin HC1.out (rest_lt HN.out) (by go_num) (by go_num), (((HB1.out.mono HC.out.base).setCell hlo _).setCell hlo _).setCell hlo _⟩
set_option maxHeartbeats 1000000 in
theorem end_nl_some (h : CurAt w n0 B s pos line first toks) (hn : nextK (rest s pos) = 3) (hs : someT toks = true) :
    Calls Tryd.prog 32 #[.pointer (some ⟨B, 0, none⟩)] w (StepPost w n0 B s (pos + 1) (line + 1) (pos + 1) (toks ++ [endT line (pos - first + 1)]) 19) := by
  obtain ⟨k, hk⟩ : ∃ k, toks.length = k + 1 := ⟨toks.length - 1, by cases toks with | nil => simp [someT] at hs | cons a b => simp⟩
  obtain ⟨g, cap, kd, d4, d5, hkd⟩ := h.last hk
  have hk2 : (kd == 4) = false := by rw [hs] at hkd; simpa using hkd.symm
  have c1 := h.c1
  have hct := h.count
  rw [hs] at hct
  simp only [if_true] at hct
  have hp := put_any h 4 0 0 0 ⟨#[]⟩ pos h.firstLe (by have := h.posLe; have := h.size; omega) (by simpa using hct)
  have HP := Lib.hid hp
  have HC := Lib.hid h
  have HN := Lib.hid hn
  have hps : pos < 65536 := by have := rest_lt hn; have := h.size; omega
  have hln : line < 65538 := by have := h.lineLe; omega
  have hkb : k < 200000 := by omega
  clear h hn hk hs hkd hp hct
  go_enter Tryd.func32, Tryd.ntmps32
  go_wp2_with (first
    | (go_at_call 40; refine HP.out.mono ?_; rintro e w2 ⟨rfl, hc2, hb2⟩; have HC2 := Lib.hid hc2; have HB2 := Lib.hid hb2; clear hc2 hb2)
    | (go_at_call 20; refine (next_any HC2.out).mono ?_; rintro e w1 ⟨rfl, hb1⟩; rw [HN.out]; have HB1 := Lib.hid hb1; clear hb1; have HC1 := Lib.hid (HC2.out.after HB1.out); have e1 := HC1.out.c1; have e2 := HC1.out.c2; have e3 := HC1.out.c3; have ef := HC1.out.fr))
  go_ret
  have hlo := HC.out.lo
  exact ⟨rfl, nl_fin HC1.out (rest_lt HN.out) (by go_num) (by go_num), (((below_then HB2.out HB1.out HC2.out.base).setCell hlo _).setCell hlo _).setCell hlo _⟩
theorem end_over (h : CurAt w n0 B s pos line first toks) (hn : nextK (rest s pos) = 1) :
    Calls Tryd.prog 32 #[.pointer (some ⟨B, 0, none⟩)] w (EndPost w n0 B s pos line first (lineToks line (pos - first + 1) toks)) := by
  unfold lineToks
  cases hs : someT toks with
  | true => rw [if_pos rfl]; exact end_over_some h hn hs
  | false =>
    rw [if_neg (by decide)]
    by_cases h0 : toks = []
    · exact end_over_empty h hn h0
    · exact end_over_done h hn h0 hs
theorem end_nl (h : CurAt w n0 B s pos line first toks) (hn : nextK (rest s pos) = 3) :
    Calls Tryd.prog 32 #[.pointer (some ⟨B, 0, none⟩)] w (StepPost w n0 B s (pos + 1) (line + 1) (pos + 1) (lineToks line (pos - first + 1) toks) 19) := by
  unfold lineToks
  cases hs : someT toks with
  | true => rw [if_pos rfl]; exact end_nl_some h hn hs
  | false =>
    rw [if_neg (by decide)]
    by_cases h0 : toks = []
    · exact end_nl_empty h hn h0
    · exact end_nl_done h hn h0 hs
end
end Go.Proofs.YtgcphhialllieaaDoor.Lx
