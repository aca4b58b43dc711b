/- Package lex's cursor at a word: where it stands then, the token it lays, or its fault. Conditions: the cursor lies in memory as CurAt says; a letter comes next. -/
import Derived.Test.YtgcphhialllieaaDoorLexStates
namespace Go.Proofs.YtgcphhialllieaaDoor.Lx
open Go.ChangeShapes Go.WideShapes Go.ChangeAt Go.RowKit
set_option linter.unusedVariables false

theorem passP_more : passP [5, 6, 7] = isMore := by
  funext c
  simp only [passP, inKs, isMore, List.contains_cons, List.contains_nil, Bool.or_false]
  cases h5 : (kindOf c == 5) <;> cases h6 : (kindOf c == 6) <;> cases h7 : (kindOf c == 7) <;> rfl
theorem passP_bl : passP [2] = isBl := by
  funext c
  show ([2] : List Nat).contains (kindOf c) = _
  simp only [List.contains_cons, List.contains_nil, Bool.or_false]
  rfl
theorem passP_dig : passP [6] = Tk.isDig := by
  funext c
  rw [isDig_kind]
  show ([6] : List Nat).contains (kindOf c) = _
  simp only [List.contains_cons, List.contains_nil, Bool.or_false]
theorem passP_in : passP [0, 2, 4, 5, 6, 7] = inLine := by
  funext c
  have := kindOf_le c
  have h1 : kindOf c ≠ 1 := by unfold kindOf; split <;> (try omega); split <;> (try omega); split <;> (try omega); split <;> (try omega); split <;> (try omega); split <;> omega
  simp only [passP, inKs, inLine]
  obtain ⟨k, hk⟩ : ∃ k, k = kindOf c := ⟨_, rfl⟩
  rw [← hk] at this h1 ⊢
  have h8 : k = 0 ∨ k = 2 ∨ k = 3 ∨ k = 4 ∨ k = 5 ∨ k = 6 ∨ k = 7 := by omega
  rcases h8 with rfl | rfl | rfl | rfl | rfl | rfl | rfl <;> rfl
theorem ext_run (ks : List Nat) (s : ByteArray) (pos : Nat) : (s.extract pos (pos + runN ks s pos)).data.toList = (rest s pos).takeWhile (passP ks) := by
  rw [Tk.ext_data, List.drop_take, Nat.add_sub_cancel_left]
  exact take_run _ _
theorem ext_size (ks : List Nat) (s : ByteArray) (pos : Nat) : (s.extract pos (pos + runN ks s pos)).size = runN ks s pos := by
  rw [Lib.size_eq, ext_run]; rfl
theorem run_pos {ks : List Nat} {s : ByteArray} {pos : Nat} (h : inKs ks (nextK (rest s pos)) = true) (h1 : inKs ks 1 = false) : 1 ≤ runN ks s pos := by
  unfold runN
  cases hr : rest s pos with
  | nil => rw [hr] at h; simp [nextK, h1] at h
  | cons c r =>
    rw [hr] at h
    rw [List.takeWhile_cons_of_pos (show passP ks c = true from h)]; simp
section
variable {w : World} {n0 B : Nat} {s : ByteArray} {pos line first : Nat} {toks : List Tok}

/-- pass, its text by name -/
theorem pass_named (ks : List Nat) (hk1 : inKs ks 1 = false) (n : Nat) (hn : Hid (n = ks.length)) (hN : n ≤ 100) (h : CurAt w n0 B s pos line first toks) :
    ∃ (T : ByteArray) (q : Nat), Hid (T.data.toList = (rest s pos).takeWhile (passP ks) ∧ T.size = runN ks s pos ∧ q = pos + runN ks s pos) ∧
      Hid (Calls Tryd.prog 21 #[.pointer (some ⟨B, 0, none⟩), .slice (some ⟨w.heap.size, 0, none⟩) n n] (w.alloc (.cells (kc ks).toArray 48)) fun e w' =>
        e = .returned (.string T) ∧ CurAt w' n0 B s q line first toks ∧ Below n0 w w') := by
  refine ⟨s.extract pos (pos + runN ks s pos), pos + runN ks s pos, ⟨ext_run ks s pos, ext_size ks s pos, rfl⟩, ?_⟩
  have hA := h.after ((Below.refl _ w).alloc (Nat.le_refl _) (.cells (kc ks).toArray 48))
  refine (pass_any ks hk1 n hn hN hA (gk := w.heap.size) (Blk.new w _ (kc ks))).mono ?_
  rintro e w' ⟨he, hc, hb⟩
  exact ⟨he, hc, (((Below.refl w.heap.size w).alloc (Nat.le_refl _) _).mono h.base).trans hb⟩

set_option maxHeartbeats 1000000 in
theorem word_long (h : CurAt w n0 B s pos line first toks) (h24 : 24 < runN [5, 6, 7] s pos) :
    Calls Tryd.prog 30 #[.pointer (some ⟨B, 0, none⟩)] w (RefPost w n0 B s (pos + runN [5, 6, 7] s pos) line first 3 line ((pos - first + 1 : Nat) : Int)) := by
  obtain ⟨T, q, HT, HP⟩ := pass_named [5, 6, 7] rfl 3 rfl (by omega) h
  have c1 := h.c1
  have HC := Lib.hid h
  have hq := HT.out.2.2
  have h1 := HT.out.2.1
  have h25 : 24 < T.size := by omega
  have hsz : T.size ≤ 65536 := by have := run_le [5, 6, 7] s pos h.posLe; have := h.size; omega
  rw [← hq]
  clear h hq h1 h24
  go_enter Tryd.func30, Tryd.ntmps30
  go_wp2_with (first
    | (go_at_call 21; refine HP.out.mono ?_; rintro e w1 ⟨rfl, hc1, hb1⟩; have HC1 := Lib.hid hc1; have HB1 := Lib.hid hb1; clear hc1 hb1)
    | (go_at_call 38; refine (refuse_any HC1.out 3 pos HC.out.firstLe (by have := HC.out.posLe; have := HC.out.size; omega)).mono ?_; rintro e w2 ⟨rfl, hc2, hb2⟩; have HC2 := Lib.hid hc2; have HB2 := Lib.hid hb2; clear hc2 hb2))
  go_ret
  exact ⟨rfl, HC2.out, HB1.out.trans HB2.out⟩

set_option maxHeartbeats 1000000 in
theorem word_short (h : CurAt w n0 B s pos line first toks) (h0 : 1 ≤ runN [5, 6, 7] s pos) (h24 : runN [5, 6, 7] s pos ≤ 24) :
    Calls Tryd.prog 30 #[.pointer (some ⟨B, 0, none⟩)] w (StepPost w n0 B s (pos + runN [5, 6, 7] s pos) line first (toks ++ [wordT ((rest s pos).takeWhile isMore) line (pos - first + 1)]) 19) := by
  obtain ⟨T, q, HT, HP⟩ := pass_named [5, 6, 7] rfl 3 rfl (by omega) h
  have c1 := h.c1
  have HC := Lib.hid h
  have hq := HT.out.2.2
  have h1 := HT.out.2.1
  have h25 : T.size ≤ 24 := by omega
  have hsz : T.size ≤ 65536 := by omega
  have HCT : Hid (toks.length + 1 + 1 ≤ 2 * q) := Lib.hid (by have := h.count; omega)
  have hl : T.data.toList = (rest s pos).takeWhile isMore := by rw [HT.out.1, passP_more]
  rw [← hq, ← hl]
  clear h hq h1 h24 hl h0
  cases hres : isRes T.data.toList with
  | false =>
    have HR := Lib.hid hres
    have HW : Hid (wordT T.data.toList line (pos - first + 1) = ⟨1, T.data.toList, 0, line, ((pos - first + 1 : Nat) : Int)⟩) := Lib.hid (by simp [wordT, hres])
    clear hres
    go_enter Tryd.func30, Tryd.ntmps30
    go_wp2_with (first
      | (go_at_call 21; refine HP.out.mono ?_; rintro e w1 ⟨rfl, hc1, hb1⟩; have HC1 := Lib.hid hc1; have HB1 := Lib.hid hb1; clear hc1 hb1)
      | (go_at_call 39; refine (clone_any T _ hsz).mono ?_; rintro e w2 ⟨rfl, hb2⟩; have HB2 := Lib.hid hb2; clear hb2)
      | (go_at_call 12; refine (reserved_any T _).mono ?_; rintro e w3 ⟨rfl, rfl⟩; rw [HR.out])
      | (go_at_call 40; refine (put_any ((HC1.out.after HB2.out).after ((Below.refl _ _).alloc (Nat.le_refl _) _)) 1 0 0 0 T pos HC.out.firstLe (by have := HC.out.posLe; have := HC.out.size; omega) HCT.out).mono ?_; rintro e w4 ⟨rfl, hc4, hb4⟩; have HC4 := Lib.hid hc4; have HB4 := Lib.hid hb4; clear hc4 hb4))
    go_ret
    exact ⟨rfl, by rw [HW.out]; exact HC4.out, (below_then (below_then HB1.out HB2.out HC1.out.base) ((Below.refl _ _).alloc (Nat.le_refl _) _) (HC1.out.after HB2.out).base).trans HB4.out⟩
  | true =>
    have HR := Lib.hid hres
    have HW : Hid (wordT T.data.toList line (pos - first + 1) = ⟨2, T.data.toList, 0, line, ((pos - first + 1 : Nat) : Int)⟩) := Lib.hid (by simp [wordT, hres])
    clear hres
    go_enter Tryd.func30, Tryd.ntmps30
    go_wp2_with (first
      | (go_at_call 21; refine HP.out.mono ?_; rintro e w1 ⟨rfl, hc1, hb1⟩; have HC1 := Lib.hid hc1; have HB1 := Lib.hid hb1; clear hc1 hb1)
      | (go_at_call 39; refine (clone_any T _ hsz).mono ?_; rintro e w2 ⟨rfl, hb2⟩; have HB2 := Lib.hid hb2; clear hb2)
      | (go_at_call 12; refine (reserved_any T _).mono ?_; rintro e w3 ⟨rfl, rfl⟩; rw [HR.out])
      | (go_at_call 40; refine (put_any ((HC1.out.after HB2.out).after ((Below.refl _ _).alloc (Nat.le_refl _) _)) 2 0 0 0 T pos HC.out.firstLe (by have := HC.out.posLe; have := HC.out.size; omega) HCT.out).mono ?_; rintro e w4 ⟨rfl, hc4, hb4⟩; have HC4 := Lib.hid hc4; have HB4 := Lib.hid hb4; clear hc4 hb4))
    go_ret
    exact ⟨rfl, by rw [HW.out]; exact HC4.out, (below_then (below_then HB1.out HB2.out HC1.out.base) ((Below.refl _ _).alloc (Nat.le_refl _) _) (HC1.out.after HB2.out).base).trans HB4.out⟩
end
end Go.Proofs.YtgcphhialllieaaDoor.Lx
