/- Package lex's cursor: its states: where each leaves the cursor, and what it goes on with. Conditions: the cursor lies in memory as CurAt says; the library's variables hold what start-up lays (Env). · Package lex's cursor at a word: where it stands then, the token it lays, or its fault. Conditions: the cursor lies in memory as CurAt says; a letter comes next. · Package lex's cursor at a number: where it stands then, the token it lays, or its fault. Conditions: the cursor lies in memory as CurAt says; a digit comes next; the library's variables hold what start-up lays. · Package lex's cursor at a line's end, and at the text's: where it stands then, the token it lays. Conditions: the cursor lies in memory as CurAt says; a line's end, or nothing, comes next. · Package lex's All: what it answers, at any text, proved by walking its text; the loop goes from state to state, and what it all comes to stays the same. Conditions: the library's variables hold what start-up lays. · Package lex's Name: what it answers, at any text. No conditions. -/
import Derived.Test.YteonmabfhilcfaaGreatDoorLexOne
import Derived.Test.YteonmabfhilcfaaGreatDoorLexTick
namespace Go.Proofs.YteonmabfhilcfaaGreatDoor.Lx
open Go.ChangeShapes Go.WideShapes Go.ChangeAt Go.RowKit
set_option linter.unusedVariables false

/-- it goes on with state f -/
def StepPost (w : World) (n0 B : Nat) (s : ByteArray) (pos line first : Nat) (toks : List Tok) (f : Nat) (e : Ending) (w' : World) : Prop :=
  e = .returned (.func (.func f) #[.pointer (some ⟨B, 0, none⟩)] #[]) ∧ CurAt w' n0 B s pos line first toks ∧ Below n0 w w'
def EndPost (w : World) (n0 B : Nat) (s : ByteArray) (pos line first : Nat) (toks : List Tok) (e : Ending) (w' : World) : Prop :=
  e = .returned .nilFunc ∧ CurAt w' n0 B s pos line first toks ∧ Below n0 w w'
def nextF (k : Nat) : Nat := if k = 2 then 81 else if k = 4 then 82 else if k = 5 then 83 else if k = 6 then 84 else if k = 3 ∨ k = 1 then 85 else 86

theorem kindOf_le (c : UInt8) : kindOf c ≤ 7 := by unfold kindOf; split <;> (try omega); split <;> (try omega); split <;> (try omega); split <;> (try omega); split <;> (try omega); split <;> omega
theorem nextK_le (l : List UInt8) : nextK l ≤ 7 := by cases l with | nil => simp [nextK] | cons c r => exact kindOf_le c
section
variable {w : World} {n0 B : Nat} {s : ByteArray} {pos line first : Nat} {toks : List Tok}

set_option maxHeartbeats 1000000 in
theorem between_any (h : CurAt w n0 B s pos line first toks) :
    Calls Tryz.prog 56 #[.pointer (some ⟨B, 0, none⟩)] w (StepPost w n0 B s pos line first toks (nextF (nextK (rest s pos)))) := by
  have hk := nextK_le (rest s pos)
  have HC := Lib.hid h
  obtain ⟨k, hkk⟩ : ∃ k, nextK (rest s pos) = k := ⟨_, rfl⟩
  rw [hkk] at hk ⊢
  have HK := Lib.hid hkk
  clear h hkk
  have h8 : k = 0 ∨ k = 1 ∨ k = 2 ∨ k = 3 ∨ k = 4 ∨ k = 5 ∨ k = 6 ∨ k = 7 := by omega
  clear hk
  rcases h8 with rfl | rfl | rfl | rfl | rfl | rfl | rfl | rfl
  all_goals
    go_enter Tryz.func56, Tryz.ntmps56
    go_wp2_with (go_at_call 80; refine (next_any HC.out).mono ?_; rintro e w1 ⟨rfl, hb1⟩; rw [HK.out]; have HB1 := Lib.hid hb1; clear hb1)
    go_ret
    exact ⟨rfl, HC.out.after HB1.out, HB1.out.mono HC.out.base⟩

set_option maxHeartbeats 1000000 in
theorem behind_any (h : CurAt w n0 B s pos line first toks) :
    Calls Tryz.prog 108 #[.pointer (some ⟨B, 0, none⟩)] w (StepPost w n0 B s pos line first toks (if nextK (rest s pos) = 5 ∨ nextK (rest s pos) = 7 then 86 else 56)) := by
  have hk := nextK_le (rest s pos)
  have HC := Lib.hid h
  obtain ⟨k, hkk⟩ : ∃ k, nextK (rest s pos) = k := ⟨_, rfl⟩
  rw [hkk] at hk ⊢
  have HK := Lib.hid hkk
  clear h hkk
  have h8 : k = 0 ∨ k = 1 ∨ k = 2 ∨ k = 3 ∨ k = 4 ∨ k = 5 ∨ k = 6 ∨ k = 7 := by omega
  clear hk
  rcases h8 with rfl | rfl | rfl | rfl | rfl | rfl | rfl | rfl
  all_goals
    go_enter Tryz.func108, Tryz.ntmps108
    go_wp2_with (go_at_call 80; refine (next_any HC.out).mono ?_; rintro e w1 ⟨rfl, hb1⟩; rw [HK.out]; have HB1 := Lib.hid hb1; clear hb1)
    go_ret
    exact ⟨rfl, HC.out.after HB1.out, HB1.out.mono HC.out.base⟩

set_option maxHeartbeats 1000000 in
theorem wrong_any (h : CurAt w n0 B s pos line first toks) :
    Calls Tryz.prog 86 #[.pointer (some ⟨B, 0, none⟩)] w (RefPost w n0 B s pos line first 7 line ((pos - first + 1 : Nat) : Int)) := by
  have HC := Lib.hid h
  have c1 := h.c1
  have hr := refuse_any h 7 pos h.firstLe (by have := h.posLe; have := h.size; omega)
  have HR := Lib.hid hr
  clear h hr
  go_enter Tryz.func86, Tryz.ntmps86
  go_wp2_with (go_at_call 103; refine HR.out.mono ?_; rintro e w1 ⟨rfl, hb1⟩; have HB1 := Lib.hid hb1; clear hb1)
  go_ret
  exact ⟨rfl, HB1.out⟩

set_option maxHeartbeats 1000000 in
theorem blanks_any (h : CurAt w n0 B s pos line first toks) :
    Calls Tryz.prog 81 #[.pointer (some ⟨B, 0, none⟩)] w (StepPost w n0 B s (pos + runN [2] s pos) line first toks 56) := by
  have HC := Lib.hid h
  have hA := (h.after ((Below.refl _ w).alloc (Nat.le_refl _) (.cells #[.int .i64 2] 115)))
  have hp := pass_any [2] rfl 1 rfl (by omega) hA (gk := w.heap.size) (Blk.new w _ [.int .i64 2])
  have HP := Lib.hid hp
  clear h hA hp
  go_enter Tryz.func81, Tryz.ntmps81
  go_wp2_with (go_at_call 102; refine HP.out.mono ?_; rintro e w1 ⟨rfl, hb1⟩; have HB1 := Lib.hid hb1; clear hb1)
  go_ret
  have hb := (Below.refl w.heap.size w).alloc (Nat.le_refl _) (.cells #[.int .i64 2] 115)
  exact ⟨rfl, HB1.out.1, (hb.mono HC.out.base).trans HB1.out.2⟩
set_option maxHeartbeats 1000000 in
theorem remark_any (h : CurAt w n0 B s pos line first toks) :
    Calls Tryz.prog 82 #[.pointer (some ⟨B, 0, none⟩)] w (StepPost w n0 B s (pos + runN [0, 2, 4, 5, 6, 7] s pos) line first toks 56) := by
  have HC := Lib.hid h
  have hA := (h.after ((Below.refl _ w).alloc (Nat.le_refl _) (.cells #[.int .i64 0, .int .i64 2, .int .i64 4, .int .i64 5, .int .i64 6, .int .i64 7] 115)))
  have hp := pass_any [0, 2, 4, 5, 6, 7] rfl 6 rfl (by omega) hA (gk := w.heap.size) (Blk.new w _ [.int .i64 0, .int .i64 2, .int .i64 4, .int .i64 5, .int .i64 6, .int .i64 7])
  have HP := Lib.hid hp
  clear h hA hp
  go_enter Tryz.func82, Tryz.ntmps82
  go_wp2_with (go_at_call 102; refine HP.out.mono ?_; rintro e w1 ⟨rfl, hb1⟩; have HB1 := Lib.hid hb1; clear hb1)
  go_ret
  have hb := (Below.refl w.heap.size w).alloc (Nat.le_refl _) (.cells #[.int .i64 0, .int .i64 2, .int .i64 4, .int .i64 5, .int .i64 6, .int .i64 7] 115)
  exact ⟨rfl, HB1.out.1, (hb.mono HC.out.base).trans HB1.out.2⟩
end
end Go.Proofs.YteonmabfhilcfaaGreatDoor.Lx
namespace Go.Proofs.YteonmabfhilcfaaGreatDoor.Lx
open Go.ChangeShapes Go.WideShapes Go.ChangeAt Go.RowKit
set_option linter.unusedVariables false

theorem passP_more : passP [5, 6, 7] = isMore := by
  funext c
  simp only [passP, inKs, isMore, List.contains_cons, List.contains_nil, Bool.or_false]
  cases h5 : (kindOf c == 5) <;> cases h6 : (kindOf c == 6) <;> cases h7 : (kindOf c == 7) <;> rfl
theorem passP_bl : passP [2] = isBl := by
  funext c
  show ([2] : List Nat).contains (kindOf c) = _
  simp only [List.contains_cons, List.contains_nil, Bool.or_false]
  rfl
theorem passP_dig : passP [6] = Tk.isDig := by
  funext c
  rw [isDig_kind]
  show ([6] : List Nat).contains (kindOf c) = _
  simp only [List.contains_cons, List.contains_nil, Bool.or_false]
theorem passP_in : passP [0, 2, 4, 5, 6, 7] = inLine := by
  funext c
  have := kindOf_le c
  have h1 : kindOf c ≠ 1 := by unfold kindOf; split <;> (try omega); split <;> (try omega); split <;> (try omega); split <;> (try omega); split <;> (try omega); split <;> omega
  simp only [passP, inKs, inLine]
  obtain ⟨k, hk⟩ : ∃ k, k = kindOf c := ⟨_, rfl⟩
  rw [← hk] at this h1 ⊢
  have h8 : k = 0 ∨ k = 2 ∨ k = 3 ∨ k = 4 ∨ k = 5 ∨ k = 6 ∨ k = 7 := by omega
  rcases h8 with rfl | rfl | rfl | rfl | rfl | rfl | rfl <;> rfl
theorem ext_run (ks : List Nat) (s : ByteArray) (pos : Nat) : (s.extract pos (pos + runN ks s pos)).data.toList = (rest s pos).takeWhile (passP ks) := by
  rw [Tk.ext_data, List.drop_take, Nat.add_sub_cancel_left]
  exact take_run _ _
theorem ext_size (ks : List Nat) (s : ByteArray) (pos : Nat) : (s.extract pos (pos + runN ks s pos)).size = runN ks s pos := by
  rw [Lib.size_eq, ext_run]; rfl
theorem run_pos {ks : List Nat} {s : ByteArray} {pos : Nat} (h : inKs ks (nextK (rest s pos)) = true) (h1 : inKs ks 1 = false) : 1 ≤ runN ks s pos := by
  unfold runN
  cases hr : rest s pos with
  | nil => rw [hr] at h; simp [nextK, h1] at h
  | cons c r =>
    rw [hr] at h
    rw [List.takeWhile_cons_of_pos (show passP ks c = true from h)]; simp
section
variable {w : World} {n0 B : Nat} {s : ByteArray} {pos line first : Nat} {toks : List Tok}

/-- pass, its text by name -/
theorem pass_named (ks : List Nat) (hk1 : inKs ks 1 = false) (n : Nat) (hn : Hid (n = ks.length)) (hN : n ≤ 100) (h : CurAt w n0 B s pos line first toks) :
    ∃ (T : ByteArray) (q : Nat), Hid (T.data.toList = (rest s pos).takeWhile (passP ks) ∧ T.size = runN ks s pos ∧ q = pos + runN ks s pos) ∧
      Hid (Calls Tryz.prog 102 #[.pointer (some ⟨B, 0, none⟩), .slice (some ⟨w.heap.size, 0, none⟩) n n] (w.alloc (.cells (kc ks).toArray 115)) fun e w' =>
        e = .returned (.string T) ∧ CurAt w' n0 B s q line first toks ∧ Below n0 w w') := by
  refine ⟨s.extract pos (pos + runN ks s pos), pos + runN ks s pos, ⟨ext_run ks s pos, ext_size ks s pos, rfl⟩, ?_⟩
  have hA := h.after ((Below.refl _ w).alloc (Nat.le_refl _) (.cells (kc ks).toArray 115))
  refine (pass_any ks hk1 n hn hN hA (gk := w.heap.size) (Blk.new w _ (kc ks))).mono ?_
  rintro e w' ⟨he, hc, hb⟩
  exact ⟨he, hc, (((Below.refl w.heap.size w).alloc (Nat.le_refl _) _).mono h.base).trans hb⟩

set_option maxHeartbeats 1000000 in
theorem word_long (h : CurAt w n0 B s pos line first toks) (h24 : 24 < runN [5, 6, 7] s pos) :
    Calls Tryz.prog 83 #[.pointer (some ⟨B, 0, none⟩)] w (RefPost w n0 B s (pos + runN [5, 6, 7] s pos) line first 3 line ((pos - first + 1 : Nat) : Int)) := by
  obtain ⟨T, q, HT, HP⟩ := pass_named [5, 6, 7] rfl 3 rfl (by omega) h
  have c1 := h.c1
  have HC := Lib.hid h
  have hq := HT.out.2.2
  have h1 := HT.out.2.1
  have h25 : 24 < T.size := by omega
  have hsz : T.size ≤ 65536 := by have := run_le [5, 6, 7] s pos h.posLe; have := h.size; omega
  rw [← hq]
  clear h hq h1 h24
  go_enter Tryz.func83, Tryz.ntmps83
  go_wp2_with (first
    | (go_at_call 102; refine HP.out.mono ?_; rintro e w1 ⟨rfl, hc1, hb1⟩; have HC1 := Lib.hid hc1; have HB1 := Lib.hid hb1; clear hc1 hb1)
    | (go_at_call 103; refine (refuse_any HC1.out 3 pos HC.out.firstLe (by have := HC.out.posLe; have := HC.out.size; omega)).mono ?_; rintro e w2 ⟨rfl, hc2, hb2⟩; have HC2 := Lib.hid hc2; have HB2 := Lib.hid hb2; clear hc2 hb2))
  go_ret
  exact ⟨rfl, HC2.out, HB1.out.trans HB2.out⟩

set_option maxHeartbeats 1000000 in
theorem word_short (h : CurAt w n0 B s pos line first toks) (h0 : 1 ≤ runN [5, 6, 7] s pos) (h24 : runN [5, 6, 7] s pos ≤ 24) :
    Calls Tryz.prog 83 #[.pointer (some ⟨B, 0, none⟩)] w (StepPost w n0 B s (pos + runN [5, 6, 7] s pos) line first (toks ++ [wordT ((rest s pos).takeWhile isMore) line (pos - first + 1)]) 56) := by
  obtain ⟨T, q, HT, HP⟩ := pass_named [5, 6, 7] rfl 3 rfl (by omega) h
  have c1 := h.c1
  have HC := Lib.hid h
  have hq := HT.out.2.2
  have h1 := HT.out.2.1
  have h25 : T.size ≤ 24 := by omega
  have hsz : T.size ≤ 65536 := by omega
  have HCT : Hid (toks.length + 1 + 1 ≤ 2 * q) := Lib.hid (by have := h.count; omega)
  have hl : T.data.toList = (rest s pos).takeWhile isMore := by rw [HT.out.1, passP_more]
  rw [← hq, ← hl]
  clear h hq h1 h24 hl h0
  cases hres : isRes T.data.toList with
  | false =>
    have HR := Lib.hid hres
    have HW : Hid (wordT T.data.toList line (pos - first + 1) = ⟨1, T.data.toList, 0, line, ((pos - first + 1 : Nat) : Int)⟩) := Lib.hid (by simp [wordT, hres])
    clear hres
    go_enter Tryz.func83, Tryz.ntmps83
    go_wp2_with (first
      | (go_at_call 102; refine HP.out.mono ?_; rintro e w1 ⟨rfl, hc1, hb1⟩; have HC1 := Lib.hid hc1; have HB1 := Lib.hid hb1; clear hc1 hb1)
      | (go_at_call 104; refine (clone_any T _ hsz).mono ?_; rintro e w2 ⟨rfl, hb2⟩; have HB2 := Lib.hid hb2; clear hb2)
      | (go_at_call 105; refine (reserved_any T _).mono ?_; rintro e w3 ⟨rfl, rfl⟩; rw [HR.out])
      | (go_at_call 106; refine (put_any ((HC1.out.after HB2.out).after ((Below.refl _ _).alloc (Nat.le_refl _) _)) 1 0 0 0 T pos HC.out.firstLe (by have := HC.out.posLe; have := HC.out.size; omega) HCT.out).mono ?_; rintro e w4 ⟨rfl, hc4, hb4⟩; have HC4 := Lib.hid hc4; have HB4 := Lib.hid hb4; clear hc4 hb4))
    go_ret
    exact ⟨rfl, by rw [HW.out]; exact HC4.out, (below_then (below_then HB1.out HB2.out HC1.out.base) ((Below.refl _ _).alloc (Nat.le_refl _) _) (HC1.out.after HB2.out).base).trans HB4.out⟩
  | true =>
    have HR := Lib.hid hres
    have HW : Hid (wordT T.data.toList line (pos - first + 1) = ⟨2, T.data.toList, 0, line, ((pos - first + 1 : Nat) : Int)⟩) := Lib.hid (by simp [wordT, hres])
    clear hres
    go_enter Tryz.func83, Tryz.ntmps83
    go_wp2_with (first
      | (go_at_call 102; refine HP.out.mono ?_; rintro e w1 ⟨rfl, hc1, hb1⟩; have HC1 := Lib.hid hc1; have HB1 := Lib.hid hb1; clear hc1 hb1)
      | (go_at_call 104; refine (clone_any T _ hsz).mono ?_; rintro e w2 ⟨rfl, hb2⟩; have HB2 := Lib.hid hb2; clear hb2)
      | (go_at_call 105; refine (reserved_any T _).mono ?_; rintro e w3 ⟨rfl, rfl⟩; rw [HR.out])
      | (go_at_call 106; refine (put_any ((HC1.out.after HB2.out).after ((Below.refl _ _).alloc (Nat.le_refl _) _)) 2 0 0 0 T pos HC.out.firstLe (by have := HC.out.posLe; have := HC.out.size; omega) HCT.out).mono ?_; rintro e w4 ⟨rfl, hc4, hb4⟩; have HC4 := Lib.hid hc4; have HB4 := Lib.hid hb4; clear hc4 hb4))
    go_ret
    exact ⟨rfl, by rw [HW.out]; exact HC4.out, (below_then (below_then HB1.out HB2.out HC1.out.base) ((Below.refl _ _).alloc (Nat.le_refl _) _) (HC1.out.after HB2.out).base).trans HB4.out⟩
end
end Go.Proofs.YteonmabfhilcfaaGreatDoor.Lx
namespace Go.Proofs.YteonmabfhilcfaaGreatDoor.Lx
open Go.ChangeShapes Go.WideShapes Go.ChangeAt Go.RowKit
set_option linter.unusedVariables false

theorem digs_not_inf (l : List UInt8) : l.takeWhile Tk.isDig ≠ Tk.infL := by
  intro e
  have h : (l.takeWhile Tk.isDig).all Tk.isDig = true := List.all_takeWhile
  rw [e] at h
  exact absurd h (by decide)
section
variable {w : World} {n0 B : Nat} {s : ByteArray} {pos line first : Nat} {toks : List Tok}

set_option maxHeartbeats 1000000 in
theorem number_bad (h : CurAt w n0 B s pos line first toks) (hE : ∀ w', Below n0 w w' → Tk.Env w') (v e9 err : Int) (hv : Tk.parseV ((rest s pos).takeWhile Tk.isDig) = v ∧ Tk.parseE ((rest s pos).takeWhile Tk.isDig) = e9) (h9 : (e9 = 7 ∧ err = 7) ∨ (e9 = 9 ∧ err = 3)) :
    Calls Tryz.prog 84 #[.pointer (some ⟨B, 0, none⟩)] w (RefPost w n0 B s (pos + runN [6] s pos) line first err line ((pos - first + 1 : Nat) : Int)) := by
  obtain ⟨T, q, HT, HP⟩ := pass_named [6] rfl 1 rfl (by omega) h
  have c1 := h.c1
  have HC := Lib.hid h
  have HE := Lib.hid hE
  have hq := HT.out.2.2
  have hsz : T.size ≤ 65536 := by have := HT.out.2.1; have := run_le [6] s pos h.posLe; have := h.size; omega
  have hl : T.data.toList = (rest s pos).takeWhile Tk.isDig := by rw [HT.out.1, passP_dig]
  rw [← hq]
  rw [← hl] at hv
  have HV := Lib.hid hv
  clear h hq hl hv hE
  rcases h9 with ⟨rfl, rfl⟩ | ⟨rfl, rfl⟩
  · go_enter Tryz.func84, Tryz.ntmps84
    go_wp2_with (first
      | (go_at_call 102; refine HP.out.mono ?_; rintro e w1 ⟨rfl, hc1, hb1⟩; have HC1 := Lib.hid hc1; have HB1 := Lib.hid hb1; clear hc1 hb1)
      | (go_at_call 107; refine (Tk.parse_any T (Nat.le_trans hsz (by decide)) _ (HE.out _ HB1.out)).mono ?_; rintro e w2 ⟨rfl, hb2⟩; rw [HV.out.1, HV.out.2]; have HB2 := Lib.hid hb2; clear hb2; have HC2 := Lib.hid (HC1.out.after HB2.out))
      | (go_at_call 103; refine (refuse_any HC2.out 7 pos HC.out.firstLe (by have := HC.out.posLe; have := HC.out.size; omega)).mono ?_; rintro e w3 ⟨rfl, hc3, hb3⟩; have HC3 := Lib.hid hc3; have HB3 := Lib.hid hb3; clear hc3 hb3))
    go_ret
    exact ⟨rfl, HC3.out, (below_then HB1.out HB2.out HC1.out.base).trans HB3.out⟩
  · go_enter Tryz.func84, Tryz.ntmps84
    go_wp2_with (first
      | (go_at_call 102; refine HP.out.mono ?_; rintro e w1 ⟨rfl, hc1, hb1⟩; have HC1 := Lib.hid hc1; have HB1 := Lib.hid hb1; clear hc1 hb1)
      | (go_at_call 107; refine (Tk.parse_any T (Nat.le_trans hsz (by decide)) _ (HE.out _ HB1.out)).mono ?_; rintro e w2 ⟨rfl, hb2⟩; rw [HV.out.1, HV.out.2]; have HB2 := Lib.hid hb2; clear hb2; have HC2 := Lib.hid (HC1.out.after HB2.out))
      | (go_at_call 103; refine (refuse_any HC2.out 3 pos HC.out.firstLe (by have := HC.out.posLe; have := HC.out.size; omega)).mono ?_; rintro e w3 ⟨rfl, hc3, hb3⟩; have HC3 := Lib.hid hc3; have HB3 := Lib.hid hb3; clear hc3 hb3))
    go_ret
    exact ⟨rfl, HC3.out, (below_then HB1.out HB2.out HC1.out.base).trans HB3.out⟩

set_option maxHeartbeats 1000000 in
theorem number_good (h : CurAt w n0 B s pos line first toks) (hE : ∀ w', Below n0 w w' → Tk.Env w') (h0 : 1 ≤ runN [6] s pos) (hc : Tk.canon ((rest s pos).takeWhile Tk.isDig) = true) (hd : Tk.dval ((rest s pos).takeWhile Tk.isDig) ≤ 1099511627776) :
    Calls Tryz.prog 84 #[.pointer (some ⟨B, 0, none⟩)] w (StepPost w n0 B s (pos + runN [6] s pos) line first (toks ++ [numT ((rest s pos).takeWhile Tk.isDig) line (pos - first + 1)]) 108) := by
  obtain ⟨T, q, HT, HP⟩ := pass_named [6] rfl 1 rfl (by omega) h
  have c1 := h.c1
  have HC := Lib.hid h
  have HE := Lib.hid hE
  have hq := HT.out.2.2
  have hsz : T.size ≤ 65536 := by have := HT.out.2.1; have := run_le [6] s pos h.posLe; have := h.size; omega
  have HCT : Hid (toks.length + 1 + 1 ≤ 2 * q) := Lib.hid (by have := h.count; omega)
  have hl : T.data.toList = (rest s pos).takeWhile Tk.isDig := by rw [HT.out.1, passP_dig]
  have hv := Tk.parse_ok hc hd
  rw [← hq]
  rw [← hl] at hv ⊢
  obtain ⟨dv, hdv⟩ : ∃ dv : Int, dv = (Tk.dval T.data.toList : Int) := ⟨_, rfl⟩
  rw [← hdv] at hv
  have HV := Lib.hid hv
  have HW : Hid (numT T.data.toList line (pos - first + 1) = ⟨3, T.data.toList, dv, line, ((pos - first + 1 : Nat) : Int)⟩) := Lib.hid (by simp [numT, hdv])
  clear h hq hl hv hE hdv hc hd h0
  go_enter Tryz.func84, Tryz.ntmps84
  go_wp2_with (first
    | (go_at_call 102; refine HP.out.mono ?_; rintro e w1 ⟨rfl, hc1, hb1⟩; have HC1 := Lib.hid hc1; have HB1 := Lib.hid hb1; clear hc1 hb1)
    | (go_at_call 107; refine (Tk.parse_any T (Nat.le_trans hsz (by decide)) _ (HE.out _ HB1.out)).mono ?_; rintro e w2 ⟨rfl, hb2⟩; rw [HV.out.1, HV.out.2]; have HB2 := Lib.hid hb2; clear hb2; have HC2 := Lib.hid (HC1.out.after HB2.out))
    | (go_at_call 104; refine (clone_any T _ hsz).mono ?_; rintro e w3 ⟨rfl, hb3⟩; have HB3 := Lib.hid hb3; clear hb3; have HC3 := Lib.hid (HC2.out.after HB3.out))
    | (go_at_call 106; refine (put_any HC3.out 3 dv 0 0 T pos HC.out.firstLe (by have := HC.out.posLe; have := HC.out.size; omega) HCT.out).mono ?_; rintro e w4 ⟨rfl, hc4, hb4⟩; have HC4 := Lib.hid hc4; have HB4 := Lib.hid hb4; clear hc4 hb4))
  go_ret
  exact ⟨rfl, by rw [HW.out]; exact HC4.out, (below_then (below_then HB1.out HB2.out HC1.out.base) HB3.out HC2.out.base).trans HB4.out⟩
end
end Go.Proofs.YteonmabfhilcfaaGreatDoor.Lx
namespace Go.Proofs.YteonmabfhilcfaaGreatDoor.Lx
open Go.ChangeShapes Go.WideShapes Go.ChangeAt Go.RowKit
set_option linter.unusedVariables false
section
variable {w : World} {n0 B : Nat} {s : ByteArray} {pos line first : Nat} {toks : List Tok}

theorem CurAt.last (h : CurAt w n0 B s pos line first toks) {k : Nat} (hk : toks.length = k + 1) : ∃ g cap kd, w.cell? ⟨B, 4, none⟩ = some (.slice (some ⟨g, 0, none⟩) (k + 1) cap) ∧ w.cell? ⟨g, k * 5, none⟩ = some (.int .i64 kd) ∧ someT toks = !(kd == 4) := by
  obtain ⟨v, h1, h2⟩ := h.obj
  rcases h2.2 with ⟨_, h0⟩ | ⟨g, cap, cur, rfl, _⟩
  · omega
  · have hlt : k < toks.length := by omega
    have hc := h2.cellAt (k * 5) (by omega)
    have ht : toks[k]? = some toks[k] := List.getElem?_eq_getElem hlt
    rw [(tc_at toks k _ ht).1] at hc
    refine ⟨g, cap, toks[k].kind, by rw [← hk]; exact h1.cell 4, hc, ?_⟩
    unfold someT
    rw [List.getLast?_eq_getElem?, hk]
    simp [ht]
/-- behind the end of a line -/
def lineToks (line col : Nat) (toks : List Tok) : List Tok := if someT toks then toks ++ [endT line col] else toks

set_option maxHeartbeats 1000000 in
theorem end_over_empty (h : CurAt w n0 B s pos line first toks) (hn : nextK (rest s pos) = 1) (h0 : toks = []) :
    Calls Tryz.prog 85 #[.pointer (some ⟨B, 0, none⟩)] w (EndPost w n0 B s pos line first toks) := by
  subst h0
  have HC := Lib.hid h
  have HN := Lib.hid hn
  obtain ⟨v, h1, h2⟩ := h.obj
  obtain ⟨A, c, rfl, _, _⟩ := own_form h2
  have d4 : w.cell? ⟨B, 4, none⟩ = some (.slice A 0 c) := h1.cell 4
  clear h1 h2 h hn
  go_enter Tryz.func85, Tryz.ntmps85
  go_wp2_with (first
    | (go_at_call 80; refine (next_any HC.out).mono ?_; rintro e w1 ⟨rfl, hb1⟩; rw [HN.out]; have HB1 := Lib.hid hb1; clear hb1))
  go_ret
  exact ⟨rfl, HC.out.after HB1.out, HB1.out.mono HC.out.base⟩
set_option maxHeartbeats 1000000 in
theorem end_over_done (h : CurAt w n0 B s pos line first toks) (hn : nextK (rest s pos) = 1) (h0 : toks ≠ []) (hs : someT toks = false) :
    Calls Tryz.prog 85 #[.pointer (some ⟨B, 0, none⟩)] w (EndPost w n0 B s pos line first toks) := by
  obtain ⟨k, hk⟩ : ∃ k, toks.length = k + 1 := ⟨toks.length - 1, by have := List.length_pos_iff.2 h0; omega⟩
  obtain ⟨g, cap, kd, d4, d5, hkd⟩ := h.last hk
  have hk2 : kd = 4 := by rw [hs] at hkd; simpa using hkd.symm
  subst hk2
  have HC := Lib.hid h
  have HN := Lib.hid hn
  have hkb : k < 200000 := by have := h.count; have := h.posLe; have := h.size; omega
  clear h hn hk h0 hs hkd
  go_enter Tryz.func85, Tryz.ntmps85
  go_wp2_with (first
    | (go_at_call 80; refine (next_any HC.out).mono ?_; rintro e w1 ⟨rfl, hb1⟩; rw [HN.out]; have HB1 := Lib.hid hb1; clear hb1))
  go_ret
  exact ⟨rfl, HC.out.after HB1.out, HB1.out.mono HC.out.base⟩

set_option maxHeartbeats 1000000 in
theorem end_over_some (h : CurAt w n0 B s pos line first toks) (hn : nextK (rest s pos) = 1) (hs : someT toks = true) :
    Calls Tryz.prog 85 #[.pointer (some ⟨B, 0, none⟩)] w (EndPost w n0 B s pos line first (toks ++ [endT line (pos - first + 1)])) := by
  obtain ⟨k, hk⟩ : ∃ k, toks.length = k + 1 := ⟨toks.length - 1, by cases toks with | nil => simp [someT] at hs | cons a b => simp⟩
  obtain ⟨g, cap, kd, d4, d5, hkd⟩ := h.last hk
  have hk2 : (kd == 4) = false := by rw [hs] at hkd; simpa using hkd.symm
  have c1 := h.c1
  have hct := h.count
  rw [hs] at hct
  simp only [if_true] at hct
  have hp := put_any h 4 0 0 0 ⟨#[]⟩ pos h.firstLe (by have := h.posLe; have := h.size; omega) (by simpa using hct)
  have HP := Lib.hid hp
  have HC := Lib.hid h
  have HN := Lib.hid hn
  have hkb : k < 200000 := by have := h.posLe; have := h.size; omega
  clear h hn hk hs hkd hp hct
  go_enter Tryz.func85, Tryz.ntmps85
  go_wp2_with (first
    | (go_at_call 106; refine HP.out.mono ?_; rintro e w2 ⟨rfl, hc2, hb2⟩; have HC2 := Lib.hid hc2; have HB2 := Lib.hid hb2; clear hc2 hb2)
    | (go_at_call 80; refine (next_any HC2.out).mono ?_; rintro e w1 ⟨rfl, hb1⟩; rw [HN.out]; have HB1 := Lib.hid hb1; clear hb1))
  go_ret
  exact ⟨rfl, HC2.out.after HB1.out, below_then HB2.out HB1.out HC2.out.base⟩

theorem nl_fin {w1 : World} (h : CurAt w1 n0 B s pos line first toks) (hp : pos < s.size) {u1 u2 : Value} (h1 : u1 = .int .i64 ((pos + 1 : Nat) : Int)) (h2 : u2 = .int .i64 ((line + 1 : Nat) : Int)) :
    CurAt (((w1.setCell ⟨B, 1, none⟩ u1).setCell ⟨B, 2, none⟩ u2).setCell ⟨B, 3, none⟩ u1) n0 B s (pos + 1) (line + 1) (pos + 1) toks := by
  subst h1; subst h2
  have hl := h.lineLe
  have hf := h.firstLe
  have a := h.step hp rfl
  have b := a.wrote (pos' := pos + 1) (line' := line + 1) (first' := first) 2 _ (fun v => rfl) (by omega) (by omega) (by omega) (by omega)
  exact b.wrote (pos' := pos + 1) (line' := line + 1) (first' := pos + 1) 3 _ (fun v => rfl) (by omega) (by omega) (by omega) (by omega)
theorem rest_lt (h : nextK (rest s pos) = 3) : pos < s.size := by
  rcases Nat.lt_or_ge pos s.size with hl | hl
  · exact hl
  · rw [rest_over hl] at h; simp [nextK] at h

set_option maxHeartbeats 1000000 in
theorem end_nl_empty (h : CurAt w n0 B s pos line first toks) (hn : nextK (rest s pos) = 3) (h0 : toks = []) :
    Calls Tryz.prog 85 #[.pointer (some ⟨B, 0, none⟩)] w (StepPost w n0 B s (pos + 1) (line + 1) (pos + 1) toks 56) := by
  subst h0
  have HC := Lib.hid h
  have HN := Lib.hid hn
  have hps : pos < 65536 := by have := rest_lt hn; have := h.size; omega
  have hln : line < 65538 := by have := h.lineLe; omega
  obtain ⟨v, h1, h2⟩ := h.obj
  obtain ⟨A, c, rfl, _, _⟩ := own_form h2
  have d4 : w.cell? ⟨B, 4, none⟩ = some (.slice A 0 c) := h1.cell 4
  clear h1 h2 h hn
  go_enter Tryz.func85, Tryz.ntmps85
  go_wp2_with (first
    | (go_at_call 80; refine (next_any HC.out).mono ?_; rintro e w1 ⟨rfl, hb1⟩; rw [HN.out]; have HB1 := Lib.hid hb1; clear hb1; have HC1 := Lib.hid (HC.out.after HB1.out); have e1 := HC1.out.c1; have e2 := HC1.out.c2; have e3 := HC1.out.c3; have ef := HC1.out.fr))
  go_ret
  have hlo := HC.out.lo
  exact ⟨rfl, nl_fin HC1.out (rest_lt HN.out) (by go_num) (by go_num), (((HB1.out.mono HC.out.base).setCell hlo _).setCell hlo _).setCell hlo _⟩
set_option maxHeartbeats 1000000 in
theorem end_nl_done (h : CurAt w n0 B s pos line first toks) (hn : nextK (rest s pos) = 3) (h0 : toks ≠ []) (hs : someT toks = false) :
    Calls Tryz.prog 85 #[.pointer (some ⟨B, 0, none⟩)] w (StepPost w n0 B s (pos + 1) (line + 1) (pos + 1) toks 56) := by
  obtain ⟨k, hk⟩ : ∃ k, toks.length = k + 1 := ⟨toks.length - 1, by have := List.length_pos_iff.2 h0; omega⟩
  obtain ⟨g, cap, kd, d4, d5, hkd⟩ := h.last hk
  have hk2 : kd = 4 := by rw [hs] at hkd; simpa using hkd.symm
  subst hk2
  have HC := Lib.hid h
  have HN := Lib.hid hn
  have hps : pos < 65536 := by have := rest_lt hn; have := h.size; omega
  have hln : line < 65538 := by have := h.lineLe; omega
  have hkb : k < 200000 := by have := h.count; have := h.posLe; have := h.size; omega
  clear h hn hk h0 hs hkd
  go_enter Tryz.func85, Tryz.ntmps85
  go_wp2_with (first
    | (go_at_call 80; refine (next_any HC.out).mono ?_; rintro e w1 ⟨rfl, hb1⟩; rw [HN.out]; have HB1 := Lib.hid hb1; clear hb1; have HC1 := Lib.hid (HC.out.after HB1.out); have e1 := HC1.out.c1; have e2 := HC1.out.c2; have e3 := HC1.out.c3; have ef := HC1.out.fr))
  go_ret
  have hlo := HC.out.lo
  exact ⟨rfl, nl_fin HC1.out (rest_lt HN.out) (by go_num) (by go_num), (((HB1.out.mono HC.out.base).setCell hlo _).setCell hlo _).setCell hlo _⟩
set_option maxHeartbeats 1000000 in
theorem end_nl_some (h : CurAt w n0 B s pos line first toks) (hn : nextK (rest s pos) = 3) (hs : someT toks = true) :
    Calls Tryz.prog 85 #[.pointer (some ⟨B, 0, none⟩)] w (StepPost w n0 B s (pos + 1) (line + 1) (pos + 1) (toks ++ [endT line (pos - first + 1)]) 56) := by
  obtain ⟨k, hk⟩ : ∃ k, toks.length = k + 1 := ⟨toks.length - 1, by cases toks with | nil => simp [someT] at hs | cons a b => simp⟩
  obtain ⟨g, cap, kd, d4, d5, hkd⟩ := h.last hk
  have hk2 : (kd == 4) = false := by rw [hs] at hkd; simpa using hkd.symm
  have c1 := h.c1
  have hct := h.count
  rw [hs] at hct
  simp only [if_true] at hct
  have hp := put_any h 4 0 0 0 ⟨#[]⟩ pos h.firstLe (by have := h.posLe; have := h.size; omega) (by simpa using hct)
  have HP := Lib.hid hp
  have HC := Lib.hid h
  have HN := Lib.hid hn
  have hps : pos < 65536 := by have := rest_lt hn; have := h.size; omega
  have hln : line < 65538 := by have := h.lineLe; omega
  have hkb : k < 200000 := by omega
  clear h hn hk hs hkd hp hct
  go_enter Tryz.func85, Tryz.ntmps85
  go_wp2_with (first
    | (go_at_call 106; refine HP.out.mono ?_; rintro e w2 ⟨rfl, hc2, hb2⟩; have HC2 := Lib.hid hc2; have HB2 := Lib.hid hb2; clear hc2 hb2)
    | (go_at_call 80; refine (next_any HC2.out).mono ?_; rintro e w1 ⟨rfl, hb1⟩; rw [HN.out]; have HB1 := Lib.hid hb1; clear hb1; have HC1 := Lib.hid (HC2.out.after HB1.out); have e1 := HC1.out.c1; have e2 := HC1.out.c2; have e3 := HC1.out.c3; have ef := HC1.out.fr))
  go_ret
  have hlo := HC.out.lo
  exact ⟨rfl, nl_fin HC1.out (rest_lt HN.out) (by go_num) (by go_num), (((below_then HB2.out HB1.out HC2.out.base).setCell hlo _).setCell hlo _).setCell hlo _⟩
theorem end_over (h : CurAt w n0 B s pos line first toks) (hn : nextK (rest s pos) = 1) :
    Calls Tryz.prog 85 #[.pointer (some ⟨B, 0, none⟩)] w (EndPost w n0 B s pos line first (lineToks line (pos - first + 1) toks)) := by
  unfold lineToks
  cases hs : someT toks with
  | true => rw [if_pos rfl]; exact end_over_some h hn hs
  | false =>
    rw [if_neg (by decide)]
    by_cases h0 : toks = []
    · exact end_over_empty h hn h0
    · exact end_over_done h hn h0 hs
theorem end_nl (h : CurAt w n0 B s pos line first toks) (hn : nextK (rest s pos) = 3) :
    Calls Tryz.prog 85 #[.pointer (some ⟨B, 0, none⟩)] w (StepPost w n0 B s (pos + 1) (line + 1) (pos + 1) (lineToks line (pos - first + 1) toks) 56) := by
  unfold lineToks
  cases hs : someT toks with
  | true => rw [if_pos rfl]; exact end_nl_some h hn hs
  | false =>
    rw [if_neg (by decide)]
    by_cases h0 : toks = []
    · exact end_nl_empty h hn h0
    · exact end_nl_done h hn h0 hs
end
end Go.Proofs.YteonmabfhilcfaaGreatDoor.Lx
namespace Go.Proofs.YteonmabfhilcfaaGreatDoor.Lx
open Go.ChangeShapes Go.WideShapes Go.ChangeAt Go.RowKit
set_option linter.unusedVariables false

/-- what it comes to, the cursor being about to do f -/
def Due (f : Nat) (s : ByteArray) (pos line first : Nat) (toks : List Tok) (R : Res) : Prop :=
  (f = 56 ∧ out (rest s pos) line (pos - first + 1) toks = R) ∨
  (f = 81 ∧ nextK (rest s pos) = 2 ∧ out (rest s pos) line (pos - first + 1) toks = R) ∨
  (f = 82 ∧ nextK (rest s pos) = 4 ∧ out (rest s pos) line (pos - first + 1) toks = R) ∨
  (f = 83 ∧ nextK (rest s pos) = 5 ∧ out (rest s pos) line (pos - first + 1) toks = R) ∨
  (f = 84 ∧ nextK (rest s pos) = 6 ∧ out (rest s pos) line (pos - first + 1) toks = R) ∨
  (f = 85 ∧ (nextK (rest s pos) = 3 ∨ nextK (rest s pos) = 1) ∧ out (rest s pos) line (pos - first + 1) toks = R) ∨
  (f = 86 ∧ R = .bad 7 line (pos - first + 1)) ∨
  (f = 108 ∧ (if nextK (rest s pos) = 5 ∨ nextK (rest s pos) = 7 then R = .bad 7 line (pos - first + 1) else out (rest s pos) line (pos - first + 1) toks = R))
def rank (f : Nat) : Nat := if f = 56 then 2 else if f = 108 then 3 else 1
/-- the cursor goes on -/
def Active (w : World) (n0 B : Nat) (s : ByteArray) (R : Res) (k : Nat) (v : Value) (wr : World) : Prop :=
  ∃ f pos line first toks, v = .func (.func f) #[.pointer (some ⟨B, 0, none⟩)] #[] ∧ CurAt wr n0 B s pos line first toks ∧ Below n0 w wr ∧ Due f s pos line first toks R ∧ k = 4 * (s.size - pos) + rank f
/-- the cursor is through -/
def Done (w : World) (n0 B : Nat) (s : ByteArray) (R : Res) (v : Value) (wr : World) : Prop :=
  v = .nilFunc ∧ Below n0 w wr ∧ ((∃ e l c pos line first, R = .bad e l c ∧ RefAt wr B s pos line first e l c) ∨ (∃ pos line first toks, R = .ok toks ∧ CurAt wr n0 B s pos line first toks))
def AllRel (w : World) (n0 B : Nat) (s : ByteArray) (R : Res) (k : Nat) (v : Value) (wr : World) : Prop := Active w n0 B s R k v wr ∨ Done w n0 B s R v wr
def NextPost (w : World) (n0 B : Nat) (s : ByteArray) (R : Res) (k : Nat) (e : Ending) (w' : World) : Prop := ∃ v k', e = .returned v ∧ k' < k ∧ AllRel w n0 B s R k' v w'

section
variable {w : World} {n0 B : Nat} {s : ByteArray} {R : Res}
theorem go_on {k : Nat} {a wr : World} {f pos line first : Nat} {toks : List Tok} {e : Ending} (h : StepPost wr n0 B s pos line first toks f e a) (hb : Below n0 w wr) (hd : Due f s pos line first toks R) (hk : 4 * (s.size - pos) + rank f < k) : NextPost w n0 B s R k e a :=
  ⟨_, _, h.1, hk, .inl ⟨f, pos, line, first, toks, rfl, h.2.1, hb.trans h.2.2, hd, rfl⟩⟩
theorem go_bad {k : Nat} {a wr : World} {pos line first : Nat} {er l c : Nat} {e : Ending} (h : RefPost wr n0 B s pos line first er l c e a) (hb : Below n0 w wr) (hR : R = .bad er l c) (hk : 0 < k) : NextPost w n0 B s R k e a :=
  ⟨_, 0, h.1, hk, .inr ⟨rfl, hb.trans h.2.2, .inl ⟨er, l, c, pos, line, first, hR, h.2.1⟩⟩⟩
theorem runN_more (s : ByteArray) (pos : Nat) : runN [5, 6, 7] s pos = ((rest s pos).takeWhile isMore).length := by unfold runN; rw [passP_more]
theorem runN_dig (s : ByteArray) (pos : Nat) : runN [6] s pos = ((rest s pos).takeWhile Tk.isDig).length := by unfold runN; rw [passP_dig]
theorem runN_bl (s : ByteArray) (pos : Nat) : runN [2] s pos = ((rest s pos).takeWhile isBl).length := by unfold runN; rw [passP_bl]
theorem runN_in (s : ByteArray) (pos : Nat) : runN [0, 2, 4, 5, 6, 7] s pos = ((rest s pos).takeWhile inLine).length := by unfold runN; rw [passP_in]
theorem rest_run (p : UInt8 → Bool) (s : ByteArray) (pos m : Nat) (h : m = ((rest s pos).takeWhile p).length) : rest s (pos + m) = (rest s pos).dropWhile p := by
  rw [rest_add, h]; exact drop_run p _
theorem col_add {pos first m : Nat} (h : first ≤ pos) : pos + m - first + 1 = pos - first + 1 + m := by omega

theorem next_state {k : Nat} {wr : World} {f pos line first : Nat} {toks : List Tok} (hE : ∀ w', Below n0 wr w' → Tk.Env w') (hc : CurAt wr n0 B s pos line first toks) (hb : Below n0 w wr) (hd : Due f s pos line first toks R) (hk : k = 4 * (s.size - pos) + rank f) :
    Calls Tryz.prog f #[.pointer (some ⟨B, 0, none⟩)] wr (NextPost w n0 B s R k) := by
  have hp := hc.posLe
  have hf := hc.firstLe
  rcases hd with ⟨rfl, ho⟩ | ⟨rfl, h2, ho⟩ | ⟨rfl, h4, ho⟩ | ⟨rfl, h5, ho⟩ | ⟨rfl, h6, ho⟩ | ⟨rfl, h31, ho⟩ | ⟨rfl, hR⟩ | ⟨rfl, hR⟩
  · -- between
    refine (between_any hc).mono fun e w' h => go_on h hb ?_ ?_
    · have hk7 := nextK_le (rest s pos)
      obtain ⟨q, hq⟩ : ∃ q, q = nextK (rest s pos) := ⟨_, rfl⟩
      rw [← hq] at hk7 ⊢
      have h8 : q = 0 ∨ q = 1 ∨ q = 2 ∨ q = 3 ∨ q = 4 ∨ q = 5 ∨ q = 6 ∨ q = 7 := by omega
      rcases h8 with rfl | rfl | rfl | rfl | rfl | rfl | rfl | rfl
      · exact .inr (.inr (.inr (.inr (.inr (.inr (.inl ⟨rfl, by rw [← ho]; exact out_bad (.inl hq.symm) _ _ _⟩))))))
      · exact .inr (.inr (.inr (.inr (.inr (.inl ⟨rfl, .inr hq.symm, ho⟩)))))
      · exact .inr (.inl ⟨rfl, hq.symm, ho⟩)
      · exact .inr (.inr (.inr (.inr (.inr (.inl ⟨rfl, .inl hq.symm, ho⟩)))))
      · exact .inr (.inr (.inl ⟨rfl, hq.symm, ho⟩))
      · exact .inr (.inr (.inr (.inl ⟨rfl, hq.symm, ho⟩)))
      · exact .inr (.inr (.inr (.inr (.inl ⟨rfl, hq.symm, ho⟩))))
      · exact .inr (.inr (.inr (.inr (.inr (.inr (.inl ⟨rfl, by rw [← ho]; exact out_bad (.inr hq.symm) _ _ _⟩))))))
    · rw [hk]
      have : rank (nextF (nextK (rest s pos))) = 1 := by
        unfold nextF
        split
        · rfl
        · split
          · rfl
          · split
            · rfl
            · split
              · rfl
              · split <;> rfl
      rw [this]
      show _ < 4 * (s.size - pos) + 2
      omega
  · -- blanks
    have h1 : 1 ≤ runN [2] s pos := run_pos (by rw [h2]; rfl) rfl
    have hle := run_le [2] s pos hp
    refine (blanks_any hc).mono fun e w' h => go_on h hb (.inl ⟨rfl, ?_⟩) ?_
    · rw [rest_run isBl s pos _ (runN_bl s pos), col_add hf, runN_bl, ← out_blanks]; exact ho
    · rw [hk]; show 4 * (s.size - (pos + runN [2] s pos)) + 2 < 4 * (s.size - pos) + 1; omega
  · -- remark
    have h1 : 1 ≤ runN [0, 2, 4, 5, 6, 7] s pos := run_pos (by rw [h4]; rfl) rfl
    have hle := run_le [0, 2, 4, 5, 6, 7] s pos hp
    refine (remark_any hc).mono fun e w' h => go_on h hb (.inl ⟨rfl, ?_⟩) ?_
    · rw [rest_run inLine s pos _ (runN_in s pos), col_add hf, runN_in, ← out_remark h4]; exact ho
    · rw [hk]; show 4 * (s.size - (pos + runN [0, 2, 4, 5, 6, 7] s pos)) + 2 < 4 * (s.size - pos) + 1; omega
  · -- word
    have h1 : 1 ≤ runN [5, 6, 7] s pos := run_pos (by rw [h5]; rfl) rfl
    have hle := run_le [5, 6, 7] s pos hp
    by_cases h24 : runN [5, 6, 7] s pos ≤ 24
    · refine (word_short hc h1 h24).mono fun e w' h => go_on h hb (.inl ⟨rfl, ?_⟩) ?_
      · rw [rest_run isMore s pos _ (runN_more s pos), col_add hf, runN_more, ← out_word h5 (by rw [← runN_more]; exact h24)]; exact ho
      · rw [hk]; show 4 * (s.size - (pos + runN [5, 6, 7] s pos)) + 2 < 4 * (s.size - pos) + 1; omega
    · refine (word_long hc (by omega)).mono fun e w' h => go_bad (er := 3) h hb ?_ (by rw [hk]; show 0 < _ + 1; omega)
      rw [← ho]; exact out_long h5 (by rw [← runN_more]; omega) _ _ _
  · -- number
    have h1 : 1 ≤ runN [6] s pos := run_pos (by rw [h6]; rfl) rfl
    have hle := run_le [6] s pos hp
    cases hcn : Tk.canon ((rest s pos).takeWhile Tk.isDig) with
    | false =>
      refine (number_bad hc hE 0 7 7 (Tk.parse_no (digs_not_inf _) hcn) (.inl ⟨rfl, rfl⟩)).mono fun e w' h => go_bad (er := 7) h hb ?_ (by rw [hk]; show 0 < _ + 1; omega)
      rw [← ho]; exact out_num_text h6 hcn _ _ _
    | true =>
      by_cases hd : Tk.dval ((rest s pos).takeWhile Tk.isDig) ≤ 1099511627776
      · refine (number_good hc hE h1 hcn hd).mono fun e w' h => go_on h hb (.inr (.inr (.inr (.inr (.inr (.inr (.inr ⟨rfl, ?_⟩))))))) ?_
        · rw [rest_run Tk.isDig s pos _ (runN_dig s pos), col_add hf, runN_dig]
          by_cases hn : nextK ((rest s pos).dropWhile Tk.isDig) = 5 ∨ nextK ((rest s pos).dropWhile Tk.isDig) = 7
          · rw [if_pos hn, ← ho]; exact out_num_behind h6 hcn hd hn _ _ _
          · rw [if_neg hn, ← out_num h6 hcn hd hn]; exact ho
        · rw [hk]; show 4 * (s.size - (pos + runN [6] s pos)) + 3 < 4 * (s.size - pos) + 1; omega
      · refine (number_bad hc hE 0 9 3 (Tk.parse_big hcn hd) (.inr ⟨rfl, rfl⟩)).mono fun e w' h => go_bad (er := 3) h hb ?_ (by rw [hk]; show 0 < _ + 1; omega)
        rw [← ho]; exact out_num_big h6 hcn (by omega) _ _ _
  · -- end
    rcases h31 with h3 | h1
    · have hlt := rest_lt h3
      refine (end_nl hc h3).mono fun e w' h => go_on h hb (.inl ⟨rfl, ?_⟩) ?_
      · rw [rest_at hlt] at h3 ho
        have hk3 : kindOf s[pos] = 3 := h3
        rw [out_nl hk3] at ho
        have e1 : pos + 1 - (pos + 1) + 1 = 1 := by omega
        rw [e1]
        exact ho
      · rw [hk]; show 4 * (s.size - (pos + 1)) + 2 < 4 * (s.size - pos) + 1; omega
    · refine (end_over hc h1).mono fun e w' h => ?_
      have hr : rest s pos = [] := by
        cases hr : rest s pos with
        | nil => rfl
        | cons c r =>
          rw [hr] at h1
          have : kindOf c ≠ 1 := by unfold kindOf; split <;> (try omega); split <;> (try omega); split <;> (try omega); split <;> (try omega); split <;> (try omega); split <;> omega
          exact absurd h1 this
      rw [hr, out_over] at ho
      exact ⟨_, 0, h.1, by rw [hk]; show 0 < _ + 1; omega, .inr ⟨rfl, hb.trans h.2.2, .inr ⟨pos, line, first, _, ho.symm, h.2.1⟩⟩⟩
  · -- wrong
    exact (wrong_any hc).mono fun e w' h => go_bad (er := 7) h hb hR (by rw [hk]; show 0 < _ + 1; omega)
  · -- behind a number
    refine (behind_any hc).mono fun e w' h => ?_
    by_cases hn : nextK (rest s pos) = 5 ∨ nextK (rest s pos) = 7
    · rw [if_pos hn] at hR h
      exact go_on h hb (.inr (.inr (.inr (.inr (.inr (.inr (.inl ⟨rfl, hR⟩))))))) (by rw [hk]; show _ + 1 < _ + 3; omega)
    · rw [if_neg hn] at hR h
      exact go_on h hb (.inl ⟨rfl, hR⟩) (by rw [hk]; show _ + 2 < _ + 3; omega)
end
end Go.Proofs.YteonmabfhilcfaaGreatDoor.Lx
namespace Go.Proofs.YteonmabfhilcfaaGreatDoor.Lx
open Go.ChangeShapes Go.WideShapes Go.ChangeAt Go.RowKit
set_option linter.unusedVariables false

def nameB (l : List UInt8) : Bool := decide (l.length ≤ 24) && (!isRes l && (nextK l == 5 && l.all isMore))
def NamePost (w : World) (b : Bool) (e : Ending) (w' : World) : Prop := e = .returned (.bool b) ∧ Below w.heap.size w w'
theorem tw_eq (l : List UInt8) : (l.takeWhile isMore == l) = l.all isMore := by
  induction l with
  | nil => rfl
  | cons c r ih =>
    by_cases hc : isMore c = true
    · rw [List.takeWhile_cons_of_pos hc, List.all_cons, hc, Bool.true_and, ← ih]
      simp
    · rw [List.takeWhile_cons_of_neg hc, List.all_cons]
      have : isMore c = false := by simpa using hc
      rw [this]; rfl
set_option maxHeartbeats 1000000 in
theorem name_long (s : ByteArray) (hs : 24 < s.size) (w : World) : Calls Tryz.prog 95 #[.string s] w (NamePost w (nameB s.data.toList)) := by
  have H : Hid (nameB s.data.toList = false) := Lib.hid (by unfold nameB; rw [← Lib.size_eq, decide_eq_false (by omega)]; rfl)
  have h : (24 : Int) < (s.size : Int) := by omega
  rw [H.out]
  go_enter Tryz.func95, Tryz.ntmps95
  go_wp2
  go_ret
  exact ⟨rfl, Below.refl _ _⟩
set_option maxHeartbeats 1000000 in
theorem name_res (s : ByteArray) (hs : s.size ≤ 24) (hr : isRes s.data.toList = true) (w : World) : Calls Tryz.prog 95 #[.string s] w (NamePost w (nameB s.data.toList)) := by
  have H : Hid (nameB s.data.toList = false) := Lib.hid (by unfold nameB; rw [hr]; simp)
  have HR := Lib.hid hr
  have h : ¬ (24 : Int) < (s.size : Int) := by omega
  rw [H.out]
  clear hr
  go_enter Tryz.func95, Tryz.ntmps95
  go_wp2_with (go_at_call 105; refine (reserved_any s _).mono ?_; rintro e w1 ⟨rfl, rfl⟩; rw [HR.out])
  go_ret
  exact ⟨rfl, Below.refl _ _⟩
theorem name_cur (s : ByteArray) (hs : s.size ≤ 24) (w : World) : CurAt (w.alloc (.cells #[.string s, .int .i64 0, .int .i64 0, .int .i64 0, .slice none 0 0, .int .i64 0, .int .i64 0, .int .i64 0] 95)) w.heap.size w.heap.size s 0 0 0 [] :=
  ⟨Nat.le_refl _, Nat.zero_le _, Nat.le_refl _, by omega, by omega, by simp [someT_nil], _, Blk.new w 95 (curL s 0 0 0 (.slice none 0 0) 0 0 0), World.ownsRow_nil _ _ _ _⟩
set_option maxHeartbeats 1000000 in
theorem name_no (s : ByteArray) (hs : s.size ≤ 24) (hr : isRes s.data.toList = false) (hk : nextK s.data.toList ≠ 5) (w : World) : Calls Tryz.prog 95 #[.string s] w (NamePost w (nameB s.data.toList)) := by
  have H : Hid (nameB s.data.toList = false) := Lib.hid (by unfold nameB; rw [beq_eq_false_iff_ne.2 hk]; simp)
  have HR := Lib.hid hr
  have HC := Lib.hid (name_cur s hs w)
  have h : ¬ (24 : Int) < (s.size : Int) := by omega
  obtain ⟨k, hkk⟩ : ∃ k, k = nextK s.data.toList := ⟨_, rfl⟩
  have HK : Hid (nextK (rest s 0) = k) := Lib.hid (by rw [hkk]; simp [rest])
  have hne : ((k : Int) == 5) = false := ne_f (by omega)
  rw [H.out]
  clear hr hk hkk
  go_enter Tryz.func95, Tryz.ntmps95
  go_wp2_with (first
    | (go_at_call 105; refine (reserved_any s _).mono ?_; rintro e w1 ⟨rfl, rfl⟩; rw [HR.out])
    | (go_at_call 80; refine (next_any HC.out).mono ?_; rintro e w1 ⟨rfl, hb1⟩; rw [HK.out]; have HB1 := Lib.hid hb1; clear hb1))
  go_ret
  exact ⟨rfl, ((Below.refl _ _).alloc (Nat.le_refl _) _).trans (HB1.out.mono (by simp))⟩
set_option maxHeartbeats 1000000 in
theorem name_yes (s : ByteArray) (hs : s.size ≤ 24) (hr : isRes s.data.toList = false) (hk : nextK s.data.toList = 5) (w : World) : Calls Tryz.prog 95 #[.string s] w (NamePost w (nameB s.data.toList)) := by
  have hl : s.data.toList.length ≤ 24 := by rw [← Lib.size_eq]; exact hs
  have H : Hid (nameB s.data.toList = s.data.toList.all isMore) := Lib.hid (by unfold nameB; rw [hr, hk, decide_eq_true hl]; simp)
  have HR := Lib.hid hr
  have HC := Lib.hid (name_cur s hs w)
  have h : ¬ (24 : Int) < (s.size : Int) := by omega
  have HK : Hid (nextK (rest s 0) = 5) := Lib.hid (by rw [← hk]; simp [rest])
  rw [H.out]
  obtain ⟨T, hT⟩ : ∃ T, T = s.extract 0 (0 + runN [5, 6, 7] s 0) := ⟨_, rfl⟩
  have hTd : T.data.toList = s.data.toList.takeWhile isMore := by rw [hT, ext_run, passP_more]; simp [rest]
  have HQ : Hid ((T.toList == s.toList) = s.data.toList.all isMore) := Lib.hid (by rw [ByteArray.toList_eq, ByteArray.toList_eq, hTd]; exact tw_eq _)
  have HT := Lib.hid hT
  clear hr hk hl hT hTd
  go_enter Tryz.func95, Tryz.ntmps95
  go_wp2_with (first
    | (go_at_call 105; refine (reserved_any s _).mono ?_; rintro e w1 ⟨rfl, rfl⟩; rw [HR.out])
    | (go_at_call 80; refine (next_any HC.out).mono ?_; rintro e w1 ⟨rfl, hb1⟩; rw [HK.out]; have HB1 := Lib.hid hb1; clear hb1)
    | (go_at_call 102; refine (pass_any [5, 6, 7] rfl 3 rfl (by omega) ((HC.out.after HB1.out).after ((Below.refl _ w1).alloc (Nat.le_refl _) (.cells #[.int .i64 5, .int .i64 6, .int .i64 7] 115))) (gk := w1.heap.size) (Blk.new w1 _ [.int .i64 5, .int .i64 6, .int .i64 7])).mono ?_; rintro e w2 ⟨rfl, -, hb2⟩; rw [← HT.out]; have HB2 := Lib.hid hb2; clear hb2))
  go_ret
  exact ⟨ret_b HQ.out.symm, (((Below.refl _ _).alloc (Nat.le_refl _) _).trans (HB1.out.mono (by simp))).trans ((((Below.refl _ w1).alloc (Nat.le_refl _) _).mono (Nat.le_trans (by simp) HB1.out.size)).trans HB2.out)⟩
theorem name_any (s : ByteArray) (w : World) : Calls Tryz.prog 95 #[.string s] w (NamePost w (nameB s.data.toList)) := by
  by_cases hs : 24 < s.size
  · exact name_long s hs w
  · cases hr : isRes s.data.toList with
    | true => exact name_res s (by omega) hr w
    | false =>
      by_cases hk : nextK s.data.toList = 5
      · exact name_yes s (by omega) hr hk w
      · exact name_no s (by omega) hr hk w
end Go.Proofs.YteonmabfhilcfaaGreatDoor.Lx
