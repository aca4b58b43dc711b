/- Package lex's cursor: its states: where each leaves the cursor, and what it goes on with. Conditions: the cursor lies in memory as CurAt says; the library's variables hold what start-up lays (Env). · Package lex's cursor at a word: where it stands then, the token it lays, or its fault. Conditions: the cursor lies in memory as CurAt says; a letter comes next. · Package lex's cursor at a number: where it stands then, the token it lays, or its fault. Conditions: the cursor lies in memory as CurAt says; a digit comes next; the library's variables hold what start-up lays. · Package lex's cursor at a line's end, and at the text's: where it stands then, the token it lays. Conditions: the cursor lies in memory as CurAt says; a line's end, or nothing, comes next. · Package lex's All: what it answers, at any text, proved by walking its text; the loop goes from state to state, and what it all comes to stays the same. Conditions: the library's variables hold what start-up lays. · Package lex's Name: what it answers, at any text. No conditions. -/
import Derived.Test.YtcmlmfcnbmpajaaGreatDoorLexOne
import Derived.Test.YtcmlmfcnbmpajaaGreatDoorLexTick
namespace Go.Proofs.YtcmlmfcnbmpajaaGreatDoor.Lx
open Go.ChangeShapes Go.WideShapes Go.ChangeAt Go.RowKit
set_option linter.unusedVariables false

/-- it goes on with state f -/
def StepPost (w : World) (n0 B : Nat) (s : ByteArray) (pos line first : Nat) (toks : List Tok) (f : Nat) (e : Ending) (w' : World) : Prop :=
  e = .returned (.func (.func f) #[.pointer (some ⟨B, 0, none⟩)] #[]) ∧ CurAt w' n0 B s pos line first toks ∧ Below n0 w w'
def EndPost (w : World) (n0 B : Nat) (s : ByteArray) (pos line first : Nat) (toks : List Tok) (e : Ending) (w' : World) : Prop :=
  e = .returned .nilFunc ∧ CurAt w' n0 B s pos line first toks ∧ Below n0 w w'
theorem kindOf_le (c : UInt8) : kindOf c ≤ 7 := by unfold kindOf; split <;> (try omega); split <;> (try omega); split <;> (try omega); split <;> (try omega); split <;> (try omega); split <;> omega
theorem nextK_le (l : List UInt8) : nextK l ≤ 7 := by cases l with | nil => simp [nextK] | cons c r => exact kindOf_le c
section
variable {w : World} {n0 B : Nat} {s : ByteArray} {pos line first : Nat} {toks : List Tok}

end
end Go.Proofs.YtcmlmfcnbmpajaaGreatDoor.Lx
namespace Go.Proofs.YtcmlmfcnbmpajaaGreatDoor.Lx
open Go.ChangeShapes Go.WideShapes Go.ChangeAt Go.RowKit
set_option linter.unusedVariables false

theorem passP_more : passP [5, 6, 7] = isMore := by
  funext c
  simp only [passP, inKs, isMore, List.contains_cons, List.contains_nil, Bool.or_false]
  cases h5 : (kindOf c == 5) <;> cases h6 : (kindOf c == 6) <;> cases h7 : (kindOf c == 7) <;> rfl
theorem passP_bl : passP [2] = isBl := by
  funext c
  show ([2] : List Nat).contains (kindOf c) = _
  simp only [List.contains_cons, List.contains_nil, Bool.or_false]
  rfl
theorem passP_dig : passP [6] = Tk.isDig := by
  funext c
  rw [isDig_kind]
  show ([6] : List Nat).contains (kindOf c) = _
  simp only [List.contains_cons, List.contains_nil, Bool.or_false]
theorem passP_in : passP [0, 2, 4, 5, 6, 7] = inLine := by
  funext c
  have := kindOf_le c
  have h1 : kindOf c ≠ 1 := by unfold kindOf; split <;> (try omega); split <;> (try omega); split <;> (try omega); split <;> (try omega); split <;> (try omega); split <;> omega
  simp only [passP, inKs, inLine]
  obtain ⟨k, hk⟩ : ∃ k, k = kindOf c := ⟨_, rfl⟩
  rw [← hk] at this h1 ⊢
  have h8 : k = 0 ∨ k = 2 ∨ k = 3 ∨ k = 4 ∨ k = 5 ∨ k = 6 ∨ k = 7 := by omega
  rcases h8 with rfl | rfl | rfl | rfl | rfl | rfl | rfl <;> rfl
theorem ext_run (ks : List Nat) (s : ByteArray) (pos : Nat) : (s.extract pos (pos + runN ks s pos)).data.toList = (rest s pos).takeWhile (passP ks) := by
  rw [Tk.ext_data, List.drop_take, Nat.add_sub_cancel_left]
  exact take_run _ _
theorem ext_size (ks : List Nat) (s : ByteArray) (pos : Nat) : (s.extract pos (pos + runN ks s pos)).size = runN ks s pos := by
  rw [Lib.size_eq, ext_run]; rfl
theorem run_pos {ks : List Nat} {s : ByteArray} {pos : Nat} (h : inKs ks (nextK (rest s pos)) = true) (h1 : inKs ks 1 = false) : 1 ≤ runN ks s pos := by
  unfold runN
  cases hr : rest s pos with
  | nil => rw [hr] at h; simp [nextK, h1] at h
  | cons c r =>
    rw [hr] at h
    rw [List.takeWhile_cons_of_pos (show passP ks c = true from h)]; simp
section
variable {w : World} {n0 B : Nat} {s : ByteArray} {pos line first : Nat} {toks : List Tok}

/-- pass, its text by name -/
theorem pass_named (ks : List Nat) (hk1 : inKs ks 1 = false) (n : Nat) (hn : Hid (n = ks.length)) (hN : n ≤ 100) (h : CurAt w n0 B s pos line first toks) :
    ∃ (T : ByteArray) (q : Nat), Hid (T.data.toList = (rest s pos).takeWhile (passP ks) ∧ T.size = runN ks s pos ∧ q = pos + runN ks s pos) ∧
      Hid (Calls Tryz.prog 135 #[.pointer (some ⟨B, 0, none⟩), .slice (some ⟨w.heap.size, 0, none⟩) n n] (w.alloc (.cells (kc ks).toArray 167)) fun e w' =>
        e = .returned (.string T) ∧ CurAt w' n0 B s q line first toks ∧ Below n0 w w') := by
  refine ⟨s.extract pos (pos + runN ks s pos), pos + runN ks s pos, ⟨ext_run ks s pos, ext_size ks s pos, rfl⟩, ?_⟩
  have hA := h.after ((Below.refl _ w).alloc (Nat.le_refl _) (.cells (kc ks).toArray 167))
  refine (pass_any ks hk1 n hn hN hA (gk := w.heap.size) (Blk.new w _ (kc ks))).mono ?_
  rintro e w' ⟨he, hc, hb⟩
  exact ⟨he, hc, (((Below.refl w.heap.size w).alloc (Nat.le_refl _) _).mono h.base).trans hb⟩

end
end Go.Proofs.YtcmlmfcnbmpajaaGreatDoor.Lx
namespace Go.Proofs.YtcmlmfcnbmpajaaGreatDoor.Lx
open Go.ChangeShapes Go.WideShapes Go.ChangeAt Go.RowKit
set_option linter.unusedVariables false

theorem digs_not_inf (l : List UInt8) : l.takeWhile Tk.isDig ≠ Tk.infL := by
  intro e
  have h : (l.takeWhile Tk.isDig).all Tk.isDig = true := List.all_takeWhile
  rw [e] at h
  exact absurd h (by decide)
section
variable {w : World} {n0 B : Nat} {s : ByteArray} {pos line first : Nat} {toks : List Tok}

end
end Go.Proofs.YtcmlmfcnbmpajaaGreatDoor.Lx
namespace Go.Proofs.YtcmlmfcnbmpajaaGreatDoor.Lx
open Go.ChangeShapes Go.WideShapes Go.ChangeAt Go.RowKit
set_option linter.unusedVariables false
section
variable {w : World} {n0 B : Nat} {s : ByteArray} {pos line first : Nat} {toks : List Tok}

theorem CurAt.last (h : CurAt w n0 B s pos line first toks) {k : Nat} (hk : toks.length = k + 1) : ∃ g cap kd, w.cell? ⟨B, 4, none⟩ = some (.slice (some ⟨g, 0, none⟩) (k + 1) cap) ∧ w.cell? ⟨g, k * 5, none⟩ = some (.int .i64 kd) ∧ someT toks = !(kd == 4) := by
  obtain ⟨v, h1, h2⟩ := h.obj
  rcases h2.2 with ⟨_, h0⟩ | ⟨g, cap, cur, rfl, _⟩
  · omega
  · have hlt : k < toks.length := by omega
    have hc := h2.cellAt (k * 5) (by omega)
    have ht : toks[k]? = some toks[k] := List.getElem?_eq_getElem hlt
    rw [(tc_at toks k _ ht).1] at hc
    refine ⟨g, cap, toks[k].kind, by rw [← hk]; exact h1.cell 4, hc, ?_⟩
    unfold someT
    rw [List.getLast?_eq_getElem?, hk]
    simp [ht]
/-- behind the end of a line -/
def lineToks (line col : Nat) (toks : List Tok) : List Tok := if someT toks then toks ++ [endT line col] else toks

theorem nl_fin {w1 : World} (h : CurAt w1 n0 B s pos line first toks) (hp : pos < s.size) {u1 u2 : Value} (h1 : u1 = .int .i64 ((pos + 1 : Nat) : Int)) (h2 : u2 = .int .i64 ((line + 1 : Nat) : Int)) :
    CurAt (((w1.setCell ⟨B, 1, none⟩ u1).setCell ⟨B, 2, none⟩ u2).setCell ⟨B, 3, none⟩ u1) n0 B s (pos + 1) (line + 1) (pos + 1) toks := by
  subst h1; subst h2
  have hl := h.lineLe
  have hf := h.firstLe
  have a := h.step hp rfl
  have b := a.wrote (pos' := pos + 1) (line' := line + 1) (first' := first) 2 _ (fun v => rfl) (by omega) (by omega) (by omega) (by omega)
  exact b.wrote (pos' := pos + 1) (line' := line + 1) (first' := pos + 1) 3 _ (fun v => rfl) (by omega) (by omega) (by omega) (by omega)
theorem rest_lt (h : nextK (rest s pos) = 3) : pos < s.size := by
  rcases Nat.lt_or_ge pos s.size with hl | hl
  · exact hl
  · rw [rest_over hl] at h; simp [nextK] at h

end
end Go.Proofs.YtcmlmfcnbmpajaaGreatDoor.Lx
namespace Go.Proofs.YtcmlmfcnbmpajaaGreatDoor.Lx
open Go.ChangeShapes Go.WideShapes Go.ChangeAt Go.RowKit
set_option linter.unusedVariables false

/-- the cursor is through -/
def Done (w : World) (n0 B : Nat) (s : ByteArray) (R : Res) (v : Value) (wr : World) : Prop :=
  v = .nilFunc ∧ Below n0 w wr ∧ ((∃ e l c pos line first, R = .bad e l c ∧ RefAt wr B s pos line first e l c) ∨ (∃ pos line first toks, R = .ok toks ∧ CurAt wr n0 B s pos line first toks))
section
variable {w : World} {n0 B : Nat} {s : ByteArray} {R : Res}
theorem runN_more (s : ByteArray) (pos : Nat) : runN [5, 6, 7] s pos = ((rest s pos).takeWhile isMore).length := by unfold runN; rw [passP_more]
theorem runN_dig (s : ByteArray) (pos : Nat) : runN [6] s pos = ((rest s pos).takeWhile Tk.isDig).length := by unfold runN; rw [passP_dig]
theorem runN_bl (s : ByteArray) (pos : Nat) : runN [2] s pos = ((rest s pos).takeWhile isBl).length := by unfold runN; rw [passP_bl]
theorem runN_in (s : ByteArray) (pos : Nat) : runN [0, 2, 4, 5, 6, 7] s pos = ((rest s pos).takeWhile inLine).length := by unfold runN; rw [passP_in]
theorem rest_run (p : UInt8 → Bool) (s : ByteArray) (pos m : Nat) (h : m = ((rest s pos).takeWhile p).length) : rest s (pos + m) = (rest s pos).dropWhile p := by
  rw [rest_add, h]; exact drop_run p _
theorem col_add {pos first m : Nat} (h : first ≤ pos) : pos + m - first + 1 = pos - first + 1 + m := by omega

end
end Go.Proofs.YtcmlmfcnbmpajaaGreatDoor.Lx
namespace Go.Proofs.YtcmlmfcnbmpajaaGreatDoor.Lx
open Go.ChangeShapes Go.WideShapes Go.ChangeAt Go.RowKit
set_option linter.unusedVariables false

def nameB (l : List UInt8) : Bool := decide (l.length ≤ 24) && (!isRes l && (nextK l == 5 && l.all isMore))
def NamePost (w : World) (b : Bool) (e : Ending) (w' : World) : Prop := e = .returned (.bool b) ∧ Below w.heap.size w w'
theorem tw_eq (l : List UInt8) : (l.takeWhile isMore == l) = l.all isMore := by
  induction l with
  | nil => rfl
  | cons c r ih =>
    by_cases hc : isMore c = true
    · rw [List.takeWhile_cons_of_pos hc, List.all_cons, hc, Bool.true_and, ← ih]
      simp
    · rw [List.takeWhile_cons_of_neg hc, List.all_cons]
      have : isMore c = false := by simpa using hc
      rw [this]; rfl
set_option maxHeartbeats 1000000 in
theorem name_long (s : ByteArray) (hs : 24 < s.size) (w : World) : Calls Tryz.prog 122 #[.string s] w (NamePost w (nameB s.data.toList)) := by
  have H : Hid (nameB s.data.toList = false) := Lib.hid (by unfold nameB; rw [← Lib.size_eq, decide_eq_false (by omega)]; rfl)
  have h : (24 : Int) < (s.size : Int) := by omega
  rw [H.out]
  go_enter Tryz.func122, Tryz.ntmps122
  go_wp2
  go_ret
  exact ⟨rfl, Below.refl _ _⟩
set_option maxHeartbeats 1000000 in
theorem name_res (s : ByteArray) (hs : s.size ≤ 24) (hr : isRes s.data.toList = true) (w : World) : Calls Tryz.prog 122 #[.string s] w (NamePost w (nameB s.data.toList)) := by
  have H : Hid (nameB s.data.toList = false) := Lib.hid (by unfold nameB; rw [hr]; simp)
  have HR := Lib.hid hr
  have h : ¬ (24 : Int) < (s.size : Int) := by omega
  rw [H.out]
  clear hr
  go_enter Tryz.func122, Tryz.ntmps122
  go_wp2_with (go_at_call 133; refine (reserved_any s _).mono ?_; rintro e w1 ⟨rfl, rfl⟩; rw [HR.out])
  go_ret
  exact ⟨rfl, Below.refl _ _⟩
theorem name_cur (s : ByteArray) (hs : s.size ≤ 24) (w : World) : CurAt (w.alloc (.cells #[.string s, .int .i64 0, .int .i64 0, .int .i64 0, .slice none 0 0, .int .i64 0, .int .i64 0, .int .i64 0] 166)) w.heap.size w.heap.size s 0 0 0 [] :=
  ⟨Nat.le_refl _, Nat.zero_le _, Nat.le_refl _, by omega, by omega, by simp [someT_nil], _, Blk.new w 166 (curL s 0 0 0 (.slice none 0 0) 0 0 0), World.ownsRow_nil _ _ _ _⟩
set_option maxHeartbeats 1000000 in
theorem name_no (s : ByteArray) (hs : s.size ≤ 24) (hr : isRes s.data.toList = false) (hk : nextK s.data.toList ≠ 5) (w : World) : Calls Tryz.prog 122 #[.string s] w (NamePost w (nameB s.data.toList)) := by
  have H : Hid (nameB s.data.toList = false) := Lib.hid (by unfold nameB; rw [beq_eq_false_iff_ne.2 hk]; simp)
  have HR := Lib.hid hr
  have HC := Lib.hid (name_cur s hs w)
  have h : ¬ (24 : Int) < (s.size : Int) := by omega
  obtain ⟨k, hkk⟩ : ∃ k, k = nextK s.data.toList := ⟨_, rfl⟩
  have HK : Hid (nextK (rest s 0) = k) := Lib.hid (by rw [hkk]; simp [rest])
  have hne : ((k : Int) == 5) = false := ne_f (by omega)
  rw [H.out]
  clear hr hk hkk
  go_enter Tryz.func122, Tryz.ntmps122
  go_wp2_with (first
    | (go_at_call 133; refine (reserved_any s _).mono ?_; rintro e w1 ⟨rfl, rfl⟩; rw [HR.out])
    | (go_at_call 134; refine (next_any HC.out).mono ?_; rintro e w1 ⟨rfl, hb1⟩; rw [HK.out]; have HB1 := Lib.hid hb1; clear hb1))
  go_ret
  exact ⟨rfl, ((Below.refl _ _).alloc (Nat.le_refl _) _).trans (HB1.out.mono (by simp))⟩
set_option maxHeartbeats 1000000 in
theorem name_yes (s : ByteArray) (hs : s.size ≤ 24) (hr : isRes s.data.toList = false) (hk : nextK s.data.toList = 5) (w : World) : Calls Tryz.prog 122 #[.string s] w (NamePost w (nameB s.data.toList)) := by
  have hl : s.data.toList.length ≤ 24 := by rw [← Lib.size_eq]; exact hs
  have H : Hid (nameB s.data.toList = s.data.toList.all isMore) := Lib.hid (by unfold nameB; rw [hr, hk, decide_eq_true hl]; simp)
  have HR := Lib.hid hr
  have HC := Lib.hid (name_cur s hs w)
  have h : ¬ (24 : Int) < (s.size : Int) := by omega
  have HK : Hid (nextK (rest s 0) = 5) := Lib.hid (by rw [← hk]; simp [rest])
  rw [H.out]
  obtain ⟨T, hT⟩ : ∃ T, T = s.extract 0 (0 + runN [5, 6, 7] s 0) := ⟨_, rfl⟩
  have hTd : T.data.toList = s.data.toList.takeWhile isMore := by rw [hT, ext_run, passP_more]; simp [rest]
  have HQ : Hid ((T.toList == s.toList) = s.data.toList.all isMore) := Lib.hid (by rw [ByteArray.toList_eq, ByteArray.toList_eq, hTd]; exact tw_eq _)
  have HT := Lib.hid hT
  clear hr hk hl hT hTd
  go_enter Tryz.func122, Tryz.ntmps122
  go_wp2_with (first
    | (go_at_call 133; refine (reserved_any s _).mono ?_; rintro e w1 ⟨rfl, rfl⟩; rw [HR.out])
    | (go_at_call 134; refine (next_any HC.out).mono ?_; rintro e w1 ⟨rfl, hb1⟩; rw [HK.out]; have HB1 := Lib.hid hb1; clear hb1)
    | (go_at_call 135; refine (pass_any [5, 6, 7] rfl 3 rfl (by omega) ((HC.out.after HB1.out).after ((Below.refl _ w1).alloc (Nat.le_refl _) (.cells #[.int .i64 5, .int .i64 6, .int .i64 7] 167))) (gk := w1.heap.size) (Blk.new w1 _ [.int .i64 5, .int .i64 6, .int .i64 7])).mono ?_; rintro e w2 ⟨rfl, -, hb2⟩; rw [← HT.out]; have HB2 := Lib.hid hb2; clear hb2))
  go_ret
  exact ⟨ret_b HQ.out.symm, (((Below.refl _ _).alloc (Nat.le_refl _) _).trans (HB1.out.mono (by simp))).trans ((((Below.refl _ w1).alloc (Nat.le_refl _) _).mono (Nat.le_trans (by simp) HB1.out.size)).trans HB2.out)⟩
theorem name_any (s : ByteArray) (w : World) : Calls Tryz.prog 122 #[.string s] w (NamePost w (nameB s.data.toList)) := by
  by_cases hs : 24 < s.size
  · exact name_long s hs w
  · cases hr : isRes s.data.toList with
    | true => exact name_res s (by omega) hr w
    | false =>
      by_cases hk : nextK s.data.toList = 5
      · exact name_yes s (by omega) hr hk w
      · exact name_no s (by omega) hr hk w
end Go.Proofs.YtcmlmfcnbmpajaaGreatDoor.Lx

