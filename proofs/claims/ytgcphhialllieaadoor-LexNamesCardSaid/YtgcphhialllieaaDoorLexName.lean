/- Package lex's Name: what it answers, at any text. No conditions. -/
import Derived.Test.YtgcphhialllieaaDoorLexWord
namespace Go.Proofs.YtgcphhialllieaaDoor.Lx
open Go.ChangeShapes Go.WideShapes Go.ChangeAt Go.RowKit
set_option linter.unusedVariables false

def nameB (l : List UInt8) : Bool := decide (l.length ≤ 24) && (!isRes l && (nextK l == 5 && l.all isMore))
def NamePost (w : World) (b : Bool) (e : Ending) (w' : World) : Prop := e = .returned (.bool b) ∧ Below w.heap.size w w'
theorem tw_eq (l : List UInt8) : (l.takeWhile isMore == l) = l.all isMore := by
  induction l with
  | nil => rfl
  | cons c r ih =>
    by_cases hc : isMore c = true
    · rw [List.takeWhile_cons_of_pos hc, List.all_cons, hc, Bool.true_and, ← ih]
      simp
    · rw [List.takeWhile_cons_of_neg hc, List.all_cons]
      have : isMore c = false := by simpa using hc
      rw [this]; rfl
set_option maxHeartbeats 1000000 in
theorem name_long (s : ByteArray) (hs : 24 < s.size) (w : World) : Calls Tryd.prog 11 #[.string s] w (NamePost w (nameB s.data.toList)) := by
  have H : Hid (nameB s.data.toList = false) := Lib.hid (by unfold nameB; rw [← Lib.size_eq, decide_eq_false (by omega)]; rfl)
  have h : (24 : Int) < (s.size : Int) := by omega
  rw [H.out]
  go_enter Tryd.func11, Tryd.ntmps11
  go_wp2
  go_ret
  exact ⟨rfl, Below.refl _ _⟩
set_option maxHeartbeats 1000000 in
theorem name_res (s : ByteArray) (hs : s.size ≤ 24) (hr : isRes s.data.toList = true) (w : World) : Calls Tryd.prog 11 #[.string s] w (NamePost w (nameB s.data.toList)) := by
  have H : Hid (nameB s.data.toList = false) := Lib.hid (by unfold nameB; rw [hr]; simp)
  have HR := Lib.hid hr
  have h : ¬ (24 : Int) < (s.size : Int) := by omega
  rw [H.out]
  clear hr
  go_enter Tryd.func11, Tryd.ntmps11
  go_wp2_with (go_at_call 12; refine (reserved_any s _).mono ?_; rintro e w1 ⟨rfl, rfl⟩; rw [HR.out])
  go_ret
  exact ⟨rfl, Below.refl _ _⟩
theorem name_cur (s : ByteArray) (hs : s.size ≤ 24) (w : World) : CurAt (w.alloc (.cells #[.string s, .int .i64 0, .int .i64 0, .int .i64 0, .slice none 0 0, .int .i64 0, .int .i64 0, .int .i64 0] 45)) w.heap.size w.heap.size s 0 0 0 [] :=
  ⟨Nat.le_refl _, Nat.zero_le _, Nat.le_refl _, by omega, by omega, by simp [someT_nil], _, Blk.new w 45 (curL s 0 0 0 (.slice none 0 0) 0 0 0), World.ownsRow_nil _ _ _ _⟩
set_option maxHeartbeats 1000000 in
theorem name_no (s : ByteArray) (hs : s.size ≤ 24) (hr : isRes s.data.toList = false) (hk : nextK s.data.toList ≠ 5) (w : World) : Calls Tryd.prog 11 #[.string s] w (NamePost w (nameB s.data.toList)) := by
  have H : Hid (nameB s.data.toList = false) := Lib.hid (by unfold nameB; rw [beq_eq_false_iff_ne.2 hk]; simp)
  have HR := Lib.hid hr
  have HC := Lib.hid (name_cur s hs w)
  have h : ¬ (24 : Int) < (s.size : Int) := by omega
  obtain ⟨k, hkk⟩ : ∃ k, k = nextK s.data.toList := ⟨_, rfl⟩
  have HK : Hid (nextK (rest s 0) = k) := Lib.hid (by rw [hkk]; simp [rest])
  have hne : ((k : Int) == 5) = false := ne_f (by omega)
  rw [H.out]
  clear hr hk hkk
  go_enter Tryd.func11, Tryd.ntmps11
  go_wp2_with (first
    | (go_at_call 12; refine (reserved_any s _).mono ?_; rintro e w1 ⟨rfl, rfl⟩; rw [HR.out])
    | (go_at_call 20; refine (next_any HC.out).mono ?_; rintro e w1 ⟨rfl, hb1⟩; rw [HK.out]; have HB1 := Lib.hid hb1; clear hb1))
  go_ret
  exact ⟨rfl, ((Below.refl _ _).alloc (Nat.le_refl _) _).trans (HB1.out.mono (by simp))⟩
set_option maxHeartbeats 1000000 in
theorem name_yes (s : ByteArray) (hs : s.size ≤ 24) (hr : isRes s.data.toList = false) (hk : nextK s.data.toList = 5) (w : World) : Calls Tryd.prog 11 #[.string s] w (NamePost w (nameB s.data.toList)) := by
  have hl : s.data.toList.length ≤ 24 := by rw [← Lib.size_eq]; exact hs
  have H : Hid (nameB s.data.toList = s.data.toList.all isMore) := Lib.hid (by unfold nameB; rw [hr, hk, decide_eq_true hl]; simp)
  have HR := Lib.hid hr
  have HC := Lib.hid (name_cur s hs w)
  have h : ¬ (24 : Int) < (s.size : Int) := by omega
  have HK : Hid (nextK (rest s 0) = 5) := Lib.hid (by rw [← hk]; simp [rest])
  rw [H.out]
  obtain ⟨T, hT⟩ : ∃ T, T = s.extract 0 (0 + runN [5, 6, 7] s 0) := ⟨_, rfl⟩
  have hTd : T.data.toList = s.data.toList.takeWhile isMore := by rw [hT, ext_run, passP_more]; simp [rest]
  have HQ : Hid ((T.toList == s.toList) = s.data.toList.all isMore) := Lib.hid (by rw [ByteArray.toList_eq, ByteArray.toList_eq, hTd]; exact tw_eq _)
  have HT := Lib.hid hT
  clear hr hk hl hT hTd
  go_enter Tryd.func11, Tryd.ntmps11
  go_wp2_with (first
    | (go_at_call 12; refine (reserved_any s _).mono ?_; rintro e w1 ⟨rfl, rfl⟩; rw [HR.out])
    | (go_at_call 20; refine (next_any HC.out).mono ?_; rintro e w1 ⟨rfl, hb1⟩; rw [HK.out]; have HB1 := Lib.hid hb1; clear hb1)
    | (go_at_call 21; refine (pass_any [5, 6, 7] rfl 3 rfl (by omega) ((HC.out.after HB1.out).after ((Below.refl _ w1).alloc (Nat.le_refl _) (.cells #[.int .i64 5, .int .i64 6, .int .i64 7] 48))) (gk := w1.heap.size) (Blk.new w1 _ [.int .i64 5, .int .i64 6, .int .i64 7])).mono ?_; rintro e w2 ⟨rfl, -, hb2⟩; rw [← HT.out]; have HB2 := Lib.hid hb2; clear hb2))
  go_ret
  exact ⟨ret_b HQ.out.symm, (((Below.refl _ _).alloc (Nat.le_refl _) _).trans (HB1.out.mono (by simp))).trans ((((Below.refl _ w1).alloc (Nat.le_refl _) _).mono (Nat.le_trans (by simp) HB1.out.size)).trans HB2.out)⟩
theorem name_any (s : ByteArray) (w : World) : Calls Tryd.prog 11 #[.string s] w (NamePost w (nameB s.data.toList)) := by
  by_cases hs : 24 < s.size
  · exact name_long s hs w
  · cases hr : isRes s.data.toList with
    | true => exact name_res s (by omega) hr w
    | false =>
      by_cases hk : nextK s.data.toList = 5
      · exact name_yes s (by omega) hr hk w
      · exact name_no s (by omega) hr hk w
end Go.Proofs.YtgcphhialllieaaDoor.Lx
