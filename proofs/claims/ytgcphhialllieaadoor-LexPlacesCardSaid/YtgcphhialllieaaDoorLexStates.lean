/- Package lex's cursor: its states: where each leaves the cursor, and what it goes on with. Conditions: the cursor lies in memory as CurAt says; the library's variables hold what start-up lays (Env). -/
import Derived.Test.YtgcphhialllieaaDoorLexPut
import Derived.Test.YtgcphhialllieaaDoorLexWords
import Derived.Test.YtgcphhialllieaaDoorLexTick
namespace Go.Proofs.YtgcphhialllieaaDoor.Lx
open Go.ChangeShapes Go.WideShapes Go.ChangeAt Go.RowKit
set_option linter.unusedVariables false

/-- it goes on with state f -/
def StepPost (w : World) (n0 B : Nat) (s : ByteArray) (pos line first : Nat) (toks : List Tok) (f : Nat) (e : Ending) (w' : World) : Prop :=
  e = .returned (.func (.func f) #[.pointer (some ⟨B, 0, none⟩)] #[]) ∧ CurAt w' n0 B s pos line first toks ∧ Below n0 w w'
def EndPost (w : World) (n0 B : Nat) (s : ByteArray) (pos line first : Nat) (toks : List Tok) (e : Ending) (w' : World) : Prop :=
  e = .returned .nilFunc ∧ CurAt w' n0 B s pos line first toks ∧ Below n0 w w'
def nextF (k : Nat) : Nat := if k = 2 then 28 else if k = 4 then 29 else if k = 5 then 30 else if k = 6 then 31 else if k = 3 ∨ k = 1 then 32 else 33

theorem kindOf_le (c : UInt8) : kindOf c ≤ 7 := by unfold kindOf; split <;> (try omega); split <;> (try omega); split <;> (try omega); split <;> (try omega); split <;> (try omega); split <;> omega
theorem nextK_le (l : List UInt8) : nextK l ≤ 7 := by cases l with | nil => simp [nextK] | cons c r => exact kindOf_le c
section
variable {w : World} {n0 B : Nat} {s : ByteArray} {pos line first : Nat} {toks : List Tok}

set_option maxHeartbeats 1000000 in
theorem between_any (h : CurAt w n0 B s pos line first toks) :
    Calls Tryd.prog 19 #[.pointer (some ⟨B, 0, none⟩)] w (StepPost w n0 B s pos line first toks (nextF (nextK (rest s pos)))) := by
  have hk := nextK_le (rest s pos)
  have HC := Lib.hid h
  obtain ⟨k, hkk⟩ : ∃ k, nextK (rest s pos) = k := ⟨_, rfl⟩
  rw [hkk] at hk ⊢
  have HK := Lib.hid hkk
  clear h hkk
  have h8 : k = 0 ∨ k = 1 ∨ k = 2 ∨ k = 3 ∨ k = 4 ∨ k = 5 ∨ k = 6 ∨ k = 7 := by omega
  clear hk
  rcases h8 with rfl | rfl | rfl | rfl | rfl | rfl | rfl | rfl
  all_goals
    go_enter Tryd.func19, Tryd.ntmps19
    go_wp2_with (go_at_call 20; refine (next_any HC.out).mono ?_; rintro e w1 ⟨rfl, hb1⟩; rw [HK.out]; have HB1 := Lib.hid hb1; clear hb1)
    go_ret
    exact ⟨rfl, HC.out.after HB1.out, HB1.out.mono HC.out.base⟩

set_option maxHeartbeats 1000000 in
theorem behind_any (h : CurAt w n0 B s pos line first toks) :
    Calls Tryd.prog 42 #[.pointer (some ⟨B, 0, none⟩)] w (StepPost w n0 B s pos line first toks (if nextK (rest s pos) = 5 ∨ nextK (rest s pos) = 7 then 33 else 19)) := by
  have hk := nextK_le (rest s pos)
  have HC := Lib.hid h
  obtain ⟨k, hkk⟩ : ∃ k, nextK (rest s pos) = k := ⟨_, rfl⟩
  rw [hkk] at hk ⊢
  have HK := Lib.hid hkk
  clear h hkk
  have h8 : k = 0 ∨ k = 1 ∨ k = 2 ∨ k = 3 ∨ k = 4 ∨ k = 5 ∨ k = 6 ∨ k = 7 := by omega
  clear hk
  rcases h8 with rfl | rfl | rfl | rfl | rfl | rfl | rfl | rfl
  all_goals
    go_enter Tryd.func42, Tryd.ntmps42
    go_wp2_with (go_at_call 20; refine (next_any HC.out).mono ?_; rintro e w1 ⟨rfl, hb1⟩; rw [HK.out]; have HB1 := Lib.hid hb1; clear hb1)
    go_ret
    exact ⟨rfl, HC.out.after HB1.out, HB1.out.mono HC.out.base⟩

set_option maxHeartbeats 1000000 in
theorem wrong_any (h : CurAt w n0 B s pos line first toks) :
    Calls Tryd.prog 33 #[.pointer (some ⟨B, 0, none⟩)] w (RefPost w n0 B s pos line first 7 line ((pos - first + 1 : Nat) : Int)) := by
  have HC := Lib.hid h
  have c1 := h.c1
  have hr := refuse_any h 7 pos h.firstLe (by have := h.posLe; have := h.size; omega)
  have HR := Lib.hid hr
  clear h hr
  go_enter Tryd.func33, Tryd.ntmps33
  go_wp2_with (go_at_call 38; refine HR.out.mono ?_; rintro e w1 ⟨rfl, hb1⟩; have HB1 := Lib.hid hb1; clear hb1)
  go_ret
  exact ⟨rfl, HB1.out⟩

set_option maxHeartbeats 1000000 in
theorem blanks_any (h : CurAt w n0 B s pos line first toks) :
    Calls Tryd.prog 28 #[.pointer (some ⟨B, 0, none⟩)] w (StepPost w n0 B s (pos + runN [2] s pos) line first toks 19) := by
  have HC := Lib.hid h
  have hA := (h.after ((Below.refl _ w).alloc (Nat.le_refl _) (.cells #[.int .i64 2] 48)))
  have hp := pass_any [2] rfl 1 rfl (by omega) hA (gk := w.heap.size) (Blk.new w _ [.int .i64 2])
  have HP := Lib.hid hp
  clear h hA hp
  go_enter Tryd.func28, Tryd.ntmps28
  go_wp2_with (go_at_call 21; refine HP.out.mono ?_; rintro e w1 ⟨rfl, hb1⟩; have HB1 := Lib.hid hb1; clear hb1)
  go_ret
  have hb := (Below.refl w.heap.size w).alloc (Nat.le_refl _) (.cells #[.int .i64 2] 48)
  exact ⟨rfl, HB1.out.1, (hb.mono HC.out.base).trans HB1.out.2⟩
set_option maxHeartbeats 1000000 in
theorem remark_any (h : CurAt w n0 B s pos line first toks) :
    Calls Tryd.prog 29 #[.pointer (some ⟨B, 0, none⟩)] w (StepPost w n0 B s (pos + runN [0, 2, 4, 5, 6, 7] s pos) line first toks 19) := by
  have HC := Lib.hid h
  have hA := (h.after ((Below.refl _ w).alloc (Nat.le_refl _) (.cells #[.int .i64 0, .int .i64 2, .int .i64 4, .int .i64 5, .int .i64 6, .int .i64 7] 48)))
  have hp := pass_any [0, 2, 4, 5, 6, 7] rfl 6 rfl (by omega) hA (gk := w.heap.size) (Blk.new w _ [.int .i64 0, .int .i64 2, .int .i64 4, .int .i64 5, .int .i64 6, .int .i64 7])
  have HP := Lib.hid hp
  clear h hA hp
  go_enter Tryd.func29, Tryd.ntmps29
  go_wp2_with (go_at_call 21; refine HP.out.mono ?_; rintro e w1 ⟨rfl, hb1⟩; have HB1 := Lib.hid hb1; clear hb1)
  go_ret
  have hb := (Below.refl w.heap.size w).alloc (Nat.le_refl _) (.cells #[.int .i64 0, .int .i64 2, .int .i64 4, .int .i64 5, .int .i64 6, .int .i64 7] 48)
  exact ⟨rfl, HB1.out.1, (hb.mono HC.out.base).trans HB1.out.2⟩
end
end Go.Proofs.YtgcphhialllieaaDoor.Lx
