/- Package lex's cursor at a number: where it stands then, the token it lays, or its fault. Conditions: the cursor lies in memory as CurAt says; a digit comes next; the library's variables hold what start-up lays. -/
import Derived.Test.YtgcphhialllieaaDoorLexWord
namespace Go.Proofs.YtgcphhialllieaaDoor.Lx
open Go.ChangeShapes Go.WideShapes Go.ChangeAt Go.RowKit
set_option linter.unusedVariables false

theorem digs_not_inf (l : List UInt8) : l.takeWhile Tk.isDig ≠ Tk.infL := by
  intro e
  have h : (l.takeWhile Tk.isDig).all Tk.isDig = true := List.all_takeWhile
  rw [e] at h
  exact absurd h (by decide)
section
variable {w : World} {n0 B : Nat} {s : ByteArray} {pos line first : Nat} {toks : List Tok}

set_option maxHeartbeats 1000000 in
theorem number_bad (h : CurAt w n0 B s pos line first toks) (hE : ∀ w', Below n0 w w' → Tk.Env w') (v e9 err : Int) (hv : Tk.parseV ((rest s pos).takeWhile Tk.isDig) = v ∧ Tk.parseE ((rest s pos).takeWhile Tk.isDig) = e9) (h9 : (e9 = 7 ∧ err = 7) ∨ (e9 = 9 ∧ err = 3)) :
    Calls Tryd.prog 31 #[.pointer (some ⟨B, 0, none⟩)] w (RefPost w n0 B s (pos + runN [6] s pos) line first err line ((pos - first + 1 : Nat) : Int)) := by
  obtain ⟨T, q, HT, HP⟩ := pass_named [6] rfl 1 rfl (by omega) h
  have c1 := h.c1
  have HC := Lib.hid h
  have HE := Lib.hid hE
  have hq := HT.out.2.2
  have hsz : T.size ≤ 65536 := by have := HT.out.2.1; have := run_le [6] s pos h.posLe; have := h.size; omega
  have hl : T.data.toList = (rest s pos).takeWhile Tk.isDig := by rw [HT.out.1, passP_dig]
  rw [← hq]
  rw [← hl] at hv
  have HV := Lib.hid hv
  clear h hq hl hv hE
  rcases h9 with ⟨rfl, rfl⟩ | ⟨rfl, rfl⟩
  · go_enter Tryd.func31, Tryd.ntmps31
    go_wp2_with (first
      | (go_at_call 21; refine HP.out.mono ?_; rintro e w1 ⟨rfl, hc1, hb1⟩; have HC1 := Lib.hid hc1; have HB1 := Lib.hid hb1; clear hc1 hb1)
      | (go_at_call 41; refine (Tk.parse_any T (Nat.le_trans hsz (by decide)) _ (HE.out _ HB1.out)).mono ?_; rintro e w2 ⟨rfl, hb2⟩; rw [HV.out.1, HV.out.2]; have HB2 := Lib.hid hb2; clear hb2; have HC2 := Lib.hid (HC1.out.after HB2.out))
      | (go_at_call 38; refine (refuse_any HC2.out 7 pos HC.out.firstLe (by have := HC.out.posLe; have := HC.out.size; omega)).mono ?_; rintro e w3 ⟨rfl, hc3, hb3⟩; have HC3 := Lib.hid hc3; have HB3 := Lib.hid hb3; clear hc3 hb3))
    go_ret
    exact ⟨rfl, HC3.out, (below_then HB1.out HB2.out HC1.out.base).trans HB3.out⟩
  · go_enter Tryd.func31, Tryd.ntmps31
    go_wp2_with (first
      | (go_at_call 21; refine HP.out.mono ?_; rintro e w1 ⟨rfl, hc1, hb1⟩; have HC1 := Lib.hid hc1; have HB1 := Lib.hid hb1; clear hc1 hb1)
      | (go_at_call 41; refine (Tk.parse_any T (Nat.le_trans hsz (by decide)) _ (HE.out _ HB1.out)).mono ?_; rintro e w2 ⟨rfl, hb2⟩; rw [HV.out.1, HV.out.2]; have HB2 := Lib.hid hb2; clear hb2; have HC2 := Lib.hid (HC1.out.after HB2.out))
      | (go_at_call 38; refine (refuse_any HC2.out 3 pos HC.out.firstLe (by have := HC.out.posLe; have := HC.out.size; omega)).mono ?_; rintro e w3 ⟨rfl, hc3, hb3⟩; have HC3 := Lib.hid hc3; have HB3 := Lib.hid hb3; clear hc3 hb3))
    go_ret
    exact ⟨rfl, HC3.out, (below_then HB1.out HB2.out HC1.out.base).trans HB3.out⟩

set_option maxHeartbeats 1000000 in
theorem number_good (h : CurAt w n0 B s pos line first toks) (hE : ∀ w', Below n0 w w' → Tk.Env w') (h0 : 1 ≤ runN [6] s pos) (hc : Tk.canon ((rest s pos).takeWhile Tk.isDig) = true) (hd : Tk.dval ((rest s pos).takeWhile Tk.isDig) ≤ 1099511627776) :
    Calls Tryd.prog 31 #[.pointer (some ⟨B, 0, none⟩)] w (StepPost w n0 B s (pos + runN [6] s pos) line first (toks ++ [numT ((rest s pos).takeWhile Tk.isDig) line (pos - first + 1)]) 42) := by
  obtain ⟨T, q, HT, HP⟩ := pass_named [6] rfl 1 rfl (by omega) h
  have c1 := h.c1
  have HC := Lib.hid h
  have HE := Lib.hid hE
  have hq := HT.out.2.2
  have hsz : T.size ≤ 65536 := by have := HT.out.2.1; have := run_le [6] s pos h.posLe; have := h.size; omega
  have HCT : Hid (toks.length + 1 + 1 ≤ 2 * q) := Lib.hid (by have := h.count; omega)
  have hl : T.data.toList = (rest s pos).takeWhile Tk.isDig := by rw [HT.out.1, passP_dig]
  have hv := Tk.parse_ok hc hd
  rw [← hq]
  rw [← hl] at hv ⊢
  obtain ⟨dv, hdv⟩ : ∃ dv : Int, dv = (Tk.dval T.data.toList : Int) := ⟨_, rfl⟩
  rw [← hdv] at hv
  have HV := Lib.hid hv
  have HW : Hid (numT T.data.toList line (pos - first + 1) = ⟨3, T.data.toList, dv, line, ((pos - first + 1 : Nat) : Int)⟩) := Lib.hid (by simp [numT, hdv])
  clear h hq hl hv hE hdv hc hd h0
  go_enter Tryd.func31, Tryd.ntmps31
  go_wp2_with (first
    | (go_at_call 21; refine HP.out.mono ?_; rintro e w1 ⟨rfl, hc1, hb1⟩; have HC1 := Lib.hid hc1; have HB1 := Lib.hid hb1; clear hc1 hb1)
    | (go_at_call 41; refine (Tk.parse_any T (Nat.le_trans hsz (by decide)) _ (HE.out _ HB1.out)).mono ?_; rintro e w2 ⟨rfl, hb2⟩; rw [HV.out.1, HV.out.2]; have HB2 := Lib.hid hb2; clear hb2; have HC2 := Lib.hid (HC1.out.after HB2.out))
    | (go_at_call 39; refine (clone_any T _ hsz).mono ?_; rintro e w3 ⟨rfl, hb3⟩; have HB3 := Lib.hid hb3; clear hb3; have HC3 := Lib.hid (HC2.out.after HB3.out))
    | (go_at_call 40; refine (put_any HC3.out 3 dv 0 0 T pos HC.out.firstLe (by have := HC.out.posLe; have := HC.out.size; omega) HCT.out).mono ?_; rintro e w4 ⟨rfl, hc4, hb4⟩; have HC4 := Lib.hid hc4; have HB4 := Lib.hid hb4; clear hc4 hb4))
  go_ret
  exact ⟨rfl, by rw [HW.out]; exact HC4.out, (below_then (below_then HB1.out HB2.out HC1.out.base) HB3.out HC2.out.base).trans HB4.out⟩
end
end Go.Proofs.YtgcphhialllieaaDoor.Lx
