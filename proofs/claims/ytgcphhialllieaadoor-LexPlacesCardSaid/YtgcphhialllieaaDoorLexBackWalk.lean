/- LexBack: what All told, told again by Text, is cut into the like. Conditions: the library's variables hold what start-up lays. -/
import Derived.Test.YtgcphhialllieaaDoorLexLists
import Derived.Test.YtgcphhialllieaaDoorLexJoinsWalk
import Derived.Test.YtgcphhialllieaaDoorLexGood
import Derived.Test.YtgcphhialllieaaDoorLexText
import Derived.Test.YtgcphhialllieaaDoorLexLike
namespace Go.Proofs.YtgcphhialllieaaDoor.Lx
open Go.ChangeShapes Go.WideShapes Go.ChangeAt Go.RowKit
set_option linter.unusedVariables false

/-- how many lines there are hangs on the kinds alone -/
theorem lines_alike : ∀ (a b : List Tok), Alike a b → ∀ (c d : List Tok), c.length = d.length → (linesF c a).length = (linesF d b).length := by
  intro a
  induction a with
  | nil =>
    intro b h c d hcd
    have : b = [] := by have := h.len; exact List.eq_nil_of_length_eq_zero (by simpa using this.symm)
    subst this
    cases c <;> cases d <;> simp [linesF] at hcd ⊢
  | cons t r ih =>
    intro b h c d hcd
    cases b with
    | nil => have := h.len; simp at this
    | cons u s =>
      have h1 : bare t = bare u := by simpa using (List.cons.inj h).1
      have h2 : Alike r s := (List.cons.inj h).2
      have hk : t.kind = u.kind := congrArg Prod.fst h1
      have e1 := ih s h2 [] [] rfl
      simp only [linesF, hk]
      split
      · cases c <;> cases d <;> simp at hcd ⊢ <;> exact e1
      · exact ih s h2 _ _ (by simp [hcd])

theorem all_ok2 {s : ByteArray} {toks : List Tok} (h : lexAll s = .ok toks) (w : World) (hE : Tk.Env w) : Calls Tryd.prog 9 #[.string s] w fun e w' =>
    ∃ A c, e = .returned (.tuple #[.slice A toks.length c, .agg #[.int .i64 0, .int .i64 0, .int .i64 0]]) ∧ toks.length ≤ c ∧ Rd w' (fun b => w.heap.size ≤ b ∧ b < w'.heap.size) A (tc toks) ∧ Below w.heap.size w w' := by
  refine (all_any s w hE).mono ?_
  rw [h]
  rintro e w' (⟨er, l, c, hr, _⟩ | ⟨t, A, c, hr, he, h1, h2, h3, h4⟩)
  · cases hr
  · injection hr with hr
    subst hr
    exact ⟨A, c, he, h1, h3, h4⟩
theorem lines_at (l : List Tok) (hN : l.length ≤ 1000000) (n : Nat) (hn : Hid (n = (linesF [] l).length)) (w : World) (A : Option Addr) (c : Nat) (hc : l.length ≤ c) (hx : Rd w (· < w.heap.size) A (tc l)) :
    Calls Tryd.prog 16 #[.slice A l.length c] w fun e w' => ∃ B d, e = .returned (.slice B n d) ∧ Lsts w' B (linesF [] l) ∧ Below w.heap.size w w' :=
  (Lines_any A l.length c l rfl hc hN w hx).mono fun e w' h => by
    obtain ⟨B, d, h1, _, h3, h4⟩ := h.lsts
    exact ⟨B, d, by rw [h1, hn.out], h3, h4⟩

set_option maxHeartbeats 1000000 in
theorem back_long (s : ByteArray) (h : 3000 < s.size) (w : World) (hE : Tk.Env w) : Calls Tryd.prog 4 #[.string s] w fun e w' => e = .returned (.bool true) ∧ Below w.heap.size w w' := by
  have H := Lib.hid (lives_any w hE)
  clear hE
  have hs2 : (3000 : Int) < (s.size : Int) := by omega
  clear h
  go_enter Tryd.func4, Tryd.ntmps4
  go_wp2_with (go_at_call 10; refine H.out.mono ?_; rintro e w1 ⟨rfl, hb⟩)
  go_ret
  exact ⟨rfl, hb⟩
set_option maxRecDepth 100000 in
set_option maxHeartbeats 1000000 in
theorem back_bad (s : ByteArray) (hs : s.size ≤ 3000) (w : World) (hE : Tk.Env w) (er l k : Nat) (h1 : lex s.data.toList 1 1 false = .bad er l k) :
    Calls Tryd.prog 4 #[.string s] w fun e w' => e = .returned (.bool true) ∧ Below w.heap.size w w' := by
  have H := Lib.hid (lives_any w hE)
  have C1 := Lib.hid (fun w' (h : Below w.heap.size w w') => all_bad (s := s) (by rw [lexAll_small (by omega)]; exact h1) w' (hE.on h))
  have he : ((er : Int) == 0) = false := by have := (lexAll_err (s := s) (by rw [lexAll_small (by omega)]; exact h1)).1; rw [beq_eq_false_iff_ne]; omega
  have hs2 : ¬ (3000 : Int) < (s.size : Int) := by omega
  clear hE h1
  go_enter Tryd.func4, Tryd.ntmps4
  go_wp2_with (first
    | (go_at_call 10; refine H.out.mono ?_; rintro e w1 ⟨rfl, hb⟩; have HB := Lib.hid hb; clear hb)
    | (go_at_call 9; ((with_reducible refine (C1.out _ HB.out).mono ?_); rintro e w2 ⟨rfl, hb⟩; have HB2 := Lib.hid (keep_trans HB.out hb); clear hb)))
  go_ret
  exact ⟨rfl, keep_trans HB2.out (one_box _ _)⟩

set_option maxRecDepth 100000 in
set_option maxHeartbeats 1000000 in
theorem back_ok (s : ByteArray) (hs : s.size ≤ 3000) (w : World) (hE : Tk.Env w) (l : List Tok) (h1 : lex s.data.toList 1 1 false = .ok l) (m : List Tok) (hm : lexAll ⟨(textF false l).toArray⟩ = .ok m) (ha : Alike l m) (ht : (textF false l).length ≤ 9000) (hk : numOk l) (hk2 : numOk m) (hl : l.length ≤ 6000) :
    Calls Tryd.prog 4 #[.string s] w fun e w' => e = .returned (.bool true) ∧ Below w.heap.size w w' := by
  have hlm : m.length = l.length := ha.len.symm
  have hm2 : m.length ≤ 6000 := by omega
  have htm : textF false m = textF false l := (alike_text ha false).symm
  have hln : (linesF [] m).length = (linesF [] l).length := (lines_alike _ _ ha [] [] rfl).symm
  have hcnt := linesF_count [] m
  have hsm : ∀ x ∈ linesF [] m, x.length ≤ 1000000 := fun x hx => by have := linesF_small [] m x hx; simp at this; omega
  have H := Lib.hid (lives_any w hE)
  have C1 := Lib.hid (fun w' (h : Below w.heap.size w w') => all_ok2 (s := s) (by rw [lexAll_small (by omega)]; exact h1) w' (hE.on h))
  have C2 := Lib.hid (fun w' (h : Below w.heap.size w w') => all_ok2 hm w' (hE.on h))
  have CT := Lib.hid (fun w' A c (h : Below w.heap.size w w') hx => text_any w' A l.length c l rfl (by omega) hx (by omega) hk (hE.on h))
  have CU : Hid (∀ w' A c, Below w.heap.size w w' → Rd w' (· < w'.heap.size) A (tc m) → Calls Tryd.prog 13 #[.slice A l.length c] w' (TextPost l w')) := Lib.hid (fun w' A c (h : Below w.heap.size w w') hx => by
    have := text_any w' A m.length c m rfl (by omega) hx (by rw [htm]; omega) hk2 (hE.on h)
    unfold TextPost at this ⊢
    rw [htm, hlm] at this
    exact this)
  have hz : linesF [] m = linesF [] m := rfl
  have CL := Lib.hid (fun w' A c hc hx => lines_at l (by omega) (linesF [] l).length rfl w' A c hc hx)
  have CM : Hid (∀ w' A c, l.length ≤ c → Rd w' (· < w'.heap.size) A (tc m) → Calls Tryd.prog 16 #[.slice A l.length c] w' fun e w2 => ∃ B d, e = .returned (.slice B (linesF [] l).length d) ∧ Lsts w2 B (linesF [] m) ∧ Below w'.heap.size w' w2) := Lib.hid (fun w' A c hc hx => by
    have := lines_at m (by omega) (linesF [] l).length hln.symm w' A c (by omega) hx
    rw [hlm] at this
    exact this)
  have CS : Hid (∀ w' A B c d, Lsts w' A (linesF [] m) → Lsts w' B (linesF [] m) → Calls Tryd.prog 15 #[.slice A (linesF [] l).length c, .slice B (linesF [] l).length d] w' fun e w2 => e = .returned (.bool true) ∧ Below w'.heap.size w' w2) := Lib.hid (fun w' A B c d h1 h2 => lists_any w' A B (linesF [] l).length c d (linesF [] m) hln.symm (by omega) hsm h1 h2)
  have CK : Hid (∀ w' A B c d, Rd w' (· < w'.heap.size) A (tc l) → Rd w' (· < w'.heap.size) B (tc m) → Calls Tryd.prog 14 #[.slice A l.length c, .slice B l.length d] w' fun e w2 => e = .returned (.bool true) ∧ Below w'.heap.size w' w2) := Lib.hid (fun w' A B c d h1 h2 => by
    have := like_any w' A B l.length m.length c d l m rfl rfl ha (by omega) h1 h2
    rw [hlm] at this
    exact this)
  have HLM := Lib.hid hlm
  have hs2 : ¬ (3000 : Int) < (s.size : Int) := by omega
  clear hE h1 hm ha hk hk2 hln hsm htm hlm hz
  go_enter Tryd.func4, Tryd.ntmps4
  go_wp2_with (first
    | (go_at_call 10; refine H.out.mono ?_; rintro e w1 ⟨rfl, hb⟩; have HB := Lib.hid hb; clear hb)
    | (go_at_call 16; (with_reducible refine (CM.out _ A2 c2 hcap2 (R2.out.later Z10.out)).mono ?_); rintro e w11 ⟨D11, d11, rfl, -, hb⟩; have Z11 := Lib.hid (keep_trans Z10.out hb); clear hb)
    | (go_at_call 16; (with_reducible refine (CL.out _ A1 c1 hcap1 (R1.out.later (keep_trans HX4.out Z9.out))).mono ?_); rintro e w10 ⟨D10, d10, rfl, -, hb⟩; have Z10 := Lib.hid (keep_trans Z9.out hb); clear hb)
    | (go_at_call 15; (with_reducible refine (CS.out _ D7 D8 d7 d8 (L7.out.later Y8.out) L8.out).mono ?_); rintro e w9 ⟨rfl, hb⟩; have Z9 := Lib.hid (keep_trans Z8.out hb); clear hb)
    | (go_at_call 16; (with_reducible refine (CM.out _ A2 c2 hcap2 (R2.out.later Z7.out)).mono ?_); rintro e w8 ⟨D8, d8, rfl, hls, hb⟩; have L8 := Lib.hid hls; have Y8 := Lib.hid hb; have Z8 := Lib.hid (keep_trans Z7.out hb); clear hls hb)
    | (go_at_call 16; (with_reducible refine (CM.out _ A2 c2 hcap2 (R2.out.later Z6.out)).mono ?_); rintro e w7 ⟨D7, d7, rfl, hls, hb⟩; have L7 := Lib.hid hls; have Z7 := Lib.hid (keep_trans Z6.out hb); clear hls hb)
    | (go_at_call 13; (with_reducible refine (CU.out _ A2 c2 (keep_trans HB4.out Z5.out) (R2.out.later Z5.out)).mono ?_); rintro e w6 ⟨rfl, hb⟩; have Z6 := Lib.hid (keep_trans Z5.out hb); clear hb)
    | (go_at_call 14; (with_reducible refine (CK.out _ A1 A2 c1 c2 (R1.out.later (keep_trans HX4.out (one_box _ _))) (R2.out.later (one_box _ _))).mono ?_); rintro e w5 ⟨rfl, hb⟩; have Z5 := Lib.hid (keep_trans (one_box w4 _) hb); clear hb)
    | (go_at_call 9; ((with_reducible refine (C2.out _ HB3.out).mono ?_); rintro e w4 ⟨A2, c2, rfl, hcap2, hr, hb⟩; have R2 := Lib.hid hr.old; have HB4 := Lib.hid (keep_trans HB3.out hb); have HX4 := Lib.hid (keep_trans HX3.out hb); rw [HLM.out] at hcap2 ⊢; clear hb hr))
    | (go_at_call 13; (with_reducible refine (CT.out _ A1 c1 (keep_trans HB2.out (one_box _ _)) (R1.out.later (one_box _ _))).mono ?_); rintro e w3 ⟨rfl, hb⟩; have HB3 := Lib.hid (keep_trans (keep_trans HB2.out (one_box w2 _)) hb); have HX3 := Lib.hid (keep_trans (one_box w2 _) hb); clear hb)
    | (go_at_call 9; ((with_reducible refine (C1.out _ HB.out).mono ?_); rintro e w2 ⟨A1, c1, rfl, hcap1, hr, hb⟩; have R1 := Lib.hid hr.old; have HB2 := Lib.hid (keep_trans HB.out hb); clear hb hr))
    | fail)
  go_ret
  exact ⟨rfl, keep_trans HB4.out Z11.out⟩

theorem back_all (s : ByteArray) (w : World) (hE : Tk.Env w) : Calls Tryd.prog 4 #[.string s] w fun e w' => e = .returned (.bool true) ∧ Below w.heap.size w w' := by
  by_cases h : 3000 < s.size
  · exact back_long s h w hE
  · have hs : s.size ≤ 3000 := by omega
    have hz := Lib.size_eq s
    cases h1 : lex s.data.toList 1 1 false with
    | bad er l c => exact back_bad s hs w hE er l c h1
    | ok l =>
      have q1 := lex_count _ _ _ _ _ h1
      have q2 := text_len _ _ _ _ _ h1
      have q3 := lex_good _ _ _ _ _ h1
      simp at q1 q2
      rw [hz] at hs
      simp at hs
      obtain ⟨m, hm, ha⟩ := back_good l false q3 1 1
      have hm2 : lexAll ⟨(textF false l).toArray⟩ = .ok m := by
        rw [lexAll_small (by show (textF false l).toArray.size ≤ _; simp; omega)]
        exact hm
      exact back_ok s (by rw [hz]; simpa using hs) w hE l h1 m hm2 ha (by omega) (good_num q3) (good_num (lex_good _ _ _ _ _ hm)) (by omega)
end Go.Proofs.YtgcphhialllieaaDoor.Lx
