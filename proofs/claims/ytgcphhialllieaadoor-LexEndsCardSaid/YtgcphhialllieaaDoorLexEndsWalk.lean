/- LexEnds: there are as many lines as ends; their tokens, with an end behind each, are all tokens. Conditions: the library's variables hold what start-up lays. -/
import Derived.Test.YtgcphhialllieaaDoorLexBackWalk
import Derived.Deep.RegionHeld3
namespace Go.Proofs.YtgcphhialllieaaDoor.Lx
open Go.ChangeShapes Go.WideShapes Go.ChangeAt Go.RowKit
set_option linter.unusedVariables false

/-- the tokens of a line bear one line's number; o: the line of what the line has already -/
def lined : Option Int → List Tok → Prop
  | _, [] => True
  | o, t :: r => (∀ x, o = some x → t.line = x) ∧ lined (if t.kind = 4 then none else some t.line) r
theorem lex_lined : ∀ (bs : List UInt8) (line col : Nat) (sm : Bool) (l : List Tok), lex bs line col sm = .ok l → lined (if sm then some (line : Int) else none) l := by
  intro bs
  induction bs using lex_induct with
  | nil =>
    intro line col sm l h
    rw [lex_nil] at h
    injection h with h
    cases sm with
    | true => rw [if_pos rfl] at h; subst h; exact ⟨fun x e => by simpa [endT] using e, trivial⟩
    | false => rw [if_neg (by decide)] at h; subst h; trivial
  | nl c r hk ih =>
    intro line col sm l h
    rw [lex_nl hk] at h
    cases sm with
    | true =>
      rw [if_pos rfl] at h
      obtain ⟨l', h1, rfl⟩ := cons_ok h
      exact ⟨fun x e => by simpa [endT] using e, ih _ _ _ _ h1⟩
    | false => rw [if_neg (by decide)] at h; have := ih _ _ _ _ h; exact this
  | bl c r hk ih => intro line col sm l h; rw [lex_bl hk] at h; exact ih _ _ _ _ h
  | hash c r hk ih => intro line col sm l h; rw [lex_hash hk] at h; exact ih _ _ _ _ h
  | word c r hk ih =>
    intro line col sm l h
    rw [lex_let hk] at h
    by_cases h24 : 24 < ((c :: r).takeWhile isMore).length
    · rw [if_pos h24] at h; cases h
    · rw [if_neg h24] at h
      obtain ⟨l', h1, rfl⟩ := cons_ok h
      refine ⟨fun x e => ?_, ?_⟩
      · cases sm with
        | true => simpa [wordT] using e
        | false => simp at e
      · have := ih _ _ _ _ h1
        rw [if_neg (by simp only [wordT]; split <;> decide)]
        exact this
  | num c r hk ih =>
    intro line col sm l h
    rw [lex_dig hk] at h
    split at h
    · cases h
    · split at h
      · cases h
      · split at h
        · cases h
        · obtain ⟨l', h1, rfl⟩ := cons_ok h
          refine ⟨fun x e => ?_, ?_⟩
          · cases sm with
            | true => simpa [numT] using e
            | false => simp at e
          · have := ih _ _ _ _ h1
            rw [if_neg (by simp [numT])]
            exact this
  | bad c r hk => intro line col sm l h; rw [lex_bad (bs := c :: r) hk] at h; cases h

theorem cut_tail : ∀ (r : List Tok) (x : Int) (cur : List Tok), cur ≠ [] → good true r → lined (some x) r → ∃ q e rest, r = q ++ e :: rest ∧ e.kind = 4 ∧ (∀ y ∈ q, (y.kind == 4) = false ∧ y.line = x) ∧ linesF cur r = (cur ++ q) :: linesF [] rest ∧ good false rest ∧ lined none rest := by
  intro r
  induction r with
  | nil => intro x cur _ h; cases h
  | cons t r ih =>
    intro x cur hc h hl
    rcases h with ⟨h4, _, _, _, hg⟩ | ⟨hv, hg⟩
    · refine ⟨[], t, r, rfl, h4, fun y hy => (by cases hy), ?_, hg, ?_⟩
      · have hce : cur.isEmpty = false := by cases cur with | nil => exact absurd rfl hc | cons a b => rfl
        simp [linesF, h4, hce]
      · have := hl.2; rw [if_pos h4] at this; exact this
    · have h4 : ¬ t.kind = 4 := by have := valid_kind hv; rwa [beq_eq_false_iff_ne] at this
      have hl2 := hl.2
      rw [if_neg h4] at hl2
      have hx : t.line = x := hl.1 x rfl
      rw [hx] at hl2
      obtain ⟨q, e, rest, h1, h2, h3, h5, h6, h7⟩ := ih x (cur ++ [t]) (by simp) hg hl2
      refine ⟨t :: q, e, rest, by rw [h1]; rfl, h2, fun y hy => ?_, ?_, h6, h7⟩
      · rcases List.mem_cons.1 hy with rfl | hy
        · exact ⟨valid_kind hv, hx⟩
        · exact h3 y hy
      · simp only [linesF, if_neg h4]
        rw [h5]; simp
/-- the first line of what is left -/
theorem cut_row {l : List Tok} (hne : l ≠ []) (hg : good false l) (hl : lined none l) : ∃ row e rest x, l = row ++ e :: rest ∧ row ≠ [] ∧ e.kind = 4 ∧ (∀ y ∈ row, (y.kind == 4) = false ∧ y.line = x) ∧ linesF [] l = row :: linesF [] rest ∧ good false rest ∧ lined none rest := by
  cases l with
  | nil => exact absurd rfl hne
  | cons t r =>
    rcases hg with ⟨_, h, _⟩ | ⟨hv, hg⟩
    · cases h
    · have h4 : ¬ t.kind = 4 := by have := valid_kind hv; rwa [beq_eq_false_iff_ne] at this
      have hl2 := hl.2
      rw [if_neg h4] at hl2
      obtain ⟨q, e, rest, h1, h2, h3, h5, h6, h7⟩ := cut_tail r t.line [t] (by simp) hg hl2
      refine ⟨t :: q, e, rest, t.line, by rw [h1]; rfl, by simp, h2, fun y hy => ?_, ?_, h6, h7⟩
      · rcases List.mem_cons.1 hy with rfl | hy
        · exact ⟨valid_kind hv, rfl⟩
        · exact h3 y hy
      · simp only [linesF, if_neg h4, List.nil_append]
        exact h5
theorem Lsts.cellB {w : World} {A : Option Addr} {LL : List (List Tok)} (h : Lsts w A LL) {i : Nat} {l : List Tok} (hl : LL[i]? = some l) : ∃ ad Ai ci, A = some ad ∧ (ad.add i).block < w.heap.size ∧ w.cell? (ad.add i) = some (Value.slice Ai l.length ci) ∧ l.length ≤ ci ∧ Rd w (· < w.heap.size) Ai (tc l) := by
  obtain ⟨ss, h1, h2, h3⟩ := h
  obtain ⟨Ai, ci, a, b, c⟩ := h3 i l hl
  have hlt : i < LL.length := by
    rcases Nat.lt_or_ge i LL.length with h | h
    · exact h
    · rw [List.getElem?_eq_none h] at hl; cases hl
  obtain ⟨ad, e, hb, hc⟩ := h1 (by omega)
  exact ⟨ad, Ai, ci, e, by rw [block_of_add]; exact hb, hc _ _ a, b, c⟩
/-- where the loop stands: i lines are gone through, they had p tokens with their ends -/
structure At (l : List Tok) (i p : Nat) : Prop where
  rows : (linesF [] l).drop i = linesF [] (l.drop p)
  good : good false (l.drop p)
  lined : lined none (l.drop p)
  le : p ≤ l.length
theorem At.fin {l : List Tok} {i p : Nat} (h : At l i p) (hi : i = (linesF [] l).length) : p = l.length := by
  by_cases hne : l.drop p = []
  · have := congrArg List.length hne; simp at this; have := h.le; omega
  · obtain ⟨row, e, rest, x, _, _, _, _, h5, _⟩ := cut_row hne h.good h.lined
    have := h.rows
    rw [h5, List.drop_eq_nil_of_le (by omega)] at this
    cases this
theorem At.step {l : List Tok} {i p : Nat} (h : At l i p) (hi : i < (linesF [] l).length) : ∃ row e x, (linesF [] l)[i]? = some row ∧ 0 < row.length ∧ p + row.length < l.length ∧ (l.take (p + row.length)).drop p = row ∧ l[p + row.length]? = some e ∧ e.kind = 4 ∧ (∀ y ∈ row, (y.kind == 4) = false ∧ y.line = x) ∧ At l (i + 1) (p + row.length + 1) := by
  have hne : l.drop p ≠ [] := fun e => by
    have := h.rows
    rw [e] at this
    have := congrArg List.length this
    simp [linesF] at this
    omega
  obtain ⟨row, e, rest, x, h1, h2, h3, h4, h5, h6, h7⟩ := cut_row hne h.good h.lined
  have hlen := congrArg List.length h1
  simp at hlen
  have hdr : l.drop (p + row.length + 1) = rest := by
    have e1 : l.drop (p + row.length + 1) = (l.drop p).drop (row.length + 1) := by rw [List.drop_drop]; congr 1
    rw [e1, h1]; simp
  have hrow : (linesF [] l)[i]? = some row := by
    have := h.rows
    rw [h5] at this
    have e2 : ((linesF [] l).drop i)[0]? = some row := by rw [this]; rfl
    rw [List.getElem?_drop] at e2
    simpa using e2
  refine ⟨row, e, x, hrow, List.length_pos_iff.2 h2, by omega, ?_, ?_, h3, h4, ⟨?_, by rw [hdr]; exact h6, by rw [hdr]; exact h7, by omega⟩⟩
  · rw [← List.take_drop, h1]; simp
  · have e3 : ((l.drop p))[row.length]? = some e := by rw [h1]; simp
    rw [List.getElem?_drop] at e3
    exact e3
  · rw [hdr]
    have := congrArg (List.drop 1) h.rows
    rw [h5, List.drop_drop] at this
    simpa using this

set_option maxRecDepth 100000 in
set_option maxHeartbeats 4000000 in
theorem ends_ok (s : ByteArray) (hs : s.size ≤ 3000) (w : World) (hE : Tk.Env w) (l : List Tok) (h1 : lex s.data.toList 1 1 false = .ok l) (hl : l.length ≤ 6000) (hat : At l 0 0) :
    Calls Tryd.prog 8 #[.string s] w fun e w' => e = .returned (.bool true) ∧ Below w.heap.size w w' := by
  have hcnt := linesF_count [] l
  have hsm : ∀ x ∈ linesF [] l, x.length ≤ 6000 := fun x hx => by have := linesF_small [] l x hx; simp at this; omega
  have H := Lib.hid (lives_any w hE)
  have C1 := Lib.hid (fun w' (h : Below w.heap.size w w') => all_ok2 (s := s) (by rw [lexAll_small (by omega)]; exact h1) w' (hE.on h))
  have HSM := Lib.hid hsm
  have CL := Lib.hid (fun w' A c hc hx => lines_at l (by omega) (linesF [] l).length rfl w' A c hc hx)
  have HAT := Lib.hid hat
  have hs2 : ¬ (3000 : Int) < (s.size : Int) := by omega
  clear hE h1 hsm hat
  go_enter Tryd.func8, Tryd.ntmps8
  go_wp2_with (first
    | (go_at_call 10; refine H.out.mono ?_; rintro e w1 ⟨rfl, hb⟩; have HB := Lib.hid hb; clear hb)
    | (go_at_call 16; (with_reducible refine (CL.out _ A1 c1 hcap1 (R1.out.later (one_box _ _))).mono ?_); rintro e w3 ⟨D, d, rfl, hls, hb⟩; have L3 := Lib.hid hls; have Z3 := Lib.hid (keep_trans (one_box w2 _) hb); clear hls hb)
    | (go_at_call 9; ((with_reducible refine (C1.out _ HB.out).mono ?_); rintro e w2 ⟨A1, c1, rfl, hcap1, hr, hb⟩; have R1 := Lib.hid hr.old; have HB2 := Lib.hid (keep_trans HB.out hb); clear hb hr))
    | fail)
  go_loopw [6, 7, 8] (fun v6 v7 v8 wr => ∃ i p : Nat, v7 = .int .i64 i ∧ v6 = .int .i64 p ∧ i ≤ (linesF [] l).length ∧ Hid (At l i p) ∧ Hid (Below w3.heap.size w3 wr)) (fun _ v _ _ => (linesF [] l).length - (intOf v).toNat)
  case atStart => exact ⟨0, 0, rfl, rfl, by omega, HAT, Lib.hid (Below.refl _ _)⟩
  case round =>
    obtain ⟨i, p, rfl, rfl, hi, hA, hB⟩ := hrel
    by_cases hlt : i < (linesF [] l).length
    · obtain ⟨row, e, x, hrow, hr0, hpl, hcut, he, he4, hrk, hA2⟩ := hA.out.step hlt
      obtain ⟨ad, Ai, ci, hD, aB, a0, a1, a2⟩ := (L3.out.later hB.out).cellB hrow
      have hrs : row.length ≤ 6000 := HSM.out row (List.mem_of_getElem? hrow)
      have R4 := R1.out.later (keep_trans Z3.out hB.out)
      obtain ⟨bd, hb1, hb2, ⟨b0, b1, b2, b3, b4⟩⟩ := R4.tok he
      subst hD
      subst hb1
      have R5 := rd_sub R4 p (p + row.length)
      rw [hcut] at R5
      obtain ⟨q, hq⟩ : ∃ q, q = p + row.length := ⟨_, rfl⟩
      rw [← hq] at hcut hpl b0
      have hqp : q - p = row.length := by omega
      have CS : Hid (∀ w4 d', Below wr.heap.size wr w4 → Calls Tryd.prog 18 #[.slice Ai row.length ci, .slice (some (bd.add (p * 5))) row.length d'] w4 fun e w5 => e = .returned (.bool true) ∧ Below wr.heap.size wr w5) := Lib.hid (fun w4 d' h => (same_tok w4 Ai (some (bd.add (p * 5))) row.length ci d' row rfl (by omega) (a2.later h) (R5.later h)).mono fun e w5 ⟨h1, h2⟩ => ⟨h1, keep_trans h h2⟩)
      have KC : Hid (∀ w4, Below wr.heap.size wr w4 → w4.cell? (ad.add i) = some (Value.slice Ai row.length ci) ∧ w4.cell? (bd.add (q * 5)) = some (.int .i64 4)) := Lib.hid (fun w4 h => ⟨(World.cell?_of_block (h.block _ aB)).trans a0, (World.cell?_of_block (h.block _ (by rw [block_of_add]; exact hb2))).trans (by rw [b0, he4])⟩)
      have HRK := Lib.hid hrk
      have HA2 := Lib.hid hA2
      have HR2 := Lib.hid a2
      obtain ⟨kd, tx, nm, ln, cl⟩ := e
      dsimp only at he4 b0
      subst he4
      clear hrk hA2 a2 R5 R4 hcut he hrow hb2 b1 b2 b3 b4 aB
      have hii : (i : Int) < ((linesF [] l).length : Int) := by omega
      have hw3 : IntKind.i64.wrap (q : Int) = (q : Int) := IntWalk.i64_in _ (by omega)
      have hw2 : (p : Int) + (row.length : Int) = (q : Int) := by omega

      have hql3 : q < l.length := by omega
      have hql2 : (q : Int) < (l.length : Int) := by omega
      have hpq : (p : Int) ≤ (q : Int) := by omega
      have hqc : (q : Int) ≤ (c1 : Int) := by omega
      have hpq2 : p ≤ q := by omega
      have hqc2 : q ≤ c1 := by omega
      have hcp : ¬ c1 = p := by omega
      have hdc1 : decide (l.length ≤ q) = false := by rw [decide_eq_false_iff_not]; omega
      have hdc2 : decide ((l.length : Int) ≤ (q : Int)) = false := by rw [decide_eq_false_iff_not]; omega
      have HQ := Lib.hid hq
      clear hq
      have hr0b : ((row.length : Int) == 0) = false := by rw [beq_eq_false_iff_ne]; omega
      go_wp2
      go_region_held3 (fun w' => w'.cell? (ad.add i) = some (Value.slice Ai row.length ci) ∧ w'.cell? (bd.add (q * 5)) = some (.int .i64 4)) (first | exact KC.out _ Q1.out | exact KC.out _ (below_drew (Below.refl _ _)) | exact KC.out _ (below_drewN (Below.refl _ _) _) | go_keep) (first | (go_at_call 18; refine (CS.out _ _ (by first | exact below_drew (Below.refl _ _) | exact below_drewN (Below.refl _ _) _ | exact Below.refl _ _)).mono ?_; rintro e w5 ⟨rfl, hb5⟩; have Q1 := Lib.hid hb5; clear hb5) | fail)
      all_goals
        go_wp2
        go_loopw [8] (fun v8 wr2 => ∃ k : Nat, v8 = .int .i64 k ∧ k ≤ row.length ∧ Hid (Below wr.heap.size wr wr2)) (fun v _ => row.length - (intOf v).toNat)
        case atStart => exact ⟨0, rfl, by omega, Q1⟩
        case round =>
          rename_i wr2
          obtain ⟨k, rfl, hk, hB3⟩ := hrel
          have c0 := (KC.out _ hB3.out).1
          by_cases hkl : k < row.length
          · obtain ⟨y, hy⟩ := tok_at row (n := row.length) rfl hkl
            obtain ⟨z, hz⟩ := tok_at row (n := row.length) (k := 0) rfl hr0
            obtain ⟨y4, yl⟩ := HRK.out y (List.mem_of_getElem? hy)
            have zl := (HRK.out z (List.mem_of_getElem? hz)).2
            obtain ⟨fd, hAi, -, ⟨d0, -, -, d3, -⟩⟩ := (HR2.out.below2 hB3.out).tok hy
            obtain ⟨gd, hAj, -, ⟨-, -, -, f3, -⟩⟩ := (HR2.out.below2 hB3.out).tok hz
            subst hAi
            injection hAj with hAj
            subst hAj
            rw [yl] at d3
            rw [zl] at f3
            have e0 : fd.add (0 * 5) = fd := rfl
            rw [e0] at f3
            clear e0 hy hz yl zl
            have hki : (k : Int) < (row.length : Int) := by omega
            have hk0 : (0 : Int) < (row.length : Int) := by omega
            go_wp2
            go_quiet (fail)
            go_wp2
            go_roundw
            case rel => exact ⟨k + 1, by go_num, by omega, Lib.hid (below_drewN hB3.out _)⟩
            case measure => simp [intOf]; omega
          · obtain rfl : k = row.length := by omega
            have hki : ¬ (row.length : Int) < (row.length : Int) := by omega
            have hw4 : IntKind.i64.wrap ((q : Int) + 1) = (q : Int) + 1 := IntWalk.i64_in _ (by omega)
            go_wp2
            go_roundw
            case rel => exact ⟨i + 1, p + row.length + 1, by go_num, by rw [← HQ.out]; go_num, by omega, HA2, Lib.hid (keep_trans hB.out hB3.out)⟩
            case measure => simp [intOf]; omega
    · obtain rfl : i = (linesF [] l).length := by omega
      have hp := hA.out.fin rfl
      have hii : ¬ ((linesF [] l).length : Int) < ((linesF [] l).length : Int) := by omega
      subst hp
      go_wp2
      go_ret
      exact ⟨rfl, keep_trans (keep_trans HB2.out Z3.out) hB.out⟩

set_option maxHeartbeats 1000000 in
theorem ends_long (s : ByteArray) (h : 3000 < s.size) (w : World) (hE : Tk.Env w) : Calls Tryd.prog 8 #[.string s] w fun e w' => e = .returned (.bool true) ∧ Below w.heap.size w w' := by
  have H := Lib.hid (lives_any w hE)
  clear hE
  have hs2 : (3000 : Int) < (s.size : Int) := by omega
  clear h
  go_enter Tryd.func8, Tryd.ntmps8
  go_wp2_with (go_at_call 10; refine H.out.mono ?_; rintro e w1 ⟨rfl, hb⟩)
  go_ret
  exact ⟨rfl, hb⟩
set_option maxRecDepth 100000 in
set_option maxHeartbeats 1000000 in
theorem ends_bad (s : ByteArray) (hs : s.size ≤ 3000) (w : World) (hE : Tk.Env w) (er l k : Nat) (h1 : lex s.data.toList 1 1 false = .bad er l k) :
    Calls Tryd.prog 8 #[.string s] w fun e w' => e = .returned (.bool true) ∧ Below w.heap.size w w' := by
  have H := Lib.hid (lives_any w hE)
  have C1 := Lib.hid (fun w' (h : Below w.heap.size w w') => all_bad (s := s) (by rw [lexAll_small (by omega)]; exact h1) w' (hE.on h))
  have he : ((er : Int) == 0) = false := by have := (lexAll_err (s := s) (by rw [lexAll_small (by omega)]; exact h1)).1; rw [beq_eq_false_iff_ne]; omega
  have CL : Hid (∀ w', Calls Tryd.prog 16 #[.slice none 0 0] w' fun e w2 => ∃ B d, e = .returned (.slice B 0 d) ∧ Below w'.heap.size w' w2) := Lib.hid (fun w' => (lines_at [] (by simp) 0 rfl w' none 0 (Nat.le_refl _) Rd.none_).mono fun e w2 ⟨B, d, h1, _, h2⟩ => ⟨B, d, h1, h2⟩)
  have hs2 : ¬ (3000 : Int) < (s.size : Int) := by omega
  clear hE h1
  go_enter Tryd.func8, Tryd.ntmps8
  go_wp2_with (first
    | (go_at_call 10; refine H.out.mono ?_; rintro e w1 ⟨rfl, hb⟩; have HB := Lib.hid hb; clear hb)
    | (go_at_call 16; ((with_reducible refine (CL.out _).mono ?_); rintro e w3 ⟨B, d, rfl, hb⟩; have HB3 := Lib.hid (keep_trans (keep_trans HB2.out (one_box w2 _)) hb); clear hb))
    | (go_at_call 9; ((with_reducible refine (C1.out _ HB.out).mono ?_); rintro e w2 ⟨rfl, hb⟩; have HB2 := Lib.hid (keep_trans HB.out hb); clear hb))
    | fail)
  go_ret
  exact ⟨rfl, HB3.out⟩
theorem ends_all (s : ByteArray) (w : World) (hE : Tk.Env w) : Calls Tryd.prog 8 #[.string s] w fun e w' => e = .returned (.bool true) ∧ Below w.heap.size w w' := by
  by_cases h : 3000 < s.size
  · exact ends_long s h w hE
  · have hs : s.size ≤ 3000 := by omega
    have hz := Lib.size_eq s
    cases h1 : lex s.data.toList 1 1 false with
    | bad er l c => exact ends_bad s hs w hE er l c h1
    | ok l =>
      have q1 := lex_count _ _ _ _ _ h1
      have q2 := lex_lined _ _ _ _ _ h1
      have q3 := lex_good _ _ _ _ _ h1
      simp at q1
      rw [hz] at hs
      simp at hs
      exact ends_ok s (by rw [hz]; simpa using hs) w hE l h1 (by omega) ⟨by simp, by simpa using q3, by simpa using q2, by omega⟩
end Go.Proofs.YtgcphhialllieaaDoor.Lx
