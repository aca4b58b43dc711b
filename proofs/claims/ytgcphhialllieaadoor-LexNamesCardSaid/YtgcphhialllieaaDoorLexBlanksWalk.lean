/- The law on blanks and remarks between tokens, walked. Conditions: the library's variables hold what start-up lays. -/
import Derived.Test.YtgcphhialllieaaDoorLexJoinsWalk
import Derived.Test.YtgcphhialllieaaDoorLexBlanksMath
namespace Go.Proofs.YtgcphhialllieaaDoor.Lx
open Go.ChangeShapes Go.WideShapes Go.ChangeAt Go.RowKit
set_option linter.unusedVariables false

/-- the cells of texts -/
def sc (l : List (List UInt8)) : List Value := l.map fun x => Value.string ⟨x.toArray⟩
theorem sc_length (l : List (List UInt8)) : (sc l).length = l.length := by simp [sc]
theorem Rd.str {w : World} {S : Nat → Prop} {A : Option Addr} {gs : List (List UInt8)} (h : Rd w S A (sc gs)) {k : Nat} {x : List UInt8} (hk : gs[k]? = some x) : ∃ ad, A = some ad ∧ S ad.block ∧ w.cell? (ad.add k) = some (.string ⟨x.toArray⟩) := by
  have hlt : k < gs.length := by
    rcases Nat.lt_or_ge k gs.length with hl | hl
    · exact hl
    · rw [List.getElem?_eq_none hl] at hk; cases hk
  obtain ⟨ad, e, hb, hc⟩ := h (by rw [sc_length]; omega)
  exact ⟨ad, e, hb, hc k _ (by simp [sc, hk])⟩

set_option maxRecDepth 100000 in
set_option maxHeartbeats 1000000 in
theorem blanks_long (s : ByteArray) (A : Option Addr) (n c : Nat) (h : 3000 < s.size ∨ 300 < n) (w : World) (hE : Tk.Env w) : Calls Tryd.prog 6 #[.string s, .slice A n c] w fun e w' => e = .returned (.bool true) ∧ Below w.heap.size w w' := by
  have H := Lib.hid (lives_any w hE)
  clear hE
  by_cases hs : 3000 < s.size
  · have hs2 : (3000 : Int) < (s.size : Int) := by omega
    clear h hs
    go_enter Tryd.func6, Tryd.ntmps6
    go_wp2_with (go_at_call 10; refine H.out.mono ?_; rintro e w1 ⟨rfl, hb⟩)
    go_ret
    exact ⟨rfl, hb⟩
  · have hs2 : ¬ (3000 : Int) < (s.size : Int) := by omega
    have ht2 : (300 : Int) < (n : Int) := by omega
    clear h hs
    go_enter Tryd.func6, Tryd.ntmps6
    go_wp2_with (go_at_call 10; refine H.out.mono ?_; rintro e w1 ⟨rfl, hb⟩)
    go_ret
    exact ⟨rfl, hb⟩
set_option maxRecDepth 100000 in
set_option maxHeartbeats 1000000 in
theorem blanks_bad (s : ByteArray) (A : Option Addr) (n c : Nat) (hs : s.size ≤ 3000) (hn : n ≤ 300) (w : World) (hE : Tk.Env w) (er l k : Nat) (h1 : lex s.data.toList 1 1 false = .bad er l k) :
    Calls Tryd.prog 6 #[.string s, .slice A n c] w fun e w' => e = .returned (.bool true) ∧ Below w.heap.size w w' := by
  have H := Lib.hid (lives_any w hE)
  have C1 := Lib.hid (fun w' (h : Below w.heap.size w w') => all_bad (s := s) (by rw [lexAll_small (by omega)]; exact h1) w' (hE.on h))
  have he : ((er : Int) == 0) = false := by have := (lexAll_err (s := s) (by rw [lexAll_small (by omega)]; exact h1)).1; rw [beq_eq_false_iff_ne]; omega
  have hs2 : ¬ (3000 : Int) < (s.size : Int) := by omega
  have ht2 : ¬ (300 : Int) < (n : Int) := by omega
  clear hE h1
  go_enter Tryd.func6, Tryd.ntmps6
  go_wp2_with (first
    | (go_at_call 10; refine H.out.mono ?_; rintro e w1 ⟨rfl, hb⟩; have HB := Lib.hid hb; clear hb)
    | (go_at_call 9; ((with_reducible refine (C1.out _ HB.out).mono ?_); rintro e w2 ⟨rfl, hb⟩; have HB2 := Lib.hid (keep_trans HB.out hb); clear hb)))
  go_ret
  exact ⟨rfl, keep_trans HB2.out (one_box _ _)⟩

theorem text_none (w : World) (A : Option Addr) (c : Nat) (hE : Tk.Env w) : Calls Tryd.prog 13 #[.slice A 0 c] w fun e w' => e = .returned (.string ⟨#[]⟩) ∧ Below w.heap.size w w' :=
  (text_any w A 0 c [] rfl (by omega) Rd.none_ (by simp [textF]) (by intro t ht; cases ht) hE).mono fun _ _ h => h
def BkRel (W : World) (gs : List (List UInt8)) (l : List Tok) (v7 v8 : Value) (wr : World) : Prop :=
  ∃ (j : Nat) (T : ByteArray), v7 = .string T ∧ v8 = .int .i64 j ∧ j ≤ l.length ∧ Hid (T.data.toList ++ rendB (gapOf gs) j (l.drop j) = rendB (gapOf gs) 0 l) ∧ Hid (Below W.heap.size W wr)
theorem bk_next {W wr : World} {gs : List (List UInt8)} {l : List Tok} {j : Nat} {T U : ByteArray} {p : List UInt8} (hj : j < l.length) (h : T.data.toList ++ (gapOf gs j ++ p ++ rendB (gapOf gs) (j + 1) (l.drop (j + 1))) = rendB (gapOf gs) 0 l) (hu : U.data.toList = T.data.toList ++ gapOf gs j ++ p) (hb : Below W.heap.size W wr) :
    BkRel W gs l (.string U) (.int .i64 ((j + 1 : Nat) : Int)) wr :=
  ⟨j + 1, U, rfl, rfl, by omega, Lib.hid (by rw [hu, ← h]; simp), hb⟩
def par (c : UInt8) : UInt8 := if c.toNat % 2 = 0 then 32 else 9
set_option maxRecDepth 100000 in
set_option maxHeartbeats 1000000 in
theorem blanks_ok (s : ByteArray) (A : Option Addr) (n c : Nat) (gs : List (List UInt8)) (hs : s.size ≤ 3000) (hn : n ≤ 300) (hng : Hid (n = gs.length)) (w : World) (hE : Tk.Env w) (hr : Rd w (· < w.heap.size) A (sc gs)) (l : List Tok) (h1 : lex s.data.toList 1 1 false = .ok l)
    (hl : l.length ≤ 6000) (htot : (rendB (gapOf gs) 0 l).length ≤ 300000) (m : List Tok) (hm : lex (rendB (gapOf gs) 0 l) 1 1 false = .ok m) (ha : Alike l m) :
    Calls Tryd.prog 6 #[.string s, .slice A n c] w fun e w' => e = .returned (.bool true) ∧ Below w.heap.size w w' := by
  have H := Lib.hid (lives_any w hE)
  have C1 := Lib.hid (fun w' (h : Below w.heap.size w w') => all_ok (s := s) (by rw [lexAll_small (by omega)]; exact h1) w' (hE.on h))
  have HE := Lib.hid hE
  have HR := Lib.hid hr
  have HTOT := Lib.hid htot
  have HM := Lib.hid hm
  have HA := Lib.hid ha
  have hs2 : ¬ (3000 : Int) < (s.size : Int) := by omega
  have ht2 : ¬ (300 : Int) < (n : Int) := by omega
  clear hE h1 hr htot hm ha
  go_enter Tryd.func6, Tryd.ntmps6
  go_wp2_with (first
    | (go_at_call 10; refine H.out.mono ?_; rintro e w1 ⟨rfl, hb⟩; have HB := Lib.hid hb; clear hb)
    | (go_at_call 9; ((with_reducible refine (C1.out _ HB.out).mono ?_); rintro e w2 ⟨A1, c1, rfl, -, hr, hb⟩; have R1 := Lib.hid hr.old; have HB2 := Lib.hid (keep_trans HB.out hb); clear hb hr)))
  generalize hW : w2.alloc (.cells #[.int .i64 0, .int .i64 0, .int .i64 0] 25) = W
  have G2W : Hid (Below w2.heap.size w2 W) := Lib.hid (by rw [← hW]; exact one_box _ _)
  have X1 := Lib.hid (R1.out.later G2W.out)
  have HB3 := Lib.hid (keep_trans HB2.out G2W.out)
  have X0 := Lib.hid (HR.out.later HB3.out)
  have HI : Hid (BkRel W gs l (.string ⟨#[]⟩) (.int .i64 ((0 : Nat) : Int)) W) := Lib.hid ⟨0, _, rfl, rfl, by omega, Lib.hid (by simp), Below.refl _ _⟩
  clear hW
  go_loopw [7, 8] (fun v7 v8 wr => BkRel W gs l v7 v8 wr) (fun _ v _ => l.length - (intOf v).toNat)
  case atStart => exact HI.out
  case round =>
    obtain ⟨j, T, rfl, rfl, hj, hT, hbel⟩ := hrel
    have hTs : T.size ≤ 300000 := by
      have := HTOT.out
      rw [← hT.out, List.length_append, ← Lib.size_eq] at this
      omega
    by_cases hjl : j < l.length
    · obtain ⟨t, ht⟩ := tok_at l (n := l.length) rfl hjl
      obtain ⟨ad, rfl, hS, ⟨a0, a1, a2, a3, a4⟩⟩ := (X1.out.below2 hbel.out).tok ht
      have hdr : l.drop j = t :: l.drop (j + 1) := by
        rw [List.drop_eq_getElem_cons hjl]
        rw [List.getElem?_eq_getElem hjl] at ht
        rw [Option.some.inj ht]
      have HT2 : Hid (T.data.toList ++ (gapOf gs j ++ (if t.kind = 4 then remB else t.text) ++ rendB (gapOf gs) (j + 1) (l.drop (j + 1))) = rendB (gapOf gs) 0 l) := Lib.hid (by rw [← hT.out, hdr]; rfl)
      obtain ⟨kd, tx, nm, ln, cl⟩ := t
      have hji : (j : Int) < (l.length : Int) := by omega
      clear hdr hT ht
      by_cases hA : j < n
      · obtain ⟨x, hx⟩ : ∃ x, gs[j]? = some x := ⟨_, List.getElem?_eq_getElem (by rw [← hng.out]; exact hA)⟩
        obtain ⟨bd, rfl, hS2, b0⟩ := (X0.out.below2 hbel.out).str hx
        have hAi : (j : Int) < (n : Int) := by omega
        obtain ⟨X, hX⟩ : ∃ X : ByteArray, X = ⟨x.toArray⟩ := ⟨_, rfl⟩
        have hXd : X.data.toList = x := by rw [hX]
        have hXs : X.size = x.length := by rw [Lib.size_eq, hXd]
        rw [← hX] at b0
        have HXD := Lib.hid hXd
        by_cases h30 : x.length ≤ 30
        · have h30i : (X.size : Int) ≤ 30 := by omega
          have HG : Hid (gapOf gs j = 32 :: X.data.toList.map par) := Lib.hid (by unfold gapOf; rw [hx, hXd]; show 32 :: (if x.length ≤ 30 then _ else []) = _; rw [if_pos h30]; rfl)
          clear hx hX hXd hXs h30
          go_wp2
          go_loop [9, 10] (fun v9 v10 => ∃ (k : Nat) (G : ByteArray), v9 = .string G ∧ v10 = .int .i64 k ∧ k ≤ X.size ∧ Hid (G.data.toList = 32 :: (X.data.toList.take k).map par)) (fun _ v => X.size - (intOf v).toNat)
          case atStart => exact ⟨0, _, rfl, rfl, Nat.zero_le _, Lib.hid (by simp)⟩
          case round =>
            obtain ⟨k, G, rfl, rfl, hk, hG⟩ := hrel
            have hGs : G.size ≤ 40 := by rw [Lib.size_eq, hG.out]; simp; omega
            by_cases hkl : k < X.size
            · have hki : (k : Int) < (X.size : Int) := by omega
              have HS := Lib.hid (Tk.take_snoc X k hkl)
              by_cases hev : X[k].toNat % 2 = 0
              · have hte : ((X[k].toNat : Int) % 2 == 0) = true := by rw [beq_iff_eq]; omega
                have HP : Hid (par X[k] = 32) := Lib.hid (by unfold par; rw [if_pos hev])
                clear hev
                go_wp2
                go_round
                case rel => exact ⟨k + 1, _, rfl, by go_num, by omega, Lib.hid (by rw [HS.out]; simp [hG.out, HP.out])⟩
                case measure => simp [intOf]; omega
              · have hte : ((X[k].toNat : Int) % 2 == 0) = false := by rw [beq_eq_false_iff_ne]; omega
                have HP : Hid (par X[k] = 9) := Lib.hid (by unfold par; rw [if_neg hev])
                clear hev
                go_wp2
                go_round
                case rel => exact ⟨k + 1, _, rfl, by go_num, by omega, Lib.hid (by rw [HS.out]; simp [hG.out, HP.out])⟩
                case measure => simp [intOf]; omega
            · have hki : ¬ (k : Int) < (X.size : Int) := by omega
              have HGG : Hid (G.data.toList = gapOf gs j) := Lib.hid (by rw [HG.out, hG.out, List.take_of_length_le (by rw [← Lib.size_eq]; omega)])
              by_cases h4 : kd = 4
              · subst h4
                go_wp2_with (first
                  | (go_at_call 13; refine (text_none _ _ _ (HE.out.on (HB3.out.trans (hbel.out.mono HB3.out.size)))).mono ?_; rintro e w3 ⟨rfl, hb3⟩; have HB4 := Lib.hid (keep_trans hbel.out hb3); clear hb3))
                go_roundw
                case rel => exact bk_next (p := remB) hjl (by have := HT2.out; simpa using this) (by rw [← HGG.out]; simp [remB]) HB4.out
                case measure => simp [intOf]; omega
              · have hk4 : (kd == 4) = false := beq_eq_false_iff_ne.2 h4
                have HTX : Hid (T.data.toList ++ (gapOf gs j ++ tx ++ rendB (gapOf gs) (j + 1) (l.drop (j + 1))) = rendB (gapOf gs) 0 l) := Lib.hid (by have := HT2.out; simpa [h4] using this)
                have hxs : tx.length ≤ 300000 := by
                  have h := HTOT.out
                  rw [← HTX.out] at h
                  simp only [List.length_append] at h
                  omega
                have hxs2 : (ByteArray.mk tx.toArray).size ≤ 300000 := by rw [Lib.size_eq]; exact hxs
                clear h4
                go_wp2
                go_roundw
                case rel => exact bk_next (p := tx) hjl HTX.out (by rw [← HGG.out]; simp) hbel.out
                case measure => simp [intOf]; omega
        · have h30i : ¬ (X.size : Int) ≤ 30 := by omega
          have HGG : Hid ((ByteArray.mk #[32]).data.toList = gapOf gs j) := Lib.hid (by unfold gapOf; rw [hx]; show _ = 32 :: (if x.length ≤ 30 then _ else []); rw [if_neg h30])
          clear hx hX hXd hXs h30
          by_cases h4 : kd = 4
          · subst h4
            go_wp2_with (first
              | (go_at_call 13; refine (text_none _ _ _ (HE.out.on (HB3.out.trans (hbel.out.mono HB3.out.size)))).mono ?_; rintro e w3 ⟨rfl, hb3⟩; have HB4 := Lib.hid (keep_trans hbel.out hb3); clear hb3))
            go_roundw
            case rel => exact bk_next (p := remB) hjl (by have := HT2.out; simpa using this) (by rw [← HGG.out]; simp [remB]) HB4.out
            case measure => simp [intOf]; omega
          · have hk4 : (kd == 4) = false := beq_eq_false_iff_ne.2 h4
            have HTX : Hid (T.data.toList ++ (gapOf gs j ++ tx ++ rendB (gapOf gs) (j + 1) (l.drop (j + 1))) = rendB (gapOf gs) 0 l) := Lib.hid (by have := HT2.out; simpa [h4] using this)
            have hxs : tx.length ≤ 300000 := by
              have h := HTOT.out
              rw [← HTX.out] at h
              simp only [List.length_append] at h
              omega
            have hxs2 : (ByteArray.mk tx.toArray).size ≤ 300000 := by rw [Lib.size_eq]; exact hxs
            clear h4
            go_wp2
            go_roundw
            case rel => exact bk_next (p := tx) hjl HTX.out (by rw [← HGG.out]; simp) hbel.out
            case measure => simp [intOf]; omega
      · have hAi : ¬ (j : Int) < (n : Int) := by omega
        have HGG : Hid ((ByteArray.mk #[32]).data.toList = gapOf gs j) := Lib.hid (by unfold gapOf; rw [List.getElem?_eq_none (by rw [← hng.out]; omega)])
        by_cases h4 : kd = 4
        · subst h4
          go_wp2_with (first
            | (go_at_call 13; refine (text_none _ _ _ (HE.out.on (HB3.out.trans (hbel.out.mono HB3.out.size)))).mono ?_; rintro e w3 ⟨rfl, hb3⟩; have HB4 := Lib.hid (keep_trans hbel.out hb3); clear hb3))
          go_roundw
          case rel => exact bk_next (p := remB) hjl (by have := HT2.out; simpa using this) (by rw [← HGG.out]; simp [remB]) HB4.out
          case measure => simp [intOf]; omega
        · have hk4 : (kd == 4) = false := beq_eq_false_iff_ne.2 h4
          have HTX : Hid (T.data.toList ++ (gapOf gs j ++ tx ++ rendB (gapOf gs) (j + 1) (l.drop (j + 1))) = rendB (gapOf gs) 0 l) := Lib.hid (by have := HT2.out; simpa [h4] using this)
          have hxs : tx.length ≤ 300000 := by
            have h := HTOT.out
            rw [← HTX.out] at h
            simp only [List.length_append] at h
            omega
          have hxs2 : (ByteArray.mk tx.toArray).size ≤ 300000 := by rw [Lib.size_eq]; exact hxs
          clear h4
          go_wp2
          go_roundw
          case rel => exact bk_next (p := tx) hjl HTX.out (by rw [← HGG.out]; simp) hbel.out
          case measure => simp [intOf]; omega
    · have hjj : j = l.length := by omega
      have hfull : T.data.toList = rendB (gapOf gs) 0 l := by have := hT.out; rw [hjj, List.drop_length] at this; simpa [rendB] using this
      have HF := Lib.hid hfull
      have hji : ¬ (j : Int) < (l.length : Int) := by omega
      clear hfull hT
      by_cases hbig : T.size ≤ 65536
      · have C2 := Lib.hid (fun w' (h : Below W.heap.size W w') => all_ok (s := T) (toks := m) (by rw [lexAll_small hbig, HF.out]; exact HM.out) w' (HE.out.on (HB3.out.trans (h.mono HB3.out.size))))
        have hbi : ¬ (65536 : Int) < (T.size : Int) := by omega
        clear hjj
        go_wp2_with (first
          | (go_at_call 9; ((with_reducible refine (C2.out _ hbel.out).mono ?_); rintro e w4 ⟨A4, c4, rfl, -, hr, hb⟩; have R4 := Lib.hid hr.old; have G4 := Lib.hid (keep_trans hbel.out hb); clear hb hr))
          | (go_at_call 14; refine (like_any _ _ _ _ _ _ _ l m rfl rfl HA.out (by omega) (X1.out.later (keep_trans G4.out (one_box _ _))) (R4.out.later (one_box _ _))).mono ?_; rintro e w5 ⟨rfl, hb⟩; have G5 := Lib.hid (keep_trans (keep_trans G4.out (one_box _ _)) hb); clear hb))
        go_ret
        exact ⟨rfl, HB3.out.trans (G5.out.mono HB3.out.size)⟩
      · have C2 := Lib.hid (fun w' (h : Below W.heap.size W w') => all_bad (s := T) (er := 3) (l := 1) (c := 1) (by unfold lexAll; rw [if_pos (by omega)]) w' (HE.out.on (HB3.out.trans (h.mono HB3.out.size))))
        have hbi : (65536 : Int) < (T.size : Int) := by omega
        clear hjj
        go_wp2_with (first
          | (go_at_call 9; ((with_reducible refine (C2.out _ hbel.out).mono ?_); rintro e w4 ⟨rfl, hb⟩; have G4 := Lib.hid (keep_trans hbel.out hb); clear hb)))
        go_ret
        exact ⟨rfl, HB3.out.trans ((keep_trans G4.out (one_box _ _)).mono HB3.out.size)⟩
end Go.Proofs.YtgcphhialllieaaDoor.Lx
