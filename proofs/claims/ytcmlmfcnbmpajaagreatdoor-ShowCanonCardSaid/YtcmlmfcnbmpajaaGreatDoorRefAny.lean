/- The document's own cutting of a text into tokens, proved by walking its text: the tokens, or some fault. · The document's own All: what a text is cut into, or some fault; proved by walking its text. · The document's own All at texts beyond the limit, and at any text. -/
import Derived.Test.YtcmlmfcnbmpajaaGreatDoorRefName
import Derived.Test.YtcmlmfcnbmpajaaGreatDoorRefTick
import Derived.Test.YtcmlmfcnbmpajaaGreatDoorLexAllWalk
import Derived.Test.YtcmlmfcnbmpajaaGreatDoorReadMath
namespace Go.Proofs.YtcmlmfcnbmpajaaGreatDoor.Sw
open Go.ChangeShapes Go.WideShapes Go.ChangeAt Go.RowKit
open Lx Sh Tk
set_option linter.unusedVariables false
set_option linter.unusedSimpArgs false

/-- the number at the front -/
def numT0 (l : List UInt8) : Option Tok :=
  if canon (l.takeWhile isDig) = true ∧ dval (l.takeWhile isDig) ≤ 1099511627776 ∧ ¬ (nextK (l.dropWhile isDig) = 5 ∨ nextK (l.dropWhile isDig) = 7) then some ⟨3, l.takeWhile isDig, dval (l.takeWhile isDig), 0, 0⟩ else none
/-- the word at the front -/
def wordT0 (l : List UInt8) : Option Tok :=
  if 24 < (l.takeWhile isMore).length then none else some ⟨if isRes (l.takeWhile isMore) then 2 else 1, l.takeWhile isMore, 0, 0, 0⟩
def OnePost (w : World) (r : Option Tok) (e : Ending) (w' : World) : Prop :=
  (match r with
  | some t => e = .returned (.tuple #[ta t, .int .i64 t.text.length, .int .i64 0, .int .i64 0])
  | none => ∃ er b, (er == 0) = false ∧ e = .returned (.tuple #[ta ⟨0, [], 0, 0, 0⟩, .int .i64 0, .int .i64 er, .int .i64 b])) ∧ Below w.heap.size w w'
theorem OnePost.no {w w' : World} {r : Option Tok} {e : Ending} (hr : r = none) (er b : Int) (h0 : (er == 0) = false) (he : e = .returned (.tuple #[ta ⟨0, [], 0, 0, 0⟩, .int .i64 0, .int .i64 er, .int .i64 b])) (hb : Below w.heap.size w w') : OnePost w r e w' := by
  subst hr; exact ⟨⟨er, b, h0, he⟩, hb⟩
theorem OnePost.yes {w w' : World} {r : Option Tok} {e : Ending} {t : Tok} (hr : r = some t) (he : e = .returned (.tuple #[ta t, .int .i64 t.text.length, .int .i64 0, .int .i64 0])) (hb : Below w.heap.size w w') : OnePost w r e w' := by
  subst hr; exact ⟨he, hb⟩
theorem tw_take {p : UInt8 → Bool} : ∀ (l : List UInt8) (i : Nat), (l.take i).all p = true → (i = l.length ∨ ∃ c, l[i]? = some c ∧ p c = false) → l.takeWhile p = l.take i ∧ l.dropWhile p = l.drop i
  | [], i, _, _ => by simp
  | c :: r, 0, _, h => by
    rcases h with h | ⟨d, h1, h2⟩
    · simp at h
    · simp at h1; subst h1; simp [h2]
  | c :: r, i + 1, ha, h => by
    simp only [List.take_succ_cons, List.all_cons, Bool.and_eq_true] at ha
    have ih := tw_take r i ha.2 (by
      rcases h with h | ⟨d, h1, h2⟩
      · left; simpa using h
      · right; exact ⟨d, by simpa using h1, h2⟩)
    simp [List.takeWhile_cons, List.dropWhile_cons, ha.1, ih.1, ih.2]
theorem ext_list (s : ByteArray) (i : Nat) : (s.extract 0 i).data.toList = s.data.toList.take i := by
  rw [ByteArray.data_extract, Array.toList_extract, List.extract_eq_take_drop]; simp
theorem ext_eq (s : ByteArray) (i : Nat) : s.extract 0 i = ⟨(s.data.toList.take i).toArray⟩ := by
  apply ByteArray.ext
  rw [← ext_list, Array.toArray_toList]
theorem next_at {s : ByteArray} {i : Nat} (h : i < s.size) : nextK (s.data.toList.drop i) = kindOf s[i] := by
  have hb := byte_at s i h
  rw [List.getElem?_eq_some_iff] at hb
  obtain ⟨hl, hb⟩ := hb
  rw [List.drop_eq_getElem_cons hl, hb]; rfl
theorem next_over {l : List UInt8} {i : Nat} (h : l.length ≤ i) : nextK (l.drop i) = 1 := by
  rw [List.drop_eq_nil_of_le h]; rfl
theorem dig_more {c : UInt8} (h : isDig c = false) : isMore c = decide (kindOf c = 5 ∨ kindOf c = 7) := by
  rw [isDig_kind] at h
  unfold isMore
  rw [h, Bool.or_false, Bool.eq_iff_iff]
  simp
theorem num_no {l : List UInt8} (h : canon (l.takeWhile isDig) = false ∨ ¬ dval (l.takeWhile isDig) ≤ 1099511627776 ∨ nextK (l.dropWhile isDig) = 5 ∨ nextK (l.dropWhile isDig) = 7) : numT0 l = none := by
  unfold numT0
  refine if_neg fun e => ?_
  rcases h with h | h | h
  · rw [h] at e; cases e.1
  · exact h e.2.1
  · exact e.2.2 h
theorem num_yes {l : List UInt8} (h1 : canon (l.takeWhile isDig) = true) (h2 : dval (l.takeWhile isDig) ≤ 1099511627776) (h3 : ¬ (nextK (l.dropWhile isDig) = 5 ∨ nextK (l.dropWhile isDig) = 7)) : numT0 l = some ⟨3, l.takeWhile isDig, dval (l.takeWhile isDig), 0, 0⟩ := by
  unfold numT0
  rw [if_pos ⟨h1, h2, h3⟩]
theorem parse_cases (l : List UInt8) (h : l ≠ infL) : (canon l = false ∧ parseV l = 0 ∧ parseE l = 7) ∨ (canon l = true ∧ ¬ dval l ≤ 1099511627776 ∧ parseV l = 0 ∧ parseE l = 9) ∨ (canon l = true ∧ dval l ≤ 1099511627776 ∧ parseV l = dval l ∧ parseE l = 0) := by
  unfold parseV parseE
  rw [if_neg h, if_neg h]
  cases hc : canon l with
  | false => left; simp
  | true =>
    by_cases hd : dval l ≤ 1099511627776
    · right; right; simp [hd]
    · right; left; simp [hd]
theorem set5 {w : World} {n : Nat} {t : TypeId} {a0 a1 a2 a3 a4 : Value} (h : Blk w n t [a0, a1, a2, a3, a4]) (u0 u1 u2 u3 u4 : Value) :
    Blk (((((w.setCell ⟨n, 0, none⟩ u0).setCell ⟨n, 1, none⟩ u1).setCell ⟨n, 2, none⟩ u2).setCell ⟨n, 3, none⟩ u3).setCell ⟨n, 4, none⟩ u4) n t [u0, u1, u2, u3, u4] :=
  ((((h.set_ 0 u0).set_ 1 u1).set_ 2 u2).set_ 3 u3).set_ 4 u4
theorem ch_tok (w : World) (n : Nat) (u0 u1 u2 u3 u4 : Value) : Ch (· = n) w (((((w.setCell ⟨n, 0, none⟩ u0).setCell ⟨n, 1, none⟩ u1).setCell ⟨n, 2, none⟩ u2).setCell ⟨n, 3, none⟩ u3).setCell ⟨n, 4, none⟩ u4) :=
  ((((ch_set w n 0 u0).trans (ch_set _ n 1 u1)).trans (ch_set _ n 2 u2)).trans (ch_set _ n 3 u3)).trans (ch_set _ n 4 u4)
theorem tok_below {w : World} {n : Nat} (hn : n = w.heap.size) (o : Obj) (u0 u1 u2 u3 u4 : Value) : Below w.heap.size w ((((((w.alloc o).setCell ⟨n, 0, none⟩ u0).setCell ⟨n, 1, none⟩ u1).setCell ⟨n, 2, none⟩ u2).setCell ⟨n, 3, none⟩ u3).setCell ⟨n, 4, none⟩ u4) := by
  subst hn
  exact (one_box w o).trans ((ch_tok (w.alloc o) w.heap.size u0 u1 u2 u3 u4).below (by simp) (by omega))
theorem number_res {W : World} {n0 : Nat} {a0 a1 a2 a3 a4 b0 b1 b2 : Value} {tmps : Array Value} (h2 : tmps[2]? = some (.pointer (some ⟨n0, 0, none⟩))) (h3 : tmps[3]? = some b0) (h4 : tmps[4]? = some b1) (h5 : tmps[5]? = some b2) (k0 : Blk W n0 107 [a0, a1, a2, a3, a4]) :
    (results Tryz.f116 tmps).run Tryz.prog W = .ok (.tuple #[.agg #[a0, a1, a2, a3, a4], b0, b1, b2]) W := by
  have x0 : W.cell? ⟨n0, 0, none⟩ = some a0 := k0.cell 0
  have x1 : W.cell? ⟨n0, 1, none⟩ = some a1 := k0.cell 1
  have x2 : W.cell? ⟨n0, 2, none⟩ = some a2 := k0.cell 2
  have x3 : W.cell? ⟨n0, 3, none⟩ = some a3 := k0.cell 3
  have x4 : W.cell? ⟨n0, 4, none⟩ = some a4 := k0.cell 4
  simp [results, Tryz.results116, go_sem, h2, h3, h4, h5, x0, x1, x2, x3, x4]
theorem one_res {W : World} {n0 : Nat} {a0 a1 a2 a3 a4 b0 b1 b2 : Value} {tmps : Array Value} (h2 : tmps[2]? = some (.pointer (some ⟨n0, 0, none⟩))) (h3 : tmps[3]? = some b0) (h4 : tmps[4]? = some b1) (h5 : tmps[5]? = some b2) (k0 : Blk W n0 107 [a0, a1, a2, a3, a4]) :
    (results Tryz.f89 tmps).run Tryz.prog W = .ok (.tuple #[.agg #[a0, a1, a2, a3, a4], b0, b1, b2]) W := by
  have x0 : W.cell? ⟨n0, 0, none⟩ = some a0 := k0.cell 0
  have x1 : W.cell? ⟨n0, 1, none⟩ = some a1 := k0.cell 1
  have x2 : W.cell? ⟨n0, 2, none⟩ = some a2 := k0.cell 2
  have x3 : W.cell? ⟨n0, 3, none⟩ = some a3 := k0.cell 3
  have x4 : W.cell? ⟨n0, 4, none⟩ = some a4 := k0.cell 4
  simp [results, Tryz.results89, go_sem, h2, h3, h4, h5, x0, x1, x2, x3, x4]

set_option maxRecDepth 100000 in
set_option maxHeartbeats 4000000 in
theorem number_any (s : ByteArray) (hs : s.size ≤ 65536) (h6 : nextK s.data.toList = 6) (w : World) : Calls Tryz.prog 116 #[.string s] w (OnePost w (numT0 s.data.toList)) := by
  have hz := Lib.size_eq s
  obtain ⟨L, hL⟩ : ∃ L, L = s.data.toList := ⟨_, rfl⟩
  have HL := Lib.hid hL
  have hp : 0 < s.size := by
    rcases Nat.eq_zero_or_pos s.size with h | h
    · rw [List.length_eq_zero_iff.1 (by omega : s.data.toList.length = 0)] at h6; cases h6
    · exact h
  have gp : (0 : Int) < (s.size : Int) := by omega
  have HNI : Hid (L.takeWhile isDig ≠ infL) := Lib.hid (digs_not_inf _)
  rw [← hL]
  have HZ := Lib.hid hz
  clear hL hz h6
  go_enter Tryz.func116, Tryz.ntmps116
  go_wp2
  obtain ⟨n0, hn0⟩ : ∃ n0, n0 = w.heap.size := ⟨_, rfl⟩
  have HN0 := Lib.hid hn0
  have KB := Lib.hid (Blk.new w 107 [.int .i64 0, .string ⟨#[]⟩, .int .i64 0, .int .i64 0, .int .i64 0])
  rw [← hn0] at KB ⊢
  have hbel : ∀ u0 u1 u2 u3 u4, Below w.heap.size w ((((((w.alloc (.cells #[.int .i64 0, .string ⟨#[]⟩, .int .i64 0, .int .i64 0, .int .i64 0] 107)).setCell ⟨n0, 0, none⟩ u0).setCell ⟨n0, 1, none⟩ u1).setCell ⟨n0, 2, none⟩ u2).setCell ⟨n0, 3, none⟩ u3).setCell ⟨n0, 4, none⟩ u4) := fun _ _ _ _ _ => tok_below hn0 _ _ _ _ _ _
  have HBEL := Lib.hid hbel
  clear hn0 hbel
  dsimp only [List.toArray] at KB
  generalize w.alloc (.cells #[.int .i64 0, .string ⟨#[]⟩, .int .i64 0, .int .i64 0, .int .i64 0] 107) = W0 at KB HBEL ⊢
  have x0 : W0.cell? ⟨n0, 0, none⟩ = some (.int .i64 0) := KB.out.cell 0
  have x1 : W0.cell? ⟨n0, 1, none⟩ = some (.string ⟨#[]⟩) := KB.out.cell 1
  have x2 : W0.cell? ⟨n0, 2, none⟩ = some (.int .i64 0) := KB.out.cell 2
  have x3 : W0.cell? ⟨n0, 3, none⟩ = some (.int .i64 0) := KB.out.cell 3
  have x4 : W0.cell? ⟨n0, 4, none⟩ = some (.int .i64 0) := KB.out.cell 4
  have xf := KB.out.frozen
  go_loopw [6] (fun v wr => ∃ i : Nat, v = .int .i64 i ∧ i ≤ s.size ∧ Hid ((s.data.toList.take i).all isDig = true) ∧ wr = W0) (fun v _ => s.size - (intOf v).toNat)
  case atStart => exact ⟨0, rfl, by omega, Lib.hid (by simp), rfl⟩
  case round =>
    obtain ⟨i, rfl, hi, HT, rfl⟩ := hrel
    by_cases hlt : i < s.size
    · have hi1 : (i : Int) < (s.size : Int) := by omega
      have hb := byte_at s i hlt
      have CD := Lib.hid (fun w' => digitR_any s[i] w')
      rw [← isDig_kind] at CD
      cases hm : isDig s[i] with
      | true =>
        rw [hm] at CD
        have HT2 := Lib.hid (all_take hb HT.out hm)
        clear hm hb
        go_wp2_with (first
          | (go_at_call 88; (with_reducible refine (CD.out _).mono ?_); rintro e w1 ⟨rfl, rfl⟩)
          | fail)
        go_roundw
        case rel => exact ⟨i + 1, by go_num, by omega, HT2, trivial⟩
        case measure => simp [intOf]; omega
      | false =>
        rw [hm] at CD
        have CM := Lib.hid (fun w' => more_any s[i] w')
        have hmm := dig_more hm
        rw [hmm] at CM
        have HTW : Hid (L.takeWhile isDig = L.take i ∧ L.dropWhile isDig = L.drop i) := Lib.hid (by rw [HL.out]; exact tw_take _ _ HT.out (.inr ⟨_, hb, hm⟩))
        have HNX : Hid (nextK (L.drop i) = kindOf s[i]) := Lib.hid (by rw [HL.out]; exact next_at hlt)
        clear hm hb hmm
        cases hmb : decide (kindOf s[i] = 5 ∨ kindOf s[i] = 7) with
        | true =>
          rw [hmb] at CM
          have HNONE : Hid (numT0 L = none) := Lib.hid (num_no (.inr (.inr (by rw [HTW.out.2, HNX.out]; exact of_decide_eq_true hmb))))
          clear hmb
          by_cases h1 : 1 < i
          · have g1 : (1 : Int) < (i : Int) := by omega
            cases h48 : ((s[0].toNat : Int) == 48) with
            | true =>
              go_wp2_with (first
                | (go_at_call 88; (with_reducible refine (CD.out _).mono ?_); rintro e w1 ⟨rfl, rfl⟩)
                | (go_at_call 115; (with_reducible refine (CM.out _).mono ?_); rintro e w1 ⟨rfl, rfl⟩)
                | (go_at_call 131; (with_reducible refine (CP.out _).mono ?_); rintro e w1 ⟨rfl, rfl⟩)
                | fail)
              refine bodyPost_ret (number_res rfl rfl rfl rfl (set5 KB.out _ _ _ _ _)) rfl ?_
              exact OnePost.no HNONE.out 7 0 rfl rfl (HBEL.out _ _ _ _ _)
            | false =>
              have CP0 := fun w' => rparse_any (s.extract 0 i) (by rw [ByteArray.size_extract]; simp only [maxLen]; omega) w'
              rw [ext_list, ← HL.out, ← HTW.out.1] at CP0
              rcases parse_cases _ HNI.out with ⟨q1, q2, q3⟩ | ⟨q1, q2, q3, q4⟩ | ⟨q1, q2, q3, q4⟩
              · unfold RPar at CP0
                rw [q2, q3] at CP0
                have CP := Lib.hid CP0
                clear CP0
                clear q1 q2 q3
                go_wp2_with (first
                  | (go_at_call 88; (with_reducible refine (CD.out _).mono ?_); rintro e w1 ⟨rfl, rfl⟩)
                  | (go_at_call 115; (with_reducible refine (CM.out _).mono ?_); rintro e w1 ⟨rfl, rfl⟩)
                  | (go_at_call 131; (with_reducible refine (CP.out _).mono ?_); rintro e w1 ⟨rfl, rfl⟩)
                  | fail)
                refine bodyPost_ret (number_res rfl rfl rfl rfl (set5 KB.out _ _ _ _ _)) rfl ?_
                exact OnePost.no HNONE.out 3 0 rfl rfl (HBEL.out _ _ _ _ _)
              · unfold RPar at CP0
                rw [q3, q4] at CP0
                have CP := Lib.hid CP0
                clear CP0
                clear q1 q2 q3 q4
                go_wp2_with (first
                  | (go_at_call 88; (with_reducible refine (CD.out _).mono ?_); rintro e w1 ⟨rfl, rfl⟩)
                  | (go_at_call 115; (with_reducible refine (CM.out _).mono ?_); rintro e w1 ⟨rfl, rfl⟩)
                  | (go_at_call 131; (with_reducible refine (CP.out _).mono ?_); rintro e w1 ⟨rfl, rfl⟩)
                  | fail)
                refine bodyPost_ret (number_res rfl rfl rfl rfl (set5 KB.out _ _ _ _ _)) rfl ?_
                exact OnePost.no HNONE.out 3 0 rfl rfl (HBEL.out _ _ _ _ _)
              · unfold RPar at CP0
                rw [q3, q4] at CP0
                have CP := Lib.hid CP0
                clear CP0
                clear q1 q2 q3
                clear q4
                go_wp2_with (first
                  | (go_at_call 88; (with_reducible refine (CD.out _).mono ?_); rintro e w1 ⟨rfl, rfl⟩)
                  | (go_at_call 115; (with_reducible refine (CM.out _).mono ?_); rintro e w1 ⟨rfl, rfl⟩)
                  | (go_at_call 131; (with_reducible refine (CP.out _).mono ?_); rintro e w1 ⟨rfl, rfl⟩)
                  | fail)
                refine bodyPost_ret (number_res rfl rfl rfl rfl (set5 KB.out _ _ _ _ _)) rfl ?_
                exact OnePost.no HNONE.out 7 i rfl rfl (HBEL.out _ _ _ _ _)
          · have g1 : ¬ (1 : Int) < (i : Int) := by omega
            have CP0 := fun w' => rparse_any (s.extract 0 i) (by rw [ByteArray.size_extract]; simp only [maxLen]; omega) w'
            rw [ext_list, ← HL.out, ← HTW.out.1] at CP0
            rcases parse_cases _ HNI.out with ⟨q1, q2, q3⟩ | ⟨q1, q2, q3, q4⟩ | ⟨q1, q2, q3, q4⟩
            · unfold RPar at CP0
              rw [q2, q3] at CP0
              have CP := Lib.hid CP0
              clear CP0
              clear q1 q2 q3
              go_wp2_with (first
                | (go_at_call 88; (with_reducible refine (CD.out _).mono ?_); rintro e w1 ⟨rfl, rfl⟩)
                | (go_at_call 115; (with_reducible refine (CM.out _).mono ?_); rintro e w1 ⟨rfl, rfl⟩)
                | (go_at_call 131; (with_reducible refine (CP.out _).mono ?_); rintro e w1 ⟨rfl, rfl⟩)
                | fail)
              refine bodyPost_ret (number_res rfl rfl rfl rfl (set5 KB.out _ _ _ _ _)) rfl ?_
              exact OnePost.no HNONE.out 3 0 rfl rfl (HBEL.out _ _ _ _ _)
            · unfold RPar at CP0
              rw [q3, q4] at CP0
              have CP := Lib.hid CP0
              clear CP0
              clear q1 q2 q3 q4
              go_wp2_with (first
                | (go_at_call 88; (with_reducible refine (CD.out _).mono ?_); rintro e w1 ⟨rfl, rfl⟩)
                | (go_at_call 115; (with_reducible refine (CM.out _).mono ?_); rintro e w1 ⟨rfl, rfl⟩)
                | (go_at_call 131; (with_reducible refine (CP.out _).mono ?_); rintro e w1 ⟨rfl, rfl⟩)
                | fail)
              refine bodyPost_ret (number_res rfl rfl rfl rfl (set5 KB.out _ _ _ _ _)) rfl ?_
              exact OnePost.no HNONE.out 3 0 rfl rfl (HBEL.out _ _ _ _ _)
            · unfold RPar at CP0
              rw [q3, q4] at CP0
              have CP := Lib.hid CP0
              clear CP0
              clear q1 q2 q3
              clear q4
              go_wp2_with (first
                | (go_at_call 88; (with_reducible refine (CD.out _).mono ?_); rintro e w1 ⟨rfl, rfl⟩)
                | (go_at_call 115; (with_reducible refine (CM.out _).mono ?_); rintro e w1 ⟨rfl, rfl⟩)
                | (go_at_call 131; (with_reducible refine (CP.out _).mono ?_); rintro e w1 ⟨rfl, rfl⟩)
                | fail)
              refine bodyPost_ret (number_res rfl rfl rfl rfl (set5 KB.out _ _ _ _ _)) rfl ?_
              exact OnePost.no HNONE.out 7 i rfl rfl (HBEL.out _ _ _ _ _)
        | false =>
          rw [hmb] at CM
          have HNO : Hid (¬ (nextK (L.dropWhile isDig) = 5 ∨ nextK (L.dropWhile isDig) = 7)) := Lib.hid (by rw [HTW.out.2, HNX.out]; exact of_decide_eq_false hmb)
          clear hmb
          have CP0 := fun w' => rparse_any (s.extract 0 i) (by rw [ByteArray.size_extract]; simp only [maxLen]; omega) w'
          rw [ext_list, ← HL.out, ← HTW.out.1] at CP0
          rcases parse_cases _ HNI.out with ⟨q1, q2, q3⟩ | ⟨q1, q2, q3, q4⟩ | ⟨q1, q2, q3, q4⟩
          · unfold RPar at CP0
            rw [q2, q3] at CP0
            have CP := Lib.hid CP0
            clear CP0
            have HNONE : Hid (numT0 L = none) := Lib.hid (num_no (.inl q1))
            clear q1 q2 q3
            go_wp2_with (first
              | (go_at_call 88; (with_reducible refine (CD.out _).mono ?_); rintro e w1 ⟨rfl, rfl⟩)
              | (go_at_call 115; (with_reducible refine (CM.out _).mono ?_); rintro e w1 ⟨rfl, rfl⟩)
              | (go_at_call 131; (with_reducible refine (CP.out _).mono ?_); rintro e w1 ⟨rfl, rfl⟩)
              | fail)
            refine bodyPost_ret (number_res rfl rfl rfl rfl (set5 KB.out _ _ _ _ _)) rfl ?_
            exact OnePost.no HNONE.out 7 0 rfl rfl (HBEL.out _ _ _ _ _)
          · unfold RPar at CP0
            rw [q3, q4] at CP0
            have CP := Lib.hid CP0
            clear CP0
            have HNONE : Hid (numT0 L = none) := Lib.hid (num_no (.inr (.inl q2)))
            clear q1 q2 q3 q4
            go_wp2_with (first
              | (go_at_call 88; (with_reducible refine (CD.out _).mono ?_); rintro e w1 ⟨rfl, rfl⟩)
              | (go_at_call 115; (with_reducible refine (CM.out _).mono ?_); rintro e w1 ⟨rfl, rfl⟩)
              | (go_at_call 131; (with_reducible refine (CP.out _).mono ?_); rintro e w1 ⟨rfl, rfl⟩)
              | fail)
            refine bodyPost_ret (number_res rfl rfl rfl rfl (set5 KB.out _ _ _ _ _)) rfl ?_
            exact OnePost.no HNONE.out 3 0 rfl rfl (HBEL.out _ _ _ _ _)
          · unfold RPar at CP0
            rw [q3, q4] at CP0
            have CP := Lib.hid CP0
            clear CP0
            have HYES := Lib.hid (num_yes q1 q2 HNO.out)
            have HVAL : Hid (Ending.returned (.tuple #[.agg #[.int .i64 3, .string (s.extract 0 i), .int .i64 (dval (L.takeWhile isDig)), .int .i64 0, .int .i64 0], .int .i64 (i : Int), .int .i64 0, .int .i64 0]) = .returned (.tuple #[ta ⟨3, L.takeWhile isDig, dval (L.takeWhile isDig), 0, 0⟩, .int .i64 (L.takeWhile isDig).length, .int .i64 0, .int .i64 0])) := Lib.hid (by
              rw [HTW.out.1, ext_eq, ← HL.out, List.length_take, Nat.min_eq_left (by rw [HL.out, ← HZ.out]; exact hi)])
            generalize dval (L.takeWhile isDig) = dv at *
            clear q1 q2 q3 q4
            go_wp2_with (first
              | (go_at_call 88; (with_reducible refine (CD.out _).mono ?_); rintro e w1 ⟨rfl, rfl⟩)
              | (go_at_call 115; (with_reducible refine (CM.out _).mono ?_); rintro e w1 ⟨rfl, rfl⟩)
              | (go_at_call 131; (with_reducible refine (CP.out _).mono ?_); rintro e w1 ⟨rfl, rfl⟩)
              | fail)
            refine bodyPost_ret (number_res rfl rfl rfl rfl (set5 KB.out _ _ _ _ _)) rfl ?_
            exact OnePost.yes HYES.out HVAL.out (HBEL.out _ _ _ _ _)
    · have hi1 : ¬ (i : Int) < (s.size : Int) := by omega
      have hsz : i = s.size := by omega
      have HTW : Hid (L.takeWhile isDig = L.take i ∧ L.dropWhile isDig = L.drop i) := Lib.hid (by rw [HL.out]; exact tw_take _ _ HT.out (.inl (by rw [← HZ.out]; exact hsz)))
      have HNO : Hid (¬ (nextK (L.dropWhile isDig) = 5 ∨ nextK (L.dropWhile isDig) = 7)) := Lib.hid (by rw [HTW.out.2, next_over (by rw [HL.out, ← HZ.out]; omega)]; decide)
      clear hsz
      have CP0 := fun w' => rparse_any (s.extract 0 i) (by rw [ByteArray.size_extract]; simp only [maxLen]; omega) w'
      rw [ext_list, ← HL.out, ← HTW.out.1] at CP0
      rcases parse_cases _ HNI.out with ⟨q1, q2, q3⟩ | ⟨q1, q2, q3, q4⟩ | ⟨q1, q2, q3, q4⟩
      · unfold RPar at CP0
        rw [q2, q3] at CP0
        have CP := Lib.hid CP0
        clear CP0
        have HNONE : Hid (numT0 L = none) := Lib.hid (num_no (.inl q1))
        clear q1 q2 q3
        go_wp2_with (first
          | (go_at_call 88; (with_reducible refine (CD.out _).mono ?_); rintro e w1 ⟨rfl, rfl⟩)
          | (go_at_call 115; (with_reducible refine (CM.out _).mono ?_); rintro e w1 ⟨rfl, rfl⟩)
          | (go_at_call 131; (with_reducible refine (CP.out _).mono ?_); rintro e w1 ⟨rfl, rfl⟩)
          | fail)
        refine bodyPost_ret (number_res rfl rfl rfl rfl (set5 KB.out _ _ _ _ _)) rfl ?_
        exact OnePost.no HNONE.out 7 0 rfl rfl (HBEL.out _ _ _ _ _)
      · unfold RPar at CP0
        rw [q3, q4] at CP0
        have CP := Lib.hid CP0
        clear CP0
        have HNONE : Hid (numT0 L = none) := Lib.hid (num_no (.inr (.inl q2)))
        clear q1 q2 q3 q4
        go_wp2_with (first
          | (go_at_call 88; (with_reducible refine (CD.out _).mono ?_); rintro e w1 ⟨rfl, rfl⟩)
          | (go_at_call 115; (with_reducible refine (CM.out _).mono ?_); rintro e w1 ⟨rfl, rfl⟩)
          | (go_at_call 131; (with_reducible refine (CP.out _).mono ?_); rintro e w1 ⟨rfl, rfl⟩)
          | fail)
        refine bodyPost_ret (number_res rfl rfl rfl rfl (set5 KB.out _ _ _ _ _)) rfl ?_
        exact OnePost.no HNONE.out 3 0 rfl rfl (HBEL.out _ _ _ _ _)
      · unfold RPar at CP0
        rw [q3, q4] at CP0
        have CP := Lib.hid CP0
        clear CP0
        have HYES := Lib.hid (num_yes q1 q2 HNO.out)
        have HVAL : Hid (Ending.returned (.tuple #[.agg #[.int .i64 3, .string (s.extract 0 i), .int .i64 (dval (L.takeWhile isDig)), .int .i64 0, .int .i64 0], .int .i64 (i : Int), .int .i64 0, .int .i64 0]) = .returned (.tuple #[ta ⟨3, L.takeWhile isDig, dval (L.takeWhile isDig), 0, 0⟩, .int .i64 (L.takeWhile isDig).length, .int .i64 0, .int .i64 0])) := Lib.hid (by
          rw [HTW.out.1, ext_eq, ← HL.out, List.length_take, Nat.min_eq_left (by rw [HL.out, ← HZ.out]; exact hi)])
        generalize dval (L.takeWhile isDig) = dv at *
        clear q1 q2 q3 q4
        go_wp2_with (first
          | (go_at_call 88; (with_reducible refine (CD.out _).mono ?_); rintro e w1 ⟨rfl, rfl⟩)
          | (go_at_call 115; (with_reducible refine (CM.out _).mono ?_); rintro e w1 ⟨rfl, rfl⟩)
          | (go_at_call 131; (with_reducible refine (CP.out _).mono ?_); rintro e w1 ⟨rfl, rfl⟩)
          | fail)
        refine bodyPost_ret (number_res rfl rfl rfl rfl (set5 KB.out _ _ _ _ _)) rfl ?_
        exact OnePost.yes HYES.out HVAL.out (HBEL.out _ _ _ _ _)

theorem tok_set_below {w W1 : World} {n0 : Nat} (hn : n0 = w.heap.size) (hb : Below w.heap.size w W1) (u0 u1 u2 u3 u4 : Value) : Below w.heap.size w (((((W1.setCell ⟨n0, 0, none⟩ u0).setCell ⟨n0, 1, none⟩ u1).setCell ⟨n0, 2, none⟩ u2).setCell ⟨n0, 3, none⟩ u3).setCell ⟨n0, 4, none⟩ u4) := by
  subst hn
  exact hb.trans ((ch_tok W1 w.heap.size u0 u1 u2 u3 u4).below hb.size (by omega))
set_option maxRecDepth 100000 in
set_option maxHeartbeats 4000000 in
theorem one_num (s : ByteArray) (hs : s.size ≤ 65536) (h6 : nextK s.data.toList = 6) (w : World) : Calls Tryz.prog 89 #[.string s] w (OnePost w (numT0 s.data.toList)) := by
  have hz := Lib.size_eq s
  have hp : 0 < s.size := by
    rcases Nat.eq_zero_or_pos s.size with h | h
    · rw [List.length_eq_zero_iff.1 (by omega : s.data.toList.length = 0)] at h6; cases h6
    · exact h
  have gp : (0 : Int) < (s.size : Int) := by omega
  have CN := Lib.hid (fun w' => number_any s hs h6 w')
  have CD := Lib.hid (fun w' => digitR_any s[0] w')
  have hk : kindOf s[0] = 6 := by rw [← next_at hp]; simpa using h6
  rw [hk] at CD
  generalize numT0 s.data.toList = R at *
  clear hz h6 hk
  go_enter Tryz.func89, Tryz.ntmps89
  go_upto_region 1 with (fail)
  obtain ⟨n0, hn0⟩ : ∃ n0, n0 = w.heap.size := ⟨_, rfl⟩
  have HN0 := Lib.hid hn0
  have KB := Lib.hid (Blk.new w 107 [.int .i64 0, .string ⟨#[]⟩, .int .i64 0, .int .i64 0, .int .i64 0])
  have HB0 := Lib.hid (one_box w (.cells #[.int .i64 0, .string ⟨#[]⟩, .int .i64 0, .int .i64 0, .int .i64 0] 107))
  rw [← hn0] at KB ⊢
  clear hn0
  dsimp only [List.toArray] at KB
  generalize w.alloc (.cells #[.int .i64 0, .string ⟨#[]⟩, .int .i64 0, .int .i64 0, .int .i64 0] 107) = W0 at KB HB0 ⊢
  cases R with
  | none =>
    have CN2 : Hid (∀ w', Calls Tryz.prog 116 #[.string s] w' fun e w2 => (∃ er b, (er == 0) = false ∧ e = .returned (.tuple #[.agg #[.int .i64 0, .string ⟨#[]⟩, .int .i64 0, .int .i64 0, .int .i64 0], .int .i64 0, .int .i64 er, .int .i64 b])) ∧ Below w'.heap.size w' w2) := Lib.hid (fun w' => CN.out w')
    clear CN
    go_upto_region 2 with (first
      | (go_at_call 88; (with_reducible refine (CD.out _).mono ?_); rintro e w1 ⟨rfl, rfl⟩)
      | fail)
    go_wp2_with (first
      | (go_at_call 116; (with_reducible refine (CN2.out _).mono ?_); rintro e W1 ⟨⟨er, b, h0, rfl⟩, h2⟩; have HE0 := Lib.hid h0; clear h0; have HB2 := Lib.hid h2; clear h2; have KB1 := Lib.hid (KB.out.after HB2.out); have HB1 := Lib.hid (HB0.out.trans (HB2.out.mono HB0.out.size)); have x0 : W1.cell? ⟨n0, 0, none⟩ = some (.int .i64 0) := KB1.out.cell 0; have x1 : W1.cell? ⟨n0, 1, none⟩ = some (.string ⟨#[]⟩) := KB1.out.cell 1; have x2 : W1.cell? ⟨n0, 2, none⟩ = some (.int .i64 0) := KB1.out.cell 2; have x3 : W1.cell? ⟨n0, 3, none⟩ = some (.int .i64 0) := KB1.out.cell 3; have x4 : W1.cell? ⟨n0, 4, none⟩ = some (.int .i64 0) := KB1.out.cell 4; have xf := KB1.out.frozen)
      | fail)
    refine bodyPost_ret (one_res rfl rfl rfl rfl (set5 KB1.out _ _ _ _ _)) rfl ?_
    exact OnePost.no rfl er b HE0.out rfl (tok_set_below HN0.out HB1.out _ _ _ _ _)
  | some t =>
    obtain ⟨tk, tt, tn, tl, tc_⟩ := t
    have CN2 : Hid (∀ w', Calls Tryz.prog 116 #[.string s] w' fun e w2 => e = .returned (.tuple #[.agg #[.int .i64 tk, .string ⟨tt.toArray⟩, .int .i64 tn, .int .i64 tl, .int .i64 tc_], .int .i64 tt.length, .int .i64 0, .int .i64 0]) ∧ Below w'.heap.size w' w2) := Lib.hid (fun w' => CN.out w')
    clear CN
    go_upto_region 2 with (first
      | (go_at_call 88; (with_reducible refine (CD.out _).mono ?_); rintro e w1 ⟨rfl, rfl⟩)
      | fail)
    go_wp2_with (first
      | (go_at_call 116; (with_reducible refine (CN2.out _).mono ?_); rintro e W1 ⟨rfl, h2⟩; have HB2 := Lib.hid h2; clear h2; have KB1 := Lib.hid (KB.out.after HB2.out); have HB1 := Lib.hid (HB0.out.trans (HB2.out.mono HB0.out.size)); have x0 : W1.cell? ⟨n0, 0, none⟩ = some (.int .i64 0) := KB1.out.cell 0; have x1 : W1.cell? ⟨n0, 1, none⟩ = some (.string ⟨#[]⟩) := KB1.out.cell 1; have x2 : W1.cell? ⟨n0, 2, none⟩ = some (.int .i64 0) := KB1.out.cell 2; have x3 : W1.cell? ⟨n0, 3, none⟩ = some (.int .i64 0) := KB1.out.cell 3; have x4 : W1.cell? ⟨n0, 4, none⟩ = some (.int .i64 0) := KB1.out.cell 4; have xf := KB1.out.frozen)
      | fail)
    refine bodyPost_ret (one_res rfl rfl rfl rfl (set5 KB1.out _ _ _ _ _)) rfl ?_
    exact OnePost.yes rfl rfl (tok_set_below HN0.out HB1.out _ _ _ _ _)
set_option maxRecDepth 100000 in
set_option maxHeartbeats 4000000 in
theorem one_word (s : ByteArray) (hs : s.size ≤ 65536) (h5 : nextK s.data.toList = 5) (w : World) : Calls Tryz.prog 89 #[.string s] w (OnePost w (wordT0 s.data.toList)) := by
  have hz := Lib.size_eq s
  obtain ⟨L, hL⟩ : ∃ L, L = s.data.toList := ⟨_, rfl⟩
  have HL := Lib.hid hL
  have hp : 0 < s.size := by
    rcases Nat.eq_zero_or_pos s.size with h | h
    · rw [List.length_eq_zero_iff.1 (by omega : s.data.toList.length = 0)] at h5; cases h5
    · exact h
  have gp : (0 : Int) < (s.size : Int) := by omega
  have CD := Lib.hid (fun w' => digitR_any s[0] w')
  have hk : kindOf s[0] = 5 := by rw [← next_at hp]; simpa using h5
  rw [hk] at CD
  rw [← hL]
  have HZ := Lib.hid hz
  clear hL hz h5 hk
  go_enter Tryz.func89, Tryz.ntmps89
  go_upto_region 1 with (fail)
  obtain ⟨n0, hn0⟩ : ∃ n0, n0 = w.heap.size := ⟨_, rfl⟩
  have HN0 := Lib.hid hn0
  have KB := Lib.hid (Blk.new w 107 [.int .i64 0, .string ⟨#[]⟩, .int .i64 0, .int .i64 0, .int .i64 0])
  have HB0 := Lib.hid (one_box w (.cells #[.int .i64 0, .string ⟨#[]⟩, .int .i64 0, .int .i64 0, .int .i64 0] 107))
  rw [← hn0] at KB ⊢
  clear hn0
  dsimp only [List.toArray] at KB
  generalize w.alloc (.cells #[.int .i64 0, .string ⟨#[]⟩, .int .i64 0, .int .i64 0, .int .i64 0] 107) = W0 at KB HB0 ⊢
  go_wp2_with (first
    | (go_at_call 88; (with_reducible refine (CD.out _).mono ?_); rintro e w1 ⟨rfl, rfl⟩)
    | fail)
  go_loopw [6] (fun v wr => ∃ i : Nat, v = .int .i64 i ∧ i ≤ s.size ∧ Hid ((s.data.toList.take i).all isMore = true) ∧ wr = W0) (fun v _ => s.size - (intOf v).toNat)
  case atStart => exact ⟨0, rfl, by omega, Lib.hid (by simp), rfl⟩
  case round =>
    obtain ⟨i, rfl, hi, HT, rfl⟩ := hrel
    by_cases hlt : i < s.size
    · have hi1 : (i : Int) < (s.size : Int) := by omega
      have hb := byte_at s i hlt
      have CM := Lib.hid (fun w' => more_any s[i] w')
      cases hm : isMore s[i] with
      | true =>
        rw [hm] at CM
        have HT2 := Lib.hid (all_take hb HT.out hm)
        clear hm hb
        go_wp2_with (first
          | (go_at_call 115; (with_reducible refine (CM.out _).mono ?_); rintro e w1 ⟨rfl, rfl⟩)
          | fail)
        go_roundw
        case rel => exact ⟨i + 1, by go_num, by omega, HT2, trivial⟩
        case measure => simp [intOf]; omega
      | false =>
        rw [hm] at CM
        have HTW : Hid (L.takeWhile isMore = L.take i ∧ L.dropWhile isMore = L.drop i) := Lib.hid (by rw [HL.out]; exact tw_take _ _ HT.out (.inr ⟨_, hb, hm⟩))
        clear hm hb
        have hlen : (L.takeWhile isMore).length = i := by rw [HTW.out.1, List.length_take, HL.out, ← HZ.out]; omega
        by_cases h24 : 24 < i
        · have g24 : (24 : Int) < (i : Int) := by omega
          have HNONE : Hid (wordT0 L = none) := Lib.hid (by unfold wordT0; rw [hlen, if_pos h24])
          clear hlen
          have x0 : wr.cell? ⟨n0, 0, none⟩ = some (.int .i64 0) := KB.out.cell 0
          have x1 : wr.cell? ⟨n0, 1, none⟩ = some (.string ⟨#[]⟩) := KB.out.cell 1
          have x2 : wr.cell? ⟨n0, 2, none⟩ = some (.int .i64 0) := KB.out.cell 2
          have x3 : wr.cell? ⟨n0, 3, none⟩ = some (.int .i64 0) := KB.out.cell 3
          have x4 : wr.cell? ⟨n0, 4, none⟩ = some (.int .i64 0) := KB.out.cell 4
          have xf := KB.out.frozen
          go_wp2_with (first
            | (go_at_call 115; (with_reducible refine (CM.out _).mono ?_); rintro e w1 ⟨rfl, rfl⟩)
            | (go_at_call 86; (with_reducible refine (CR.out _).mono ?_); rintro e W1 ⟨rfl, h2⟩; have HB2 := Lib.hid h2; clear h2; have KB1 := Lib.hid (KB.out.after HB2.out); have HB1 := Lib.hid (HB0.out.trans (HB2.out.mono HB0.out.size)); have x0 : W1.cell? ⟨n0, 0, none⟩ = some (.int .i64 0) := KB1.out.cell 0; have x1 : W1.cell? ⟨n0, 1, none⟩ = some (.string ⟨#[]⟩) := KB1.out.cell 1; have x2 : W1.cell? ⟨n0, 2, none⟩ = some (.int .i64 0) := KB1.out.cell 2; have x3 : W1.cell? ⟨n0, 3, none⟩ = some (.int .i64 0) := KB1.out.cell 3; have x4 : W1.cell? ⟨n0, 4, none⟩ = some (.int .i64 0) := KB1.out.cell 4; have xf := KB1.out.frozen)
            | fail)
          refine bodyPost_ret (one_res rfl rfl rfl rfl (set5 KB.out _ _ _ _ _)) rfl ?_
          exact OnePost.no HNONE.out 3 0 rfl rfl (tok_set_below HN0.out HB0.out _ _ _ _ _)
        · have g24 : ¬ (24 : Int) < (i : Int) := by omega
          have CR0 := fun w' => reservedR_any (s.extract 0 i) w'
          rw [ext_list, ← HL.out, ← HTW.out.1] at CR0
          have HYES : Hid (wordT0 L = some ⟨if isRes (L.takeWhile isMore) then 2 else 1, L.takeWhile isMore, 0, 0, 0⟩) := Lib.hid (by unfold wordT0; rw [hlen, if_neg h24])
          have htx : s.extract 0 i = ⟨(L.takeWhile isMore).toArray⟩ := by rw [HTW.out.1, ext_eq, ← HL.out]
          rw [htx] at CR0
          have HI : Hid ((i : Int) = (L.takeWhile isMore).length) := Lib.hid (by rw [hlen])
          clear hlen
          cases hr : isRes (L.takeWhile isMore) with
          | true =>
            rw [hr] at CR0 HYES
            have CR := Lib.hid CR0
            have HVAL : Hid (Ending.returned (.tuple #[.agg #[.int .i64 2, .string ⟨(L.takeWhile isMore).toArray⟩, .int .i64 0, .int .i64 0, .int .i64 0], .int .i64 (i : Int), .int .i64 0, .int .i64 0]) = .returned (.tuple #[ta ⟨2, L.takeWhile isMore, 0, 0, 0⟩, .int .i64 (L.takeWhile isMore).length, .int .i64 0, .int .i64 0])) := Lib.hid (by rw [HI.out])
            clear CR0 hr HI
            go_wp2_with (first
            | (go_at_call 115; (with_reducible refine (CM.out _).mono ?_); rintro e w1 ⟨rfl, rfl⟩)
            | (go_at_call 86; (with_reducible refine (CR.out _).mono ?_); rintro e W1 ⟨rfl, h2⟩; have HB2 := Lib.hid h2; clear h2; have KB1 := Lib.hid (KB.out.after HB2.out); have HB1 := Lib.hid (HB0.out.trans (HB2.out.mono HB0.out.size)); have x0 : W1.cell? ⟨n0, 0, none⟩ = some (.int .i64 0) := KB1.out.cell 0; have x1 : W1.cell? ⟨n0, 1, none⟩ = some (.string ⟨#[]⟩) := KB1.out.cell 1; have x2 : W1.cell? ⟨n0, 2, none⟩ = some (.int .i64 0) := KB1.out.cell 2; have x3 : W1.cell? ⟨n0, 3, none⟩ = some (.int .i64 0) := KB1.out.cell 3; have x4 : W1.cell? ⟨n0, 4, none⟩ = some (.int .i64 0) := KB1.out.cell 4; have xf := KB1.out.frozen)
            | fail)
            refine bodyPost_ret (one_res rfl rfl rfl rfl (set5 KB1.out _ _ _ _ _)) rfl ?_
            exact OnePost.yes HYES.out HVAL.out (tok_set_below HN0.out HB1.out _ _ _ _ _)
          | false =>
            rw [hr] at CR0 HYES
            have CR := Lib.hid CR0
            have HVAL : Hid (Ending.returned (.tuple #[.agg #[.int .i64 1, .string ⟨(L.takeWhile isMore).toArray⟩, .int .i64 0, .int .i64 0, .int .i64 0], .int .i64 (i : Int), .int .i64 0, .int .i64 0]) = .returned (.tuple #[ta ⟨1, L.takeWhile isMore, 0, 0, 0⟩, .int .i64 (L.takeWhile isMore).length, .int .i64 0, .int .i64 0])) := Lib.hid (by rw [HI.out])
            clear CR0 hr HI
            go_wp2_with (first
            | (go_at_call 115; (with_reducible refine (CM.out _).mono ?_); rintro e w1 ⟨rfl, rfl⟩)
            | (go_at_call 86; (with_reducible refine (CR.out _).mono ?_); rintro e W1 ⟨rfl, h2⟩; have HB2 := Lib.hid h2; clear h2; have KB1 := Lib.hid (KB.out.after HB2.out); have HB1 := Lib.hid (HB0.out.trans (HB2.out.mono HB0.out.size)); have x0 : W1.cell? ⟨n0, 0, none⟩ = some (.int .i64 0) := KB1.out.cell 0; have x1 : W1.cell? ⟨n0, 1, none⟩ = some (.string ⟨#[]⟩) := KB1.out.cell 1; have x2 : W1.cell? ⟨n0, 2, none⟩ = some (.int .i64 0) := KB1.out.cell 2; have x3 : W1.cell? ⟨n0, 3, none⟩ = some (.int .i64 0) := KB1.out.cell 3; have x4 : W1.cell? ⟨n0, 4, none⟩ = some (.int .i64 0) := KB1.out.cell 4; have xf := KB1.out.frozen)
            | fail)
            refine bodyPost_ret (one_res rfl rfl rfl rfl (set5 KB1.out _ _ _ _ _)) rfl ?_
            exact OnePost.yes HYES.out HVAL.out (tok_set_below HN0.out HB1.out _ _ _ _ _)
    · have hi1 : ¬ (i : Int) < (s.size : Int) := by omega
      have hsz : i = s.size := by omega
      have HTW : Hid (L.takeWhile isMore = L.take i ∧ L.dropWhile isMore = L.drop i) := Lib.hid (by rw [HL.out]; exact tw_take _ _ HT.out (.inl (by rw [← HZ.out]; exact hsz)))
      clear hsz
      have hlen : (L.takeWhile isMore).length = i := by rw [HTW.out.1, List.length_take, HL.out, ← HZ.out]; omega
      by_cases h24 : 24 < i
      · have g24 : (24 : Int) < (i : Int) := by omega
        have HNONE : Hid (wordT0 L = none) := Lib.hid (by unfold wordT0; rw [hlen, if_pos h24])
        clear hlen
        have x0 : wr.cell? ⟨n0, 0, none⟩ = some (.int .i64 0) := KB.out.cell 0
        have x1 : wr.cell? ⟨n0, 1, none⟩ = some (.string ⟨#[]⟩) := KB.out.cell 1
        have x2 : wr.cell? ⟨n0, 2, none⟩ = some (.int .i64 0) := KB.out.cell 2
        have x3 : wr.cell? ⟨n0, 3, none⟩ = some (.int .i64 0) := KB.out.cell 3
        have x4 : wr.cell? ⟨n0, 4, none⟩ = some (.int .i64 0) := KB.out.cell 4
        have xf := KB.out.frozen
        go_wp2_with (first
          | (go_at_call 115; (with_reducible refine (CM.out _).mono ?_); rintro e w1 ⟨rfl, rfl⟩)
          | (go_at_call 86; (with_reducible refine (CR.out _).mono ?_); rintro e W1 ⟨rfl, h2⟩; have HB2 := Lib.hid h2; clear h2; have KB1 := Lib.hid (KB.out.after HB2.out); have HB1 := Lib.hid (HB0.out.trans (HB2.out.mono HB0.out.size)); have x0 : W1.cell? ⟨n0, 0, none⟩ = some (.int .i64 0) := KB1.out.cell 0; have x1 : W1.cell? ⟨n0, 1, none⟩ = some (.string ⟨#[]⟩) := KB1.out.cell 1; have x2 : W1.cell? ⟨n0, 2, none⟩ = some (.int .i64 0) := KB1.out.cell 2; have x3 : W1.cell? ⟨n0, 3, none⟩ = some (.int .i64 0) := KB1.out.cell 3; have x4 : W1.cell? ⟨n0, 4, none⟩ = some (.int .i64 0) := KB1.out.cell 4; have xf := KB1.out.frozen)
          | fail)
        refine bodyPost_ret (one_res rfl rfl rfl rfl (set5 KB.out _ _ _ _ _)) rfl ?_
        exact OnePost.no HNONE.out 3 0 rfl rfl (tok_set_below HN0.out HB0.out _ _ _ _ _)
      · have g24 : ¬ (24 : Int) < (i : Int) := by omega
        have CR0 := fun w' => reservedR_any (s.extract 0 i) w'
        rw [ext_list, ← HL.out, ← HTW.out.1] at CR0
        have HYES : Hid (wordT0 L = some ⟨if isRes (L.takeWhile isMore) then 2 else 1, L.takeWhile isMore, 0, 0, 0⟩) := Lib.hid (by unfold wordT0; rw [hlen, if_neg h24])
        have htx : s.extract 0 i = ⟨(L.takeWhile isMore).toArray⟩ := by rw [HTW.out.1, ext_eq, ← HL.out]
        rw [htx] at CR0
        have HI : Hid ((i : Int) = (L.takeWhile isMore).length) := Lib.hid (by rw [hlen])
        clear hlen
        cases hr : isRes (L.takeWhile isMore) with
        | true =>
          rw [hr] at CR0 HYES
          have CR := Lib.hid CR0
          have HVAL : Hid (Ending.returned (.tuple #[.agg #[.int .i64 2, .string ⟨(L.takeWhile isMore).toArray⟩, .int .i64 0, .int .i64 0, .int .i64 0], .int .i64 (i : Int), .int .i64 0, .int .i64 0]) = .returned (.tuple #[ta ⟨2, L.takeWhile isMore, 0, 0, 0⟩, .int .i64 (L.takeWhile isMore).length, .int .i64 0, .int .i64 0])) := Lib.hid (by rw [HI.out])
          clear CR0 hr HI
          go_wp2_with (first
          | (go_at_call 115; (with_reducible refine (CM.out _).mono ?_); rintro e w1 ⟨rfl, rfl⟩)
          | (go_at_call 86; (with_reducible refine (CR.out _).mono ?_); rintro e W1 ⟨rfl, h2⟩; have HB2 := Lib.hid h2; clear h2; have KB1 := Lib.hid (KB.out.after HB2.out); have HB1 := Lib.hid (HB0.out.trans (HB2.out.mono HB0.out.size)); have x0 : W1.cell? ⟨n0, 0, none⟩ = some (.int .i64 0) := KB1.out.cell 0; have x1 : W1.cell? ⟨n0, 1, none⟩ = some (.string ⟨#[]⟩) := KB1.out.cell 1; have x2 : W1.cell? ⟨n0, 2, none⟩ = some (.int .i64 0) := KB1.out.cell 2; have x3 : W1.cell? ⟨n0, 3, none⟩ = some (.int .i64 0) := KB1.out.cell 3; have x4 : W1.cell? ⟨n0, 4, none⟩ = some (.int .i64 0) := KB1.out.cell 4; have xf := KB1.out.frozen)
          | fail)
          refine bodyPost_ret (one_res rfl rfl rfl rfl (set5 KB1.out _ _ _ _ _)) rfl ?_
          exact OnePost.yes HYES.out HVAL.out (tok_set_below HN0.out HB1.out _ _ _ _ _)
        | false =>
          rw [hr] at CR0 HYES
          have CR := Lib.hid CR0
          have HVAL : Hid (Ending.returned (.tuple #[.agg #[.int .i64 1, .string ⟨(L.takeWhile isMore).toArray⟩, .int .i64 0, .int .i64 0, .int .i64 0], .int .i64 (i : Int), .int .i64 0, .int .i64 0]) = .returned (.tuple #[ta ⟨1, L.takeWhile isMore, 0, 0, 0⟩, .int .i64 (L.takeWhile isMore).length, .int .i64 0, .int .i64 0])) := Lib.hid (by rw [HI.out])
          clear CR0 hr HI
          go_wp2_with (first
          | (go_at_call 115; (with_reducible refine (CM.out _).mono ?_); rintro e w1 ⟨rfl, rfl⟩)
          | (go_at_call 86; (with_reducible refine (CR.out _).mono ?_); rintro e W1 ⟨rfl, h2⟩; have HB2 := Lib.hid h2; clear h2; have KB1 := Lib.hid (KB.out.after HB2.out); have HB1 := Lib.hid (HB0.out.trans (HB2.out.mono HB0.out.size)); have x0 : W1.cell? ⟨n0, 0, none⟩ = some (.int .i64 0) := KB1.out.cell 0; have x1 : W1.cell? ⟨n0, 1, none⟩ = some (.string ⟨#[]⟩) := KB1.out.cell 1; have x2 : W1.cell? ⟨n0, 2, none⟩ = some (.int .i64 0) := KB1.out.cell 2; have x3 : W1.cell? ⟨n0, 3, none⟩ = some (.int .i64 0) := KB1.out.cell 3; have x4 : W1.cell? ⟨n0, 4, none⟩ = some (.int .i64 0) := KB1.out.cell 4; have xf := KB1.out.frozen)
          | fail)
          refine bodyPost_ret (one_res rfl rfl rfl rfl (set5 KB1.out _ _ _ _ _)) rfl ?_
          exact OnePost.yes HYES.out HVAL.out (tok_set_below HN0.out HB1.out _ _ _ _ _)
end Go.Proofs.YtcmlmfcnbmpajaaGreatDoor.Sw
namespace Go.Proofs.YtcmlmfcnbmpajaaGreatDoor.Sw
open Go.ChangeShapes Go.WideShapes Go.ChangeAt Go.RowKit
open Lx Sh Tk
set_option linter.unusedVariables false
set_option linter.unusedSimpArgs false

/-- what comes of a text: its tokens, or some fault -/
def RAllPost (w : World) (R : Res) (e : Ending) (w' : World) : Prop :=
  (match R with
  | .ok toks => ∃ A c, e = .returned (.tuple #[.slice A toks.length c, .agg #[.int .i64 0, .int .i64 0, .int .i64 0]]) ∧ toks.length ≤ 131072 ∧ Rd w' (fun b => w.heap.size ≤ b ∧ b < w'.heap.size) A (tc toks)
  | .bad _ _ _ => ∃ er l c, (er == 0) = false ∧ e = .returned (.tuple #[.slice none 0 0, .agg #[.int .i64 er, .int .i64 l, .int .i64 c]])) ∧ Below w.heap.size w w'
theorem RAllPost.no {w w' : World} {R : Res} {e : Ending} {e0 l0 c0 : Nat} (hR : R = .bad e0 l0 c0) (er l c : Int) (h0 : (er == 0) = false) (he : e = .returned (.tuple #[.slice none 0 0, .agg #[.int .i64 er, .int .i64 l, .int .i64 c]])) (hb : Below w.heap.size w w') : RAllPost w R e w' := by
  subst hR; exact ⟨⟨er, l, c, h0, he⟩, hb⟩
theorem RAllPost.yes {w w' : World} {R : Res} {e : Ending} {toks : List Tok} (hR : R = .ok toks) {A : Option Addr} {n c : Nat} (hn : n = toks.length) (hN : toks.length ≤ 131072) (he : e = .returned (.tuple #[.slice A n c, .agg #[.int .i64 0, .int .i64 0, .int .i64 0]])) (hr : Rd w' (fun b => w.heap.size ≤ b ∧ b < w'.heap.size) A (tc toks)) (hb : Below w.heap.size w w') : RAllPost w R e w' := by
  subst hR; subst hn; exact ⟨⟨A, c, he, hN, hr⟩, hb⟩
theorem all_res {W : World} {n1 : Nat} {b0 b1 b2 v : Value} {tmps : Array Value} (h2 : tmps[2]? = some v) (h3 : tmps[3]? = some (.pointer (some ⟨n1, 0, none⟩))) (k1 : Blk W n1 61 [b0, b1, b2]) :
    (results Tryz.f57 tmps).run Tryz.prog W = .ok (.tuple #[v, .agg #[b0, b1, b2]]) W := by
  have y0 : W.cell? ⟨n1, 0, none⟩ = some b0 := k1.cell 0
  have y1 : W.cell? ⟨n1, 1, none⟩ = some b1 := k1.cell 1
  have y2 : W.cell? ⟨n1, 2, none⟩ = some b2 := k1.cell 2
  simp [results, Tryz.results57, go_sem, h2, h3, y0, y1, y2]
theorem kind_10 {c : UInt8} : kindOf c = 3 ↔ c.toNat = 10 := by
  unfold kindOf
  split <;> rename_i h1
  · constructor <;> intro h <;> omega
  split <;> rename_i h2
  · simp [h2]
  split <;> rename_i h3
  · constructor <;> intro h <;> omega
  split <;> rename_i h4
  · constructor <;> intro h <;> omega
  split <;> rename_i h5
  · constructor <;> intro h <;> omega
  split <;> constructor <;> intro h <;> omega
theorem kind_ne1 (c : UInt8) : kindOf c ≠ 1 := by
  unfold kindOf
  split
  · decide
  split
  · decide
  split
  · decide
  split
  · decide
  split
  · decide
  split <;> decide
theorem kind_35 {c : UInt8} : kindOf c = 4 ↔ c.toNat = 35 := by
  unfold kindOf
  split <;> rename_i h1
  · constructor <;> intro h <;> omega
  split <;> rename_i h2
  · constructor <;> intro h <;> omega
  split <;> rename_i h3
  · simp [h3]
  split <;> rename_i h4
  · constructor <;> intro h <;> omega
  split <;> rename_i h5
  · constructor <;> intro h <;> omega
  split <;> constructor <;> intro h <;> omega
theorem kind_bl {c : UInt8} : kindOf c = 2 ↔ (c.toNat = 32 ∨ c.toNat = 9) := by
  unfold kindOf
  split <;> rename_i h1
  · simp [h1]
  split <;> rename_i h2
  · constructor <;> intro h <;> omega
  split <;> rename_i h3
  · constructor <;> intro h <;> omega
  split <;> rename_i h4
  · constructor <;> intro h <;> omega
  split <;> rename_i h5
  · constructor <;> intro h <;> omega
  split <;> constructor <;> intro h <;> omega
theorem out_bl {c : UInt8} (h : kindOf c = 2) (r : List UInt8) (line col : Nat) (toks : List Tok) : out (c :: r) line col toks = out r line (col + 1) toks := by
  unfold out; rw [lex_bl h]
theorem dw_drop (p : UInt8 → Bool) : ∀ l : List UInt8, l.dropWhile p = l.drop (l.takeWhile p).length
  | [] => rfl
  | c :: r => by
    by_cases h : p c = true
    · rw [List.dropWhile_cons_of_pos h, List.takeWhile_cons_of_pos h, List.length_cons, List.drop_succ_cons]; exact dw_drop p r
    · rw [List.dropWhile_cons_of_neg h, List.takeWhile_cons_of_neg h]; rfl
theorem tw_pos {p : UInt8 → Bool} {l : List UInt8} (h : ∃ c r, l = c :: r ∧ p c = true) : 1 ≤ (l.takeWhile p).length := by
  obtain ⟨c, r, rfl, h⟩ := h
  rw [List.takeWhile_cons_of_pos h]; simp
theorem next_cons {l : List UInt8} {k : Nat} (h : nextK l = k) (hk : k ≠ 1) : ∃ c r, l = c :: r ∧ kindOf c = k := by
  cases l with
  | nil => exact absurd h.symm hk
  | cons c r => exact ⟨c, r, rfl, h⟩
theorem num_one {bs : List UInt8} (h : nextK bs = 6) (line col : Nat) (toks : List Tok) : match numT0 bs with
    | some t => t.kind ≠ 4 ∧ 1 ≤ t.text.length ∧ t.text.length ≤ bs.length ∧ out bs line col toks = out (bs.drop t.text.length) line (col + t.text.length) (toks ++ [⟨t.kind, t.text, t.num, line, col⟩])
    | none => ∃ e l c, out bs line col toks = .bad e l c := by
  unfold numT0
  split
  · rename_i t ht
    split at ht
    · rename_i hc
      injection ht with ht
      subst ht
      obtain ⟨c, r, e, hk⟩ := next_cons h (by decide)
      refine ⟨show (3 : Int) ≠ 4 by decide, tw_pos ⟨c, r, e, by rw [isDig_kind, hk]; rfl⟩, (List.takeWhile_prefix _).length_le, ?_⟩
      rw [out_num h hc.1 hc.2.1 hc.2.2, dw_drop]; rfl
    · cases ht
  · rename_i ht
    split at ht
    · cases ht
    · rename_i hc
      cases h1 : canon (bs.takeWhile isDig) with
      | false => exact ⟨_, _, _, out_num_text h h1 _ _ _⟩
      | true =>
        by_cases h2 : dval (bs.takeWhile isDig) ≤ 1099511627776
        · by_cases h3 : nextK (bs.dropWhile isDig) = 5 ∨ nextK (bs.dropWhile isDig) = 7
          · exact ⟨_, _, _, out_num_behind h h1 h2 h3 _ _ _⟩
          · exact absurd ⟨h1, h2, h3⟩ hc
        · exact ⟨_, _, _, out_num_big h h1 (by omega) _ _ _⟩
theorem word_one {bs : List UInt8} (h : nextK bs = 5) (line col : Nat) (toks : List Tok) : match wordT0 bs with
    | some t => t.kind ≠ 4 ∧ 1 ≤ t.text.length ∧ t.text.length ≤ bs.length ∧ out bs line col toks = out (bs.drop t.text.length) line (col + t.text.length) (toks ++ [⟨t.kind, t.text, t.num, line, col⟩])
    | none => ∃ e l c, out bs line col toks = .bad e l c := by
  unfold wordT0
  split
  · rename_i t ht
    split at ht
    · cases ht
    · rename_i hc
      injection ht with ht
      subst ht
      obtain ⟨c, r, e, hk⟩ := next_cons h (by decide)
      refine ⟨by dsimp only; split <;> decide, tw_pos ⟨c, r, e, more_let hk⟩, (List.takeWhile_prefix _).length_le, ?_⟩
      rw [out_word h (by omega), dw_drop]; rfl
  · rename_i ht
    split at ht
    · rename_i hc
      exact ⟨_, _, _, out_long h hc _ _ _⟩
    · cases ht
theorem ext_rest (s : ByteArray) (pos : Nat) : (s.extract pos s.size).data.toList = rest s pos := by
  rw [ByteArray.data_extract, Array.toList_extract, List.extract_eq_take_drop]
  unfold rest
  exact List.take_of_length_le (by rw [List.length_drop, Lib.size_eq s]; omega)
/-- where the loop is: so much is cut -/
structure At (w : World) (s : ByteArray) (R : Res) (n1 pos first line : Nat) (toks : List Tok) (wr : World) : Prop where
  res : (pos ≤ s.size ∧ Lx.out (rest s pos) line (pos - first + 1) toks = R) ∨ (pos = s.size + 1 ∧ R = .ok toks)
  fp : first ≤ pos
  lp : line ≤ pos + 1
  len : toks.length + (someT toks).toNat ≤ 2 * pos
  len2 : toks.length + (someT toks).toNat ≤ 2 * s.size
  fault : Blk wr n1 61 [.int .i64 0, .int .i64 0, .int .i64 0]
  nf : n1 = w.heap.size
  bel : Below w.heap.size w wr
theorem At.set {w : World} {s : ByteArray} {R : Res} {n1 pos first line : Nat} {toks : List Tok} {wr w' : World} (h : At w s R n1 pos first line toks wr) (hb : Below wr.heap.size wr w') (e l c : Value) :
    Blk (((w'.setCell ⟨n1, 0, none⟩ e).setCell ⟨n1, 1, none⟩ l).setCell ⟨n1, 2, none⟩ c) n1 61 [e, l, c] ∧ Below w.heap.size w (((w'.setCell ⟨n1, 0, none⟩ e).setCell ⟨n1, 1, none⟩ l).setCell ⟨n1, 2, none⟩ c) := by
  refine ⟨set3 (h.fault.after hb) _ _ _, ?_⟩
  have h1 := keep_trans h.bel hb
  exact h1.trans ((ch_set3 w' n1 e l c).below h1.size fun k hk => by have := h.nf; omega)
theorem At.nl {w : World} {s : ByteArray} {R : Res} {n1 pos first line : Nat} {toks toks' : List Tok} {wr w' : World} (h : At w s R n1 pos first line toks wr) (hp : pos ≤ s.size) (hk : pos = s.size ∨ (∃ h : pos < s.size, kindOf s[pos] = 3)) (ht : toks' = if someT toks then toks ++ [endT line (pos - first + 1)] else toks) (hb : Below wr.heap.size wr w' ∨ (Below (w.heap.size + 1) wr w')) : At w s R n1 (pos + 1) (pos + 1) (line + 1) toks' w' := by
  have hs : someT toks' = false := by
    rw [ht]
    cases h0 : someT toks with
    | false => rw [if_neg (by simp)]; exact h0
    | true => rw [if_pos rfl, someT_snoc]; rfl
  have hl : toks'.length ≤ toks.length + (someT toks).toNat := by
    rw [ht]
    cases someT toks <;> simp
  have hbb : Below w.heap.size w w' := by
    rcases hb with hb | hb
    · exact keep_trans h.bel hb
    · exact h.bel.trans (hb.mono (by omega))
  have hff : Blk w' n1 61 [.int .i64 0, .int .i64 0, .int .i64 0] := by
    rcases hb with hb | hb
    · exact h.fault.after hb
    · exact h.fault.below hb (by have := h.nf; omega)
  refine ⟨?_, by omega, by have := h.lp; omega, by have := h.len; rw [hs]; simp; omega, by have := h.len2; rw [hs]; simp; omega, hff, h.nf, hbb⟩
  rcases h.res with ⟨_, ho⟩ | ⟨e, _⟩
  · rcases hk with hk | ⟨hlt, hk⟩
    · right
      refine ⟨by omega, ?_⟩
      rw [← ho, rest_over (by omega), out_over, ht]
    · left
      refine ⟨by omega, ?_⟩
      rw [← ho, rest_at hlt, out_nl hk, ht]
      congr 1; omega
  · omega
theorem At.step {w : World} {s : ByteArray} {R : Res} {n1 pos first line : Nat} {toks : List Tok} {wr w' : World} (h : At w s R n1 pos first line toks wr) {pos' : Nat} (hp : pos ≤ s.size) (hpp : pos ≤ pos') (hp' : pos' ≤ s.size) (ho : Lx.out (rest s pos') line (pos' - first + 1) toks = R) (hb : Below wr.heap.size wr w') : At w s R n1 pos' first line toks w' :=
  ⟨.inl ⟨hp', ho⟩, by have := h.fp; omega, by have := h.lp; omega, by have := h.len; omega, h.len2, h.fault.after hb, h.nf, keep_trans h.bel hb⟩
theorem At.tok {w : World} {s : ByteArray} {R : Res} {n1 pos first line : Nat} {toks : List Tok} {wr w' : World} (h : At w s R n1 pos first line toks wr) {k : Nat} {t : Tok} (hk : 1 ≤ k) (hp' : pos + k ≤ s.size) (ht : t.kind ≠ 4) (ho : Lx.out (rest s (pos + k)) line (pos - first + 1 + k) (toks ++ [t]) = R) (hb : Below (w.heap.size + 1) wr w') : At w s R n1 (pos + k) first line (toks ++ [t]) w' := by
  have hs : (someT (toks ++ [t])).toNat ≤ 1 := by cases someT (toks ++ [t]) <;> simp
  refine ⟨.inl ⟨hp', ?_⟩, by have := h.fp; omega, by have := h.lp; omega, ?_, ?_, h.fault.below hb (by have := h.nf; omega), h.nf, h.bel.trans (hb.mono (by omega))⟩
  · have := h.fp
    rw [show pos + k - first + 1 = pos - first + 1 + k by omega]
    exact ho
  · have := h.len; rw [List.length_append, List.length_singleton]; omega
  · have := h.len; rw [List.length_append, List.length_singleton]; omega

set_option maxRecDepth 100000 in
set_option maxHeartbeats 4000000 in
theorem rall_any (s : ByteArray) (w : World) (hs : s.size ≤ 65536) : Calls Tryz.prog 57 #[.string s] w (RAllPost w (lex s.data.toList 1 1 false)) := by
  obtain ⟨R, hR⟩ : ∃ R, R = lex s.data.toList 1 1 false := ⟨_, rfl⟩
  have HR := Lib.hid hR
  rw [← hR]
  clear hR
  have g0 : ¬ (65536 : Int) < (s.size : Int) := by omega
  obtain ⟨n1, hn1⟩ : ∃ n1, n1 = w.heap.size := ⟨_, rfl⟩
  have HN1 := Lib.hid hn1
  have KF := Lib.hid (Blk.new w 61 [.int .i64 0, .int .i64 0, .int .i64 0])
  have HB0 := Lib.hid (one_box w (.cells #[.int .i64 0, .int .i64 0, .int .i64 0] 61))
  go_enter Tryz.func57, Tryz.ntmps57
  go_upto_region 1 with (fail)
  rw [← hn1] at KF ⊢
  clear hn1
  dsimp only [List.toArray] at KF
  generalize w.alloc (.cells #[.int .i64 0, .int .i64 0, .int .i64 0] 61) = W0 at KF HB0 ⊢
  go_wp2
  go_loopw [4, 5, 6, 7, 8] (fun v4 v5 v6 v7 v8 wr => ∃ (A : Option Addr) (n c : Nat) (line first pos : Nat) (sm : Bool) (toks : List Tok), v4 = .slice A n c ∧ v5 = .int .i64 line ∧ v6 = .int .i64 first ∧ v7 = .bool sm ∧ v8 = .int .i64 pos ∧ pos ≤ s.size + 1 ∧ Hid (sm = someT toks) ∧ Hid (n = toks.length) ∧ Hid (wr.ownsRow (w.heap.size + 1) 107 5 (.slice A n c) n (tc toks)) ∧ Hid (At w s R n1 pos first line toks wr)) (fun _ _ _ _ v _ => s.size + 1 - (intOf v).toNat)
  case atStart => exact ⟨none, 0, 0, 1, 0, 0, false, [], rfl, rfl, rfl, rfl, rfl, by omega, Lib.hid rfl, Lib.hid rfl, Lib.hid (World.ownsRow_nil _ _ _ _), Lib.hid ⟨.inl ⟨by omega, by rw [HR.out]; exact out_start _⟩, by omega, by omega, by simp [someT_nil], by simp [someT_nil], KF.out, HN1.out, HB0.out⟩⟩
  case round =>
    obtain ⟨A, n, c, line, first, pos, sm, toks, rfl, rfl, rfl, rfl, rfl, hpos, HSM, HN, HO, HAT⟩ := hrel
    have hfp := HAT.out.fp
    have hlp := HAT.out.lp
    have hnn : n ≤ 131072 := by have := HAT.out.len2; rw [HN.out]; omega
    have xf := HAT.out.fault.frozen
    have f0 : wr.cell? ⟨n1, 0, none⟩ = some (.int .i64 0) := HAT.out.fault.cell 0
    have f1 : wr.cell? ⟨n1, 1, none⟩ = some (.int .i64 0) := HAT.out.fault.cell 1
    have f2 : wr.cell? ⟨n1, 2, none⟩ = some (.int .i64 0) := HAT.out.fault.cell 2
    rcases Nat.lt_or_ge s.size pos with hover | hle
    · have gl : ¬ (pos : Int) ≤ (s.size : Int) := by omega
      have HOK : Hid (R = .ok toks) := Lib.hid (by rcases HAT.out.res with ⟨h, _⟩ | ⟨_, h⟩; omega; exact h)
      go_wp2
      have hq := HAT.out.set (Below.refl _ _) (.int .i64 0) (.int .i64 0) (.int .i64 0)
      refine bodyPost_ret (all_res rfl rfl hq.1) rfl ?_
      refine RAllPost.yes HOK.out HN.out (by rw [← HN.out]; exact hnn) rfl ?_ hq.2
      have hr := own_rd' HO.out
      have hch := ch_set3 wr n1 (.int .i64 0) (.int .i64 0) (.int .i64 0)
      refine (hch.rd hr fun b hb => ⟨hb.2, by have := HAT.out.nf; omega⟩).more fun b hb => ⟨by omega, Nat.lt_of_lt_of_le hb.2 hch.size⟩
    · have gl : (pos : Int) ≤ (s.size : Int) := by omega
      go_upto_region 9 with (fail)
      obtain ⟨np, hnp⟩ : ∃ np, np = wr.heap.size := ⟨_, rfl⟩
      have KP := Lib.hid (Blk.new wr 107 [.int .i64 0, .string ⟨#[]⟩, .int .i64 0, .int .i64 (line : Int), .int .i64 ((pos : Int) - (first : Int) + 1)])
      have HB1 := Lib.hid (one_box wr (.cells #[.int .i64 0, .string ⟨#[]⟩, .int .i64 0, .int .i64 (line : Int), .int .i64 ((pos : Int) - (first : Int) + 1)] 107))
      have HO1 := Lib.hid (HO.out.alloc (.cells #[.int .i64 0, .string ⟨#[]⟩, .int .i64 0, .int .i64 (line : Int), .int .i64 ((pos : Int) - (first : Int) + 1)] 107))
      have HSZ : Hid (w.heap.size + 1 ≤ wr.heap.size ∧ (wr.alloc (.cells #[.int .i64 0, .string ⟨#[]⟩, .int .i64 0, .int .i64 (line : Int), .int .i64 ((pos : Int) - (first : Int) + 1)] 107)).heap.size = wr.heap.size + 1) := Lib.hid ⟨by have := HAT.out.fault.lt; have := HAT.out.nf; omega, by simp⟩
      dsimp only [List.toArray] at KP
      rw [← hnp] at KP ⊢
      have HNP : Hid (n1 < np) := Lib.hid (by rw [hnp]; exact HAT.out.fault.lt)
      have HNP2 := Lib.hid hnp
      clear hnp f0 f1 f2 xf
      generalize wr.alloc (.cells #[.int .i64 0, .string ⟨#[]⟩, .int .i64 0, .int .i64 (line : Int), .int .i64 ((pos : Int) - (first : Int) + 1)] 107) = W1 at KP HB1 HO1 HSZ ⊢
      have x3 : W1.cell? ⟨np, 3, none⟩ = some (.int .i64 (line : Int)) := KP.out.cell 3
      have x4 : W1.cell? ⟨np, 4, none⟩ = some (.int .i64 ((pos : Int) - (first : Int) + 1)) := KP.out.cell 4
      have KF1 := Lib.hid (HAT.out.fault.after HB1.out)
      have xf := KF1.out.frozen
      have f0 : W1.cell? ⟨n1, 0, none⟩ = some (.int .i64 0) := KF1.out.cell 0
      have f1 : W1.cell? ⟨n1, 1, none⟩ = some (.int .i64 0) := KF1.out.cell 1
      have f2 : W1.cell? ⟨n1, 2, none⟩ = some (.int .i64 0) := KF1.out.cell 2
      rcases Nat.eq_or_lt_of_le hle with heq | hlt
      · have ge : ((pos : Int) == (s.size : Int)) = true := by rw [beq_iff_eq]; omega
        have HK : Hid (pos = s.size ∨ (∃ h : pos < s.size, kindOf s[pos] = 3)) := Lib.hid (.inl heq)
        clear heq
        cases sm with
        | true =>
          go_wp2_with (at_builtin; refine wpList_append_rd rfl (.tmp 45) (.tmp 51) 98 rfl (w.heap.size + 1) 107 _ 5 48 Tryz.underlying98 info_tok rfl (by omega) (by omega) (.slice A n c) n (tc toks) rfl (HO1.out.alloc _) _ _ 1 1 [.int .i64 4, .string ⟨#[]⟩, .int .i64 0, .int .i64 (line : Int), .int .i64 ((pos : Int) - (first : Int) + 1)] rfl rfl (lit_at _ _ _ _ _ (by simp) rfl) (by simp [Value.oneCell']) (by omega) (by have := HSZ.out; simp; omega) ?_; intro v' w4 hown hbel; obtain ⟨A', c', rfl, -, -⟩ := own_form hown.out)
          go_roundw
          case rel =>
            refine ⟨A', n + 1, c', line + 1, pos + 1, pos + 1, false, toks ++ [endT line (pos - first + 1)], rfl, by go_num, by go_num, rfl, by go_num, by omega, Lib.hid ?_, Lib.hid ?_, Lib.hid ?_, Lib.hid (HAT.out.nl hle HK.out (by rw [← HSM.out]; rfl) (.inr ((HB1.out.mono HSZ.out.1).trans (((Below.refl _ _).alloc (by have := HSZ.out; omega) _).trans hbel.out))))⟩
            · rw [someT_snoc]; rfl
            · rw [HN.out]; simp
            · rw [tc_append]
              have e : ((pos - first + 1 : Nat) : Int) = (pos : Int) - (first : Int) + 1 := by omega
              have h2 := hown.out
              show World.ownsRow _ _ _ _ _ _ (tc toks ++ [.int .i64 4, .string ⟨#[]⟩, .int .i64 0, .int .i64 (line : Int), .int .i64 ((pos - first + 1 : Nat) : Int)])
              rw [e]
              exact h2
          case measure => simp [intOf]; omega
        | false =>
          go_wp2
          go_roundw
          case rel => exact ⟨A, n, c, line + 1, pos + 1, pos + 1, false, toks, rfl, by go_num, by go_num, rfl, by go_num, by omega, HSM, HN, HO1, Lib.hid (HAT.out.nl hle HK.out (by rw [← HSM.out]; rfl) (.inl HB1.out))⟩
          case measure => simp [intOf]; omega
      · have ge : ((pos : Int) == (s.size : Int)) = false := by rw [beq_eq_false_iff_ne]; omega
        have gi : (pos : Int) < (s.size : Int) := by omega
        by_cases h10 : kindOf s[pos] = 3
        · have g10 : ((s[pos].toNat : Int) == 10) = true := by rw [beq_iff_eq]; have := kind_10.1 h10; omega
          have HK : Hid (pos = s.size ∨ (∃ h : pos < s.size, kindOf s[pos] = 3)) := Lib.hid (.inr ⟨hlt, h10⟩)
          clear h10
          cases sm with
          | true =>
            go_wp2_with (at_builtin; refine wpList_append_rd rfl (.tmp 45) (.tmp 51) 98 rfl (w.heap.size + 1) 107 _ 5 48 Tryz.underlying98 info_tok rfl (by omega) (by omega) (.slice A n c) n (tc toks) rfl (HO1.out.alloc _) _ _ 1 1 [.int .i64 4, .string ⟨#[]⟩, .int .i64 0, .int .i64 (line : Int), .int .i64 ((pos : Int) - (first : Int) + 1)] rfl rfl (lit_at _ _ _ _ _ (by simp) rfl) (by simp [Value.oneCell']) (by omega) (by have := HSZ.out; simp; omega) ?_; intro v' w4 hown hbel; obtain ⟨A', c', rfl, -, -⟩ := own_form hown.out)
            go_roundw
            case rel =>
              refine ⟨A', n + 1, c', line + 1, pos + 1, pos + 1, false, toks ++ [endT line (pos - first + 1)], rfl, by go_num, by go_num, rfl, by go_num, by omega, Lib.hid ?_, Lib.hid ?_, Lib.hid ?_, Lib.hid (HAT.out.nl hle HK.out (by rw [← HSM.out]; rfl) (.inr ((HB1.out.mono HSZ.out.1).trans (((Below.refl _ _).alloc (by have := HSZ.out; omega) _).trans hbel.out))))⟩
              · rw [someT_snoc]; rfl
              · rw [HN.out]; simp
              · rw [tc_append]
                have e : ((pos - first + 1 : Nat) : Int) = (pos : Int) - (first : Int) + 1 := by omega
                have h2 := hown.out
                show World.ownsRow _ _ _ _ _ _ (tc toks ++ [.int .i64 4, .string ⟨#[]⟩, .int .i64 0, .int .i64 (line : Int), .int .i64 ((pos - first + 1 : Nat) : Int)])
                rw [e]
                exact h2
            case measure => simp [intOf]; omega
          | false =>
            go_wp2
            go_roundw
            case rel => exact ⟨A, n, c, line + 1, pos + 1, pos + 1, false, toks, rfl, by go_num, by go_num, rfl, by go_num, by omega, HSM, HN, HO1, Lib.hid (HAT.out.nl hle HK.out (by rw [← HSM.out]; rfl) (.inl HB1.out))⟩
            case measure => simp [intOf]; omega
        · have g10 : ((s[pos].toNat : Int) == 10) = false := by rw [beq_eq_false_iff_ne]; intro e; exact h10 (kind_10.2 (by omega))
          have HRE : Hid (Lx.out (rest s pos) line (pos - first + 1) toks = R) := Lib.hid (by rcases HAT.out.res with ⟨_, h⟩ | ⟨h, _⟩; exact h; omega)
          by_cases h35 : kindOf s[pos] = 4
          · have g35 : ((s[pos].toNat : Int) == 35) = true := by rw [beq_iff_eq]; have := kind_35.1 h35; omega
            have HST : Hid (Lx.out ((rest s pos).dropWhile inLine) line (pos - first + 1 + ((rest s pos).takeWhile inLine).length) toks = R) := Lib.hid (by
              rw [← HRE.out]; exact (out_remark (by rw [rest_at hlt]; exact h35) _ _ _).symm)
            have H35 := Lib.hid h35
            have HLT := Lib.hid hlt
            clear h35 h10 g10
            go_wp2
            go_loopw [8] (fun v wr' => ∃ p2 : Nat, v = .int .i64 p2 ∧ pos ≤ p2 ∧ p2 ≤ s.size ∧ Hid (Lx.out ((rest s p2).dropWhile inLine) line (p2 - first + 1 + ((rest s p2).takeWhile inLine).length) toks = R) ∧ wr' = W1) (fun v _ => s.size - (intOf v).toNat)
            case atStart => exact ⟨pos, rfl, by omega, by omega, HST, rfl⟩
            case round =>
              obtain ⟨p2, rfl, hp1, hp2, HR2, rfl⟩ := hrel
              by_cases hlt2 : p2 < s.size
              · have gi2 : (p2 : Int) < (s.size : Int) := by omega
                by_cases h10 : kindOf s[p2] = 3
                · have g10 : ((s[p2].toNat : Int) == 10) = true := by rw [beq_iff_eq]; have := kind_10.1 h10; omega
                  have hne : pos < p2 := by
                    rcases Nat.lt_or_ge pos p2 with h | h
                    · exact h
                    · obtain rfl : pos = p2 := by omega
                      rw [H35.out] at h10; omega
                  have HST2 : Hid (Lx.out (rest s p2) line (p2 - first + 1) toks = R) := Lib.hid (by
                    have hq := HR2.out
                    have hn : ¬ inLine s[p2] = true := by simp [inLine, h10]
                    rw [rest_at hlt2, List.dropWhile_cons_of_neg hn, List.takeWhile_cons_of_neg hn] at hq
                    rw [rest_at hlt2]; exact hq)
                  clear h10
                  go_wp2
                  go_roundw
                  case rel => exact ⟨A, n, c, line, first, p2, sm, toks, rfl, rfl, rfl, rfl, by go_num, by omega, HSM, HN, HO1, Lib.hid (HAT.out.step hle (by omega) (by omega) HST2.out HB1.out)⟩
                  case measure => simp [intOf]; omega
                · have g10 : ((s[p2].toNat : Int) == 10) = false := by rw [beq_eq_false_iff_ne]; intro e; exact h10 (kind_10.2 (by omega))
                  have HST2 : Hid (Lx.out ((rest s (p2 + 1)).dropWhile inLine) line (p2 + 1 - first + 1 + ((rest s (p2 + 1)).takeWhile inLine).length) toks = R) := Lib.hid (by
                    have hq := HR2.out
                    have hn : inLine s[p2] = true := by simp [inLine, h10]
                    rw [rest_at hlt2, List.dropWhile_cons_of_pos hn, List.takeWhile_cons_of_pos hn, List.length_cons] at hq
                    rw [← hq]; congr 1; omega)
                  clear h10
                  go_wp2
                  go_roundw
                  case rel => exact ⟨p2 + 1, by go_num, by omega, by omega, HST2, trivial⟩
                  case measure => simp [intOf]; omega
              · have gi2 : ¬ (p2 : Int) < (s.size : Int) := by omega
                have HST2 : Hid (Lx.out (rest s p2) line (p2 - first + 1) toks = R) := Lib.hid (by
                  have hq := HR2.out
                  rw [rest_over (by omega)] at hq ⊢
                  exact hq)
                have hne : pos < p2 := by have := HLT.out; omega
                go_wp2
                go_roundw
                case rel => exact ⟨A, n, c, line, first, p2, sm, toks, rfl, rfl, rfl, rfl, by go_num, by omega, HSM, HN, HO1, Lib.hid (HAT.out.step hle (by omega) (by omega) HST2.out HB1.out)⟩
                case measure => simp [intOf]; omega
          · have g35 : ((s[pos].toNat : Int) == 35) = false := by rw [beq_eq_false_iff_ne]; intro e; exact h35 (kind_35.2 (by omega))
            by_cases hbl : kindOf s[pos] = 2
            · have HST : Hid (Lx.out (rest s (pos + 1)) line (pos + 1 - first + 1) toks = R) := Lib.hid (by
                rw [← HRE.out, rest_at hlt, out_bl hbl]; congr 1; omega)
              have hb2 := kind_bl.1 hbl
              by_cases h32 : s[pos].toNat = 32
              · have g32 : ((s[pos].toNat : Int) == 32) = true := by rw [beq_iff_eq]; omega
                clear hb2 hbl h32 h35 h10
                go_wp2
                go_roundw
                case rel => exact ⟨A, n, c, line, first, pos + 1, sm, toks, rfl, rfl, rfl, rfl, by go_num, by omega, HSM, HN, HO1, Lib.hid (HAT.out.step hle (by omega) (by omega) HST.out HB1.out)⟩
                case measure => simp [intOf]; omega
              · have g32 : ((s[pos].toNat : Int) == 32) = false := by rw [beq_eq_false_iff_ne]; omega
                have g9 : ((s[pos].toNat : Int) == 9) = true := by rw [beq_iff_eq]; omega
                clear hb2 hbl h32 h35 h10
                go_wp2
                go_roundw
                case rel => exact ⟨A, n, c, line, first, pos + 1, sm, toks, rfl, rfl, rfl, rfl, by go_num, by omega, HSM, HN, HO1, Lib.hid (HAT.out.step hle (by omega) (by omega) HST.out HB1.out)⟩
                case measure => simp [intOf]; omega
            · have g32 : ((s[pos].toNat : Int) == 32) = false := by rw [beq_eq_false_iff_ne]; intro e; exact hbl (kind_bl.2 (.inl (by omega)))
              have g9 : ((s[pos].toNat : Int) == 9) = false := by rw [beq_eq_false_iff_ne]; intro e; exact hbl (kind_bl.2 (.inr (by omega)))
              have CL := Lib.hid (fun w' => letter_any s[pos] w')
              have CD := Lib.hid (fun w' => digitR_any s[pos] w')
              by_cases hk : kindOf s[pos] = 5
              · rw [hk] at CL CD
                have hnx : nextK (rest s pos) = 5 := by rw [rest_at hlt]; exact hk
                have CO0 := fun w' => one_word (s.extract pos s.size) (by rw [ByteArray.size_extract]; omega) (by rw [ext_rest]; exact hnx) w'
                rw [ext_rest] at CO0
                have hpt := word_one hnx line (pos - first + 1) toks
                clear hk hnx hbl h35 h10
                cases hT : wordT0 (rest s pos) with
                | none =>
                  rw [hT] at CO0 hpt
                  have HBAD : Hid (∃ e l c, R = .bad e l c) := Lib.hid (by rw [← HRE.out]; exact hpt)
                  have CO : Hid (∀ w', Calls Tryz.prog 89 #[.string (s.extract pos s.size)] w' fun e w2 => (∃ er b, (er == 0) = false ∧ e = .returned (.tuple #[.agg #[.int .i64 0, .string ⟨#[]⟩, .int .i64 0, .int .i64 0, .int .i64 0], .int .i64 0, .int .i64 er, .int .i64 b])) ∧ Below w'.heap.size w' w2) := Lib.hid (fun w' => CO0 w')
                  clear CO0 hpt hT
                  go_upto_region 21 with (first
                  | (go_at_call 87; (with_reducible refine (CL.out _).mono ?_); rintro e w1 ⟨rfl, rfl⟩)
                  | (go_at_call 88; (with_reducible refine (CD.out _).mono ?_); rintro e w1 ⟨rfl, rfl⟩)
                  | (go_at_call 89; (with_reducible refine (CO.out _).mono ?_); rintro e W2 ⟨⟨er, b, her, rfl⟩, h2⟩; have HB2 := Lib.hid (keep_trans HB1.out h2); have HER := Lib.hid her; have KP2 := Lib.hid (KP.out.after h2); have KF2 := Lib.hid (KF1.out.after h2); clear h2 x3 x4 xf f0 f1 f2)
                  | fail)
                  have HB3 := Lib.hid (HB2.out.alloc HB2.out.size (.cells #[.int .i64 0, .string ⟨#[]⟩, .int .i64 0, .int .i64 0, .int .i64 0] 107))
                  have KP3 := Lib.hid (KP2.out.alloc (.cells #[.int .i64 0, .string ⟨#[]⟩, .int .i64 0, .int .i64 0, .int .i64 0] 107))
                  have KF3 := Lib.hid (KF2.out.alloc (.cells #[.int .i64 0, .string ⟨#[]⟩, .int .i64 0, .int .i64 0, .int .i64 0] 107))
                  generalize W2.alloc (.cells #[.int .i64 0, .string ⟨#[]⟩, .int .i64 0, .int .i64 0, .int .i64 0] 107) = W3 at HB3 KP3 KF3 ⊢
                  have x3 : W3.cell? ⟨np, 3, none⟩ = some (.int .i64 (line : Int)) := KP3.out.cell 3
                  have x4 : W3.cell? ⟨np, 4, none⟩ = some (.int .i64 ((pos : Int) - (first : Int) + 1)) := KP3.out.cell 4
                  have xf := KF3.out.frozen
                  have f0 : W3.cell? ⟨n1, 0, none⟩ = some (.int .i64 0) := KF3.out.cell 0
                  have f1 : W3.cell? ⟨n1, 1, none⟩ = some (.int .i64 0) := KF3.out.cell 1
                  have f2 : W3.cell? ⟨n1, 2, none⟩ = some (.int .i64 0) := KF3.out.cell 2
                  have her := HER.out
                  go_wp2
                  go_region
                  all_goals
                    go_wp2
                    refine bodyPost_ret (all_res rfl rfl (HAT.out.set HB3.out _ _ _).1) rfl ?_
                    obtain ⟨e9, l9, c9, hbd⟩ := HBAD.out
                    exact RAllPost.no hbd _ _ _ HER.out rfl (below_drew (HAT.out.set HB3.out _ _ _).2)
                | some t =>
                  rw [hT] at CO0 hpt
                  obtain ⟨tk, tt, tn, tl, tc_⟩ := t
                  have CO : Hid (∀ w', Calls Tryz.prog 89 #[.string (s.extract pos s.size)] w' fun e w2 => e = .returned (.tuple #[.agg #[.int .i64 tk, .string ⟨tt.toArray⟩, .int .i64 tn, .int .i64 tl, .int .i64 tc_], .int .i64 tt.length, .int .i64 0, .int .i64 0]) ∧ Below w'.heap.size w' w2) := Lib.hid (fun w' => CO0 w')
                  have htl : 1 ≤ tt.length ∧ pos + tt.length ≤ s.size := ⟨hpt.2.1, by have h := hpt.2.2.1; rw [rest_len] at h; have h2 : tt.length ≤ s.size - pos := h; omega⟩
                  obtain ⟨kl, hkl⟩ : ∃ kl, kl = tt.length := ⟨_, rfl⟩
                  have HPT : Hid (tk ≠ 4 ∧ Lx.out (rest s (pos + kl)) line (pos - first + 1 + kl) (toks ++ [⟨tk, tt, tn, line, ((pos - first + 1 : Nat) : Int)⟩]) = R) := Lib.hid ⟨hpt.1, by
                    have h := hpt.2.2.2
                    rw [HRE.out] at h
                    rw [h, hkl, rest_add]⟩
                  rw [← hkl] at htl CO
                  obtain ⟨htl1, htl2⟩ := htl
                  clear CO0 hpt hT hkl
                  go_upto_region 21 with (first
                  | (go_at_call 87; (with_reducible refine (CL.out _).mono ?_); rintro e w1 ⟨rfl, rfl⟩)
                  | (go_at_call 88; (with_reducible refine (CD.out _).mono ?_); rintro e w1 ⟨rfl, rfl⟩)
                  | (go_at_call 89; (with_reducible refine (CO.out _).mono ?_); rintro e W2 ⟨rfl, h2⟩; have HB2 := Lib.hid (keep_trans HB1.out h2); have HO2 := Lib.hid (own_after HO1.out h2); have KP2 := Lib.hid (KP.out.after h2); clear h2 x3 x4 xf f0 f1 f2)
                  | fail)
                  have HB3 := Lib.hid (HB2.out.alloc HB2.out.size (.cells #[.int .i64 tk, .string ⟨tt.toArray⟩, .int .i64 tn, .int .i64 tl, .int .i64 tc_] 107))
                  have KP3 := Lib.hid (KP2.out.alloc (.cells #[.int .i64 tk, .string ⟨tt.toArray⟩, .int .i64 tn, .int .i64 tl, .int .i64 tc_] 107))
                  have HO3 := Lib.hid (HO2.out.alloc (.cells #[.int .i64 tk, .string ⟨tt.toArray⟩, .int .i64 tn, .int .i64 tl, .int .i64 tc_] 107))
                  have HOB : Hid (∀ k, (Value.slice A n c).ownBlock = some k → k ≠ W2.heap.size) := Lib.hid (fun k hk => Nat.ne_of_lt (HO2.out.lt k hk).2)
                  have KT3 := Lib.hid (Blk.new W2 107 [.int .i64 tk, .string ⟨tt.toArray⟩, .int .i64 tn, .int .i64 tl, .int .i64 tc_])
                  have HN2 : Hid (np < W2.heap.size ∧ wr.heap.size ≤ W2.heap.size) := Lib.hid ⟨KP2.out.lt, HB2.out.size⟩
                  dsimp only [List.toArray] at KT3
                  generalize W2.alloc (.cells #[.int .i64 tk, .string ⟨tt.toArray⟩, .int .i64 tn, .int .i64 tl, .int .i64 tc_] 107) = W3 at HB3 KP3 HO3 KT3 ⊢
                  generalize W2.heap.size = n2 at KT3 HN2 HOB ⊢
                  have x3 : W3.cell? ⟨np, 3, none⟩ = some (.int .i64 (line : Int)) := KP3.out.cell 3
                  have x4 : W3.cell? ⟨np, 4, none⟩ = some (.int .i64 ((pos : Int) - (first : Int) + 1)) := KP3.out.cell 4
                  have y3 : W3.cell? ⟨n2, 3, none⟩ = some (.int .i64 tl) := KT3.out.cell 3
                  have y4 : W3.cell? ⟨n2, 4, none⟩ = some (.int .i64 tc_) := KT3.out.cell 4
                  have yf := KT3.out.frozen
                  have hne : np ≠ n2 := by have := HN2.out; omega
                  have hne2 : n2 ≠ np := by omega
                  go_wp2
                  go_region
                  have HB4 : Hid (Below wr.heap.size wr ((W3.setCell ⟨n2, 3, none⟩ (.int .i64 (line : Int))).setCell ⟨n2, 4, none⟩ (.int .i64 ((pos : Int) - (first : Int) + 1))).drew) := Lib.hid (below_drew (HB3.out.trans (((ch_set W3 n2 3 _).trans (ch_set _ n2 4 _)).below HB3.out.size fun k hk => by have := HN2.out; omega)))
                  have KT4 : Hid (Blk ((W3.setCell ⟨n2, 3, none⟩ (.int .i64 (line : Int))).setCell ⟨n2, 4, none⟩ (.int .i64 ((pos : Int) - (first : Int) + 1))).drew n2 107 [.int .i64 tk, .string ⟨tt.toArray⟩, .int .i64 tn, .int .i64 (line : Int), .int .i64 ((pos : Int) - (first : Int) + 1)]) := Lib.hid (blk_drew ((KT3.out.set_ 3 _).set_ 4 _))
                  have HO4 : Hid (((W3.setCell ⟨n2, 3, none⟩ (.int .i64 (line : Int))).setCell ⟨n2, 4, none⟩ (.int .i64 ((pos : Int) - (first : Int) + 1))).drew.ownsRow (w.heap.size + 1) 107 5 (.slice A n c) n (tc toks)) := Lib.hid (Ch.own ((ch_set W3 n2 3 _).trans (ch_set _ n2 4 _)).drew HO3.out fun k hk e => by
                    subst e
                    exact HOB.out _ hk rfl)
                  generalize ((W3.setCell ⟨n2, 3, none⟩ (.int .i64 (line : Int))).setCell ⟨n2, 4, none⟩ (.int .i64 ((pos : Int) - (first : Int) + 1))).drew = W4 at HB4 KT4 HO4 ⊢
                  clear x3 x4 y3 y4 yf
                  have z0 : W4.cell? ⟨n2, 0, none⟩ = some (.int .i64 tk) := KT4.out.cell 0
                  have z1 : W4.cell? ⟨n2, 1, none⟩ = some (.string ⟨tt.toArray⟩) := KT4.out.cell 1
                  have z2 : W4.cell? ⟨n2, 2, none⟩ = some (.int .i64 tn) := KT4.out.cell 2
                  have z3 : W4.cell? ⟨n2, 3, none⟩ = some (.int .i64 (line : Int)) := KT4.out.cell 3
                  have z4 : W4.cell? ⟨n2, 4, none⟩ = some (.int .i64 ((pos : Int) - (first : Int) + 1)) := KT4.out.cell 4
                  go_wp2_with (at_builtin; refine wpList_append_rd rfl (.tmp 124) (.tmp 126) 98 rfl (w.heap.size + 1) 107 _ 5 48 Tryz.underlying98 info_tok rfl (by omega) (by omega) (.slice A n c) n (tc toks) rfl (HO4.out.alloc _) _ _ 1 1 [.int .i64 tk, .string ⟨tt.toArray⟩, .int .i64 tn, .int .i64 (line : Int), .int .i64 ((pos : Int) - (first : Int) + 1)] rfl rfl (lit_at _ _ _ _ _ (by simp) rfl) (by simp [Value.oneCell']) (by omega) (by have := HSZ.out; have := HB4.out.size; simp; omega) ?_; intro v' w4 hown hbel; obtain ⟨A', c', rfl, -, -⟩ := own_form hown.out)
                  go_roundw
                  case rel =>
                    refine ⟨A', n + 1, c', line, first, pos + kl, true, toks ++ [⟨tk, tt, tn, line, ((pos - first + 1 : Nat) : Int)⟩], rfl, rfl, rfl, rfl, by go_num, by omega, Lib.hid ?_, Lib.hid ?_, Lib.hid ?_, Lib.hid (HAT.out.tok htl1 htl2 HPT.out.1 HPT.out.2 ((HB4.out.mono HSZ.out.1).trans (((Below.refl _ _).alloc (by have := HSZ.out; have := HB4.out.size; omega) _).trans hbel.out)))⟩
                    · rw [someT_snoc]
                      have h4 := HPT.out.1
                      symm
                      simpa using h4
                    · rw [HN.out]; simp
                    · rw [tc_append]
                      have e : ((pos - first + 1 : Nat) : Int) = (pos : Int) - (first : Int) + 1 := by omega
                      have h2 := hown.out
                      show World.ownsRow _ _ _ _ _ _ (tc toks ++ [.int .i64 tk, .string ⟨tt.toArray⟩, .int .i64 tn, .int .i64 (line : Int), .int .i64 ((pos - first + 1 : Nat) : Int)])
                      rw [e]
                      exact h2
                  case measure => simp [intOf]; omega
              · have hk5 := hk
                by_cases hk : kindOf s[pos] = 6
                · rw [hk] at CL CD
                  have hnx : nextK (rest s pos) = 6 := by rw [rest_at hlt]; exact hk
                  have CO0 := fun w' => one_num (s.extract pos s.size) (by rw [ByteArray.size_extract]; omega) (by rw [ext_rest]; exact hnx) w'
                  rw [ext_rest] at CO0
                  have hpt := num_one hnx line (pos - first + 1) toks
                  clear hk hnx hbl h35 h10
                  cases hT : numT0 (rest s pos) with
                  | none =>
                    rw [hT] at CO0 hpt
                    have HBAD : Hid (∃ e l c, R = .bad e l c) := Lib.hid (by rw [← HRE.out]; exact hpt)
                    have CO : Hid (∀ w', Calls Tryz.prog 89 #[.string (s.extract pos s.size)] w' fun e w2 => (∃ er b, (er == 0) = false ∧ e = .returned (.tuple #[.agg #[.int .i64 0, .string ⟨#[]⟩, .int .i64 0, .int .i64 0, .int .i64 0], .int .i64 0, .int .i64 er, .int .i64 b])) ∧ Below w'.heap.size w' w2) := Lib.hid (fun w' => CO0 w')
                    clear CO0 hpt hT
                    go_upto_region 21 with (first
                    | (go_at_call 87; (with_reducible refine (CL.out _).mono ?_); rintro e w1 ⟨rfl, rfl⟩)
                    | (go_at_call 88; (with_reducible refine (CD.out _).mono ?_); rintro e w1 ⟨rfl, rfl⟩)
                    | (go_at_call 89; (with_reducible refine (CO.out _).mono ?_); rintro e W2 ⟨⟨er, b, her, rfl⟩, h2⟩; have HB2 := Lib.hid (keep_trans HB1.out h2); have HER := Lib.hid her; have KP2 := Lib.hid (KP.out.after h2); have KF2 := Lib.hid (KF1.out.after h2); clear h2 x3 x4 xf f0 f1 f2)
                    | fail)
                    have HB3 := Lib.hid (HB2.out.alloc HB2.out.size (.cells #[.int .i64 0, .string ⟨#[]⟩, .int .i64 0, .int .i64 0, .int .i64 0] 107))
                    have KP3 := Lib.hid (KP2.out.alloc (.cells #[.int .i64 0, .string ⟨#[]⟩, .int .i64 0, .int .i64 0, .int .i64 0] 107))
                    have KF3 := Lib.hid (KF2.out.alloc (.cells #[.int .i64 0, .string ⟨#[]⟩, .int .i64 0, .int .i64 0, .int .i64 0] 107))
                    generalize W2.alloc (.cells #[.int .i64 0, .string ⟨#[]⟩, .int .i64 0, .int .i64 0, .int .i64 0] 107) = W3 at HB3 KP3 KF3 ⊢
                    have x3 : W3.cell? ⟨np, 3, none⟩ = some (.int .i64 (line : Int)) := KP3.out.cell 3
                    have x4 : W3.cell? ⟨np, 4, none⟩ = some (.int .i64 ((pos : Int) - (first : Int) + 1)) := KP3.out.cell 4
                    have xf := KF3.out.frozen
                    have f0 : W3.cell? ⟨n1, 0, none⟩ = some (.int .i64 0) := KF3.out.cell 0
                    have f1 : W3.cell? ⟨n1, 1, none⟩ = some (.int .i64 0) := KF3.out.cell 1
                    have f2 : W3.cell? ⟨n1, 2, none⟩ = some (.int .i64 0) := KF3.out.cell 2
                    have her := HER.out
                    go_wp2
                    go_region
                    all_goals
                      go_wp2
                      refine bodyPost_ret (all_res rfl rfl (HAT.out.set HB3.out _ _ _).1) rfl ?_
                      obtain ⟨e9, l9, c9, hbd⟩ := HBAD.out
                      exact RAllPost.no hbd _ _ _ HER.out rfl (below_drew (HAT.out.set HB3.out _ _ _).2)
                  | some t =>
                    rw [hT] at CO0 hpt
                    obtain ⟨tk, tt, tn, tl, tc_⟩ := t
                    have CO : Hid (∀ w', Calls Tryz.prog 89 #[.string (s.extract pos s.size)] w' fun e w2 => e = .returned (.tuple #[.agg #[.int .i64 tk, .string ⟨tt.toArray⟩, .int .i64 tn, .int .i64 tl, .int .i64 tc_], .int .i64 tt.length, .int .i64 0, .int .i64 0]) ∧ Below w'.heap.size w' w2) := Lib.hid (fun w' => CO0 w')
                    have htl : 1 ≤ tt.length ∧ pos + tt.length ≤ s.size := ⟨hpt.2.1, by have h := hpt.2.2.1; rw [rest_len] at h; have h2 : tt.length ≤ s.size - pos := h; omega⟩
                    obtain ⟨kl, hkl⟩ : ∃ kl, kl = tt.length := ⟨_, rfl⟩
                    have HPT : Hid (tk ≠ 4 ∧ Lx.out (rest s (pos + kl)) line (pos - first + 1 + kl) (toks ++ [⟨tk, tt, tn, line, ((pos - first + 1 : Nat) : Int)⟩]) = R) := Lib.hid ⟨hpt.1, by
                      have h := hpt.2.2.2
                      rw [HRE.out] at h
                      rw [h, hkl, rest_add]⟩
                    rw [← hkl] at htl CO
                    obtain ⟨htl1, htl2⟩ := htl
                    clear CO0 hpt hT hkl
                    go_upto_region 21 with (first
                    | (go_at_call 87; (with_reducible refine (CL.out _).mono ?_); rintro e w1 ⟨rfl, rfl⟩)
                    | (go_at_call 88; (with_reducible refine (CD.out _).mono ?_); rintro e w1 ⟨rfl, rfl⟩)
                    | (go_at_call 89; (with_reducible refine (CO.out _).mono ?_); rintro e W2 ⟨rfl, h2⟩; have HB2 := Lib.hid (keep_trans HB1.out h2); have HO2 := Lib.hid (own_after HO1.out h2); have KP2 := Lib.hid (KP.out.after h2); clear h2 x3 x4 xf f0 f1 f2)
                    | fail)
                    have HB3 := Lib.hid (HB2.out.alloc HB2.out.size (.cells #[.int .i64 tk, .string ⟨tt.toArray⟩, .int .i64 tn, .int .i64 tl, .int .i64 tc_] 107))
                    have KP3 := Lib.hid (KP2.out.alloc (.cells #[.int .i64 tk, .string ⟨tt.toArray⟩, .int .i64 tn, .int .i64 tl, .int .i64 tc_] 107))
                    have HO3 := Lib.hid (HO2.out.alloc (.cells #[.int .i64 tk, .string ⟨tt.toArray⟩, .int .i64 tn, .int .i64 tl, .int .i64 tc_] 107))
                    have HOB : Hid (∀ k, (Value.slice A n c).ownBlock = some k → k ≠ W2.heap.size) := Lib.hid (fun k hk => Nat.ne_of_lt (HO2.out.lt k hk).2)
                    have KT3 := Lib.hid (Blk.new W2 107 [.int .i64 tk, .string ⟨tt.toArray⟩, .int .i64 tn, .int .i64 tl, .int .i64 tc_])
                    have HN2 : Hid (np < W2.heap.size ∧ wr.heap.size ≤ W2.heap.size) := Lib.hid ⟨KP2.out.lt, HB2.out.size⟩
                    dsimp only [List.toArray] at KT3
                    generalize W2.alloc (.cells #[.int .i64 tk, .string ⟨tt.toArray⟩, .int .i64 tn, .int .i64 tl, .int .i64 tc_] 107) = W3 at HB3 KP3 HO3 KT3 ⊢
                    generalize W2.heap.size = n2 at KT3 HN2 HOB ⊢
                    have x3 : W3.cell? ⟨np, 3, none⟩ = some (.int .i64 (line : Int)) := KP3.out.cell 3
                    have x4 : W3.cell? ⟨np, 4, none⟩ = some (.int .i64 ((pos : Int) - (first : Int) + 1)) := KP3.out.cell 4
                    have y3 : W3.cell? ⟨n2, 3, none⟩ = some (.int .i64 tl) := KT3.out.cell 3
                    have y4 : W3.cell? ⟨n2, 4, none⟩ = some (.int .i64 tc_) := KT3.out.cell 4
                    have yf := KT3.out.frozen
                    have hne : np ≠ n2 := by have := HN2.out; omega
                    have hne2 : n2 ≠ np := by omega
                    go_wp2
                    go_region
                    have HB4 : Hid (Below wr.heap.size wr ((W3.setCell ⟨n2, 3, none⟩ (.int .i64 (line : Int))).setCell ⟨n2, 4, none⟩ (.int .i64 ((pos : Int) - (first : Int) + 1))).drew) := Lib.hid (below_drew (HB3.out.trans (((ch_set W3 n2 3 _).trans (ch_set _ n2 4 _)).below HB3.out.size fun k hk => by have := HN2.out; omega)))
                    have KT4 : Hid (Blk ((W3.setCell ⟨n2, 3, none⟩ (.int .i64 (line : Int))).setCell ⟨n2, 4, none⟩ (.int .i64 ((pos : Int) - (first : Int) + 1))).drew n2 107 [.int .i64 tk, .string ⟨tt.toArray⟩, .int .i64 tn, .int .i64 (line : Int), .int .i64 ((pos : Int) - (first : Int) + 1)]) := Lib.hid (blk_drew ((KT3.out.set_ 3 _).set_ 4 _))
                    have HO4 : Hid (((W3.setCell ⟨n2, 3, none⟩ (.int .i64 (line : Int))).setCell ⟨n2, 4, none⟩ (.int .i64 ((pos : Int) - (first : Int) + 1))).drew.ownsRow (w.heap.size + 1) 107 5 (.slice A n c) n (tc toks)) := Lib.hid (Ch.own ((ch_set W3 n2 3 _).trans (ch_set _ n2 4 _)).drew HO3.out fun k hk e => by
                      subst e
                      exact HOB.out _ hk rfl)
                    generalize ((W3.setCell ⟨n2, 3, none⟩ (.int .i64 (line : Int))).setCell ⟨n2, 4, none⟩ (.int .i64 ((pos : Int) - (first : Int) + 1))).drew = W4 at HB4 KT4 HO4 ⊢
                    clear x3 x4 y3 y4 yf
                    have z0 : W4.cell? ⟨n2, 0, none⟩ = some (.int .i64 tk) := KT4.out.cell 0
                    have z1 : W4.cell? ⟨n2, 1, none⟩ = some (.string ⟨tt.toArray⟩) := KT4.out.cell 1
                    have z2 : W4.cell? ⟨n2, 2, none⟩ = some (.int .i64 tn) := KT4.out.cell 2
                    have z3 : W4.cell? ⟨n2, 3, none⟩ = some (.int .i64 (line : Int)) := KT4.out.cell 3
                    have z4 : W4.cell? ⟨n2, 4, none⟩ = some (.int .i64 ((pos : Int) - (first : Int) + 1)) := KT4.out.cell 4
                    go_wp2_with (at_builtin; refine wpList_append_rd rfl (.tmp 124) (.tmp 126) 98 rfl (w.heap.size + 1) 107 _ 5 48 Tryz.underlying98 info_tok rfl (by omega) (by omega) (.slice A n c) n (tc toks) rfl (HO4.out.alloc _) _ _ 1 1 [.int .i64 tk, .string ⟨tt.toArray⟩, .int .i64 tn, .int .i64 (line : Int), .int .i64 ((pos : Int) - (first : Int) + 1)] rfl rfl (lit_at _ _ _ _ _ (by simp) rfl) (by simp [Value.oneCell']) (by omega) (by have := HSZ.out; have := HB4.out.size; simp; omega) ?_; intro v' w4 hown hbel; obtain ⟨A', c', rfl, -, -⟩ := own_form hown.out)
                    go_roundw
                    case rel =>
                      refine ⟨A', n + 1, c', line, first, pos + kl, true, toks ++ [⟨tk, tt, tn, line, ((pos - first + 1 : Nat) : Int)⟩], rfl, rfl, rfl, rfl, by go_num, by omega, Lib.hid ?_, Lib.hid ?_, Lib.hid ?_, Lib.hid (HAT.out.tok htl1 htl2 HPT.out.1 HPT.out.2 ((HB4.out.mono HSZ.out.1).trans (((Below.refl _ _).alloc (by have := HSZ.out; have := HB4.out.size; omega) _).trans hbel.out)))⟩
                      · rw [someT_snoc]
                        have h4 := HPT.out.1
                        symm
                        simpa using h4
                      · rw [HN.out]; simp
                      · rw [tc_append]
                        have e : ((pos - first + 1 : Nat) : Int) = (pos : Int) - (first : Int) + 1 := by omega
                        have h2 := hown.out
                        show World.ownsRow _ _ _ _ _ _ (tc toks ++ [.int .i64 tk, .string ⟨tt.toArray⟩, .int .i64 tn, .int .i64 (line : Int), .int .i64 ((pos - first + 1 : Nat) : Int)])
                        rw [e]
                        exact h2
                    case measure => simp [intOf]; omega
                · have hk1 : (kindOf s[pos] == 5) = false := by rw [beq_eq_false_iff_ne]; exact hk5
                  have hk2 : (kindOf s[pos] == 6) = false := by rw [beq_eq_false_iff_ne]; exact hk
                  rw [hk1] at CL
                  rw [hk2] at CD
                  have HBAD : Hid (R = .bad 7 line (pos - first + 1)) := Lib.hid (by
                    rw [← HRE.out]
                    refine out_bad ?_ _ _ _
                    rw [rest_at hlt]
                    show kindOf s[pos] = 0 ∨ kindOf s[pos] = 7
                    have := kind_ne1 s[pos]
                    have := kindOf_le s[pos]
                    omega)
                  clear hk1 hk2 hk hk5 hbl h35 h10
                  go_wp2_with (first
                    | (go_at_call 87; (with_reducible refine (CL.out _).mono ?_); rintro e w1 ⟨rfl, rfl⟩)
                    | (go_at_call 88; (with_reducible refine (CD.out _).mono ?_); rintro e w1 ⟨rfl, rfl⟩)
                    | fail)
                  go_region
                  all_goals
                    go_wp2
                    refine bodyPost_ret (all_res rfl rfl (HAT.out.set HB1.out _ _ _).1) rfl ?_
                    exact RAllPost.no HBAD.out _ _ _ (by decide) rfl (below_drew (HAT.out.set HB1.out _ _ _).2)

end Go.Proofs.YtcmlmfcnbmpajaaGreatDoor.Sw
namespace Go.Proofs.YtcmlmfcnbmpajaaGreatDoor.Sw
open Go.ChangeShapes Go.WideShapes Go.ChangeAt Go.RowKit
open Lx Sh Tk
set_option linter.unusedVariables false
set_option linter.unusedSimpArgs false
set_option maxRecDepth 100000 in
theorem rall_long (s : ByteArray) (w : World) (hs : 65536 < s.size) : Calls Tryz.prog 57 #[.string s] w (RAllPost w (.bad 3 1 1)) := by
  have g0 : (65536 : Int) < (s.size : Int) := by omega
  obtain ⟨n1, hn1⟩ : ∃ n1, n1 = w.heap.size := ⟨_, rfl⟩
  have HN1 := Lib.hid hn1
  have KF := Lib.hid (Blk.new w 61 [.int .i64 0, .int .i64 0, .int .i64 0])
  have HB0 := Lib.hid (one_box w (.cells #[.int .i64 0, .int .i64 0, .int .i64 0] 61))
  go_enter Tryz.func57, Tryz.ntmps57
  go_upto_region 1 with (fail)
  rw [← hn1] at KF ⊢
  clear hn1
  dsimp only [List.toArray] at KF
  generalize w.alloc (.cells #[.int .i64 0, .int .i64 0, .int .i64 0] 61) = W0 at KF HB0 ⊢
  have xf := KF.out.frozen
  have f0 : W0.cell? ⟨n1, 0, none⟩ = some (.int .i64 0) := KF.out.cell 0
  have f1 : W0.cell? ⟨n1, 1, none⟩ = some (.int .i64 0) := KF.out.cell 1
  have f2 : W0.cell? ⟨n1, 2, none⟩ = some (.int .i64 0) := KF.out.cell 2
  go_wp2
  refine bodyPost_ret (all_res rfl rfl (set3 KF.out _ _ _)) rfl ?_
  exact RAllPost.no (e0 := 3) (l0 := 1) (c0 := 1) rfl _ _ _ (by decide) rfl (HB0.out.trans ((ch_set3 W0 n1 _ _ _).below HB0.out.size fun k hk => by have := HN1.out; omega))
theorem rall_all (s : ByteArray) (w : World) : Calls Tryz.prog 57 #[.string s] w (RAllPost w (lexAll s)) := by
  unfold lexAll
  split
  · exact rall_long s w (by omega)
  · exact rall_any s w (by omega)
end Go.Proofs.YtcmlmfcnbmpajaaGreatDoor.Sw
