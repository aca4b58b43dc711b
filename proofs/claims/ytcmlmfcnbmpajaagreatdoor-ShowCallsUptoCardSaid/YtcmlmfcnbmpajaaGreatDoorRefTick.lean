/- The document's answers for ticks (Is, Text, Parse), proved by walking their text. -/
import Derived.Test.YtcmlmfcnbmpajaaGreatDoorLexTick
namespace Go.Proofs.YtcmlmfcnbmpajaaGreatDoor.Tk
open Go.Shelf Go.ChangeShapes Go.WideShapes Go.ChangeAt Go.RowKit
set_option linter.unusedVariables false

def isTk (t : Int) : Prop := t = 4611686018427387904 ∨ (0 ≤ t ∧ t ≤ 1099511627776)
instance (t : Int) : Decidable (isTk t) := by unfold isTk; infer_instance
/-- what Is answers -/
def isB (t : Int) : Bool := decide (isTk t)
theorem isB_true {t : Int} (h : isTk t) : isB t = true := by simp [isB, h]
theorem isB_false {t : Int} (h : ¬ isTk t) : isB t = false := by simp [isB, h]
/-- a finite tick -/
def fin (t : Int) : Prop := 0 ≤ t ∧ t ≤ 1099511627776
theorem fin_tk {t : Int} (h : fin t) : isTk t := Or.inr h
theorem inf_tk : isTk 4611686018427387904 := Or.inl rfl
theorem fin_ne {t : Int} (h : fin t) : t ≠ 4611686018427387904 := by unfold fin at h; omega
theorem tk_cases (t : Int) : ¬ isTk t ∨ t = 4611686018427387904 ∨ fin t := by unfold isTk fin; omega
theorem isB_inf : isB 4611686018427387904 = true := isB_true inf_tk
theorem eq_f {a b : Int} (h : a ≠ b) : (a == b) = false := by simp [h]
theorem eq_t {a b : Int} (h : a = b) : (a == b) = true := by simp [h]
theorem ris_any (t : Int) (w : World) :
    Calls Tryz.prog 136 #[.int .i64 t] w fun e w' => e = .returned (.bool (isB t)) ∧ w = w' := by
  by_cases hi : t = 4611686018427387904
  · subst hi
    go_enter Tryz.func136, Tryz.ntmps136
    go_wp2
    go_ret
    exact ⟨ret_b isB_inf, rfl⟩
  · have hne : (t == 4611686018427387904) = false := by simp; omega
    by_cases h0 : 0 ≤ t ∧ t ≤ 1099511627776
    · have H := Lib.hid (isB_true (Or.inr h0))
      obtain ⟨h0, h1⟩ := h0
      clear hi
      go_enter Tryz.func136, Tryz.ntmps136
      go_wp2
      go_ret
      exact ⟨ret_b H.out, rfl⟩
    · have H := Lib.hid (isB_false (t := t) (by unfold isTk; omega))
      clear hi
      have h1 : t < 0 ∨ 1099511627776 < t := by omega
      clear h0
      rcases h1 with h1 | h1
      all_goals
        go_enter Tryz.func136, Tryz.ntmps136
        go_wp2
        go_ret
        first | exact ⟨ret_b H.out, rfl⟩ | exact ⟨ret_b (by rw [H.out]; simp; omega), rfl⟩
theorem dec_len {u : Nat} (h : u < 10000000000000) : (Lib.decDigits u).length ≤ 13 := by
  rw [Lib.decDigits_length]; exact nDigits_le 12 u (by have : (10 : Nat) ^ (12 + 1) = 10000000000000 := by decide
                                                       omega)
theorem str_app (a b : List UInt8) : (⟨a.toArray⟩ ++ ⟨b.toArray⟩ : ByteArray) = ⟨(a ++ b).toArray⟩ := by
  apply Go.WideShapes.bytes_inj
  simp
theorem rdig_small (n : Int) (h0 : 0 ≤ n) (h : n < 10) (w : World) :
    Calls Tryz.prog 137 #[.int .i64 n] w fun e w' => e = .returned (.string ⟨(Lib.decDigits n.toNat).toArray⟩) ∧ w = w' := by
  have hc : n = 0 ∨ n = 1 ∨ n = 2 ∨ n = 3 ∨ n = 4 ∨ n = 5 ∨ n = 6 ∨ n = 7 ∨ n = 8 ∨ n = 9 := by omega
  rcases hc with rfl | rfl | rfl | rfl | rfl | rfl | rfl | rfl | rfl | rfl
  all_goals
    go_enter Tryz.func137, Tryz.ntmps137
    go_wp2_with fail
    go_ret
    exact ⟨by rw [Lib.decDigits_one (by decide)]; rfl, rfl⟩
theorem rdig_any (k : Nat) : ∀ (n : Int) (w : World), n ≤ k → 0 ≤ n → n ≤ 1099511627776 →
    Calls Tryz.prog 137 #[.int .i64 n] w fun e w' => e = .returned (.string ⟨(Lib.decDigits n.toNat).toArray⟩) ∧ w = w' := by
  induction k with
  | zero => intro n w hk h0 _; exact rdig_small n h0 (by omega) w
  | succ k ih =>
    intro n w hk h0 hM
    by_cases h : n < 10
    · exact rdig_small n h0 h w
    · have H : Hid (Lib.decDigits n.toNat = Lib.decDigits (n / 10).toNat ++ Lib.decDigits (n % 10).toNat) := Lib.hid (by
        rw [Lib.decDigits, dif_neg (by omega), Lib.decDigits_one (i := (n % 10).toNat) (by omega)]
        rw [show n.toNat / 10 = (n / 10).toNat by omega, show n.toNat % 10 = (n % 10).toNat by omega])
      have HI := Lib.hid ih
      have hl1 : (Lib.decDigits (n / 10).toNat).length ≤ 13 := dec_len (by omega)
      have hl2 : (Lib.decDigits (n % 10).toNat).length ≤ 13 := dec_len (by omega)
      clear ih
      have hq0 : 0 ≤ n / 10 := by omega
      have hq1 : n / 10 ≤ k := by omega
      have hr0 : 0 ≤ n % 10 := by omega
      have hr1 : n % 10 < 10 := by omega
      go_enter Tryz.func137, Tryz.ntmps137
      go_wp2_with fail
      refine (HI.out _ _ hq1 hq0 (by omega)).mono ?_
      rintro e w' ⟨rfl, rfl⟩
      go_wp2_with fail
      refine (rdig_small _ hr0 hr1 _).mono ?_
      rintro e w' ⟨rfl, rfl⟩
      go_wp2_with fail
      go_ret
      exact ⟨congrArg (fun b => Ending.returned (Value.string b)) (by rw [H.out]; exact str_app _ _), rfl⟩
theorem rtext_any (t : Int) (w : World) :
    Calls Tryz.prog 126 #[.int .i64 t] w fun e w' => e = .returned (.string ⟨(textL t).toArray⟩) ∧ w = w' := by
  rcases tk_cases t with ht | rfl | ht
  · have iB := isB_false ht
    have H := Lib.hid (text_no ht)
    clear ht
    go_enter Tryz.func126, Tryz.ntmps126
    go_wp2_with (go_at_call 136; refine (ris_any _ _).mono ?_; rintro e w' ⟨rfl, rfl⟩)
    go_ret
    exact ⟨ret_s (b := []) H.out, rfl⟩
  · have iB := isB_inf
    have H := Lib.hid text_inf
    go_enter Tryz.func126, Tryz.ntmps126
    go_wp2_with (go_at_call 136; refine (ris_any _ _).mono ?_; rintro e w' ⟨rfl, rfl⟩)
    go_ret
    exact ⟨ret_s (b := infL) H.out, rfl⟩
  · have iB := isB_true (fin_tk ht)
    have neB := eq_f (fin_ne ht)
    have H := Lib.hid (text_fin ht)
    obtain ⟨h0, h1⟩ := ht
    go_enter Tryz.func126, Tryz.ntmps126
    go_wp2_with (first | (go_at_call 136; refine (ris_any _ _).mono ?_; rintro e w' ⟨rfl, rfl⟩) | (go_at_call 137; refine (rdig_any t.toNat _ _ ?_ h0 h1).mono ?_; omega; rintro e w' ⟨rfl, rfl⟩))
    go_ret
    exact ⟨ret_s H.out, rfl⟩
def RPar (l : List UInt8) (w : World) (e : Ending) (w' : World) : Prop := e = .returned (.tuple #[.int .i64 (parseV l), .int .i64 (parseE l)]) ∧ w = w'
theorem rparse_inf (s : ByteArray) (h : s.data.toList = infL) (w : World) :
    Calls Tryz.prog 131 #[.string s] w (RPar s.data.toList w) := by
  have hi := inf_t h
  have H : Hid (parseV s.data.toList = 4611686018427387904 ∧ parseE s.data.toList = 0) := Lib.hid (by rw [h]; exact parse_inf)
  clear h
  go_enter Tryz.func131, Tryz.ntmps131
  go_wp2_with fail
  go_ret2
  exact ⟨ret_2 H.out, rfl⟩
theorem rparse_nil (s : ByteArray) (h : s.size = 0) (w : World) :
    Calls Tryz.prog 131 #[.string s] w (RPar s.data.toList w) := by
  have hl : s.data.toList = [] := List.eq_nil_of_length_eq_zero (by rw [← Lib.size_eq]; exact h)
  have hi := inf_f (s := s) (by rw [hl]; decide)
  have H : Hid (parseV s.data.toList = 0 ∧ parseE s.data.toList = 7) := Lib.hid (by rw [hl]; exact ⟨by decide, by decide⟩)
  have h0 : ((s.size : Int) == 0) = true := eq_t (by omega)
  clear hl
  have h' : s.size ≤ 0 := by omega
  clear h
  go_enter Tryz.func131, Tryz.ntmps131
  go_wp2_with fail
  go_ret2
  exact ⟨ret_2 H.out, rfl⟩
theorem get_head (s : ByteArray) (h : 0 < s.size) : s.data.toList.head? = some s[0] := by
  rw [List.head?_eq_getElem?, List.getElem?_eq_getElem (by rw [← Lib.size_eq]; exact h)]; rfl
theorem rparse_zero (s : ByteArray) (hi0 : s.data.toList ≠ infL) (h : 1 < s.size) (hmx : s.size ≤ maxLen) (h48 : s[0].toNat = 48) (w : World) :
    Calls Tryz.prog 131 #[.string s] w (RPar s.data.toList w) := by
  have hi := inf_f hi0
  have H := Lib.hid (parse_no hi0 (not_canon_zero (by rw [← Lib.size_eq]; exact h) s[0] (get_head s (by omega)) h48))
  have h0 : ((s.size : Int) == 0) = false := eq_f (by omega)
  have hb : ((s[0].toNat : Int) == 48) = true := by simp; omega
  unfold maxLen at hmx
  clear hi0 h48
  go_enter Tryz.func131, Tryz.ntmps131
  go_wp2_with fail
  go_ret2
  exact ⟨ret_2 H.out, rfl⟩
set_option maxHeartbeats 2000000 in
theorem rparse_run (s : ByteArray) (hi0 : s.data.toList ≠ infL) (h : 0 < s.size) (hmx : s.size ≤ maxLen) (h48 : s.size = 1 ∨ s[0].toNat ≠ 48) (w : World) :
    Calls Tryz.prog 131 #[.string s] w (RPar s.data.toList w) := by
  have hi := inf_f hi0
  have h0 : ((s.size : Int) == 0) = false := eq_f (by omega)
  have HI0 := Lib.hid hi0
  have HCAN : Hid (allDig s.data.toList = true → canon s.data.toList = true) := Lib.hid (fun ha => canon_of (by intro e; have := Lib.size_eq s; rw [e] at this; have h2 : s.size = 0 := this; omega) ha (by
    rcases h48 with h48 | h48
    · left; rw [← Lib.size_eq]; exact h48
    · right; intro c hc; rw [get_head s h] at hc; injection hc with hc; subst hc; exact h48))
  have hdec : (s.size ≤ 1) ∨ (1 < s.size ∧ ((s[0].toNat : Int) == 48) = false) := by
    rcases h48 with h48 | h48
    · left; omega
    · by_cases h1 : s.size ≤ 1
      · left; exact h1
      · right; exact ⟨by omega, by simp; omega⟩
  unfold maxLen at hmx
  clear hi0 h48
  rcases hdec with hd | ⟨hd, hb⟩
  all_goals
    go_enter Tryz.func131, Tryz.ntmps131
    go_wp2_with fail
    go_loop [5] (fun i => ∃ k : Nat, k ≤ s.size ∧ i = .int .i64 k ∧ Hid (allDig (s.data.toList.take k) = true)) (fun i => s.size - (intOf i).toNat)
    case atStart => exact ⟨0, Nat.zero_le _, rfl, Lib.hid (by simp [allDig])⟩
    case round =>
      obtain ⟨k, hk, rfl, HD⟩ := hrel
      by_cases hlt : k < s.size
      · have HS := Lib.hid (take_snoc s k hlt)
        cases hdig : isDig s[k] with
        | true =>
          have hb : 48 ≤ s[k].toNat ∧ s[k].toNat ≤ 57 := by simpa [isDig] using hdig
          obtain ⟨hb1, hb2⟩ := hb
          have HDG := Lib.hid hdig
          clear hdig
          go_wp2_with fail
          go_round
          case rel => exact ⟨k + 1, by omega, by go_num, Lib.hid (by rw [HS.out, allDig_app, HD.out]; simp [allDig, HDG.out])⟩
          case measure => simp [intOf]; omega
        | false =>
          have hb : s[k].toNat < 48 ∨ 57 < s[k].toNat := by simp [isDig] at hdig; omega
          have H := Lib.hid (parse_no HI0.out (not_canon_dig (allDig_no (k := k) (by rw [← Lib.size_eq]; exact hlt) hdig)))
          clear hdig
          rcases hb with hb | hb
          all_goals
            go_wp2_with fail
            go_ret2
            exact ⟨ret_2 H.out, rfl⟩
      · have HA : Hid (allDig s.data.toList = true) := Lib.hid (by have := HD.out; rw [List.take_of_length_le (by rw [← Lib.size_eq]; omega)] at this; exact this)
        have HC := Lib.hid (HCAN.out HA.out)
        go_wp2_with fail
        go_loop [6, 4] (fun i n => ∃ k : Nat, k ≤ s.size ∧ i = .int .i64 k ∧ dval (s.data.toList.take k) ≤ 1099511627776 ∧ n = .int .i64 (dval (s.data.toList.take k))) (fun i _ => s.size - (intOf i).toNat)
        case atStart => exact ⟨0, Nat.zero_le _, rfl, by simp [dval, dfrom], by simp [dval, dfrom]⟩
        case round =>
          obtain ⟨j, hj, rfl, hdv, rfl⟩ := hrel
          by_cases hjl : j < s.size
          · have hdg : 48 ≤ s[j].toNat ∧ s[j].toNat ≤ 57 := by
              have this : isDig s[j] = true := List.all_eq_true.1 HA.out (s.data.toList[j]'(by rw [← Lib.size_eq]; exact hjl)) (List.getElem_mem _)
              simpa [isDig] using this
            obtain ⟨hb1, hb2⟩ := hdg
            have HS : Hid (dval (s.data.toList.take (j + 1)) = 10 * dval (s.data.toList.take j) + (s[j].toNat - 48)) := Lib.hid (by rw [take_snoc s j hjl, dval_snoc])
            by_cases hbig : 10 * dval (s.data.toList.take j) + (s[j].toNat - 48) ≤ 1099511627776
            · go_wp2_with fail
              go_round
              case rel => exact ⟨j + 1, by omega, by go_num, by rw [HS.out]; exact hbig, by rw [HS.out]; congr 1; omega⟩
              case measure => simp [intOf]; omega
            · have H := Lib.hid (parse_big HC.out (by have := dval_take_le s.data.toList (j + 1); rw [HS.out] at this; omega))
              go_wp2_with fail
              go_ret2
              exact ⟨ret_2 H.out, rfl⟩
          · have H := Lib.hid (parse_ok HC.out (by rw [List.take_of_length_le (by rw [← Lib.size_eq]; omega)] at hdv; exact hdv))
            have HT : Hid (s.data.toList.take j = s.data.toList) := Lib.hid (List.take_of_length_le (by rw [← Lib.size_eq]; omega))
            go_wp2_with fail
            go_ret2
            exact ⟨ret_2 (by rw [HT.out]; exact H.out), rfl⟩
theorem rparse_any (s : ByteArray) (hmx : s.size ≤ maxLen) (w : World) :
    Calls Tryz.prog 131 #[.string s] w (RPar s.data.toList w) := by
  by_cases hi : s.data.toList = infL
  · exact rparse_inf s hi w
  · by_cases h0 : s.size = 0
    · exact rparse_nil s h0 w
    · by_cases h1 : s.size = 1
      · exact rparse_run s hi (by omega) hmx (Or.inl h1) w
      · by_cases h48 : (s[0]'(by omega)).toNat = 48
        · exact rparse_zero s hi (by omega) hmx h48 w
        · exact rparse_run s hi (by omega) hmx (Or.inr h48) w
end Go.Proofs.YtcmlmfcnbmpajaaGreatDoor.Tk
