/- Plain facts on decimal numerals: which lists of bytes are numerals without a needless 0, what number they are, and that the numeral of that number is the list. Imports no program. -/
import Derived.Lib.ItoaNum
import Derived.Lib.ItoaMem
import Derived.Lib.AtoiTie
import Derived.Lib.ParseIntBTie
namespace Go.Proofs.YtgcphhialllieaaDoor.Tk
open Go.Lib

def isDig (c : UInt8) : Bool := decide (48 ≤ c.toNat ∧ c.toNat ≤ 57)
def allDig (l : List UInt8) : Bool := l.all isDig
def dfrom (acc : Nat) (l : List UInt8) : Nat := l.foldl (fun a c => 10 * a + (c.toNat - 48)) acc
def dval (l : List UInt8) : Nat := dfrom 0 l
/-- decimal digits, at least one, without a needless 0 ahead -/
def canon (l : List UInt8) : Bool := match l with
  | [] => false
  | [c] => isDig c
  | c :: d :: r => isDig c && (!(decide (c.toNat = 48)) && allDig (d :: r))

theorem dfrom_snoc (acc : Nat) (l : List UInt8) (c : UInt8) : dfrom acc (l ++ [c]) = 10 * dfrom acc l + (c.toNat - 48) := by simp [dfrom, List.foldl_append]
theorem dval_snoc (l : List UInt8) (c : UInt8) : dval (l ++ [c]) = 10 * dval l + (c.toNat - 48) := dfrom_snoc 0 l c
theorem dfrom_ge (l : List UInt8) : ∀ acc, acc ≤ dfrom acc l := by
  induction l with
  | nil => intro acc; exact Nat.le_refl _
  | cons c r ih => intro acc; exact Nat.le_trans (by omega) (ih (10 * acc + (c.toNat - 48)))
theorem dfrom_app (acc : Nat) (a b : List UInt8) : dfrom acc (a ++ b) = dfrom (dfrom acc a) b := by simp [dfrom, List.foldl_append]
theorem dval_app_ge (a b : List UInt8) : dval a ≤ dval (a ++ b) := by unfold dval; rw [dfrom_app]; exact dfrom_ge _ _
theorem dval_take_le (l : List UInt8) (k : Nat) : dval (l.take k) ≤ dval l := by
  have := dval_app_ge (l.take k) (l.drop k); rwa [List.take_append_drop] at this

theorem canon_all {l : List UInt8} (h : canon l = true) : allDig l = true := by
  match l, h with
  | [c], h => simpa [allDig, canon] using h
  | c :: d :: r, h => simp [canon] at h; simp [allDig] at *; exact ⟨h.1, h.2.2⟩
theorem canon_ne {l : List UInt8} (h : canon l = true) : l ≠ [] := by intro e; subst e; simp [canon] at h
theorem canon_of {l : List UInt8} (h0 : l ≠ []) (h1 : allDig l = true) (h2 : l.length = 1 ∨ ∀ c, l.head? = some c → c.toNat ≠ 48) : canon l = true := by
  match l, h0 with
  | [c], _ => simpa [allDig, canon] using h1
  | c :: d :: r, _ =>
    rcases h2 with h2 | h2
    · simp at h2
    · have := h2 c rfl
      simp [allDig] at h1
      simp [canon, allDig, this, h1]
      exact h1.2.2
theorem canon_head {l : List UInt8} (h : canon l = true) (hl : 1 < l.length) (c : UInt8) (hc : l.head? = some c) : c.toNat ≠ 48 := by
  match l, h, hl with
  | c' :: d :: r, h, _ => simp at hc; subst hc; simp [canon] at h; exact h.2.1
theorem not_canon_zero {l : List UInt8} (hl : 1 < l.length) (c : UInt8) (hc : l.head? = some c) (h48 : c.toNat = 48) : canon l = false := by
  cases h : canon l with
  | false => rfl
  | true => exact absurd h48 (canon_head h hl c hc)
theorem not_canon_dig {l : List UInt8} (h : allDig l = false) : canon l = false := by
  cases h' : canon l with
  | false => rfl
  | true => rw [canon_all h'] at h; cases h

theorem allDig_app (a b : List UInt8) : allDig (a ++ b) = (allDig a && allDig b) := by simp [allDig]

theorem u8_dig {d : Nat} (h : d < 10) : (UInt8.ofNat (48 + d)).toNat = 48 + d := by
  simp [UInt8.toNat_ofNat']; omega
theorem u8_back {c : UInt8} (h : isDig c = true) : UInt8.ofNat (48 + (c.toNat - 48)) = c := by
  simp [isDig] at h
  rw [show 48 + (c.toNat - 48) = c.toNat by omega]; simp

theorem dec_all (u : Nat) : allDig (decDigits u) = true := by
  induction u using Nat.strongRecOn with
  | _ u ih =>
    by_cases h : u < 10
    · rw [decDigits, dif_pos h]; simp only [allDig, isDig, List.all_cons, List.all_nil, u8_dig h]; simp; omega
    · rw [decDigits, dif_neg h, allDig_app, ih (u / 10) (by omega)]
      have h2 : u % 10 < 10 := by omega
      simp only [allDig, isDig, List.all_cons, List.all_nil, u8_dig h2]; simp; omega
theorem dec_ne (u : Nat) : decDigits u ≠ [] := by
  intro e; have := decDigits_length u; rw [e] at this; have := nDigits_pos u; simp at *; omega
theorem dval_dec (u : Nat) : dval (decDigits u) = u := by
  induction u using Nat.strongRecOn with
  | _ u ih =>
    by_cases h : u < 10
    · rw [decDigits, dif_pos h]; simp only [dval, dfrom, List.foldl_cons, List.foldl_nil, u8_dig h]; omega
    · rw [decDigits, dif_neg h, dval_snoc, ih (u / 10) (by omega), u8_dig (by omega)]; omega
theorem dec_head (u : Nat) (hu : 1 ≤ u) (c : UInt8) (hc : (decDigits u).head? = some c) : c.toNat ≠ 48 := by
  induction u using Nat.strongRecOn with
  | _ u ih =>
    by_cases h : u < 10
    · rw [decDigits, dif_pos h] at hc; simp only [List.head?_cons, Option.some.injEq] at hc; subst hc; rw [u8_dig h]; omega
    · rw [decDigits, dif_neg h] at hc
      refine ih (u / 10) (by omega) (by omega) ?_
      rw [List.head?_append] at hc
      cases hd : (decDigits (u / 10)).head? with
      | none => exact absurd (List.head?_eq_none_iff.1 hd) (dec_ne _)
      | some x => rw [hd] at hc; simpa using hc
theorem dec_canon (u : Nat) : canon (decDigits u) = true := by
  refine canon_of (dec_ne u) (dec_all u) ?_
  by_cases h : u < 10
  · left; rw [decDigits, dif_pos h]; rfl
  · right; exact dec_head u (by omega)
theorem dval_pos {l : List UInt8} (h : allDig l = true) (c : UInt8) (hc : l.head? = some c) (hn : c.toNat ≠ 48) : 1 ≤ dval l := by
  match l, hc with
  | x :: r, hc =>
    simp at hc; subst hc
    simp [allDig, isDig] at h
    have := dfrom_ge r (10 * 0 + (x.toNat - 48))
    unfold dval dfrom; simp only [List.foldl_cons]; unfold dfrom at this; omega
/-- a list is its last element behind the others -/
theorem snoc_cases (l : List UInt8) (h : l ≠ []) : ∃ r c, l = r ++ [c] := ⟨l.dropLast, l.getLast h, (List.dropLast_concat_getLast h).symm⟩
theorem canon_dec : ∀ (n : Nat) (l : List UInt8), l.length = n → canon l = true → decDigits (dval l) = l := by
  intro n
  induction n with
  | zero => intro l hl h; exact absurd (List.eq_nil_of_length_eq_zero hl) (canon_ne h)
  | succ n ih =>
    intro l hl h
    obtain ⟨r, c, rfl⟩ := snoc_cases l (canon_ne h)
    have ha := canon_all h
    rw [allDig_app] at ha
    simp only [Bool.and_eq_true] at ha
    have hcd : isDig c = true := by simpa [allDig] using ha.2
    have hc2 : 48 ≤ c.toNat ∧ c.toNat ≤ 57 := by simpa [isDig] using hcd
    rw [dval_snoc]
    by_cases hr : r = []
    · subst hr
      have hz : dval ([] : List UInt8) = 0 := rfl
      rw [hz, decDigits, dif_pos (by omega), Nat.mul_zero, Nat.zero_add, u8_back hcd]; rfl
    · have hrl : 1 ≤ r.length := by cases r with | nil => exact absurd rfl hr | cons _ _ => simp
      obtain ⟨x, hx⟩ : ∃ x, r.head? = some x := by cases r with | nil => exact absurd rfl hr | cons x _ => exact ⟨x, rfl⟩
      have hx48 : x.toNat ≠ 48 := canon_head h (by simp; omega) x (by rw [List.head?_append, hx]; rfl)
      have hrc : canon r = true := canon_of hr ha.1 (Or.inr (fun y hy => by rw [hx] at hy; cases hy; exact hx48))
      have hp := dval_pos ha.1 x hx hx48
      have hrn : r.length = n := by simp at hl; omega
      have hnot : ¬ 10 * dval r + (c.toNat - 48) < 10 := by omega
      rw [decDigits, dif_neg hnot, show (10 * dval r + (c.toNat - 48)) / 10 = dval r by omega, show (10 * dval r + (c.toNat - 48)) % 10 = c.toNat - 48 by omega, ih r hrn hrc, u8_back hcd]
theorem dec_dval {l : List UInt8} (h : canon l = true) : decDigits (dval l) = l := canon_dec _ l rfl h

theorem nDigits_le : ∀ (k u : Nat), u < 10 ^ (k + 1) → nDigits u ≤ k + 1
  | 0, u, h => by rw [nDigits_small (by simpa using h)]; omega
  | k + 1, u, h => by
    by_cases hs : u < 10
    · rw [nDigits_small hs]; omega
    · rw [nDigits_big hs]
      have := nDigits_le k (u / 10) (by rw [Nat.pow_succ] at h; omega)
      omega
theorem canon_big {l : List UInt8} (h : canon l = true) (hl : 13 < l.length) : 1099511627776 < dval l := by
  have e := decDigits_length (dval l)
  rw [dec_dval h] at e
  by_cases hd : dval l < 10 ^ (12 + 1)
  · have := nDigits_le 12 (dval l) hd; omega
  · have : (10 : Nat) ^ (12 + 1) = 10000000000000 := by decide
    omega

theorem decFrom_eq (l : List UInt8) : ∀ acc, decFrom acc l = if allDig l then some (dfrom acc l) else none := by
  induction l with
  | nil => intro acc; rfl
  | cons c r ih =>
    intro acc
    by_cases hd : isDig c = true
    · have hd2 : 48 ≤ c.toNat ∧ c.toNat ≤ 57 := by simpa [isDig] using hd
      simp only [decFrom, digitVal, if_pos hd2]
      rw [ih, Nat.mul_comm acc 10]
      simp [allDig, hd, dfrom]
    · have hd2 : ¬ (48 ≤ c.toNat ∧ c.toNat ≤ 57) := by simpa [isDig] using hd
      simp only [decFrom, digitVal, if_neg hd2]
      simp [allDig, hd]
theorem atoi_canon {l : List UInt8} (h : canon l = true) : atoi l = some (dval l : Int) := by
  have ha := canon_all h
  match l, canon_ne h with
  | b :: r, _ =>
    have hb : 48 ≤ b.toNat := by simp [allDig, isDig] at ha; exact ha.1.1
    have h1 : (b == 45) = false := by simp; intro e; subst e; simp at hb
    have h2 : (b == 43) = false := by simp; intro e; subst e; simp at hb
    simp [atoi, h1, h2, decNat, decFrom_eq, ha, dval]
theorem parse_head {l : List UInt8} (hl : l.length ≤ 14) : parseIntB 64 l = NumEnd.ofOption (atoi l) := by rw [parseIntB_64, atoiAll_short l (by omega)]
/-- a number that is written as l again: then l is such a numeral -/
theorem canon_of_itoa {l : List UInt8} {n : Int} (h0 : 0 ≤ n) (h : itoa n = l) : canon l = true ∧ n = (dval l : Int) := by
  obtain ⟨u, rfl⟩ := Int.eq_ofNat_of_zero_le h0
  rw [itoa_nonneg] at h; subst h
  exact ⟨dec_canon u, by rw [dval_dec]⟩
theorem itoa_canon {l : List UInt8} (h : canon l = true) : itoa (dval l : Int) = l := by rw [itoa_nonneg, dec_dval h]

theorem canon_cut {l : List UInt8} (hl : 14 < l.length) : canon l = (canon (l.take 14) && allDig (l.drop 14)) := by
  have hsp : l.take 14 ++ l.drop 14 = l := List.take_append_drop 14 l
  have htl : (l.take 14).length = 14 := by simp; omega
  have hh : (l.take 14).head? = l.head? := by rw [List.head?_take]; simp
  cases ha : allDig (l.drop 14) with
  | false =>
    rw [Bool.and_false]; apply not_canon_dig; rw [← hsp, allDig_app, ha, Bool.and_false]
  | true =>
    rw [Bool.and_true]
    cases hc : canon (l.take 14) with
    | true =>
      refine canon_of (by intro e; subst e; simp at hl) ?_ (Or.inr ?_)
      · rw [← hsp, allDig_app, canon_all hc, ha]; rfl
      · intro c hcc; exact canon_head hc (by omega) c (by rw [hh]; exact hcc)
    | false =>
      cases hc2 : canon l with
      | false => rfl
      | true =>
        exfalso
        have had := canon_all hc2
        rw [← hsp, allDig_app] at had
        simp only [Bool.and_eq_true] at had
        have : canon (l.take 14) = true := canon_of (by intro e; rw [e] at htl; simp at htl) had.1 (Or.inr (fun c hcc => canon_head hc2 (by omega) c (by rw [← hh]; exact hcc)))
        rw [this] at hc; cases hc

def infL : List UInt8 := [105, 110, 102]
theorem inf_not_canon : canon infL = false := by decide
/-- what Text tells -/
def textL (t : Int) : List UInt8 := if t = 4611686018427387904 then infL else if 0 ≤ t ∧ t ≤ 1099511627776 then decDigits t.toNat else []
/-- what Parse answers: its number and its error -/
def parseV (l : List UInt8) : Int := if l = infL then 4611686018427387904 else if canon l = true ∧ dval l ≤ 1099511627776 then (dval l : Int) else 0
def parseE (l : List UInt8) : Int := if l = infL then 0 else if canon l = true then (if dval l ≤ 1099511627776 then 0 else 9) else 7

theorem parse_inf : parseV infL = 4611686018427387904 ∧ parseE infL = 0 := by simp [parseV, parseE]
theorem parse_no {l : List UInt8} (h0 : l ≠ infL) (h : canon l = false) : parseV l = 0 ∧ parseE l = 7 := by simp [parseV, parseE, h0, h]
theorem parse_big {l : List UInt8} (h : canon l = true) (hb : ¬ dval l ≤ 1099511627776) : parseV l = 0 ∧ parseE l = 9 := by
  have h0 : l ≠ infL := by intro e; subst e; rw [inf_not_canon] at h; cases h
  simp [parseV, parseE, h0, h, hb]
theorem parse_ok {l : List UInt8} (h : canon l = true) (hb : dval l ≤ 1099511627776) : parseV l = (dval l : Int) ∧ parseE l = 0 := by
  have h0 : l ≠ infL := by intro e; subst e; rw [inf_not_canon] at h; cases h
  simp [parseV, parseE, h0, h, hb]
theorem text_inf : textL 4611686018427387904 = infL := by simp [textL]
theorem text_fin {t : Int} (h : 0 ≤ t ∧ t ≤ 1099511627776) : textL t = decDigits t.toNat := by
  have : t ≠ 4611686018427387904 := by omega
  simp [textL, h, this]
theorem text_no {t : Int} (h : ¬ (t = 4611686018427387904 ∨ (0 ≤ t ∧ t ≤ 1099511627776))) : textL t = [] := by
  unfold textL; rw [if_neg (fun e => h (Or.inl e)), if_neg (fun e => h (Or.inr e))]
/-- Parse of Text is the tick. -/
theorem parse_text {t : Int} (h : t = 4611686018427387904 ∨ (0 ≤ t ∧ t ≤ 1099511627776)) : parseV (textL t) = t ∧ parseE (textL t) = 0 := by
  rcases h with rfl | h
  · rw [text_inf]; exact parse_inf
  · rw [text_fin h]
    have hv := dval_dec t.toNat
    have := parse_ok (dec_canon t.toNat) (by rw [hv]; omega)
    rw [hv] at this
    exact ⟨by rw [this.1]; omega, this.2⟩
/-- No other text is: what Parse reads, Text tells. -/
theorem text_parse (l : List UInt8) : (parseE l = 0 ∧ (parseV l = 4611686018427387904 ∨ (0 ≤ parseV l ∧ parseV l ≤ 1099511627776)) ∧ textL (parseV l) = l) ∨ (parseV l = 0 ∧ (parseE l = 7 ∨ parseE l = 9)) := by
  by_cases hi : l = infL
  · subst hi; left; rw [parse_inf.1, parse_inf.2]; exact ⟨rfl, Or.inl rfl, text_inf⟩
  · cases hc : canon l with
    | false => right; have := parse_no hi hc; exact ⟨this.1, Or.inl this.2⟩
    | true =>
      by_cases hb : dval l ≤ 1099511627776
      · left
        have := parse_ok hc hb
        rw [this.1, this.2]
        have hr : 0 ≤ (dval l : Int) ∧ (dval l : Int) ≤ 1099511627776 := by omega
        exact ⟨rfl, Or.inr hr, by rw [text_fin hr, Int.toNat_natCast, dec_dval hc]⟩
      · right; have := parse_big hc hb; exact ⟨this.1, Or.inr this.2⟩
end Go.Proofs.YtgcphhialllieaaDoor.Tk
