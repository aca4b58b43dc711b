/- Plain facts on decimal numerals: which lists of bytes are numerals without a needless 0, what number they are, and that the numeral of that number is the list. Imports no program. · Plain facts on how a text is cut into tokens: what the document's words say, as a function on lists of bytes, one token at a time, and how it goes on step by step. Imports no program. · Plain facts on cutting texts: a line's end between two texts; lines counted farther on; which rows of tokens come; the text of such a row is cut into the like. Imports no program. · Plain facts on how a row of tokens is read as a timetable, line by line: what the document's words say, as functions on lists of tokens. Imports no program. · Plain facts: which rows of tokens come out of a text; what is cut of a token's bytes. Imports no program. -/
import Derived.Lib.ItoaNum
import Derived.Lib.ItoaMem
import Derived.Lib.AtoiTie
import Derived.Lib.ParseIntBTie
namespace Go.Proofs.Ytceamidobdfhbaa.Tk
open Go.Lib

def isDig (c : UInt8) : Bool := decide (48 ≤ c.toNat ∧ c.toNat ≤ 57)
def allDig (l : List UInt8) : Bool := l.all isDig
def dfrom (acc : Nat) (l : List UInt8) : Nat := l.foldl (fun a c => 10 * a + (c.toNat - 48)) acc
def dval (l : List UInt8) : Nat := dfrom 0 l
/-- decimal digits, at least one, without a needless 0 ahead -/
def canon (l : List UInt8) : Bool := match l with
  | [] => false
  | [c] => isDig c
  | c :: d :: r => isDig c && (!(decide (c.toNat = 48)) && allDig (d :: r))

theorem dfrom_snoc (acc : Nat) (l : List UInt8) (c : UInt8) : dfrom acc (l ++ [c]) = 10 * dfrom acc l + (c.toNat - 48) := by simp [dfrom, List.foldl_append]
theorem dval_snoc (l : List UInt8) (c : UInt8) : dval (l ++ [c]) = 10 * dval l + (c.toNat - 48) := dfrom_snoc 0 l c
theorem dfrom_ge (l : List UInt8) : ∀ acc, acc ≤ dfrom acc l := by
  induction l with
  | nil => intro acc; exact Nat.le_refl _
  | cons c r ih => intro acc; exact Nat.le_trans (by omega) (ih (10 * acc + (c.toNat - 48)))
theorem dfrom_app (acc : Nat) (a b : List UInt8) : dfrom acc (a ++ b) = dfrom (dfrom acc a) b := by simp [dfrom, List.foldl_append]
theorem dval_app_ge (a b : List UInt8) : dval a ≤ dval (a ++ b) := by unfold dval; rw [dfrom_app]; exact dfrom_ge _ _
theorem dval_take_le (l : List UInt8) (k : Nat) : dval (l.take k) ≤ dval l := by
  have := dval_app_ge (l.take k) (l.drop k); rwa [List.take_append_drop] at this

theorem canon_all {l : List UInt8} (h : canon l = true) : allDig l = true := by
  match l, h with
  | [c], h => simpa [allDig, canon] using h
  | c :: d :: r, h => simp [canon] at h; simp [allDig] at *; exact ⟨h.1, h.2.2⟩
theorem canon_ne {l : List UInt8} (h : canon l = true) : l ≠ [] := by intro e; subst e; simp [canon] at h
theorem canon_of {l : List UInt8} (h0 : l ≠ []) (h1 : allDig l = true) (h2 : l.length = 1 ∨ ∀ c, l.head? = some c → c.toNat ≠ 48) : canon l = true := by
  match l, h0 with
  | [c], _ => simpa [allDig, canon] using h1
  | c :: d :: r, _ =>
    rcases h2 with h2 | h2
    · simp at h2
    · have := h2 c rfl
      simp [allDig] at h1
      simp [canon, allDig, this, h1]
      exact h1.2.2
theorem canon_head {l : List UInt8} (h : canon l = true) (hl : 1 < l.length) (c : UInt8) (hc : l.head? = some c) : c.toNat ≠ 48 := by
  match l, h, hl with
  | c' :: d :: r, h, _ => simp at hc; subst hc; simp [canon] at h; exact h.2.1
theorem not_canon_zero {l : List UInt8} (hl : 1 < l.length) (c : UInt8) (hc : l.head? = some c) (h48 : c.toNat = 48) : canon l = false := by
  cases h : canon l with
  | false => rfl
  | true => exact absurd h48 (canon_head h hl c hc)
theorem not_canon_dig {l : List UInt8} (h : allDig l = false) : canon l = false := by
  cases h' : canon l with
  | false => rfl
  | true => rw [canon_all h'] at h; cases h

theorem allDig_app (a b : List UInt8) : allDig (a ++ b) = (allDig a && allDig b) := by simp [allDig]

theorem u8_dig {d : Nat} (h : d < 10) : (UInt8.ofNat (48 + d)).toNat = 48 + d := by
  simp [UInt8.toNat_ofNat']; omega
theorem u8_back {c : UInt8} (h : isDig c = true) : UInt8.ofNat (48 + (c.toNat - 48)) = c := by
  simp [isDig] at h
  rw [show 48 + (c.toNat - 48) = c.toNat by omega]; simp

theorem dec_all (u : Nat) : allDig (decDigits u) = true := by
  induction u using Nat.strongRecOn with
  | _ u ih =>
    by_cases h : u < 10
    · rw [decDigits, dif_pos h]; simp only [allDig, isDig, List.all_cons, List.all_nil, u8_dig h]; simp; omega
    · rw [decDigits, dif_neg h, allDig_app, ih (u / 10) (by omega)]
      have h2 : u % 10 < 10 := by omega
      simp only [allDig, isDig, List.all_cons, List.all_nil, u8_dig h2]; simp; omega
theorem dec_ne (u : Nat) : decDigits u ≠ [] := by
  intro e; have := decDigits_length u; rw [e] at this; have := nDigits_pos u; simp at *; omega
theorem dval_dec (u : Nat) : dval (decDigits u) = u := by
  induction u using Nat.strongRecOn with
  | _ u ih =>
    by_cases h : u < 10
    · rw [decDigits, dif_pos h]; simp only [dval, dfrom, List.foldl_cons, List.foldl_nil, u8_dig h]; omega
    · rw [decDigits, dif_neg h, dval_snoc, ih (u / 10) (by omega), u8_dig (by omega)]; omega
theorem dec_head (u : Nat) (hu : 1 ≤ u) (c : UInt8) (hc : (decDigits u).head? = some c) : c.toNat ≠ 48 := by
  induction u using Nat.strongRecOn with
  | _ u ih =>
    by_cases h : u < 10
    · rw [decDigits, dif_pos h] at hc; simp only [List.head?_cons, Option.some.injEq] at hc; subst hc; rw [u8_dig h]; omega
    · rw [decDigits, dif_neg h] at hc
      refine ih (u / 10) (by omega) (by omega) ?_
      rw [List.head?_append] at hc
      cases hd : (decDigits (u / 10)).head? with
      | none => exact absurd (List.head?_eq_none_iff.1 hd) (dec_ne _)
      | some x => rw [hd] at hc; simpa using hc
theorem dec_canon (u : Nat) : canon (decDigits u) = true := by
  refine canon_of (dec_ne u) (dec_all u) ?_
  by_cases h : u < 10
  · left; rw [decDigits, dif_pos h]; rfl
  · right; exact dec_head u (by omega)
theorem dval_pos {l : List UInt8} (h : allDig l = true) (c : UInt8) (hc : l.head? = some c) (hn : c.toNat ≠ 48) : 1 ≤ dval l := by
  match l, hc with
  | x :: r, hc =>
    simp at hc; subst hc
    simp [allDig, isDig] at h
    have := dfrom_ge r (10 * 0 + (x.toNat - 48))
    unfold dval dfrom; simp only [List.foldl_cons]; unfold dfrom at this; omega
/-- a list is its last element behind the others -/
theorem snoc_cases (l : List UInt8) (h : l ≠ []) : ∃ r c, l = r ++ [c] := ⟨l.dropLast, l.getLast h, (List.dropLast_concat_getLast h).symm⟩
theorem canon_dec : ∀ (n : Nat) (l : List UInt8), l.length = n → canon l = true → decDigits (dval l) = l := by
  intro n
  induction n with
  | zero => intro l hl h; exact absurd (List.eq_nil_of_length_eq_zero hl) (canon_ne h)
  | succ n ih =>
    intro l hl h
    obtain ⟨r, c, rfl⟩ := snoc_cases l (canon_ne h)
    have ha := canon_all h
    rw [allDig_app] at ha
    simp only [Bool.and_eq_true] at ha
    have hcd : isDig c = true := by simpa [allDig] using ha.2
    have hc2 : 48 ≤ c.toNat ∧ c.toNat ≤ 57 := by simpa [isDig] using hcd
    rw [dval_snoc]
    by_cases hr : r = []
    · subst hr
      have hz : dval ([] : List UInt8) = 0 := rfl
      rw [hz, decDigits, dif_pos (by omega), Nat.mul_zero, Nat.zero_add, u8_back hcd]; rfl
    · have hrl : 1 ≤ r.length := by cases r with | nil => exact absurd rfl hr | cons _ _ => simp
      obtain ⟨x, hx⟩ : ∃ x, r.head? = some x := by cases r with | nil => exact absurd rfl hr | cons x _ => exact ⟨x, rfl⟩
      have hx48 : x.toNat ≠ 48 := canon_head h (by simp; omega) x (by rw [List.head?_append, hx]; rfl)
      have hrc : canon r = true := canon_of hr ha.1 (Or.inr (fun y hy => by rw [hx] at hy; cases hy; exact hx48))
      have hp := dval_pos ha.1 x hx hx48
      have hrn : r.length = n := by simp at hl; omega
      have hnot : ¬ 10 * dval r + (c.toNat - 48) < 10 := by omega
      rw [decDigits, dif_neg hnot, show (10 * dval r + (c.toNat - 48)) / 10 = dval r by omega, show (10 * dval r + (c.toNat - 48)) % 10 = c.toNat - 48 by omega, ih r hrn hrc, u8_back hcd]
theorem dec_dval {l : List UInt8} (h : canon l = true) : decDigits (dval l) = l := canon_dec _ l rfl h

theorem nDigits_le : ∀ (k u : Nat), u < 10 ^ (k + 1) → nDigits u ≤ k + 1
  | 0, u, h => by rw [nDigits_small (by simpa using h)]; omega
  | k + 1, u, h => by
    by_cases hs : u < 10
    · rw [nDigits_small hs]; omega
    · rw [nDigits_big hs]
      have := nDigits_le k (u / 10) (by rw [Nat.pow_succ] at h; omega)
      omega
theorem canon_big {l : List UInt8} (h : canon l = true) (hl : 13 < l.length) : 1099511627776 < dval l := by
  have e := decDigits_length (dval l)
  rw [dec_dval h] at e
  by_cases hd : dval l < 10 ^ (12 + 1)
  · have := nDigits_le 12 (dval l) hd; omega
  · have : (10 : Nat) ^ (12 + 1) = 10000000000000 := by decide
    omega

theorem decFrom_eq (l : List UInt8) : ∀ acc, decFrom acc l = if allDig l then some (dfrom acc l) else none := by
  induction l with
  | nil => intro acc; rfl
  | cons c r ih =>
    intro acc
    by_cases hd : isDig c = true
    · have hd2 : 48 ≤ c.toNat ∧ c.toNat ≤ 57 := by simpa [isDig] using hd
      simp only [decFrom, digitVal, if_pos hd2]
      rw [ih, Nat.mul_comm acc 10]
      simp [allDig, hd, dfrom]
    · have hd2 : ¬ (48 ≤ c.toNat ∧ c.toNat ≤ 57) := by simpa [isDig] using hd
      simp only [decFrom, digitVal, if_neg hd2]
      simp [allDig, hd]
theorem atoi_canon {l : List UInt8} (h : canon l = true) : atoi l = some (dval l : Int) := by
  have ha := canon_all h
  match l, canon_ne h with
  | b :: r, _ =>
    have hb : 48 ≤ b.toNat := by simp [allDig, isDig] at ha; exact ha.1.1
    have h1 : (b == 45) = false := by simp; intro e; subst e; simp at hb
    have h2 : (b == 43) = false := by simp; intro e; subst e; simp at hb
    simp [atoi, h1, h2, decNat, decFrom_eq, ha, dval]
theorem parse_head {l : List UInt8} (hl : l.length ≤ 14) : parseIntB 64 l = NumEnd.ofOption (atoi l) := by rw [parseIntB_64, atoiAll_short l (by omega)]
/-- a number that is written as l again: then l is such a numeral -/
theorem canon_of_itoa {l : List UInt8} {n : Int} (h0 : 0 ≤ n) (h : itoa n = l) : canon l = true ∧ n = (dval l : Int) := by
  obtain ⟨u, rfl⟩ := Int.eq_ofNat_of_zero_le h0
  rw [itoa_nonneg] at h; subst h
  exact ⟨dec_canon u, by rw [dval_dec]⟩
theorem itoa_canon {l : List UInt8} (h : canon l = true) : itoa (dval l : Int) = l := by rw [itoa_nonneg, dec_dval h]

theorem canon_cut {l : List UInt8} (hl : 14 < l.length) : canon l = (canon (l.take 14) && allDig (l.drop 14)) := by
  have hsp : l.take 14 ++ l.drop 14 = l := List.take_append_drop 14 l
  have htl : (l.take 14).length = 14 := by simp; omega
  have hh : (l.take 14).head? = l.head? := by rw [List.head?_take]; simp
  cases ha : allDig (l.drop 14) with
  | false =>
    rw [Bool.and_false]; apply not_canon_dig; rw [← hsp, allDig_app, ha, Bool.and_false]
  | true =>
    rw [Bool.and_true]
    cases hc : canon (l.take 14) with
    | true =>
      refine canon_of (by intro e; subst e; simp at hl) ?_ (Or.inr ?_)
      · rw [← hsp, allDig_app, canon_all hc, ha]; rfl
      · intro c hcc; exact canon_head hc (by omega) c (by rw [hh]; exact hcc)
    | false =>
      cases hc2 : canon l with
      | false => rfl
      | true =>
        exfalso
        have had := canon_all hc2
        rw [← hsp, allDig_app] at had
        simp only [Bool.and_eq_true] at had
        have : canon (l.take 14) = true := canon_of (by intro e; rw [e] at htl; simp at htl) had.1 (Or.inr (fun c hcc => canon_head hc2 (by omega) c (by rw [← hh]; exact hcc)))
        rw [this] at hc; cases hc

def infL : List UInt8 := [105, 110, 102]
theorem inf_not_canon : canon infL = false := by decide
/-- what Text tells -/
def textL (t : Int) : List UInt8 := if t = 4611686018427387904 then infL else if 0 ≤ t ∧ t ≤ 1099511627776 then decDigits t.toNat else []
/-- what Parse answers: its number and its error -/
def parseV (l : List UInt8) : Int := if l = infL then 4611686018427387904 else if canon l = true ∧ dval l ≤ 1099511627776 then (dval l : Int) else 0
def parseE (l : List UInt8) : Int := if l = infL then 0 else if canon l = true then (if dval l ≤ 1099511627776 then 0 else 9) else 7

theorem parse_inf : parseV infL = 4611686018427387904 ∧ parseE infL = 0 := by simp [parseV, parseE]
theorem parse_no {l : List UInt8} (h0 : l ≠ infL) (h : canon l = false) : parseV l = 0 ∧ parseE l = 7 := by simp [parseV, parseE, h0, h]
theorem parse_big {l : List UInt8} (h : canon l = true) (hb : ¬ dval l ≤ 1099511627776) : parseV l = 0 ∧ parseE l = 9 := by
  have h0 : l ≠ infL := by intro e; subst e; rw [inf_not_canon] at h; cases h
  simp [parseV, parseE, h0, h, hb]
theorem parse_ok {l : List UInt8} (h : canon l = true) (hb : dval l ≤ 1099511627776) : parseV l = (dval l : Int) ∧ parseE l = 0 := by
  have h0 : l ≠ infL := by intro e; subst e; rw [inf_not_canon] at h; cases h
  simp [parseV, parseE, h0, h, hb]
theorem text_inf : textL 4611686018427387904 = infL := by simp [textL]
theorem text_fin {t : Int} (h : 0 ≤ t ∧ t ≤ 1099511627776) : textL t = decDigits t.toNat := by
  have : t ≠ 4611686018427387904 := by omega
  simp [textL, h, this]
theorem text_no {t : Int} (h : ¬ (t = 4611686018427387904 ∨ (0 ≤ t ∧ t ≤ 1099511627776))) : textL t = [] := by
  unfold textL; rw [if_neg (fun e => h (Or.inl e)), if_neg (fun e => h (Or.inr e))]
/-- Parse of Text is the tick. -/
theorem parse_text {t : Int} (h : t = 4611686018427387904 ∨ (0 ≤ t ∧ t ≤ 1099511627776)) : parseV (textL t) = t ∧ parseE (textL t) = 0 := by
  rcases h with rfl | h
  · rw [text_inf]; exact parse_inf
  · rw [text_fin h]
    have hv := dval_dec t.toNat
    have := parse_ok (dec_canon t.toNat) (by rw [hv]; omega)
    rw [hv] at this
    exact ⟨by rw [this.1]; omega, this.2⟩
/-- No other text is: what Parse reads, Text tells. -/
theorem text_parse (l : List UInt8) : (parseE l = 0 ∧ (parseV l = 4611686018427387904 ∨ (0 ≤ parseV l ∧ parseV l ≤ 1099511627776)) ∧ textL (parseV l) = l) ∨ (parseV l = 0 ∧ (parseE l = 7 ∨ parseE l = 9)) := by
  by_cases hi : l = infL
  · subst hi; left; rw [parse_inf.1, parse_inf.2]; exact ⟨rfl, Or.inl rfl, text_inf⟩
  · cases hc : canon l with
    | false => right; have := parse_no hi hc; exact ⟨this.1, Or.inl this.2⟩
    | true =>
      by_cases hb : dval l ≤ 1099511627776
      · left
        have := parse_ok hc hb
        rw [this.1, this.2]
        have hr : 0 ≤ (dval l : Int) ∧ (dval l : Int) ≤ 1099511627776 := by omega
        exact ⟨rfl, Or.inr hr, by rw [text_fin hr, Int.toNat_natCast, dec_dval hc]⟩
      · right; have := parse_big hc hb; exact ⟨this.1, Or.inr this.2⟩
end Go.Proofs.Ytceamidobdfhbaa.Tk
namespace Go.Proofs.Ytceamidobdfhbaa.Lx
open Tk

structure Tok where
  kind : Int
  text : List UInt8
  num : Int
  line : Int
  col : Int

/-- the kinds of bytes -/
def kindOf (c : UInt8) : Nat :=
  if c.toNat = 32 ∨ c.toNat = 9 then 2 else if c.toNat = 10 then 3 else if c.toNat = 35 then 4
  else if 97 ≤ c.toNat ∧ c.toNat ≤ 122 then 5 else if 48 ≤ c.toNat ∧ c.toNat ≤ 57 then 6 else if c.toNat = 45 ∨ c.toNat = 95 then 7 else 0
def isBl (c : UInt8) : Bool := kindOf c == 2
def isMore (c : UInt8) : Bool := kindOf c == 5 || kindOf c == 6 || kindOf c == 7
def inLine (c : UInt8) : Bool := !(kindOf c == 3)
/-- the kind of what comes next; 1: nothing -/
def nextK : List UInt8 → Nat
  | [] => 1
  | c :: _ => kindOf c

def reservedL : List (List UInt8) := [[104, 111, 114, 105, 122, 111, 110], [115, 116, 111, 112], [112, 97, 116, 104], [100, 111, 111, 114], [114, 111, 117, 116, 101], [116, 114, 105, 112], [104, 97, 122, 97, 114, 100], [102, 114, 111, 109], [101, 118, 101, 114, 121], [111, 112, 101, 110], [99, 108, 111, 115, 101, 100], [111, 102], [111, 110], [117, 110, 116, 105, 108], [115, 116, 97, 121]]
def isRes (s : List UInt8) : Bool := reservedL.contains s

def endT (line col : Nat) : Tok := ⟨4, [], 0, line, col⟩
def wordT (w : List UInt8) (line col : Nat) : Tok := ⟨if isRes w then 2 else 1, w, 0, line, col⟩
def numT (d : List UInt8) (line col : Nat) : Tok := ⟨3, d, dval d, line, col⟩

inductive Res
  | bad (e line col : Nat)
  | ok (l : List Tok)
def Res.cons (t : Tok) : Res → Res
  | .bad e l c => .bad e l c
  | .ok l => .ok (t :: l)
def Res.glue (a : List Tok) : Res → Res
  | .bad e l c => .bad e l c
  | .ok l => .ok (a ++ l)

def lexF : Nat → List UInt8 → Nat → Nat → Bool → Res
  | _, [], line, col, sm => .ok (if sm then [endT line col] else [])
  | 0, _ :: _, _, _, _ => .ok []
  | n + 1, c :: r, line, col, sm =>
    if kindOf c = 3 then (if sm then (lexF n r (line + 1) 1 false).cons (endT line col) else lexF n r (line + 1) 1 false)
    else if kindOf c = 2 then lexF n r line (col + 1) sm
    else if kindOf c = 4 then lexF n (r.dropWhile inLine) line (col + 1 + (r.takeWhile inLine).length) sm
    else if kindOf c = 5 then
      (if 24 < ((c :: r).takeWhile isMore).length then .bad 3 line col
       else (lexF n ((c :: r).dropWhile isMore) line (col + ((c :: r).takeWhile isMore).length) true).cons (wordT ((c :: r).takeWhile isMore) line col))
    else if kindOf c = 6 then
      (if canon ((c :: r).takeWhile isDig) = false then .bad 7 line col
       else if 1099511627776 < dval ((c :: r).takeWhile isDig) then .bad 3 line col
       else if nextK ((c :: r).dropWhile isDig) = 5 ∨ nextK ((c :: r).dropWhile isDig) = 7 then .bad 7 line (col + ((c :: r).takeWhile isDig).length)
       else (lexF n ((c :: r).dropWhile isDig) line (col + ((c :: r).takeWhile isDig).length) true).cons (numT ((c :: r).takeWhile isDig) line col))
    else .bad 7 line col
def lex (bs : List UInt8) (line col : Nat) (sm : Bool) : Res := lexF bs.length bs line col sm

theorem isDig_kind (c : UInt8) : isDig c = (kindOf c == 6) := by
  unfold isDig kindOf
  split <;> rename_i h1
  · simp; omega
  · split <;> rename_i h2
    · simp; omega
    · split <;> rename_i h3
      · simp; omega
      · split <;> rename_i h4
        · simp; omega
        · split <;> rename_i h5
          · simp; omega
          · split <;> simp <;> omega
theorem dropWhile_le {p : UInt8 → Bool} (l : List UInt8) : (l.dropWhile p).length ≤ l.length := (List.dropWhile_suffix p).length_le
theorem dropWhile_lt {p : UInt8 → Bool} (c : UInt8) (r : List UInt8) (h : p c = true) : ((c :: r).dropWhile p).length ≤ r.length := by
  rw [List.dropWhile_cons_of_pos h]; exact dropWhile_le r
theorem more_let {c : UInt8} (h : kindOf c = 5) : isMore c = true := by simp [isMore, h]
theorem dig_num {c : UInt8} (h : kindOf c = 6) : isDig c = true := by rw [isDig_kind, h]; rfl

theorem lexF_eq : ∀ (n m : Nat) (bs : List UInt8) (line col : Nat) (sm : Bool), bs.length ≤ n → bs.length ≤ m → lexF n bs line col sm = lexF m bs line col sm := by
  intro n
  induction n with
  | zero =>
    intro m bs line col sm h hm
    cases bs with
    | nil => cases m <;> rfl
    | cons c r => simp at h
  | succ n ih =>
    intro m bs line col sm h hm
    cases bs with
    | nil => cases m <;> rfl
    | cons c r =>
      obtain ⟨m, rfl⟩ : ∃ k, m = k + 1 := ⟨m - 1, by simp at hm; omega⟩
      have hr : r.length ≤ n := by simpa using h
      have hr' : r.length ≤ m := by simpa using hm
      have hc : ∀ (q : List UInt8) (l k : Nat) (s : Bool), q.length ≤ r.length → lexF n q l k s = lexF m q l k s := fun q l k s hq => ih m q l k s (by omega) (by omega)
      simp only [lexF]
      by_cases h3 : kindOf c = 3
      · simp only [if_pos h3]; rw [hc _ _ _ _ (Nat.le_refl _)]
      · simp only [if_neg h3]
        by_cases h2 : kindOf c = 2
        · simp only [if_pos h2]; rw [hc _ _ _ _ (Nat.le_refl _)]
        · simp only [if_neg h2]
          by_cases h4 : kindOf c = 4
          · simp only [if_pos h4]; rw [hc _ _ _ _ (dropWhile_le _)]
          · simp only [if_neg h4]
            by_cases h5 : kindOf c = 5
            · simp only [if_pos h5]; rw [hc _ _ _ _ (dropWhile_lt c r (more_let h5))]
            · simp only [if_neg h5]
              by_cases h6 : kindOf c = 6
              · simp only [if_pos h6]; rw [hc _ _ _ _ (dropWhile_lt c r (dig_num h6))]
              · simp only [if_neg h6]

theorem lexF_lex {n : Nat} {bs : List UInt8} (line col : Nat) (sm : Bool) (h : bs.length ≤ n) : lexF n bs line col sm = lex bs line col sm := lexF_eq n bs.length bs line col sm h (Nat.le_refl _)
theorem lex_nil (line col : Nat) (sm : Bool) : lex [] line col sm = .ok (if sm then [endT line col] else []) := rfl
theorem lex_nl {c : UInt8} (h : kindOf c = 3) (r : List UInt8) (line col : Nat) (sm : Bool) : lex (c :: r) line col sm = if sm then (lex r (line + 1) 1 false).cons (endT line col) else lex r (line + 1) 1 false := by
  show lexF (r.length + 1) (c :: r) line col sm = _
  simp only [lexF, if_pos h]; rfl
theorem lex_bl {c : UInt8} (h : kindOf c = 2) (r : List UInt8) (line col : Nat) (sm : Bool) : lex (c :: r) line col sm = lex r line (col + 1) sm := by
  show lexF (r.length + 1) (c :: r) line col sm = _
  simp only [lexF]
  rw [if_neg (by omega), if_pos h]; rfl
theorem lex_hash {c : UInt8} (h : kindOf c = 4) (r : List UInt8) (line col : Nat) (sm : Bool) : lex (c :: r) line col sm = lex (r.dropWhile inLine) line (col + 1 + (r.takeWhile inLine).length) sm := by
  show lexF (r.length + 1) (c :: r) line col sm = _
  simp only [lexF]
  rw [if_neg (by omega), if_neg (by omega), if_pos h]
  exact lexF_lex _ _ _ (dropWhile_le _)
theorem lex_let {c : UInt8} (h : kindOf c = 5) (r : List UInt8) (line col : Nat) (sm : Bool) : lex (c :: r) line col sm =
    if 24 < ((c :: r).takeWhile isMore).length then .bad 3 line col
    else (lex ((c :: r).dropWhile isMore) line (col + ((c :: r).takeWhile isMore).length) true).cons (wordT ((c :: r).takeWhile isMore) line col) := by
  show lexF (r.length + 1) (c :: r) line col sm = _
  simp only [lexF]
  rw [if_neg (by omega), if_neg (by omega), if_neg (by omega), if_pos h, lexF_lex _ _ _ (dropWhile_lt c r (more_let h))]
theorem lex_dig {c : UInt8} (h : kindOf c = 6) (r : List UInt8) (line col : Nat) (sm : Bool) : lex (c :: r) line col sm =
    if canon ((c :: r).takeWhile isDig) = false then .bad 7 line col
    else if 1099511627776 < dval ((c :: r).takeWhile isDig) then .bad 3 line col
    else if nextK ((c :: r).dropWhile isDig) = 5 ∨ nextK ((c :: r).dropWhile isDig) = 7 then .bad 7 line (col + ((c :: r).takeWhile isDig).length)
    else (lex ((c :: r).dropWhile isDig) line (col + ((c :: r).takeWhile isDig).length) true).cons (numT ((c :: r).takeWhile isDig) line col) := by
  show lexF (r.length + 1) (c :: r) line col sm = _
  simp only [lexF]
  rw [if_neg (by omega), if_neg (by omega), if_neg (by omega), if_neg (by omega), if_pos h, lexF_lex _ _ _ (dropWhile_lt c r (dig_num h))]
theorem lex_bad {bs : List UInt8} (h : nextK bs = 0 ∨ nextK bs = 7) (line col : Nat) (sm : Bool) : lex bs line col sm = .bad 7 line col := by
  cases bs with
  | nil => simp [nextK] at h
  | cons c r =>
    simp only [nextK] at h
    show lexF (r.length + 1) (c :: r) line col sm = _
    simp only [lexF]
    rw [if_neg (by omega), if_neg (by omega), if_neg (by omega), if_neg (by omega), if_neg (by omega)]

theorem lex_blanks (bs : List UInt8) : ∀ (line col : Nat) (sm : Bool), lex bs line col sm = lex (bs.dropWhile isBl) line (col + (bs.takeWhile isBl).length) sm := by
  induction bs with
  | nil => intro line col sm; rfl
  | cons c r ih =>
    intro line col sm
    by_cases h : kindOf c = 2
    · have hb : isBl c = true := by simp [isBl, h]
      rw [lex_bl h, ih, List.dropWhile_cons_of_pos hb, List.takeWhile_cons_of_pos hb, List.length_cons]
      congr 1; omega
    · have hb : ¬ isBl c = true := by simp [isBl, h]
      rw [List.dropWhile_cons_of_neg hb, List.takeWhile_cons_of_neg hb]; rfl
theorem lex_remark {bs : List UInt8} (h : nextK bs = 4) (line col : Nat) (sm : Bool) : lex bs line col sm = lex (bs.dropWhile inLine) line (col + (bs.takeWhile inLine).length) sm := by
  cases bs with
  | nil => simp [nextK] at h
  | cons c r =>
    simp only [nextK] at h
    have hb : inLine c = true := by simp [inLine, h]
    rw [lex_hash h, List.dropWhile_cons_of_pos hb, List.takeWhile_cons_of_pos hb, List.length_cons]
    congr 1; omega
theorem lex_word {bs : List UInt8} (h : nextK bs = 5) (line col : Nat) (sm : Bool) : lex bs line col sm =
    if 24 < (bs.takeWhile isMore).length then .bad 3 line col
    else (lex (bs.dropWhile isMore) line (col + (bs.takeWhile isMore).length) true).cons (wordT (bs.takeWhile isMore) line col) := by
  cases bs with
  | nil => simp [nextK] at h
  | cons c r => exact lex_let h r line col sm
theorem lex_num {bs : List UInt8} (h : nextK bs = 6) (line col : Nat) (sm : Bool) : lex bs line col sm =
    if canon (bs.takeWhile isDig) = false then .bad 7 line col
    else if 1099511627776 < dval (bs.takeWhile isDig) then .bad 3 line col
    else if nextK (bs.dropWhile isDig) = 5 ∨ nextK (bs.dropWhile isDig) = 7 then .bad 7 line (col + (bs.takeWhile isDig).length)
    else (lex (bs.dropWhile isDig) line (col + (bs.takeWhile isDig).length) true).cons (numT (bs.takeWhile isDig) line col) := by
  cases bs with
  | nil => simp [nextK] at h
  | cons c r => exact lex_dig h r line col sm

/-- is there a token in the line already? -/
def someT (l : List Tok) : Bool := match l.getLast? with
  | none => false
  | Option.some t => !(t.kind == 4)
theorem someT_nil : someT [] = false := rfl
theorem someT_snoc (l : List Tok) (t : Tok) : someT (l ++ [t]) = !(t.kind == 4) := by simp [someT]
theorem glue_cons (a : List Tok) (t : Tok) (r : Res) : Res.glue a (r.cons t) = Res.glue (a ++ [t]) r := by cases r <;> simp [Res.glue, Res.cons]
theorem glue_nil (r : Res) : Res.glue [] r = r := by cases r <;> rfl
/-- what it all comes to, if there is so much of it yet -/
def out (bs : List UInt8) (line col : Nat) (toks : List Tok) : Res := Res.glue toks (lex bs line col (someT toks))
theorem out_start (bs : List UInt8) : out bs 1 1 [] = lex bs 1 1 false := by rw [out, someT_nil, glue_nil]
theorem out_blanks (bs : List UInt8) (line col : Nat) (toks : List Tok) : out bs line col toks = out (bs.dropWhile isBl) line (col + (bs.takeWhile isBl).length) toks := by
  unfold out; rw [lex_blanks]
theorem out_remark {bs : List UInt8} (h : nextK bs = 4) (line col : Nat) (toks : List Tok) : out bs line col toks = out (bs.dropWhile inLine) line (col + (bs.takeWhile inLine).length) toks := by
  unfold out; rw [lex_remark h]
theorem wordT_kind (w : List UInt8) (line col : Nat) : ((wordT w line col).kind == 4) = false := by
  unfold wordT; by_cases h : isRes w = true <;> simp [h]
theorem out_word {bs : List UInt8} (h : nextK bs = 5) (h24 : (bs.takeWhile isMore).length ≤ 24) (line col : Nat) (toks : List Tok) :
    out bs line col toks = out (bs.dropWhile isMore) line (col + (bs.takeWhile isMore).length) (toks ++ [wordT (bs.takeWhile isMore) line col]) := by
  unfold out
  rw [lex_word h, if_neg (by omega), glue_cons, someT_snoc, wordT_kind]; rfl
theorem out_long {bs : List UInt8} (h : nextK bs = 5) (h24 : 24 < (bs.takeWhile isMore).length) (line col : Nat) (toks : List Tok) : out bs line col toks = .bad 3 line col := by
  unfold out; rw [lex_word h, if_pos h24]; rfl
theorem out_num {bs : List UInt8} (h : nextK bs = 6) (hc : canon (bs.takeWhile isDig) = true) (hd : dval (bs.takeWhile isDig) ≤ 1099511627776) (hn : ¬ (nextK (bs.dropWhile isDig) = 5 ∨ nextK (bs.dropWhile isDig) = 7)) (line col : Nat) (toks : List Tok) :
    out bs line col toks = out (bs.dropWhile isDig) line (col + (bs.takeWhile isDig).length) (toks ++ [numT (bs.takeWhile isDig) line col]) := by
  unfold out
  rw [lex_num h, if_neg (by simp [hc]), if_neg (by omega), if_neg hn, glue_cons, someT_snoc]; rfl
theorem out_num_text {bs : List UInt8} (h : nextK bs = 6) (hc : canon (bs.takeWhile isDig) = false) (line col : Nat) (toks : List Tok) : out bs line col toks = .bad 7 line col := by
  unfold out; rw [lex_num h, if_pos hc]; rfl
theorem out_num_big {bs : List UInt8} (h : nextK bs = 6) (hc : canon (bs.takeWhile isDig) = true) (hd : 1099511627776 < dval (bs.takeWhile isDig)) (line col : Nat) (toks : List Tok) : out bs line col toks = .bad 3 line col := by
  unfold out; rw [lex_num h, if_neg (by simp [hc]), if_pos hd]; rfl
theorem out_num_behind {bs : List UInt8} (h : nextK bs = 6) (hc : canon (bs.takeWhile isDig) = true) (hd : dval (bs.takeWhile isDig) ≤ 1099511627776) (hn : nextK (bs.dropWhile isDig) = 5 ∨ nextK (bs.dropWhile isDig) = 7) (line col : Nat) (toks : List Tok) :
    out bs line col toks = .bad 7 line (col + (bs.takeWhile isDig).length) := by
  unfold out; rw [lex_num h, if_neg (by simp [hc]), if_neg (by omega), if_pos hn]; rfl
theorem out_bad {bs : List UInt8} (h : nextK bs = 0 ∨ nextK bs = 7) (line col : Nat) (toks : List Tok) : out bs line col toks = .bad 7 line col := by
  unfold out; rw [lex_bad h]; rfl
theorem out_over (line col : Nat) (toks : List Tok) : out [] line col toks = .ok (if someT toks then toks ++ [endT line col] else toks) := by
  unfold out; rw [lex_nil]; cases someT toks <;> simp [Res.glue]
theorem out_nl {c : UInt8} (h : kindOf c = 3) (r : List UInt8) (line col : Nat) (toks : List Tok) :
    out (c :: r) line col toks = out r (line + 1) 1 (if someT toks then toks ++ [endT line col] else toks) := by
  unfold out; rw [lex_nl h]
  cases hs : someT toks with
  | false => simp [hs]
  | true => simp only [if_true, glue_cons, someT_snoc]; rfl
end Go.Proofs.Ytceamidobdfhbaa.Lx
namespace Go.Proofs.Ytceamidobdfhbaa.Lx
open Tk

theorem lex_induct {P : List UInt8 → Prop} (nil : P []) (nl : ∀ c r, kindOf c = 3 → P r → P (c :: r)) (bl : ∀ c r, kindOf c = 2 → P r → P (c :: r))
    (hash : ∀ c r, kindOf c = 4 → P (r.dropWhile inLine) → P (c :: r)) (word : ∀ c r, kindOf c = 5 → P ((c :: r).dropWhile isMore) → P (c :: r))
    (num : ∀ c r, kindOf c = 6 → P ((c :: r).dropWhile isDig) → P (c :: r)) (bad : ∀ c r, (kindOf c = 0 ∨ kindOf c = 7) → P (c :: r)) : ∀ bs, P bs := by
  have key : ∀ n bs, bs.length ≤ n → P bs := by
    intro n
    induction n with
    | zero =>
      intro bs h
      cases bs with
      | nil => exact nil
      | cons c r => simp at h
    | succ n ih =>
      intro bs h
      cases bs with
      | nil => exact nil
      | cons c r =>
        have hr : r.length ≤ n := by simpa using h
        have hk : kindOf c = 0 ∨ kindOf c = 2 ∨ kindOf c = 3 ∨ kindOf c = 4 ∨ kindOf c = 5 ∨ kindOf c = 6 ∨ kindOf c = 7 := by
          unfold kindOf; split <;> (try omega); split <;> (try omega); split <;> (try omega); split <;> (try omega); split <;> (try omega); split <;> omega
        rcases hk with h0 | h2 | h3 | h4 | h5 | h6 | h7
        · exact bad c r (.inl h0)
        · exact bl c r h2 (ih r hr)
        · exact nl c r h3 (ih r hr)
        · exact hash c r h4 (ih _ (Nat.le_trans (dropWhile_le _) hr))
        · exact word c r h5 (ih _ (Nat.le_trans (dropWhile_lt c r (more_let h5)) hr))
        · exact num c r h6 (ih _ (Nat.le_trans (dropWhile_lt c r (dig_num h6)) hr))
        · exact bad c r (.inr h7)
  exact fun bs => key _ bs (Nat.le_refl _)

/-- no byte of that kind comes next -/
def stops (p : UInt8 → Bool) : List UInt8 → Prop
  | [] => True
  | c :: _ => p c = false
theorem tw_app {p : UInt8 → Bool} (a : List UInt8) {b : List UInt8} (hb : stops p b) : (a ++ b).takeWhile p = a.takeWhile p := by
  induction a with
  | nil =>
    cases b with
    | nil => rfl
    | cons c r => rw [List.nil_append, List.takeWhile_cons_of_neg (by simpa [stops] using hb)]; rfl
  | cons c r ih =>
    by_cases hc : p c = true
    · rw [List.cons_append, List.takeWhile_cons_of_pos hc, List.takeWhile_cons_of_pos hc, ih]
    · rw [List.cons_append, List.takeWhile_cons_of_neg hc, List.takeWhile_cons_of_neg hc]
theorem dw_app {p : UInt8 → Bool} (a : List UInt8) {b : List UInt8} (hb : stops p b) : (a ++ b).dropWhile p = a.dropWhile p ++ b := by
  induction a with
  | nil =>
    cases b with
    | nil => rfl
    | cons c r => rw [List.nil_append, List.dropWhile_cons_of_neg (by simpa [stops] using hb)]; rfl
  | cons c r ih =>
    by_cases hc : p c = true
    · rw [List.cons_append, List.dropWhile_cons_of_pos hc, List.dropWhile_cons_of_pos hc, ih]
    · rw [List.cons_append, List.dropWhile_cons_of_neg hc, List.dropWhile_cons_of_neg hc]; rfl
theorem k10 : kindOf 10 = 3 := by decide
theorem stops_more (t : List UInt8) : stops isMore (10 :: t) := by simp [stops, isMore, k10]
theorem stops_dig (t : List UInt8) : stops isDig (10 :: t) := by simp [stops, isDig_kind, k10]
theorem stops_in (t : List UInt8) : stops inLine (10 :: t) := by simp [stops, inLine, k10]

/-- how many lines' ends -/
def nls (bs : List UInt8) : Nat := bs.countP (fun c => kindOf c == 3)
theorem nls_cons (c : UInt8) (r : List UInt8) : nls (c :: r) = nls r + if kindOf c = 3 then 1 else 0 := by
  unfold nls; rw [List.countP_cons]; by_cases h : kindOf c = 3 <;> simp [h]
theorem nls_dw {p : UInt8 → Bool} (hp : ∀ c, p c = true → kindOf c ≠ 3) (l : List UInt8) : nls (l.dropWhile p) = nls l := by
  induction l with
  | nil => rfl
  | cons c r ih =>
    by_cases hc : p c = true
    · rw [List.dropWhile_cons_of_pos hc, ih, nls_cons, if_neg (hp c hc)]; rfl
    · rw [List.dropWhile_cons_of_neg hc]
theorem in_ne (c : UInt8) (h : inLine c = true) : kindOf c ≠ 3 := by simpa [inLine] using h
theorem more_ne (c : UInt8) (h : isMore c = true) : kindOf c ≠ 3 := by intro e; simp [isMore, e] at h
theorem dig_ne (c : UInt8) (h : isDig c = true) : kindOf c ≠ 3 := by intro e; simp [isDig_kind, e] at h

def Res.app : Res → Res → Res
  | .bad e l c, _ => .bad e l c
  | .ok _, .bad e l c => .bad e l c
  | .ok a, .ok b => .ok (a ++ b)
theorem cons_app (t : Tok) (a b : Res) : (a.cons t).app b = (a.app b).cons t := by cases a <;> cases b <;> rfl
theorem nil_app (b : Res) : (Res.ok []).app b = b := by cases b <;> rfl
theorem one_app (t : Tok) (b : Res) : (Res.ok [t]).app b = b.cons t := by cases b <;> rfl
/-- a line's end between two texts -/
theorem lex_app (t : List UInt8) : ∀ bs (line col : Nat) (sm : Bool), lex (bs ++ 10 :: t) line col sm = (lex bs line col sm).app (lex t (line + nls bs + 1) 1 false) := by
  intro bs
  induction bs using lex_induct with
  | nil =>
    intro line col sm
    rw [List.nil_append, lex_nl k10, lex_nil]
    cases sm with
    | true => rw [if_pos rfl, if_pos rfl, one_app]; rfl
    | false => rw [if_neg (by decide), if_neg (by decide), nil_app]; rfl
  | nl c r h ih =>
    intro line col sm
    rw [List.cons_append, lex_nl h, lex_nl h, ih, nls_cons, if_pos h]
    have e : line + 1 + nls r + 1 = line + (nls r + 1) + 1 := by omega
    rw [e]
    cases sm with
    | true => rw [if_pos rfl, if_pos rfl, cons_app]
    | false => rw [if_neg (by decide), if_neg (by decide)]
  | bl c r h ih =>
    intro line col sm
    rw [List.cons_append, lex_bl h, lex_bl h, ih, nls_cons, if_neg (by omega)]; rfl
  | hash c r h ih =>
    intro line col sm
    rw [List.cons_append, lex_hash h, lex_hash h, tw_app r (stops_in t), dw_app r (stops_in t), ih, nls_cons, if_neg (by omega), nls_dw in_ne]; rfl
  | word c r h ih =>
    intro line col sm
    rw [List.cons_append, lex_let h, lex_let h, ← List.cons_append, tw_app (c :: r) (stops_more t), dw_app (c :: r) (stops_more t), ih, nls_dw more_ne]
    by_cases h24 : 24 < ((c :: r).takeWhile isMore).length
    · rw [if_pos h24, if_pos h24]; rfl
    · rw [if_neg h24, if_neg h24, cons_app]
  | num c r h ih =>
    intro line col sm
    rw [List.cons_append, lex_dig h, lex_dig h, ← List.cons_append, tw_app (c :: r) (stops_dig t), dw_app (c :: r) (stops_dig t), ih, nls_dw dig_ne]
    have hn : (nextK ((c :: r).dropWhile isDig ++ 10 :: t) = 5 ∨ nextK ((c :: r).dropWhile isDig ++ 10 :: t) = 7) ↔ (nextK ((c :: r).dropWhile isDig) = 5 ∨ nextK ((c :: r).dropWhile isDig) = 7) := by
      cases (c :: r).dropWhile isDig with
      | nil => simp [nextK, k10]
      | cons a b => rfl
    by_cases h1 : canon ((c :: r).takeWhile isDig) = false
    · rw [if_pos h1, if_pos h1]; rfl
    · rw [if_neg h1, if_neg h1]
      by_cases h2 : 1099511627776 < dval ((c :: r).takeWhile isDig)
      · rw [if_pos h2, if_pos h2]; rfl
      · rw [if_neg h2, if_neg h2]
        by_cases h3 : nextK ((c :: r).dropWhile isDig) = 5 ∨ nextK ((c :: r).dropWhile isDig) = 7
        · rw [if_pos (hn.2 h3), if_pos h3]; rfl
        · rw [if_neg (fun h => h3 (hn.1 h)), if_neg h3, cons_app]
  | bad c r h =>
    intro line col sm
    rw [lex_bad (bs := c :: r ++ 10 :: t) h, lex_bad (bs := c :: r) h]; rfl

def moveT (k : Nat) (t : Tok) : Tok := ⟨t.kind, t.text, t.num, t.line + k, t.col⟩
def Res.move (k : Nat) : Res → Res
  | .bad e l c => .bad e (l + k) c
  | .ok l => .ok (l.map (moveT k))
theorem cons_move (k : Nat) (t : Tok) (r : Res) : (r.cons t).move k = (r.move k).cons (moveT k t) := by cases r <;> rfl
/-- so many lines farther on -/
theorem lex_move (k : Nat) : ∀ bs (line col : Nat) (sm : Bool), lex bs (line + k) col sm = (lex bs line col sm).move k := by
  intro bs
  have hcomm : ∀ line : Nat, line + k + 1 = line + 1 + k := fun line => by omega
  have hend : ∀ line col, moveT k (endT line col) = endT (line + k) col := fun line col => by simp [moveT, endT]
  have hw : ∀ w line col, moveT k (wordT w line col) = wordT w (line + k) col := fun w line col => by simp [moveT, wordT]
  have hd : ∀ w line col, moveT k (numT w line col) = numT w (line + k) col := fun w line col => by simp [moveT, numT]
  induction bs using lex_induct with
  | nil =>
    intro line col sm
    rw [lex_nil, lex_nil]
    cases sm <;> simp [Res.move, hend]
  | nl c r h ih =>
    intro line col sm
    rw [lex_nl h, lex_nl h, hcomm, ih]
    cases sm with
    | true => rw [if_pos rfl, if_pos rfl, cons_move, hend]
    | false => rw [if_neg (by decide), if_neg (by decide)]
  | bl c r h ih => intro line col sm; rw [lex_bl h, lex_bl h, ih]
  | hash c r h ih => intro line col sm; rw [lex_hash h, lex_hash h, ih]
  | word c r h ih =>
    intro line col sm
    rw [lex_let h, lex_let h, ih]
    by_cases h24 : 24 < ((c :: r).takeWhile isMore).length
    · rw [if_pos h24, if_pos h24]; rfl
    · rw [if_neg h24, if_neg h24, cons_move, hw]
  | num c r h ih =>
    intro line col sm
    rw [lex_dig h, lex_dig h, ih]
    split
    · rfl
    · split
      · rfl
      · split
        · rfl
        · rw [cons_move, hd]
  | bad c r h => intro line col sm; rw [lex_bad (bs := c :: r) h, lex_bad (bs := c :: r) h]; rfl

/-- a text, a line's end, another text -/
theorem lex_two (s t : List UInt8) : lex (s ++ 10 :: t) 1 1 false = (lex s 1 1 false).app ((lex t 1 1 false).move (nls s + 1)) := by
  rw [lex_app, ← lex_move]
  have e : 1 + nls s + 1 = 1 + (nls s + 1) := by omega
  rw [e]
end Go.Proofs.Ytceamidobdfhbaa.Lx
namespace Go.Proofs.Ytceamidobdfhbaa.Sh
open Lx

structure PathM where
  name : List UInt8
  a : List UInt8
  b : List UInt8
  len : Int
structure TimesM where
  frm : Int
  every : Int
  len : Int
structure DoorM where
  name : List UInt8
  a : List UInt8
  b : List UInt8
  len : Int
  times : TimesM
structure RouteM where
  name : List UInt8
  stops : List (List UInt8)
  rides : List Int
  stays : List Int
structure TripM where
  name : List UInt8
  route : List UInt8
  frm : Int
  every : Int
  til : Int
structure HazM where
  name : List UInt8
  at_ : List UInt8
  times : TimesM
structure SheetM where
  horizon : Int
  stops : List (List UInt8)
  paths : List PathM
  doors : List DoorM
  routes : List RouteM
  trips : List TripM
  hazards : List HazM

/-- what comes of reading: a fault, or what is read and the tokens behind it -/
inductive PR (α : Type)
  | bad (e l c : Int)
  | ok (a : α) (r : List Tok)
def PR.bind {α β : Type} : PR α → (α → List Tok → PR β) → PR β
  | .bad e l c, _ => .bad e l c
  | .ok a r, f => f a r
theorem bind_bad {α β : Type} (e l c : Int) (f : α → List Tok → PR β) : (PR.bad e l c).bind f = .bad e l c := rfl
theorem bind_ok {α β : Type} (a : α) (r : List Tok) (f : α → List Tok → PR β) : (PR.ok a r).bind f = f a r := rfl

def kHorizon : List UInt8 := [104, 111, 114, 105, 122, 111, 110]
def kStop : List UInt8 := [115, 116, 111, 112]
def kPath : List UInt8 := [112, 97, 116, 104]
def kDoor : List UInt8 := [100, 111, 111, 114]
def kRoute : List UInt8 := [114, 111, 117, 116, 101]
def kTrip : List UInt8 := [116, 114, 105, 112]
def kHazard : List UInt8 := [104, 97, 122, 97, 114, 100]
def kFrom : List UInt8 := [102, 114, 111, 109]
def kEvery : List UInt8 := [101, 118, 101, 114, 121]
def kOpen : List UInt8 := [111, 112, 101, 110]
def kClosed : List UInt8 := [99, 108, 111, 115, 101, 100]
def kOf : List UInt8 := [111, 102]
def kOn : List UInt8 := [111, 110]
def kUntil : List UInt8 := [117, 110, 116, 105, 108]
def kStay : List UInt8 := [115, 116, 97, 121]

def takeM (k : Int) : List Tok → PR Tok
  | [] => .bad 0 0 0
  | t :: r => if t.kind = k then .ok t r else .bad 7 t.line t.col
def nameM (ts : List Tok) : PR (List UInt8) := (takeM 1 ts).bind fun t r => .ok t.text r
def numM (ts : List Tok) : PR Int := (takeM 3 ts).bind fun t r => .ok t.num r
def keyM (k : List UInt8) (ts : List Tok) : PR Unit := (takeM 2 ts).bind fun t r => if t.text = k then .ok () r else .bad 7 t.line t.col
def behindM (k : List UInt8) (ts : List Tok) : PR Int := (keyM k ts).bind fun _ r => numM r
def nameBehindM (k : List UInt8) (ts : List Tok) : PR (List UInt8) := (keyM k ts).bind fun _ r => nameM r
def timesM (k : List UInt8) (ts : List Tok) : PR TimesM :=
  (behindM kFrom ts).bind fun f r => (behindM kEvery r).bind fun e r => (behindM k r).bind fun l r => .ok ⟨f, e, l⟩ r
def headKind : List Tok → Int
  | [] => 0
  | t :: _ => t.kind
def stayM (ts : List Tok) : PR Int := if headKind ts = 2 then behindM kStay ts else .ok 0 ts
def endM (n most : Nat) (first : Tok) (ts : List Tok) : PR Unit :=
  (takeM 4 ts).bind fun _ r => if most ≤ n then .bad 3 first.line first.col else .ok () r

def horizonL (x : SheetM) (ts : List Tok) : PR SheetM := (numM ts).bind fun n r => (takeM 4 r).bind fun _ r => .ok { x with horizon := n } r
def stopL (x : SheetM) (first : Tok) (ts : List Tok) : PR SheetM :=
  (nameM ts).bind fun n r => (endM x.stops.length 256 first r).bind fun _ r => .ok { x with stops := x.stops ++ [n] } r
def pathT (ts : List Tok) : PR PathM :=
  (nameM ts).bind fun n r => (nameM r).bind fun a r => (nameM r).bind fun b r => (numM r).bind fun l r => .ok ⟨n, a, b, l⟩ r
def pathL (x : SheetM) (first : Tok) (ts : List Tok) : PR SheetM :=
  (pathT ts).bind fun p r => (endM x.paths.length 1024 first r).bind fun _ r => .ok { x with paths := x.paths ++ [p] } r
def doorT (ts : List Tok) : PR DoorM :=
  (nameM ts).bind fun n r => (nameM r).bind fun a r => (nameM r).bind fun b r => (numM r).bind fun l r => (timesM kOpen r).bind fun t r => .ok ⟨n, a, b, l, t⟩ r
def doorL (x : SheetM) (first : Tok) (ts : List Tok) : PR SheetM :=
  (doorT ts).bind fun p r => (endM x.doors.length 256 first r).bind fun _ r => .ok { x with doors := x.doors ++ [p] } r
def tripT (ts : List Tok) : PR TripM :=
  (nameM ts).bind fun n r => (nameBehindM kOf r).bind fun o r => (behindM kFrom r).bind fun f r => (behindM kEvery r).bind fun e r => (behindM kUntil r).bind fun u r => .ok ⟨n, o, f, e, u⟩ r
def tripL (x : SheetM) (first : Tok) (ts : List Tok) : PR SheetM :=
  (tripT ts).bind fun p r => (endM x.trips.length 1024 first r).bind fun _ r => .ok { x with trips := x.trips ++ [p] } r
def hazT (ts : List Tok) : PR HazM :=
  (nameM ts).bind fun n r => (nameBehindM kOn r).bind fun o r => (timesM kClosed r).bind fun t r => .ok ⟨n, o, t⟩ r
def hazL (x : SheetM) (first : Tok) (ts : List Tok) : PR SheetM :=
  (hazT ts).bind fun p r => (endM x.hazards.length 256 first r).bind fun _ r => .ok { x with hazards := x.hazards ++ [p] } r

structure Legs where
  stops : List Tok
  rides : List Int
  stays : List Int
def legsF : Nat → List Tok → Legs → PR Legs
  | 0, _, _ => .bad 0 0 0
  | n + 1, ts, g => (numM ts).bind fun d r => (takeM 1 r).bind fun t r =>
      if headKind r = 4 then .ok ⟨g.stops ++ [t], g.rides ++ [d], g.stays⟩ r
      else (stayM r).bind fun s r => legsF n r ⟨g.stops ++ [t], g.rides ++ [d], g.stays ++ [s]⟩
def legsM (ts : List Tok) (g : Legs) : PR Legs := legsF (ts.length + 1) ts g
def routeT (ts : List Tok) : PR (List UInt8 × Legs) :=
  (nameM ts).bind fun n r => (takeM 1 r).bind fun t r => (legsM r ⟨[t], [], []⟩).bind fun g r => .ok (n, g) r
def routeOf (n : List UInt8) (g : Legs) : RouteM := ⟨n, g.stops.map (·.text), g.rides, g.stays⟩
def overLeg (g : Legs) (x : SheetM) (r : List Tok) : PR SheetM :=
  match g.stops[32]? with
  | none => .ok x r
  | some t => .bad 3 t.line t.col
def routeL (x : SheetM) (first : Tok) (ts : List Tok) : PR SheetM :=
  (routeT ts).bind fun p r => (endM x.routes.length 256 first r).bind fun _ r => overLeg p.2 { x with routes := x.routes ++ [routeOf p.1 p.2] } r

/-- a line, of which first is the first token -/
def stepM (isFirst : Bool) (x : SheetM) (first : Tok) (r : List Tok) : PR SheetM :=
  if first.text = kHorizon then (if isFirst then horizonL x r else .bad 7 first.line first.col)
  else if isFirst then .bad 7 first.line first.col
  else if first.text = kStop then stopL x first r
  else if first.text = kPath then pathL x first r
  else if first.text = kDoor then doorL x first r
  else if first.text = kRoute then routeL x first r
  else if first.text = kTrip then tripL x first r
  else if first.text = kHazard then hazL x first r
  else .bad 7 first.line first.col
def runF : Nat → Bool → SheetM → List Tok → PR SheetM
  | _, _, x, [] => .ok x []
  | 0, _, _, _ :: _ => .bad 0 0 0
  | n + 1, f, x, t :: r => (stepM f x t r).bind fun x' r' => runF n false x' r'
def emptyM : SheetM := ⟨0, [], [], [], [], [], []⟩
def parseM (ts : List Tok) : PR SheetM := if ts = [] then .bad 7 1 1 else runF ts.length true emptyM ts

/-- rows of tokens that end with a line's end -/
def EndL (ts : List Tok) : Prop := ∃ t, ts.getLast? = some t ∧ t.kind = 4
theorem EndL.ne {ts : List Tok} (h : EndL ts) : ts ≠ [] := by rintro rfl; obtain ⟨t, h, _⟩ := h; simp at h
theorem EndL.tail {t : Tok} {r : List Tok} (h : EndL (t :: r)) (hk : t.kind ≠ 4) : EndL r := by
  obtain ⟨u, hu, h4⟩ := h
  cases r with
  | nil => simp at hu; subst hu; exact absurd h4 hk
  | cons a b => exact ⟨u, by simpa [List.getLast?_cons_cons] using hu, h4⟩
theorem EndL.cons {ts : List Tok} (h : EndL ts) : ∃ t r, ts = t :: r := by
  cases ts with
  | nil => exact absurd rfl h.ne
  | cons t r => exact ⟨t, r, rfl⟩
theorem EndL.drop {ts : List Tok} (h : EndL ts) (n : Nat) : ts.drop n = [] ∨ EndL (ts.drop n) := by
  rcases Nat.lt_or_ge n ts.length with hl | hl
  · right
    obtain ⟨t, h1, h2⟩ := h
    refine ⟨t, ?_, h2⟩
    rw [List.getLast?_drop, if_neg (by omega), h1]
  · left; exact List.drop_eq_nil_of_le hl

theorem bind_eq_ok {α β : Type} {p : PR α} {f : α → List Tok → PR β} {b : β} {q : List Tok} (h : p.bind f = .ok b q) : ∃ a r, p = .ok a r ∧ f a r = .ok b q := by
  cases p with
  | bad e l c => cases h
  | ok a r => exact ⟨a, r, rfl, h⟩
theorem take_ok {k : Int} {ts : List Tok} {t : Tok} {r : List Tok} (h : takeM k ts = .ok t r) : ts = t :: r ∧ t.kind = k := by
  cases ts with
  | nil => cases h
  | cons u s =>
    simp only [takeM] at h
    by_cases hk : u.kind = k
    · rw [if_pos hk] at h; injection h with h1 h2; subst h1; subst h2; exact ⟨rfl, hk⟩
    · rw [if_neg hk] at h; cases h
/-- what this reads is not the line's end -/
def Keeps {α : Type} (p : List Tok → PR α) : Prop := ∀ ts a r, EndL ts → p ts = .ok a r → EndL r ∧ r.length ≤ ts.length
theorem keeps_take {k : Int} (hk : k ≠ 4) : Keeps (takeM k) := by
  intro ts t r he h
  obtain ⟨rfl, h2⟩ := take_ok h
  exact ⟨he.tail (by rw [h2]; exact hk), by simp⟩
theorem keeps_bind {α β : Type} {p : List Tok → PR α} {f : α → List Tok → PR β} (hp : Keeps p) (hf : ∀ a, Keeps (f a)) : Keeps (fun ts => (p ts).bind f) := by
  intro ts b q he h
  obtain ⟨a, r, h1, h2⟩ := bind_eq_ok h
  have k1 := hp _ _ _ he h1
  have k2 := hf a _ _ _ k1.1 h2
  exact ⟨k2.1, Nat.le_trans k2.2 k1.2⟩
theorem keeps_pure {α : Type} (a : α) : Keeps (fun r => PR.ok a r) := by
  intro ts b r he h
  injection h with h1 h2; subst h2; exact ⟨he, Nat.le_refl _⟩
theorem keeps_name : Keeps nameM := keeps_bind (keeps_take (by decide)) fun t => keeps_pure _
theorem keeps_num : Keeps numM := keeps_bind (keeps_take (by decide)) fun t => keeps_pure _
theorem keeps_key (k : List UInt8) : Keeps (keyM k) := keeps_bind (keeps_take (by decide)) fun t => by
  intro ts b r he h
  split at h
  · injection h with h1 h2; subst h2; exact ⟨he, Nat.le_refl _⟩
  · cases h
theorem keeps_behind (k : List UInt8) : Keeps (behindM k) := keeps_bind (keeps_key k) fun _ => keeps_num
theorem keeps_nameBehind (k : List UInt8) : Keeps (nameBehindM k) := keeps_bind (keeps_key k) fun _ => keeps_name
theorem keeps_times (k : List UInt8) : Keeps (timesM k) := keeps_bind (keeps_behind _) fun _ => keeps_bind (keeps_behind _) fun _ => keeps_bind (keeps_behind _) fun _ => keeps_pure _
theorem keeps_stay : Keeps stayM := by
  intro ts a r he h
  unfold stayM at h
  split at h
  · exact keeps_behind _ _ _ _ he h
  · injection h with h1 h2; subst h2; exact ⟨he, Nat.le_refl _⟩
theorem keeps_path : Keeps pathT := keeps_bind keeps_name fun _ => keeps_bind keeps_name fun _ => keeps_bind keeps_name fun _ => keeps_bind keeps_num fun _ => keeps_pure _
theorem keeps_door : Keeps doorT := keeps_bind keeps_name fun _ => keeps_bind keeps_name fun _ => keeps_bind keeps_name fun _ => keeps_bind keeps_num fun _ => keeps_bind (keeps_times _) fun _ => keeps_pure _
theorem keeps_trip : Keeps tripT := keeps_bind keeps_name fun _ => keeps_bind (keeps_nameBehind _) fun _ => keeps_bind (keeps_behind _) fun _ => keeps_bind (keeps_behind _) fun _ => keeps_bind (keeps_behind _) fun _ => keeps_pure _
theorem keeps_haz : Keeps hazT := keeps_bind keeps_name fun _ => keeps_bind (keeps_nameBehind _) fun _ => keeps_bind (keeps_times _) fun _ => keeps_pure _
theorem num_lt {ts r : List Tok} {n : Int} (h : numM ts = .ok n r) : r.length < ts.length := by
  obtain ⟨t, r', h1, h2⟩ := bind_eq_ok h
  injection h2 with _ h2; subst h2
  rw [(take_ok h1).1]; simp
theorem legsF_eq : ∀ (n m : Nat) (ts : List Tok) (g : Legs), EndL ts → ts.length < n → ts.length < m → legsF n ts g = legsF m ts g := by
  intro n
  induction n with
  | zero => intro m ts g _ h; omega
  | succ n ih =>
    intro m ts g he hn hm
    obtain ⟨m, rfl⟩ : ∃ k, m = k + 1 := ⟨m - 1, by omega⟩
    simp only [legsF]
    cases h1 : numM ts with
    | bad e l c => rfl
    | ok d r1 =>
      have k1 := keeps_num _ _ _ he h1
      have l1 := num_lt h1
      simp only [bind_ok]
      cases h2 : takeM 1 r1 with
      | bad e l c => rfl
      | ok t r2 =>
        have k2 := keeps_take (by decide) _ _ _ k1.1 h2
        simp only [bind_ok]
        split
        · rfl
        · cases h3 : stayM r2 with
          | bad e l c => rfl
          | ok s r3 =>
            have k3 := keeps_stay _ _ _ k2.1 h3
            simp only [bind_ok]
            exact ih m r3 _ k3.1 (by omega) (by omega)
theorem legs_step {ts : List Tok} (g : Legs) (he : EndL ts) : legsM ts g = (numM ts).bind fun d r => (takeM 1 r).bind fun t r =>
      if headKind r = 4 then .ok ⟨g.stops ++ [t], g.rides ++ [d], g.stays⟩ r
      else (stayM r).bind fun s r => legsM r ⟨g.stops ++ [t], g.rides ++ [d], g.stays ++ [s]⟩ := by
  show legsF (ts.length + 1) ts g = _
  simp only [legsF]
  cases h1 : numM ts with
  | bad e l c => rfl
  | ok d r1 =>
    have k1 := keeps_num _ _ _ he h1
    have l1 := num_lt h1
    simp only [bind_ok]
    cases h2 : takeM 1 r1 with
    | bad e l c => rfl
    | ok t r2 =>
      have k2 := keeps_take (by decide) _ _ _ k1.1 h2
      simp only [bind_ok]
      split
      · rfl
      · cases h3 : stayM r2 with
        | bad e l c => rfl
        | ok s r3 =>
          have k3 := keeps_stay _ _ _ k2.1 h3
          simp only [bind_ok]
          exact legsF_eq _ _ r3 _ k3.1 (by omega) (by omega)
theorem keeps_legsF : ∀ (n : Nat) (g : Legs), Keeps (fun ts => legsF n ts g) := by
  intro n
  induction n with
  | zero => intro g ts a r _ h; cases h
  | succ n ih =>
    intro g
    refine keeps_bind keeps_num fun d => keeps_bind (keeps_take (by decide)) fun t => ?_
    intro ts a r he h
    dsimp only at h
    split at h
    · injection h with h1 h2; subst h2; exact ⟨he, Nat.le_refl _⟩
    · exact keeps_bind keeps_stay (fun s => ih _) _ _ _ he h
theorem keeps_legs (g : Legs) : Keeps (fun ts => legsM ts g) := fun ts a r he h => keeps_legsF _ g ts a r he h
theorem keeps_route : Keeps routeT := keeps_bind keeps_name fun _ => keeps_bind (keeps_take (by decide)) fun _ => keeps_bind (keeps_legs _) fun _ => keeps_pure _

/-- behind a line there are fewer tokens -/
theorem end_lt {n most : Nat} {first : Tok} {ts r : List Tok} {u : Unit} (h : endM n most first ts = .ok u r) : r.length < ts.length := by
  obtain ⟨t, r', h1, h2⟩ := bind_eq_ok h
  split at h2
  · cases h2
  · injection h2 with _ h2; subst h2; rw [(take_ok h1).1]; simp
end Go.Proofs.Ytceamidobdfhbaa.Sh
namespace Go.Proofs.Ytceamidobdfhbaa.Lx
open Tk

def bare (t : Tok) : Int × List UInt8 × Int := (t.kind, t.text, t.num)
/-- the same but the places -/
def Alike (a b : List Tok) : Prop := a.map bare = b.map bare
theorem Alike.len {a b : List Tok} (h : Alike a b) : a.length = b.length := by have := congrArg List.length h; simpa using this
theorem Alike.at_ {a b : List Tok} (h : Alike a b) {k : Nat} {x y : Tok} (hx : a[k]? = some x) (hy : b[k]? = some y) : bare x = bare y := by
  have := congrArg (·[k]?) h
  simpa [hx, hy] using this

def isWord (x : List UInt8) : Prop := nextK x = 5 ∧ x.all isMore = true ∧ x.length ≤ 24
/-- a token that is no end, as it comes -/
def validT (t : Tok) : Prop := (isWord t.text ∧ t.kind = (if isRes t.text then 2 else 1) ∧ t.num = 0) ∨ (canon t.text = true ∧ dval t.text ≤ 1099511627776 ∧ t.kind = 3 ∧ t.num = dval t.text)
/-- lines of some tokens, each with its end behind it; b: is there a token in the line already? -/
def good : Bool → List Tok → Prop
  | b, [] => b = false
  | b, t :: r => (t.kind = 4 ∧ b = true ∧ t.text = [] ∧ t.num = 0 ∧ good false r) ∨ (validT t ∧ good true r)
theorem valid_kind {t : Tok} (h : validT t) : (t.kind == 4) = false := by
  rcases h with ⟨_, h, _⟩ | ⟨_, _, h, _⟩
  · rw [h]; split <;> decide
  · rw [h]; decide
theorem tw_all (p : UInt8 → Bool) (l : List UInt8) : (l.takeWhile p).all p = true := List.all_takeWhile
theorem nextK_tw {p : UInt8 → Bool} {c : UInt8} {r : List UInt8} (h : p c = true) : nextK ((c :: r).takeWhile p) = kindOf c := by rw [List.takeWhile_cons_of_pos h]; rfl
theorem cons_ok {t : Tok} {r : Res} {l : List Tok} (h : r.cons t = .ok l) : ∃ l', r = .ok l' ∧ l = t :: l' := by
  cases r with
  | bad e a b => cases h
  | ok l' => exact ⟨l', rfl, by injection h with h; exact h.symm⟩
theorem lex_good : ∀ bs (line col : Nat) (sm : Bool) (l : List Tok), lex bs line col sm = .ok l → good sm l := by
  intro bs
  induction bs using lex_induct with
  | nil =>
    intro line col sm l h
    rw [lex_nil] at h
    injection h with h
    cases sm with
    | true => rw [if_pos rfl] at h; subst h; exact .inl ⟨rfl, rfl, rfl, rfl, rfl⟩
    | false => rw [if_neg (by decide)] at h; subst h; rfl
  | nl c r hk ih =>
    intro line col sm l h
    rw [lex_nl hk] at h
    cases sm with
    | true =>
      rw [if_pos rfl] at h
      obtain ⟨l', h1, rfl⟩ := cons_ok h
      exact .inl ⟨rfl, rfl, rfl, rfl, ih _ _ _ _ h1⟩
    | false => rw [if_neg (by decide)] at h; exact ih _ _ _ _ h
  | bl c r hk ih => intro line col sm l h; rw [lex_bl hk] at h; exact ih _ _ _ _ h
  | hash c r hk ih => intro line col sm l h; rw [lex_hash hk] at h; exact ih _ _ _ _ h
  | word c r hk ih =>
    intro line col sm l h
    rw [lex_let hk] at h
    by_cases h24 : 24 < ((c :: r).takeWhile isMore).length
    · rw [if_pos h24] at h; cases h
    · rw [if_neg h24] at h
      obtain ⟨l', h1, rfl⟩ := cons_ok h
      exact .inr ⟨.inl ⟨⟨by show nextK ((c :: r).takeWhile isMore) = 5; rw [nextK_tw (more_let hk)]; exact hk, tw_all _ _, by show ((c :: r).takeWhile isMore).length ≤ 24; omega⟩, rfl, rfl⟩, ih _ _ _ _ h1⟩
  | num c r hk ih =>
    intro line col sm l h
    rw [lex_dig hk] at h
    split at h
    · cases h
    · rename_i hc
      split at h
      · cases h
      · rename_i hd
        split at h
        · cases h
        · obtain ⟨l', h1, rfl⟩ := cons_ok h
          exact .inr ⟨.inr ⟨by show canon ((c :: r).takeWhile isDig) = true; simpa using hc, by show dval ((c :: r).takeWhile isDig) ≤ _; omega, rfl, rfl⟩, ih _ _ _ _ h1⟩
  | bad c r hk => intro line col sm l h; rw [lex_bad (bs := c :: r) hk] at h; cases h

theorem tw_of_all {p : UInt8 → Bool} {x q : List UInt8} (h : x.all p = true) (hq : stops p q) : (x ++ q).takeWhile p = x ∧ (x ++ q).dropWhile p = q := by
  have h1 : x.takeWhile p = x := by
    induction x with
    | nil => rfl
    | cons c r ih => simp at h; rw [List.takeWhile_cons_of_pos h.1, ih (by simpa using h.2)]
  have h2 : x.dropWhile p = [] := by
    induction x with
    | nil => rfl
    | cons c r ih =>
      simp at h
      rw [List.dropWhile_cons_of_pos h.1]
      refine ih (by simpa using h.2) ?_
      rw [List.takeWhile_cons_of_pos h.1] at h1
      injection h1
  exact ⟨by rw [tw_app x hq, h1], by rw [dw_app x hq, h2, List.nil_append]⟩
theorem nextK_app {x q : List UInt8} (h : x ≠ []) : nextK (x ++ q) = nextK x := by cases x with | nil => exact absurd rfl h | cons c r => rfl
/-- nothing that could go on a token comes next -/
def free (q : List UInt8) : Prop := nextK q ≠ 5 ∧ nextK q ≠ 6 ∧ nextK q ≠ 7
theorem free_more {q : List UInt8} (h : free q) : stops isMore q := by
  cases q with
  | nil => trivial
  | cons c r => obtain ⟨a, b, d⟩ := h; simp only [nextK] at a b d; simp [stops, isMore, a, b, d]
theorem free_dig {q : List UInt8} (h : free q) : stops isDig q := by
  cases q with
  | nil => trivial
  | cons c r => obtain ⟨a, b, d⟩ := h; simp only [nextK] at a b d; simp [stops, isDig_kind, b]
/-- the token's bytes are cut as they were -/
theorem lex_tok {t : Tok} (h : validT t) {q : List UInt8} (hq : free q) (line col : Nat) (sm : Bool) :
    ∃ t', bare t' = bare t ∧ lex (t.text ++ q) line col sm = (lex q line (col + t.text.length) true).cons t' := by
  rcases h with ⟨⟨h5, ha, h24⟩, hk, hn⟩ | ⟨hc, hd, hk, hn⟩
  · have hne : t.text ≠ [] := by intro e; rw [e] at h5; simp [nextK] at h5
    obtain ⟨e1, e2⟩ := tw_of_all ha (free_more hq)
    rw [lex_word (bs := t.text ++ q) (by rw [nextK_app hne]; exact h5), e1, e2, if_neg (by omega)]
    exact ⟨_, by simp [bare, wordT, hk, hn], rfl⟩
  · have hne : t.text ≠ [] := canon_ne hc
    have ha : t.text.all isDig = true := canon_all hc
    have h6 : nextK t.text = 6 := by
      cases hx : t.text with
      | nil => exact absurd hx hne
      | cons c r =>
        rw [hx] at ha
        simp at ha
        have := ha.1
        rw [isDig_kind] at this
        simpa [nextK] using this
    obtain ⟨e1, e2⟩ := tw_of_all ha (free_dig hq)
    rw [lex_num (bs := t.text ++ q) (by rw [nextK_app hne]; exact h6), e1, e2, if_neg (by simp [hc]), if_neg (by omega), if_neg (fun h => h.elim hq.1 hq.2.2)]
    exact ⟨_, by simp [bare, numT, hk, hn], rfl⟩
theorem k32 : kindOf 32 = 2 := by decide
end Go.Proofs.Ytceamidobdfhbaa.Lx
namespace Go.Proofs.Ytceamidobdfhbaa.Sh
open Lx Tk
/-- ends have no text -/
def EndT (toks : List Tok) : Prop := ∀ t ∈ toks, t.kind = 4 → t.text = []
theorem good_endT : ∀ {l : List Tok} {b : Bool}, good b l → EndT l
  | [], _, _ => fun t h => by cases h
  | t :: r, b, h => fun u hu h4 => by
    rcases h with ⟨_, _, he, _, hr⟩ | ⟨hv, hr⟩
    · rcases List.mem_cons.1 hu with rfl | hu
      · exact he
      · exact good_endT hr u hu h4
    · rcases List.mem_cons.1 hu with rfl | hu
      · have := valid_kind hv; simp [h4] at this
      · exact good_endT hr u hu h4
theorem EndL.cons_ {t : Tok} {r : List Tok} (h : EndL r) : EndL (t :: r) := by
  obtain ⟨u, hu, h4⟩ := h
  cases r with
  | nil => simp at hu
  | cons a b => exact ⟨u, by simpa [List.getLast?_cons_cons] using hu, h4⟩
theorem good_end : ∀ {l : List Tok} {b : Bool}, good b l → (l = [] ∧ b = false) ∨ EndL l
  | [], b, h => .inl ⟨rfl, h⟩
  | t :: r, b, h => by
    rcases h with ⟨h4, _, _, _, hr⟩ | ⟨hv, hr⟩
    · rcases good_end hr with ⟨rfl, _⟩ | h
      · exact .inr ⟨t, rfl, h4⟩
      · exact .inr h.cons_
    · rcases good_end hr with ⟨_, e⟩ | h
      · cases e
      · exact .inr h.cons_
end Go.Proofs.Ytceamidobdfhbaa.Sh

