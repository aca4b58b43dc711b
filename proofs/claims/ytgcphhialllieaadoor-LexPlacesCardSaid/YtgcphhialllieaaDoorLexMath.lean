/- Plain facts on how a text is cut into tokens: what the document's words say, as a function on lists of bytes, one token at a time, and how it goes on step by step. Imports no program. -/
import Derived.Test.YtgcphhialllieaaDoorTickNum
namespace Go.Proofs.YtgcphhialllieaaDoor.Lx
open Tk

structure Tok where
  kind : Int
  text : List UInt8
  num : Int
  line : Int
  col : Int

/-- the kinds of bytes -/
def kindOf (c : UInt8) : Nat :=
  if c.toNat = 32 ∨ c.toNat = 9 then 2 else if c.toNat = 10 then 3 else if c.toNat = 35 then 4
  else if 97 ≤ c.toNat ∧ c.toNat ≤ 122 then 5 else if 48 ≤ c.toNat ∧ c.toNat ≤ 57 then 6 else if c.toNat = 45 ∨ c.toNat = 95 then 7 else 0
def isBl (c : UInt8) : Bool := kindOf c == 2
def isMore (c : UInt8) : Bool := kindOf c == 5 || kindOf c == 6 || kindOf c == 7
def inLine (c : UInt8) : Bool := !(kindOf c == 3)
/-- the kind of what comes next; 1: nothing -/
def nextK : List UInt8 → Nat
  | [] => 1
  | c :: _ => kindOf c

def reservedL : List (List UInt8) := [[104, 111, 114, 105, 122, 111, 110], [115, 116, 111, 112], [112, 97, 116, 104], [100, 111, 111, 114], [114, 111, 117, 116, 101], [116, 114, 105, 112], [104, 97, 122, 97, 114, 100], [102, 114, 111, 109], [101, 118, 101, 114, 121], [111, 112, 101, 110], [99, 108, 111, 115, 101, 100], [111, 102], [111, 110], [117, 110, 116, 105, 108], [115, 116, 97, 121]]
def isRes (s : List UInt8) : Bool := reservedL.contains s

def endT (line col : Nat) : Tok := ⟨4, [], 0, line, col⟩
def wordT (w : List UInt8) (line col : Nat) : Tok := ⟨if isRes w then 2 else 1, w, 0, line, col⟩
def numT (d : List UInt8) (line col : Nat) : Tok := ⟨3, d, dval d, line, col⟩

inductive Res
  | bad (e line col : Nat)
  | ok (l : List Tok)
def Res.cons (t : Tok) : Res → Res
  | .bad e l c => .bad e l c
  | .ok l => .ok (t :: l)
def Res.glue (a : List Tok) : Res → Res
  | .bad e l c => .bad e l c
  | .ok l => .ok (a ++ l)

def lexF : Nat → List UInt8 → Nat → Nat → Bool → Res
  | _, [], line, col, sm => .ok (if sm then [endT line col] else [])
  | 0, _ :: _, _, _, _ => .ok []
  | n + 1, c :: r, line, col, sm =>
    if kindOf c = 3 then (if sm then (lexF n r (line + 1) 1 false).cons (endT line col) else lexF n r (line + 1) 1 false)
    else if kindOf c = 2 then lexF n r line (col + 1) sm
    else if kindOf c = 4 then lexF n (r.dropWhile inLine) line (col + 1 + (r.takeWhile inLine).length) sm
    else if kindOf c = 5 then
      (if 24 < ((c :: r).takeWhile isMore).length then .bad 3 line col
       else (lexF n ((c :: r).dropWhile isMore) line (col + ((c :: r).takeWhile isMore).length) true).cons (wordT ((c :: r).takeWhile isMore) line col))
    else if kindOf c = 6 then
      (if canon ((c :: r).takeWhile isDig) = false then .bad 7 line col
       else if 1099511627776 < dval ((c :: r).takeWhile isDig) then .bad 3 line col
       else if nextK ((c :: r).dropWhile isDig) = 5 ∨ nextK ((c :: r).dropWhile isDig) = 7 then .bad 7 line (col + ((c :: r).takeWhile isDig).length)
       else (lexF n ((c :: r).dropWhile isDig) line (col + ((c :: r).takeWhile isDig).length) true).cons (numT ((c :: r).takeWhile isDig) line col))
    else .bad 7 line col
def lex (bs : List UInt8) (line col : Nat) (sm : Bool) : Res := lexF bs.length bs line col sm

theorem isDig_kind (c : UInt8) : isDig c = (kindOf c == 6) := by
  unfold isDig kindOf
  split <;> rename_i h1
  · simp; omega
  · split <;> rename_i h2
    · simp; omega
    · split <;> rename_i h3
      · simp; omega
      · split <;> rename_i h4
        · simp; omega
        · split <;> rename_i h5
          · simp; omega
          · split <;> simp <;> omega
theorem dropWhile_le {p : UInt8 → Bool} (l : List UInt8) : (l.dropWhile p).length ≤ l.length := (List.dropWhile_suffix p).length_le
theorem dropWhile_lt {p : UInt8 → Bool} (c : UInt8) (r : List UInt8) (h : p c = true) : ((c :: r).dropWhile p).length ≤ r.length := by
  rw [List.dropWhile_cons_of_pos h]; exact dropWhile_le r
theorem more_let {c : UInt8} (h : kindOf c = 5) : isMore c = true := by simp [isMore, h]
theorem dig_num {c : UInt8} (h : kindOf c = 6) : isDig c = true := by rw [isDig_kind, h]; rfl

theorem lexF_eq : ∀ (n m : Nat) (bs : List UInt8) (line col : Nat) (sm : Bool), bs.length ≤ n → bs.length ≤ m → lexF n bs line col sm = lexF m bs line col sm := by
  intro n
  induction n with
  | zero =>
    intro m bs line col sm h hm
    cases bs with
    | nil => cases m <;> rfl
    | cons c r => simp at h
  | succ n ih =>
    intro m bs line col sm h hm
    cases bs with
    | nil => cases m <;> rfl
    | cons c r =>
      obtain ⟨m, rfl⟩ : ∃ k, m = k + 1 := ⟨m - 1, by simp at hm; omega⟩
      have hr : r.length ≤ n := by simpa using h
      have hr' : r.length ≤ m := by simpa using hm
      have hc : ∀ (q : List UInt8) (l k : Nat) (s : Bool), q.length ≤ r.length → lexF n q l k s = lexF m q l k s := fun q l k s hq => ih m q l k s (by omega) (by omega)
      simp only [lexF]
      by_cases h3 : kindOf c = 3
      · simp only [if_pos h3]; rw [hc _ _ _ _ (Nat.le_refl _)]
      · simp only [if_neg h3]
        by_cases h2 : kindOf c = 2
        · simp only [if_pos h2]; rw [hc _ _ _ _ (Nat.le_refl _)]
        · simp only [if_neg h2]
          by_cases h4 : kindOf c = 4
          · simp only [if_pos h4]; rw [hc _ _ _ _ (dropWhile_le _)]
          · simp only [if_neg h4]
            by_cases h5 : kindOf c = 5
            · simp only [if_pos h5]; rw [hc _ _ _ _ (dropWhile_lt c r (more_let h5))]
            · simp only [if_neg h5]
              by_cases h6 : kindOf c = 6
              · simp only [if_pos h6]; rw [hc _ _ _ _ (dropWhile_lt c r (dig_num h6))]
              · simp only [if_neg h6]

theorem lexF_lex {n : Nat} {bs : List UInt8} (line col : Nat) (sm : Bool) (h : bs.length ≤ n) : lexF n bs line col sm = lex bs line col sm := lexF_eq n bs.length bs line col sm h (Nat.le_refl _)
theorem lex_nil (line col : Nat) (sm : Bool) : lex [] line col sm = .ok (if sm then [endT line col] else []) := rfl
theorem lex_nl {c : UInt8} (h : kindOf c = 3) (r : List UInt8) (line col : Nat) (sm : Bool) : lex (c :: r) line col sm = if sm then (lex r (line + 1) 1 false).cons (endT line col) else lex r (line + 1) 1 false := by
  show lexF (r.length + 1) (c :: r) line col sm = _
  simp only [lexF, if_pos h]; rfl
theorem lex_bl {c : UInt8} (h : kindOf c = 2) (r : List UInt8) (line col : Nat) (sm : Bool) : lex (c :: r) line col sm = lex r line (col + 1) sm := by
  show lexF (r.length + 1) (c :: r) line col sm = _
  simp only [lexF]
  rw [if_neg (by omega), if_pos h]; rfl
theorem lex_hash {c : UInt8} (h : kindOf c = 4) (r : List UInt8) (line col : Nat) (sm : Bool) : lex (c :: r) line col sm = lex (r.dropWhile inLine) line (col + 1 + (r.takeWhile inLine).length) sm := by
  show lexF (r.length + 1) (c :: r) line col sm = _
  simp only [lexF]
  rw [if_neg (by omega), if_neg (by omega), if_pos h]
  exact lexF_lex _ _ _ (dropWhile_le _)
theorem lex_let {c : UInt8} (h : kindOf c = 5) (r : List UInt8) (line col : Nat) (sm : Bool) : lex (c :: r) line col sm =
    if 24 < ((c :: r).takeWhile isMore).length then .bad 3 line col
    else (lex ((c :: r).dropWhile isMore) line (col + ((c :: r).takeWhile isMore).length) true).cons (wordT ((c :: r).takeWhile isMore) line col) := by
  show lexF (r.length + 1) (c :: r) line col sm = _
  simp only [lexF]
  rw [if_neg (by omega), if_neg (by omega), if_neg (by omega), if_pos h, lexF_lex _ _ _ (dropWhile_lt c r (more_let h))]
theorem lex_dig {c : UInt8} (h : kindOf c = 6) (r : List UInt8) (line col : Nat) (sm : Bool) : lex (c :: r) line col sm =
    if canon ((c :: r).takeWhile isDig) = false then .bad 7 line col
    else if 1099511627776 < dval ((c :: r).takeWhile isDig) then .bad 3 line col
    else if nextK ((c :: r).dropWhile isDig) = 5 ∨ nextK ((c :: r).dropWhile isDig) = 7 then .bad 7 line (col + ((c :: r).takeWhile isDig).length)
    else (lex ((c :: r).dropWhile isDig) line (col + ((c :: r).takeWhile isDig).length) true).cons (numT ((c :: r).takeWhile isDig) line col) := by
  show lexF (r.length + 1) (c :: r) line col sm = _
  simp only [lexF]
  rw [if_neg (by omega), if_neg (by omega), if_neg (by omega), if_neg (by omega), if_pos h, lexF_lex _ _ _ (dropWhile_lt c r (dig_num h))]
theorem lex_bad {bs : List UInt8} (h : nextK bs = 0 ∨ nextK bs = 7) (line col : Nat) (sm : Bool) : lex bs line col sm = .bad 7 line col := by
  cases bs with
  | nil => simp [nextK] at h
  | cons c r =>
    simp only [nextK] at h
    show lexF (r.length + 1) (c :: r) line col sm = _
    simp only [lexF]
    rw [if_neg (by omega), if_neg (by omega), if_neg (by omega), if_neg (by omega), if_neg (by omega)]

theorem lex_blanks (bs : List UInt8) : ∀ (line col : Nat) (sm : Bool), lex bs line col sm = lex (bs.dropWhile isBl) line (col + (bs.takeWhile isBl).length) sm := by
  induction bs with
  | nil => intro line col sm; rfl
  | cons c r ih =>
    intro line col sm
    by_cases h : kindOf c = 2
    · have hb : isBl c = true := by simp [isBl, h]
      rw [lex_bl h, ih, List.dropWhile_cons_of_pos hb, List.takeWhile_cons_of_pos hb, List.length_cons]
      congr 1; omega
    · have hb : ¬ isBl c = true := by simp [isBl, h]
      rw [List.dropWhile_cons_of_neg hb, List.takeWhile_cons_of_neg hb]; rfl
theorem lex_remark {bs : List UInt8} (h : nextK bs = 4) (line col : Nat) (sm : Bool) : lex bs line col sm = lex (bs.dropWhile inLine) line (col + (bs.takeWhile inLine).length) sm := by
  cases bs with
  | nil => simp [nextK] at h
  | cons c r =>
    simp only [nextK] at h
    have hb : inLine c = true := by simp [inLine, h]
    rw [lex_hash h, List.dropWhile_cons_of_pos hb, List.takeWhile_cons_of_pos hb, List.length_cons]
    congr 1; omega
theorem lex_word {bs : List UInt8} (h : nextK bs = 5) (line col : Nat) (sm : Bool) : lex bs line col sm =
    if 24 < (bs.takeWhile isMore).length then .bad 3 line col
    else (lex (bs.dropWhile isMore) line (col + (bs.takeWhile isMore).length) true).cons (wordT (bs.takeWhile isMore) line col) := by
  cases bs with
  | nil => simp [nextK] at h
  | cons c r => exact lex_let h r line col sm
theorem lex_num {bs : List UInt8} (h : nextK bs = 6) (line col : Nat) (sm : Bool) : lex bs line col sm =
    if canon (bs.takeWhile isDig) = false then .bad 7 line col
    else if 1099511627776 < dval (bs.takeWhile isDig) then .bad 3 line col
    else if nextK (bs.dropWhile isDig) = 5 ∨ nextK (bs.dropWhile isDig) = 7 then .bad 7 line (col + (bs.takeWhile isDig).length)
    else (lex (bs.dropWhile isDig) line (col + (bs.takeWhile isDig).length) true).cons (numT (bs.takeWhile isDig) line col) := by
  cases bs with
  | nil => simp [nextK] at h
  | cons c r => exact lex_dig h r line col sm

/-- is there a token in the line already? -/
def someT (l : List Tok) : Bool := match l.getLast? with
  | none => false
  | Option.some t => !(t.kind == 4)
theorem someT_nil : someT [] = false := rfl
theorem someT_snoc (l : List Tok) (t : Tok) : someT (l ++ [t]) = !(t.kind == 4) := by simp [someT]
theorem glue_cons (a : List Tok) (t : Tok) (r : Res) : Res.glue a (r.cons t) = Res.glue (a ++ [t]) r := by cases r <;> simp [Res.glue, Res.cons]
theorem glue_nil (r : Res) : Res.glue [] r = r := by cases r <;> rfl
/-- what it all comes to, if there is so much of it yet -/
def out (bs : List UInt8) (line col : Nat) (toks : List Tok) : Res := Res.glue toks (lex bs line col (someT toks))
theorem out_start (bs : List UInt8) : out bs 1 1 [] = lex bs 1 1 false := by rw [out, someT_nil, glue_nil]
theorem out_blanks (bs : List UInt8) (line col : Nat) (toks : List Tok) : out bs line col toks = out (bs.dropWhile isBl) line (col + (bs.takeWhile isBl).length) toks := by
  unfold out; rw [lex_blanks]
theorem out_remark {bs : List UInt8} (h : nextK bs = 4) (line col : Nat) (toks : List Tok) : out bs line col toks = out (bs.dropWhile inLine) line (col + (bs.takeWhile inLine).length) toks := by
  unfold out; rw [lex_remark h]
theorem wordT_kind (w : List UInt8) (line col : Nat) : ((wordT w line col).kind == 4) = false := by
  unfold wordT; by_cases h : isRes w = true <;> simp [h]
theorem out_word {bs : List UInt8} (h : nextK bs = 5) (h24 : (bs.takeWhile isMore).length ≤ 24) (line col : Nat) (toks : List Tok) :
    out bs line col toks = out (bs.dropWhile isMore) line (col + (bs.takeWhile isMore).length) (toks ++ [wordT (bs.takeWhile isMore) line col]) := by
  unfold out
  rw [lex_word h, if_neg (by omega), glue_cons, someT_snoc, wordT_kind]; rfl
theorem out_long {bs : List UInt8} (h : nextK bs = 5) (h24 : 24 < (bs.takeWhile isMore).length) (line col : Nat) (toks : List Tok) : out bs line col toks = .bad 3 line col := by
  unfold out; rw [lex_word h, if_pos h24]; rfl
theorem out_num {bs : List UInt8} (h : nextK bs = 6) (hc : canon (bs.takeWhile isDig) = true) (hd : dval (bs.takeWhile isDig) ≤ 1099511627776) (hn : ¬ (nextK (bs.dropWhile isDig) = 5 ∨ nextK (bs.dropWhile isDig) = 7)) (line col : Nat) (toks : List Tok) :
    out bs line col toks = out (bs.dropWhile isDig) line (col + (bs.takeWhile isDig).length) (toks ++ [numT (bs.takeWhile isDig) line col]) := by
  unfold out
  rw [lex_num h, if_neg (by simp [hc]), if_neg (by omega), if_neg hn, glue_cons, someT_snoc]; rfl
theorem out_num_text {bs : List UInt8} (h : nextK bs = 6) (hc : canon (bs.takeWhile isDig) = false) (line col : Nat) (toks : List Tok) : out bs line col toks = .bad 7 line col := by
  unfold out; rw [lex_num h, if_pos hc]; rfl
theorem out_num_big {bs : List UInt8} (h : nextK bs = 6) (hc : canon (bs.takeWhile isDig) = true) (hd : 1099511627776 < dval (bs.takeWhile isDig)) (line col : Nat) (toks : List Tok) : out bs line col toks = .bad 3 line col := by
  unfold out; rw [lex_num h, if_neg (by simp [hc]), if_pos hd]; rfl
theorem out_num_behind {bs : List UInt8} (h : nextK bs = 6) (hc : canon (bs.takeWhile isDig) = true) (hd : dval (bs.takeWhile isDig) ≤ 1099511627776) (hn : nextK (bs.dropWhile isDig) = 5 ∨ nextK (bs.dropWhile isDig) = 7) (line col : Nat) (toks : List Tok) :
    out bs line col toks = .bad 7 line (col + (bs.takeWhile isDig).length) := by
  unfold out; rw [lex_num h, if_neg (by simp [hc]), if_neg (by omega), if_pos hn]; rfl
theorem out_bad {bs : List UInt8} (h : nextK bs = 0 ∨ nextK bs = 7) (line col : Nat) (toks : List Tok) : out bs line col toks = .bad 7 line col := by
  unfold out; rw [lex_bad h]; rfl
theorem out_over (line col : Nat) (toks : List Tok) : out [] line col toks = .ok (if someT toks then toks ++ [endT line col] else toks) := by
  unfold out; rw [lex_nil]; cases someT toks <;> simp [Res.glue]
theorem out_nl {c : UInt8} (h : kindOf c = 3) (r : List UInt8) (line col : Nat) (toks : List Tok) :
    out (c :: r) line col toks = out r (line + 1) 1 (if someT toks then toks ++ [endT line col] else toks) := by
  unfold out; rw [lex_nl h]
  cases hs : someT toks with
  | false => simp [hs]
  | true => simp only [if_true, glue_cons, someT_snoc]; rfl
end Go.Proofs.YtgcphhialllieaaDoor.Lx
