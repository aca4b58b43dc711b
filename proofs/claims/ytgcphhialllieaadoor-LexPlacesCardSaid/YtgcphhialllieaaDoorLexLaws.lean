/- Plain facts on cutting texts: a line's end between two texts; lines counted farther on; which rows of tokens come; the text of such a row is cut into the like. Imports no program. -/
import Derived.Test.YtgcphhialllieaaDoorLexMath
namespace Go.Proofs.YtgcphhialllieaaDoor.Lx
open Tk

theorem lex_induct {P : List UInt8 → Prop} (nil : P []) (nl : ∀ c r, kindOf c = 3 → P r → P (c :: r)) (bl : ∀ c r, kindOf c = 2 → P r → P (c :: r))
    (hash : ∀ c r, kindOf c = 4 → P (r.dropWhile inLine) → P (c :: r)) (word : ∀ c r, kindOf c = 5 → P ((c :: r).dropWhile isMore) → P (c :: r))
    (num : ∀ c r, kindOf c = 6 → P ((c :: r).dropWhile isDig) → P (c :: r)) (bad : ∀ c r, (kindOf c = 0 ∨ kindOf c = 7) → P (c :: r)) : ∀ bs, P bs := by
  have key : ∀ n bs, bs.length ≤ n → P bs := by
    intro n
    induction n with
    | zero =>
      intro bs h
      cases bs with
      | nil => exact nil
      | cons c r => simp at h
    | succ n ih =>
      intro bs h
      cases bs with
      | nil => exact nil
      | cons c r =>
        have hr : r.length ≤ n := by simpa using h
        have hk : kindOf c = 0 ∨ kindOf c = 2 ∨ kindOf c = 3 ∨ kindOf c = 4 ∨ kindOf c = 5 ∨ kindOf c = 6 ∨ kindOf c = 7 := by
          unfold kindOf; split <;> (try omega); split <;> (try omega); split <;> (try omega); split <;> (try omega); split <;> (try omega); split <;> omega
        rcases hk with h0 | h2 | h3 | h4 | h5 | h6 | h7
        · exact bad c r (.inl h0)
        · exact bl c r h2 (ih r hr)
        · exact nl c r h3 (ih r hr)
        · exact hash c r h4 (ih _ (Nat.le_trans (dropWhile_le _) hr))
        · exact word c r h5 (ih _ (Nat.le_trans (dropWhile_lt c r (more_let h5)) hr))
        · exact num c r h6 (ih _ (Nat.le_trans (dropWhile_lt c r (dig_num h6)) hr))
        · exact bad c r (.inr h7)
  exact fun bs => key _ bs (Nat.le_refl _)

/-- no byte of that kind comes next -/
def stops (p : UInt8 → Bool) : List UInt8 → Prop
  | [] => True
  | c :: _ => p c = false
theorem tw_app {p : UInt8 → Bool} (a : List UInt8) {b : List UInt8} (hb : stops p b) : (a ++ b).takeWhile p = a.takeWhile p := by
  induction a with
  | nil =>
    cases b with
    | nil => rfl
    | cons c r => rw [List.nil_append, List.takeWhile_cons_of_neg (by simpa [stops] using hb)]; rfl
  | cons c r ih =>
    by_cases hc : p c = true
    · rw [List.cons_append, List.takeWhile_cons_of_pos hc, List.takeWhile_cons_of_pos hc, ih]
    · rw [List.cons_append, List.takeWhile_cons_of_neg hc, List.takeWhile_cons_of_neg hc]
theorem dw_app {p : UInt8 → Bool} (a : List UInt8) {b : List UInt8} (hb : stops p b) : (a ++ b).dropWhile p = a.dropWhile p ++ b := by
  induction a with
  | nil =>
    cases b with
    | nil => rfl
    | cons c r => rw [List.nil_append, List.dropWhile_cons_of_neg (by simpa [stops] using hb)]; rfl
  | cons c r ih =>
    by_cases hc : p c = true
    · rw [List.cons_append, List.dropWhile_cons_of_pos hc, List.dropWhile_cons_of_pos hc, ih]
    · rw [List.cons_append, List.dropWhile_cons_of_neg hc, List.dropWhile_cons_of_neg hc]; rfl
theorem k10 : kindOf 10 = 3 := by decide
theorem stops_more (t : List UInt8) : stops isMore (10 :: t) := by simp [stops, isMore, k10]
theorem stops_dig (t : List UInt8) : stops isDig (10 :: t) := by simp [stops, isDig_kind, k10]
theorem stops_in (t : List UInt8) : stops inLine (10 :: t) := by simp [stops, inLine, k10]

/-- how many lines' ends -/
def nls (bs : List UInt8) : Nat := bs.countP (fun c => kindOf c == 3)
theorem nls_cons (c : UInt8) (r : List UInt8) : nls (c :: r) = nls r + if kindOf c = 3 then 1 else 0 := by
  unfold nls; rw [List.countP_cons]; by_cases h : kindOf c = 3 <;> simp [h]
theorem nls_dw {p : UInt8 → Bool} (hp : ∀ c, p c = true → kindOf c ≠ 3) (l : List UInt8) : nls (l.dropWhile p) = nls l := by
  induction l with
  | nil => rfl
  | cons c r ih =>
    by_cases hc : p c = true
    · rw [List.dropWhile_cons_of_pos hc, ih, nls_cons, if_neg (hp c hc)]; rfl
    · rw [List.dropWhile_cons_of_neg hc]
theorem in_ne (c : UInt8) (h : inLine c = true) : kindOf c ≠ 3 := by simpa [inLine] using h
theorem more_ne (c : UInt8) (h : isMore c = true) : kindOf c ≠ 3 := by intro e; simp [isMore, e] at h
theorem dig_ne (c : UInt8) (h : isDig c = true) : kindOf c ≠ 3 := by intro e; simp [isDig_kind, e] at h

def Res.app : Res → Res → Res
  | .bad e l c, _ => .bad e l c
  | .ok _, .bad e l c => .bad e l c
  | .ok a, .ok b => .ok (a ++ b)
theorem cons_app (t : Tok) (a b : Res) : (a.cons t).app b = (a.app b).cons t := by cases a <;> cases b <;> rfl
theorem nil_app (b : Res) : (Res.ok []).app b = b := by cases b <;> rfl
theorem one_app (t : Tok) (b : Res) : (Res.ok [t]).app b = b.cons t := by cases b <;> rfl
/-- a line's end between two texts -/
theorem lex_app (t : List UInt8) : ∀ bs (line col : Nat) (sm : Bool), lex (bs ++ 10 :: t) line col sm = (lex bs line col sm).app (lex t (line + nls bs + 1) 1 false) := by
  intro bs
  induction bs using lex_induct with
  | nil =>
    intro line col sm
    rw [List.nil_append, lex_nl k10, lex_nil]
    cases sm with
    | true => rw [if_pos rfl, if_pos rfl, one_app]; rfl
    | false => rw [if_neg (by decide), if_neg (by decide), nil_app]; rfl
  | nl c r h ih =>
    intro line col sm
    rw [List.cons_append, lex_nl h, lex_nl h, ih, nls_cons, if_pos h]
    have e : line + 1 + nls r + 1 = line + (nls r + 1) + 1 := by omega
    rw [e]
    cases sm with
    | true => rw [if_pos rfl, if_pos rfl, cons_app]
    | false => rw [if_neg (by decide), if_neg (by decide)]
  | bl c r h ih =>
    intro line col sm
    rw [List.cons_append, lex_bl h, lex_bl h, ih, nls_cons, if_neg (by omega)]; rfl
  | hash c r h ih =>
    intro line col sm
    rw [List.cons_append, lex_hash h, lex_hash h, tw_app r (stops_in t), dw_app r (stops_in t), ih, nls_cons, if_neg (by omega), nls_dw in_ne]; rfl
  | word c r h ih =>
    intro line col sm
    rw [List.cons_append, lex_let h, lex_let h, ← List.cons_append, tw_app (c :: r) (stops_more t), dw_app (c :: r) (stops_more t), ih, nls_dw more_ne]
    by_cases h24 : 24 < ((c :: r).takeWhile isMore).length
    · rw [if_pos h24, if_pos h24]; rfl
    · rw [if_neg h24, if_neg h24, cons_app]
  | num c r h ih =>
    intro line col sm
    rw [List.cons_append, lex_dig h, lex_dig h, ← List.cons_append, tw_app (c :: r) (stops_dig t), dw_app (c :: r) (stops_dig t), ih, nls_dw dig_ne]
    have hn : (nextK ((c :: r).dropWhile isDig ++ 10 :: t) = 5 ∨ nextK ((c :: r).dropWhile isDig ++ 10 :: t) = 7) ↔ (nextK ((c :: r).dropWhile isDig) = 5 ∨ nextK ((c :: r).dropWhile isDig) = 7) := by
      cases (c :: r).dropWhile isDig with
      | nil => simp [nextK, k10]
      | cons a b => rfl
    by_cases h1 : canon ((c :: r).takeWhile isDig) = false
    · rw [if_pos h1, if_pos h1]; rfl
    · rw [if_neg h1, if_neg h1]
      by_cases h2 : 1099511627776 < dval ((c :: r).takeWhile isDig)
      · rw [if_pos h2, if_pos h2]; rfl
      · rw [if_neg h2, if_neg h2]
        by_cases h3 : nextK ((c :: r).dropWhile isDig) = 5 ∨ nextK ((c :: r).dropWhile isDig) = 7
        · rw [if_pos (hn.2 h3), if_pos h3]; rfl
        · rw [if_neg (fun h => h3 (hn.1 h)), if_neg h3, cons_app]
  | bad c r h =>
    intro line col sm
    rw [lex_bad (bs := c :: r ++ 10 :: t) h, lex_bad (bs := c :: r) h]; rfl

def moveT (k : Nat) (t : Tok) : Tok := ⟨t.kind, t.text, t.num, t.line + k, t.col⟩
def Res.move (k : Nat) : Res → Res
  | .bad e l c => .bad e (l + k) c
  | .ok l => .ok (l.map (moveT k))
theorem cons_move (k : Nat) (t : Tok) (r : Res) : (r.cons t).move k = (r.move k).cons (moveT k t) := by cases r <;> rfl
/-- so many lines farther on -/
theorem lex_move (k : Nat) : ∀ bs (line col : Nat) (sm : Bool), lex bs (line + k) col sm = (lex bs line col sm).move k := by
  intro bs
  have hcomm : ∀ line : Nat, line + k + 1 = line + 1 + k := fun line => by omega
  have hend : ∀ line col, moveT k (endT line col) = endT (line + k) col := fun line col => by simp [moveT, endT]
  have hw : ∀ w line col, moveT k (wordT w line col) = wordT w (line + k) col := fun w line col => by simp [moveT, wordT]
  have hd : ∀ w line col, moveT k (numT w line col) = numT w (line + k) col := fun w line col => by simp [moveT, numT]
  induction bs using lex_induct with
  | nil =>
    intro line col sm
    rw [lex_nil, lex_nil]
    cases sm <;> simp [Res.move, hend]
  | nl c r h ih =>
    intro line col sm
    rw [lex_nl h, lex_nl h, hcomm, ih]
    cases sm with
    | true => rw [if_pos rfl, if_pos rfl, cons_move, hend]
    | false => rw [if_neg (by decide), if_neg (by decide)]
  | bl c r h ih => intro line col sm; rw [lex_bl h, lex_bl h, ih]
  | hash c r h ih => intro line col sm; rw [lex_hash h, lex_hash h, ih]
  | word c r h ih =>
    intro line col sm
    rw [lex_let h, lex_let h, ih]
    by_cases h24 : 24 < ((c :: r).takeWhile isMore).length
    · rw [if_pos h24, if_pos h24]; rfl
    · rw [if_neg h24, if_neg h24, cons_move, hw]
  | num c r h ih =>
    intro line col sm
    rw [lex_dig h, lex_dig h, ih]
    split
    · rfl
    · split
      · rfl
      · split
        · rfl
        · rw [cons_move, hd]
  | bad c r h => intro line col sm; rw [lex_bad (bs := c :: r) h, lex_bad (bs := c :: r) h]; rfl

/-- a text, a line's end, another text -/
theorem lex_two (s t : List UInt8) : lex (s ++ 10 :: t) 1 1 false = (lex s 1 1 false).app ((lex t 1 1 false).move (nls s + 1)) := by
  rw [lex_app, ← lex_move]
  have e : 1 + nls s + 1 = 1 + (nls s + 1) := by omega
  rw [e]
end Go.Proofs.YtgcphhialllieaaDoor.Lx
