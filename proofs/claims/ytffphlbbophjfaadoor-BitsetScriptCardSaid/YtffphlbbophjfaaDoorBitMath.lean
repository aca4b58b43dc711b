/- Sets as functions on numbers: words of 64 bits, how many are there, the next one, the row of all; plain arithmetic and lists, no program. -/
import Derived.Lib.BitFns
namespace Go.Proofs.YtffphlbbophjfaaDoor.Bs
set_option linter.unusedVariables false

/-- a set: of each number whether it is there -/
abbrev Fs := Nat → Bool
def fEmpty : Fs := fun _ => false
def fPut (f : Fs) (i : Nat) : Fs := fun j => decide (j = i) || f j
def fTake (f : Fs) (i : Nat) : Fs := fun j => !decide (j = i) && f j
def fOr (f g : Fs) : Fs := fun j => f j || g j
def fAnd (f g : Fs) : Fs := fun j => f j && g j
def fMinus (f g : Fs) : Fs := fun j => f j && !g j
/-- nothing from n on -/
def Wd (n : Nat) (f : Fs) : Prop := ∀ i, n ≤ i → f i = false

/-- the bit of number i in words -/
def bt (ws : List Nat) (i : Nat) : Bool := (ws.getD (i / 64) 0).testBit (i % 64)
/-- words ws hold the set f of width n -/
structure Is (ws : List Nat) (n : Nat) (f : Fs) : Prop where
  len : ws.length = (n + 63) / 64
  lt : ∀ k, ws.getD k 0 < 18446744073709551616
  bit : ∀ i, bt ws i = f i
  wd : Wd n f

theorem testBit_ge {x k : Nat} (h : x < 18446744073709551616) (hk : 64 ≤ k) : x.testBit k = false :=
  Nat.testBit_lt_two_pow (Nat.lt_of_lt_of_le h (Nat.pow_le_pow_right (n := 2) (by omega) hk : 2 ^ 64 ≤ 2 ^ k))
theorem word_ext {x y : Nat} (hx : x < 18446744073709551616) (hy : y < 18446744073709551616) (h : ∀ k, k < 64 → x.testBit k = y.testBit k) : x = y := by
  apply Nat.eq_of_testBit_eq
  intro k
  by_cases hk : k < 64
  · exact h k hk
  · rw [testBit_ge hx (by omega), testBit_ge hy (by omega)]
theorem Is.word {ws : List Nat} {n : Nat} {f : Fs} (h : Is ws n f) (k j : Nat) (hj : j < 64) : (ws.getD k 0).testBit j = f (k * 64 + j) := by
  rw [← h.bit, bt]
  rw [show (k * 64 + j) / 64 = k by omega, show (k * 64 + j) % 64 = j by omega]
theorem Is.uniq {ws vs : List Nat} {n : Nat} {f : Fs} (h : Is ws n f) (k : Is vs n f) : ws = vs := by
  have hl : ws.length = vs.length := by rw [h.len, k.len]
  apply List.ext_getElem hl
  intro i h1 h2
  have e : ws.getD i 0 = vs.getD i 0 := word_ext (h.lt i) (k.lt i) fun j hj => by rw [h.word i j hj, k.word i j hj]
  simpa [List.getD_eq_getElem?_getD, h1, h2] using e
theorem Is.fun_ {ws : List Nat} {n m : Nat} {f g : Fs} (h : Is ws n f) (k : Is ws m g) : f = g := by
  funext i; rw [← h.bit, ← k.bit]

theorem getD_set (ws : List Nat) (k j x : Nat) (hk : k < ws.length) : (ws.set k x).getD j 0 = if j = k then x else ws.getD j 0 := by
  simp only [List.getD_eq_getElem?_getD, List.getElem?_set]
  by_cases h : k = j
  · subst h; simp [hk]
  · rw [if_neg h, if_neg (fun e => h e.symm)]
theorem getD_map2 (op : Nat → Nat → Nat) (ws vs : List Nat) (k : Nat) (hl : ws.length = vs.length) (h0 : op 0 0 = 0) : (List.zipWith op ws vs).getD k 0 = op (ws.getD k 0) (vs.getD k 0) := by
  simp only [List.getD_eq_getElem?_getD, List.getElem?_zipWith]
  by_cases h : k < ws.length
  · have h' : k < vs.length := by omega
    simp [h, h']
  · have h' : ¬ k < vs.length := by omega
    simp [h, h', h0]

/-- of words by words: what op makes of them -/
theorem Is.join {ws vs : List Nat} {n : Nat} {f g : Fs} (h : Is ws n f) (k : Is vs n g) (op : Nat → Nat → Nat) (bo : Bool → Bool → Bool) (h0 : op 0 0 = 0) (hb : bo false false = false)
    (hop : ∀ a b j, a < 18446744073709551616 → b < 18446744073709551616 → j < 64 → (op a b).testBit j = bo (a.testBit j) (b.testBit j)) (hlt : ∀ a b, a < 18446744073709551616 → b < 18446744073709551616 → op a b < 18446744073709551616) :
    Is (List.zipWith op ws vs) n (fun j => bo (f j) (g j)) where
  len := by simp [h.len, k.len]
  lt := fun j => by rw [getD_map2 op ws vs j (by rw [h.len, k.len]) h0]; exact hlt _ _ (h.lt j) (k.lt j)
  bit := fun i => by
    unfold bt
    rw [getD_map2 op ws vs _ (by rw [h.len, k.len]) h0, hop _ _ _ (h.lt _) (k.lt _) (by omega)]
    rw [← h.bit, ← k.bit]; rfl
  wd := fun i hi => by simp only [h.wd i hi, k.wd i hi]; exact hb

theorem or_bit (a b j : Nat) : (a ||| b).testBit j = (a.testBit j || b.testBit j) := Nat.testBit_or a b j
theorem and_bit (a b j : Nat) : (a &&& b).testBit j = (a.testBit j && b.testBit j) := Nat.testBit_and a b j
theorem minus_bit (a b j : Nat) (hb : b < 18446744073709551616) (hj : j < 64) : (a &&& (18446744073709551615 - b)).testBit j = (a.testBit j && !b.testBit j) := by
  rw [Nat.testBit_and]
  have e : (18446744073709551615 - b).testBit j = !b.testBit j := by
    have := Nat.testBit_two_pow_sub_succ (x := b) (n := 64) (by omega) j
    rw [show (2 : Nat) ^ 64 - (b + 1) = 18446744073709551615 - b by omega] at this
    rw [this]; simp [hj]
  rw [e]
theorem or_lt (a b : Nat) (ha : a < 18446744073709551616) (hb : b < 18446744073709551616) : a ||| b < 18446744073709551616 := Nat.or_lt_two_pow (n := 64) (by omega) (by omega)
theorem and_lt (a b : Nat) (ha : a < 18446744073709551616) : a &&& b < 18446744073709551616 := Nat.lt_of_le_of_lt Nat.and_le_left ha
theorem bit_lt (i : Nat) : 2 ^ (i % 64) < 18446744073709551616 := (Nat.pow_lt_pow_right (a := 2) (by omega) (show i % 64 < 64 by omega) : 2 ^ (i % 64) < 2 ^ 64)
theorem bit_tb (k j : Nat) : (2 ^ k).testBit j = decide (j = k) := by
  rw [Nat.testBit_two_pow]; exact decide_eq_decide.2 ⟨fun h => h.symm, fun h => h.symm⟩

/-- is a number there, by its bit -/
theorem bit_has (x k : Nat) : (x &&& 2 ^ k ≠ 0) ↔ x.testBit k = true := by
  constructor
  · intro h
    cases hb : x.testBit k with
    | true => rfl
    | false =>
      exfalso; apply h
      apply Nat.eq_of_testBit_eq
      intro j
      rw [and_bit, bit_tb, Nat.zero_testBit]
      by_cases hj : j = k
      · subst hj; simp [hb]
      · simp [hj]
  · intro h e
    have := and_bit x (2 ^ k) k
    rw [e, h, bit_tb] at this
    simp at this
theorem Is.put {ws : List Nat} {n : Nat} {f : Fs} (h : Is ws n f) (i : Nat) (hi : i < n) : Is (ws.set (i / 64) (ws.getD (i / 64) 0 ||| 2 ^ (i % 64))) n (fPut f i) where
  len := by simp [h.len]
  lt := fun k => by
    rw [getD_set _ _ _ _ (by rw [h.len]; omega)]
    split
    · exact or_lt _ _ (h.lt _) (bit_lt i)
    · exact h.lt k
  bit := fun j => by
    unfold bt
    rw [getD_set _ _ _ _ (by rw [h.len]; omega), fPut, ← h.bit j, bt]
    by_cases hk : j / 64 = i / 64
    · rw [if_pos hk, or_bit, bit_tb, hk]
      have : decide (j % 64 = i % 64) = decide (j = i) := decide_eq_decide.2 ⟨fun e => by omega, fun e => by rw [e]⟩
      rw [this, Bool.or_comm]
    · rw [if_neg hk]
      have : decide (j = i) = false := decide_eq_false fun e => hk (by rw [e])
      simp [this]
  wd := fun j hj => by
    have : decide (j = i) = false := decide_eq_false fun e => by omega
    simp [fPut, this, h.wd j hj]
theorem Is.take {ws : List Nat} {n : Nat} {f : Fs} (h : Is ws n f) (i : Nat) (hi : i < n) : Is (ws.set (i / 64) (ws.getD (i / 64) 0 &&& (18446744073709551615 - 2 ^ (i % 64)))) n (fTake f i) where
  len := by simp [h.len]
  lt := fun k => by
    rw [getD_set _ _ _ _ (by rw [h.len]; omega)]
    split
    · exact and_lt _ _ (h.lt _)
    · exact h.lt k
  bit := fun j => by
    unfold bt
    rw [getD_set _ _ _ _ (by rw [h.len]; omega), fTake, ← h.bit j, bt]
    by_cases hk : j / 64 = i / 64
    · rw [if_pos hk, minus_bit _ _ _ (bit_lt i) (by omega), bit_tb, hk]
      have : decide (j % 64 = i % 64) = decide (j = i) := decide_eq_decide.2 ⟨fun e => by omega, fun e => by rw [e]⟩
      rw [this, Bool.and_comm]
    · rw [if_neg hk]
      have : decide (j = i) = false := decide_eq_false fun e => hk (by rw [e])
      simp [this]
  wd := fun j hj => by simp [fTake, h.wd j hj]
theorem Is.empty (n : Nat) : Is (List.replicate ((n + 63) / 64) 0) n fEmpty where
  len := by simp
  lt := fun k => by
    simp only [List.getD_eq_getElem?_getD, List.getElem?_replicate]
    split <;> simp
  bit := fun i => by
    unfold bt fEmpty
    simp only [List.getD_eq_getElem?_getD, List.getElem?_replicate]
    split <;> simp
  wd := fun i _ => rfl
theorem Is.has {ws : List Nat} {n : Nat} {f : Fs} (h : Is ws n f) (i : Nat) : (ws.getD (i / 64) 0 &&& 2 ^ (i % 64) ≠ 0) ↔ f i = true := by
  rw [bit_has, ← h.bit]; rfl

/- how many -/
/-- how many are there below n -/
def cnt (f : Fs) : Nat → Nat
  | 0 => 0
  | n + 1 => cnt f n + (if f n then 1 else 0)
theorem cnt_le (f : Fs) (n : Nat) : cnt f n ≤ n := by
  induction n with
  | zero => exact Nat.le_refl _
  | succ n ih => simp only [cnt]; split <;> omega
theorem cnt_congr {f g : Fs} {n : Nat} (h : ∀ i, i < n → f i = g i) : cnt f n = cnt g n := by
  induction n with
  | zero => rfl
  | succ n ih => rw [cnt, cnt, ih (fun i hi => h i (by omega)), h n (by omega)]
theorem cnt_add (f : Fs) (n m : Nat) : cnt f (n + m) = cnt f n + cnt (fun i => f (n + i)) m := by
  induction m with
  | zero => rfl
  | succ m ih => rw [← Nat.add_assoc, cnt, ih, cnt]; omega
theorem cnt_wd {f : Fs} {n : Nat} (h : Wd n f) (m : Nat) (hm : n ≤ m) : cnt f m = cnt f n := by
  obtain ⟨d, rfl⟩ := Nat.exists_eq_add_of_le hm
  rw [cnt_add, show cnt (fun i => f (n + i)) d = 0 from ?_]; · rfl
  induction d with
  | zero => rfl
  | succ d ih => rw [cnt, ih (by omega), h _ (by omega)]; rfl
theorem cnt_cons (f : Fs) (m : Nat) : cnt f (m + 1) = (if f 0 then 1 else 0) + cnt (fun i => f (i + 1)) m := by
  rw [show m + 1 = 1 + m by omega, cnt_add]
  have : (fun i => f (1 + i)) = fun i => f (i + 1) := by funext i; rw [Nat.add_comm]
  rw [this]; simp [cnt]
theorem pop_cnt (k x : Nat) : Go.Lib.popAux k x = cnt (fun j => x.testBit j) k := by
  induction k generalizing x with
  | zero => rfl
  | succ k ih =>
    rw [Go.Lib.popAux, ih, cnt_cons]
    have : (fun j => (x / 2).testBit j) = fun j => x.testBit (j + 1) := by funext j; rw [Nat.testBit_succ]
    rw [this]
    have h0 : x % 2 = if x.testBit 0 then 1 else 0 := by
      rw [Nat.testBit_zero]
      by_cases h : x % 2 = 1
      · simp [h]
      · have : x % 2 = 0 := by omega
        simp [this]
    rw [h0]
/-- the words' ones are the numbers that are there -/
theorem Is.count {ws : List Nat} {n : Nat} {f : Fs} (h : Is ws n f) (k : Nat) : cnt f (k * 64 + 64) = cnt f (k * 64) + Go.Lib.onesCount (ws.getD k 0) := by
  rw [cnt_add, Go.Lib.onesCount, pop_cnt]
  congr 1
  exact cnt_congr fun j hj => (h.word k j hj).symm
theorem Is.count_all {ws : List Nat} {n : Nat} {f : Fs} (h : Is ws n f) : cnt f (ws.length * 64) = cnt f n := cnt_wd h.wd _ (by rw [h.len]; omega)

/- the row of all -/
def lst (f : Fs) : Nat → List Int
  | 0 => []
  | n + 1 => if f n then lst f n ++ [(n : Int)] else lst f n
theorem lst_length (f : Fs) (n : Nat) : (lst f n).length = cnt f n := by
  induction n with
  | zero => rfl
  | succ n ih => simp only [lst, cnt]; split <;> simp [ih]
theorem lst_congr {f g : Fs} {n : Nat} (h : ∀ i, i < n → f i = g i) : lst f n = lst g n := by
  induction n with
  | zero => rfl
  | succ n ih => rw [lst, lst, ih (fun i hi => h i (by omega)), h n (by omega)]
theorem lst_skip (f : Fs) {n m : Nat} (hm : n ≤ m) (h : ∀ i, n ≤ i → i < m → f i = false) : lst f m = lst f n := by
  obtain ⟨d, rfl⟩ := Nat.exists_eq_add_of_le hm
  induction d with
  | zero => rfl
  | succ d ih =>
    rw [← Nat.add_assoc, lst, h (n + d) (by omega) (by omega)]
    simpa using ih (by omega) (fun i h1 h2 => h i h1 (by omega))
theorem lst_inj {f g : Fs} {n : Nat} (h : lst f n = lst g n) (i : Nat) (hi : i < n) : f i = g i := by
  have mem : ∀ (f : Fs) (m : Nat) (j : Nat), (j : Int) ∈ lst f m ↔ (j < m ∧ f j = true) := by
    intro f m
    induction m with
    | zero => intro j; simp [lst]
    | succ m ih =>
      intro j
      rw [lst]
      by_cases hf : f m = true
      · rw [if_pos hf, List.mem_append, ih]
        constructor
        · rintro (⟨h1, h2⟩ | h1)
          · exact ⟨by omega, h2⟩
          · have e : j = m := by simp at h1; omega
            subst e; exact ⟨by omega, hf⟩
        · rintro ⟨h1, h2⟩
          by_cases e : j = m
          · subst e; right; simp
          · left; exact ⟨by omega, h2⟩
      · rw [if_neg hf, ih]
        constructor
        · rintro ⟨h1, h2⟩; exact ⟨by omega, h2⟩
        · rintro ⟨h1, h2⟩
          by_cases e : j = m
          · subst e; exact absurd h2 hf
          · exact ⟨by omega, h2⟩
  have h1 := mem f n i
  have h2 := mem g n i
  rw [h] at h1
  have : f i = true ↔ g i = true := ⟨fun e => (h2.1 (h1.2 ⟨hi, e⟩)).2, fun e => (h1.1 (h2.2 ⟨hi, e⟩)).2⟩
  cases hf : f i <;> cases hg : g i <;> simp_all

/- the next one -/
/-- the least number that is there, is below n and not below k; -1 -/
def nxt (f : Fs) (n k : Nat) : Int := if h : k < n then (if f k then (k : Int) else nxt f n (k + 1)) else -1
termination_by n - k
theorem nxt_none {f : Fs} {n k : Nat} (h : ∀ i, k ≤ i → i < n → f i = false) : nxt f n k = -1 := by
  induction hd : n - k generalizing k with
  | zero => rw [nxt, dif_neg (by omega)]
  | succ d ih => rw [nxt, dif_pos (by omega), if_neg (by rw [h k (Nat.le_refl _) (by omega)]; simp), ih (fun i h1 h2 => h i (by omega) h2) (by omega)]
theorem nxt_some {f : Fs} {n k j : Nat} (hk : k ≤ j) (hj : j < n) (hf : f j = true) (h : ∀ i, k ≤ i → i < j → f i = false) : nxt f n k = (j : Int) := by
  induction hd : j - k generalizing k with
  | zero =>
    have e : k = j := by omega
    subst e
    rw [nxt, dif_pos hj, if_pos hf]
  | succ d ih => rw [nxt, dif_pos (by omega), if_neg (by rw [h k (Nat.le_refl _) (by omega)]; simp), ih (by omega) (fun i h1 h2 => h i (by omega) h2) (by omega)]
theorem nxt_cases (f : Fs) (n k : Nat) : (nxt f n k = -1 ∧ ∀ i, k ≤ i → i < n → f i = false) ∨ (∃ j : Nat, nxt f n k = (j : Int) ∧ k ≤ j ∧ j < n ∧ f j = true ∧ ∀ i, k ≤ i → i < j → f i = false) := by
  induction hd : n - k generalizing k with
  | zero => exact .inl ⟨by rw [nxt, dif_neg (by omega)], fun i h1 h2 => by omega⟩
  | succ d ih =>
    rw [nxt, dif_pos (by omega)]
    by_cases hf : f k = true
    · rw [if_pos hf]
      exact .inr ⟨k, rfl, Nat.le_refl _, by omega, hf, fun i h1 h2 => by omega⟩
    · rw [if_neg hf]
      rcases ih (k + 1) (by omega) with ⟨h1, h2⟩ | ⟨j, h1, h2, h3, h4, h5⟩
      · exact .inl ⟨h1, fun i h3 h4 => by
          by_cases e : i = k
          · subst e; simpa using hf
          · exact h2 i (by omega) h4⟩
      · exact .inr ⟨j, h1, by omega, h3, h4, fun i h6 h7 => by
          by_cases e : i = k
          · subst e; simpa using hf
          · exact h5 i (by omega) h7⟩
theorem nxt_congr {f g : Fs} {n k : Nat} (h : ∀ i, i < n → f i = g i) : nxt f n k = nxt g n k := by
  rcases nxt_cases f n k with ⟨e, h1⟩ | ⟨j, e, h1, h2, h3, h4⟩
  · rw [e, nxt_none fun i h2 h3 => by rw [← h i h3]; exact h1 i h2 h3]
  · rw [e, nxt_some h1 h2 (by rw [← h j h2]; exact h3) fun i h5 h6 => by rw [← h i (by omega)]; exact h4 i h5 h6]

/- equal sets -/
/-- whether two sets are the same below n -/
def same (f g : Fs) : Nat → Bool
  | 0 => true
  | n + 1 => same f g n && decide (f n = g n)
theorem same_iff (f g : Fs) (n : Nat) : same f g n = true ↔ ∀ i, i < n → f i = g i := by
  induction n with
  | zero => simp [same]
  | succ n ih =>
    rw [same, Bool.and_eq_true, ih, decide_eq_true_iff]
    constructor
    · rintro ⟨h1, h2⟩ i hi
      by_cases e : i = n
      · subst e; exact h2
      · exact h1 i (by omega)
    · intro h; exact ⟨fun i hi => h i (by omega), h n (by omega)⟩
theorem same_wd {f g : Fs} {n : Nat} (hf : Wd n f) (hg : Wd n g) : same f g n = true ↔ f = g := by
  rw [same_iff]
  constructor
  · intro h; funext i
    by_cases hi : i < n
    · exact h i hi
    · rw [hf i (by omega), hg i (by omega)]
  · rintro rfl i _; rfl
/-- the words are the same just if the sets are -/
theorem Is.same {ws vs : List Nat} {n : Nat} {f g : Fs} (h : Is ws n f) (k : Is vs n g) : (ws = vs) ↔ same f g n = true := by
  rw [same_wd h.wd k.wd]
  constructor
  · rintro rfl; exact h.fun_ k
  · rintro rfl; exact h.uniq k
end Go.Proofs.YtffphlbbophjfaaDoor.Bs
