/- How OnesCount64 counts: the sums of the bits in parts of two, four, eight; then the bytes' sums. Plain arithmetic, no program. -/
import Derived.Lib.BitFns
namespace Go.Proofs.YtffphlbbophjfaaDoor.Bs
set_option linter.unusedVariables false

/-- a number's bits as a sum of two parts, masked apart -/
theorem and_split (a b c d : Nat) (hb : b < 256) (hd : d < 256) : (a * 256 + b) &&& (c * 256 + d) = (a &&& c) * 256 + (b &&& d) := by
  have h := Nat.and_lt_two_pow b (n := 8) (y := d) (by omega)
  apply Nat.eq_of_testBit_eq
  intro i
  rw [show a * 256 + b = 2 ^ 8 * a + b by omega, show c * 256 + d = 2 ^ 8 * c + d by omega, show (a &&& c) * 256 + (b &&& d) = 2 ^ 8 * (a &&& c) + (b &&& d) by omega]
  rw [Nat.testBit_and, Nat.testBit_two_pow_mul_add _ (by omega), Nat.testBit_two_pow_mul_add _ (by omega), Nat.testBit_two_pow_mul_add _ h]
  split <;> simp [Nat.testBit_and]

/-- one byte: what the three first steps make of it -/
def b1 (x : Nat) : Nat := (x / 2 &&& 85) + (x &&& 85)
def b2 (x : Nat) : Nat := (x / 4 &&& 51) + (x &&& 51)
def b3 (x : Nat) : Nat := (x / 16 + x) &&& 15
/-- masks of k bytes -/
def mk (m : Nat) : Nat → Nat
  | 0 => 0
  | k + 1 => mk m k * 256 + m
/-- a number as its bytes' images -/
def bys (f : Nat → Nat) : Nat → Nat → Nat
  | 0, _ => 0
  | k + 1, x => bys f k (x / 256) * 256 + f (x % 256)
theorem half1 (x : Nat) : (x / 2) % 256 &&& 85 = (x % 256) / 2 &&& 85 := by
  have e : ∀ y, y < 512 → (y / 2) % 256 &&& 85 = (y % 256) / 2 &&& 85 := by decide +kernel
  have := e (x % 512) (by omega)
  rw [show (x % 512) / 2 % 256 = x / 2 % 256 by omega, show x % 512 % 256 = x % 256 by omega] at this
  exact this
theorem half2 (x : Nat) : (x / 4) % 256 &&& 51 = (x % 256) / 4 &&& 51 := by
  have e : ∀ y, y < 1024 → (y / 4) % 256 &&& 51 = (y % 256) / 4 &&& 51 := by decide +kernel
  have := e (x % 1024) (by omega)
  rw [show (x % 1024) / 4 % 256 = x / 4 % 256 by omega, show x % 1024 % 256 = x % 256 by omega] at this
  exact this
theorem b1_lt : ∀ x, x < 256 → b1 x < 171 := by decide +kernel
theorem b2_lt : ∀ x, x < 256 → b2 x < 103 := by decide +kernel
theorem b3_nib : ∀ x, x < 256 → x % 16 ≤ 4 → x / 16 ≤ 4 → b3 x = x / 16 + x % 16 := by decide +kernel
theorem step1 (k x : Nat) (hx : x < 256 ^ k) : (x / 2 &&& mk 85 k) + (x &&& mk 85 k) = bys b1 k x := by
  induction k generalizing x with
  | zero => simp [mk, bys]
  | succ k ih =>
    have h := ih (x / 256) (by rw [Nat.pow_succ] at hx; omega)
    rw [mk, bys, ← h]
    have e1 := and_split (x / 2 / 256) (x / 2 % 256) (mk 85 k) 85 (by omega) (by omega)
    have e2 := and_split (x / 256) (x % 256) (mk 85 k) 85 (by omega) (by omega)
    rw [show x / 2 / 256 * 256 + x / 2 % 256 = x / 2 by omega, half1] at e1
    rw [show x / 256 * 256 + x % 256 = x by omega] at e2
    rw [e1, e2, b1, show x / 2 / 256 = x / 256 / 2 by omega]
    omega
theorem step2 (k x : Nat) (hx : x < 256 ^ k) : (x / 4 &&& mk 51 k) + (x &&& mk 51 k) = bys b2 k x := by
  induction k generalizing x with
  | zero => simp [mk, bys]
  | succ k ih =>
    have h := ih (x / 256) (by rw [Nat.pow_succ] at hx; omega)
    rw [mk, bys, ← h]
    have e1 := and_split (x / 4 / 256) (x / 4 % 256) (mk 51 k) 51 (by omega) (by omega)
    have e2 := and_split (x / 256) (x % 256) (mk 51 k) 51 (by omega) (by omega)
    rw [show x / 4 / 256 * 256 + x / 4 % 256 = x / 4 by omega, half2] at e1
    rw [show x / 256 * 256 + x % 256 = x by omega] at e2
    rw [e1, e2, b2, show x / 4 / 256 = x / 256 / 4 by omega]
    omega
theorem bys_lt (f : Nat → Nat) (hf : ∀ x, x < 256 → f x < 256) (k x : Nat) : bys f k x < 256 ^ k := by
  induction k generalizing x with
  | zero => simp [bys]
  | succ k ih => have := ih (x / 256); have := hf (x % 256) (by omega); rw [bys, Nat.pow_succ]; omega
theorem bys_bys (f g : Nat → Nat) (hf : ∀ x, x < 256 → f x < 256) (k x : Nat) : bys g k (bys f k x) = bys (fun y => g (f y)) k x := by
  induction k generalizing x with
  | zero => rfl
  | succ k ih =>
    have := hf (x % 256) (by omega)
    rw [bys, bys, bys, show (bys f k (x / 256) * 256 + f (x % 256)) / 256 = bys f k (x / 256) by omega, show (bys f k (x / 256) * 256 + f (x % 256)) % 256 = f (x % 256) by omega, ih]
/-- every half of every byte is at most 4 -/
def Low (k x : Nat) : Prop := match k with
  | 0 => True
  | k + 1 => x % 16 ≤ 4 ∧ x % 256 / 16 ≤ 4 ∧ Low k (x / 256)
theorem step3 (k x : Nat) (hx : x < 256 ^ k) (h : Low k x) : (x / 16 + x) &&& mk 15 k = bys b3 k x := by
  induction k generalizing x with
  | zero => simp [mk, bys]
  | succ k ih =>
    obtain ⟨h1, h2, h3⟩ := h
    have e := ih (x / 256) (by rw [Nat.pow_succ] at hx; omega) h3
    have h5 : x / 256 % 16 ≤ 4 := by
      cases k with
      | zero => simp at hx; omega
      | succ k => exact h3.1
    rw [mk, bys, ← e, b3_nib _ (by omega) (by omega) (by omega)]
    have e1 := and_split (x / 256 / 16 + x / 256) (x / 256 % 16 * 16 + x % 256 / 16 + x % 256) (mk 15 k) 15 (by omega) (by omega)
    rw [show (x / 256 / 16 + x / 256) * 256 + (x / 256 % 16 * 16 + x % 256 / 16 + x % 256) = x / 16 + x by omega] at e1
    rw [e1]
    have e2 := Nat.and_two_pow_sub_one_eq_mod (x / 256 % 16 * 16 + x % 256 / 16 + x % 256) 4
    rw [show (2 : Nat) ^ 4 - 1 = 15 from rfl] at e2
    rw [e2]
    omega
theorem f12_low : ∀ x, x < 256 → b2 (b1 x) % 16 ≤ 4 ∧ b2 (b1 x) / 16 ≤ 4 ∧ b2 (b1 x) < 256 ∧ b3 (b2 (b1 x)) = Go.Lib.popAux 8 x := by decide +kernel
theorem low_bys (f : Nat → Nat) (hf : ∀ x, x < 256 → f x % 16 ≤ 4 ∧ f x / 16 ≤ 4 ∧ f x < 256) (k x : Nat) : Low k (bys f k x) := by
  induction k generalizing x with
  | zero => trivial
  | succ k ih =>
    obtain ⟨h1, h2, h3⟩ := hf (x % 256) (by omega)
    rw [bys]
    refine ⟨by omega, ?_, ?_⟩
    · rw [show (bys f k (x / 256) * 256 + f (x % 256)) % 256 = f (x % 256) by omega]; exact h2
    · rw [show (bys f k (x / 256) * 256 + f (x % 256)) / 256 = bys f k (x / 256) by omega]; exact ih _
theorem bys_congr (f g : Nat → Nat) (h : ∀ x, x < 256 → f x = g x) (k x : Nat) : bys f k x = bys g k x := by
  induction k generalizing x with
  | zero => rfl
  | succ k ih => rw [bys, bys, ih, h _ (by omega)]
theorem pop_add (a b x : Nat) : Go.Lib.popAux (a + b) x = Go.Lib.popAux a x + Go.Lib.popAux b (x / 2 ^ a) := by
  induction a generalizing x with
  | zero => simp [Go.Lib.popAux]
  | succ a ih => rw [show a + 1 + b = (a + b) + 1 by omega, Go.Lib.popAux, Go.Lib.popAux, ih, Nat.div_div_eq_div_mul, Nat.pow_succ, Nat.mul_comm 2]; omega
theorem pop_mod (a x : Nat) : Go.Lib.popAux a (x % 2 ^ a) = Go.Lib.popAux a x := by
  induction a generalizing x with
  | zero => rfl
  | succ a ih =>
    rw [Go.Lib.popAux, Go.Lib.popAux, ← ih (x / 2)]
    rw [show x % 2 ^ (a + 1) / 2 = x / 2 % 2 ^ a by rw [Nat.pow_succ, Nat.mul_comm, Nat.mod_mul_right_div_self], show x % 2 ^ (a + 1) % 2 = x % 2 by rw [Nat.pow_succ, Nat.mul_comm, Nat.mod_mul_right_mod]]
theorem pop8_le : ∀ x, x < 256 → Go.Lib.popAux 8 x ≤ 8 := by decide +kernel
/-- the three first steps leave each byte's ones in that byte -/
theorem three (x : Nat) (hx : x < 256 ^ 8) : let y := (x / 2 &&& mk 85 8) + (x &&& mk 85 8); let z := (y / 4 &&& mk 51 8) + (y &&& mk 51 8)
    y < 256 ^ 8 ∧ z < 256 ^ 8 ∧ z / 16 + z < 256 ^ 8 ∧ (z / 16 + z) &&& mk 15 8 = bys (fun b => Go.Lib.popAux 8 b) 8 x := by
  intro y z
  have hy : y = bys b1 8 x := step1 8 x hx
  have hy2 : y < 256 ^ 8 := by rw [hy]; exact bys_lt b1 (fun x h => by have := b1_lt x h; omega) 8 x
  have hz : z = bys b2 8 y := step2 8 y hy2
  have hz2 : z < 256 ^ 8 := by rw [hz]; exact bys_lt b2 (fun x h => by have := b2_lt x h; omega) 8 y
  have hz3 : z = bys (fun b => b2 (b1 b)) 8 x := by rw [hz, hy, bys_bys b1 b2 (fun x h => by have := b1_lt x h; omega)]
  have hlow : Low 8 z := by rw [hz3]; exact low_bys _ (fun x h => ⟨(f12_low x h).1, (f12_low x h).2.1, (f12_low x h).2.2.1⟩) 8 x
  have h7 : z / 256 ^ 7 ≤ 68 := by
    simp only [Low] at hlow
    omega
  refine ⟨hy2, hz2, by omega, ?_⟩
  rw [step3 8 z hz2 hlow, hz3, bys_bys _ b3 (fun x h => (f12_low x h).2.2.1)]
  exact bys_congr _ _ (fun x h => (f12_low x h).2.2.2) 8 x
theorem dig (p0 p1 p2 p3 p4 p5 p6 p7 y y1 y2 y3 : Nat) (l0 : p0 ≤ 8) (l1 : p1 ≤ 8) (l2 : p2 ≤ 8) (l3 : p3 ≤ 8) (l4 : p4 ≤ 8) (l5 : p5 ≤ 8) (l6 : p6 ≤ 8) (l7 : p7 ≤ 8)
    (hy : y = p7 * 72057594037927936 + p6 * 281474976710656 + p5 * 1099511627776 + p4 * 4294967296 + p3 * 16777216 + p2 * 65536 + p1 * 256 + p0)
    (h1 : y1 = y + y / 256) (h2 : y2 = y1 + y1 / 65536) (h3 : y3 = y2 + y2 / 4294967296) :
    y1 < 18446744073709551616 ∧ y2 < 18446744073709551616 ∧ y3 < 9223372036854775808 ∧ y3 % 128 = p0 + p1 + p2 + p3 + p4 + p5 + p6 + p7 := by
  have q0 : y / 256 = p7 * 281474976710656 + p6 * 1099511627776 + p5 * 4294967296 + p4 * 16777216 + p3 * 65536 + p2 * 256 + p1 := by omega
  have q1 : y1 = p7 * 72057594037927936 + (p6 + p7) * 281474976710656 + (p5 + p6) * 1099511627776 + (p4 + p5) * 4294967296 + (p3 + p4) * 16777216 + (p2 + p3) * 65536 + (p1 + p2) * 256 + (p0 + p1) := by omega
  clear h1 hy q0
  have q2 : y1 / 65536 = p7 * 1099511627776 + (p6 + p7) * 4294967296 + (p5 + p6) * 16777216 + (p4 + p5) * 65536 + (p3 + p4) * 256 + (p2 + p3) := by omega
  have q3 : y2 = p7 * 72057594037927936 + (p6 + p7) * 281474976710656 + (p5 + p6 + p7) * 1099511627776 + (p4 + p5 + p6 + p7) * 4294967296 + (p3 + p4 + p5 + p6) * 16777216 + (p2 + p3 + p4 + p5) * 65536 + (p1 + p2 + p3 + p4) * 256 + (p0 + p1 + p2 + p3) := by omega
  have q5 : y1 < 18446744073709551616 := by omega
  clear h2 q1 q2
  have q4 : y2 / 4294967296 = p7 * 16777216 + (p6 + p7) * 65536 + (p5 + p6 + p7) * 256 + (p4 + p5 + p6 + p7) := by omega
  refine ⟨q5, by omega, by omega, by omega⟩
/-- and the bytes are summed -/
theorem sums (x y y1 y2 y3 : Nat) (hy : y = bys (fun b => Go.Lib.popAux 8 b) 8 x) (h1 : y1 = y + y / 256) (h2 : y2 = y1 + y1 / 65536) (h3 : y3 = y2 + y2 / 4294967296) :
    y1 < 18446744073709551616 ∧ y2 < 18446744073709551616 ∧ y3 < 9223372036854775808 ∧ y3 % 128 = Go.Lib.onesCount x := by
  have e : ∀ k z, Go.Lib.popAux (8 * (k + 1)) z = Go.Lib.popAux 8 (z % 256) + Go.Lib.popAux (8 * k) (z / 256) := by
    intro k z
    rw [show 8 * (k + 1) = 8 + 8 * k by omega, pop_add, ← pop_mod 8 z]
  have l := fun z : Nat => pop8_le (z % 256) (by omega)
  have ho : Go.Lib.onesCount x = Go.Lib.popAux 8 (x % 256) + Go.Lib.popAux 8 (x / 256 % 256) + Go.Lib.popAux 8 (x / 256 / 256 % 256) + Go.Lib.popAux 8 (x / 256 / 256 / 256 % 256) + Go.Lib.popAux 8 (x / 256 / 256 / 256 / 256 % 256) + Go.Lib.popAux 8 (x / 256 / 256 / 256 / 256 / 256 % 256)
      + Go.Lib.popAux 8 (x / 256 / 256 / 256 / 256 / 256 / 256 % 256) + Go.Lib.popAux 8 (x / 256 / 256 / 256 / 256 / 256 / 256 / 256 % 256) := by
    unfold Go.Lib.onesCount
    rw [show (64 : Nat) = 8 * (7 + 1) from rfl, e 7, e 6, e 5, e 4, e 3, e 2, e 1,
      show Go.Lib.popAux (8 * 1) (x / 256 / 256 / 256 / 256 / 256 / 256 / 256) = Go.Lib.popAux 8 (x / 256 / 256 / 256 / 256 / 256 / 256 / 256 % 256) from (pop_mod 8 _).symm]
    simp only [Nat.add_assoc]
  rw [ho]
  refine dig _ _ _ _ _ _ _ _ y y1 y2 y3 (l _) (l _) (l _) (l _) (l _) (l _) (l _) (l _) ?_ h1 h2 h3
  rw [hy]
  simp only [bys]
  omega
end Go.Proofs.YtffphlbbophjfaaDoor.Bs
