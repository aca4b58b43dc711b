/- slices.IsSorted, order.Rising, order.Lower and order.Upper at any row of numbers below a million. -/
import Derived.Test.YtcjpimocbgeheaaOrderPerm
import Derived.IntWalk
namespace Go.Proofs.Ytcjpimocbgeheaa.Od
open Go.ChangeShapes Go.WideShapes Go.ChangeAt Go.RowKit
set_option linter.unusedVariables false

theorem nan_any (x : Int) (w : World) : Calls Try.prog 40 #[.int .i64 x] w fun e w' => e = .returned (.bool false) ∧ w' = w := by
  go_enter Try.func40, Try.ntmps40
  go_wp2
  go_ret
  exact ⟨by simp, rfl⟩
theorem nan_left (x : Int) (w : World) : Calls Try.prog 40 #[.int .i64 x] w fun e w' => e = .returned (.bool false) ∧ w = w' :=
  (nan_any x w).mono fun _ _ h => ⟨h.1, h.2.symm⟩
theorem less_yes (x y : Int) (w : World) (h : x < y) : Calls Try.prog 39 #[.int .i64 x, .int .i64 y] w fun e w' => e = .returned (.bool true) ∧ w' = w := by
  have hd : decide (x < y) = true := by simpa using h
  go_enter Try.func39, Try.ntmps39
  go_wp2_with (go_at_call 40; refine (nan_left _ _).mono ?_; rintro e w' ⟨rfl, rfl⟩)
  go_ret
  exact ⟨rfl, rfl⟩
theorem less_no (x y : Int) (w : World) (h : ¬ x < y) : Calls Try.prog 39 #[.int .i64 x, .int .i64 y] w fun e w' => e = .returned (.bool false) ∧ w' = w := by
  have hd : decide (x < y) = false := by simpa using h
  go_enter Try.func39, Try.ntmps39
  go_wp2_with (go_at_call 40; refine (nan_left _ _).mono ?_; rintro e w' ⟨rfl, rfl⟩)
  go_ret
  exact ⟨rfl, rfl⟩

/-- the row does not fall -/
def nf : List Int → Bool
  | x :: y :: t => decide (x ≤ y) && nf (y :: t)
  | _ => true
theorem nf_iff (l : List Int) : nf l = true ↔ ∀ i, 0 < i → i < l.length → l.getD (i - 1) 0 ≤ l.getD i 0 := by
  induction l with
  | nil => simp [nf]
  | cons x l ih =>
    cases l with
    | nil => simp [nf]; intro i h1 h2; omega
    | cons y t =>
      simp only [nf, Bool.and_eq_true, decide_eq_true_eq, ih]
      constructor
      · rintro ⟨h1, h2⟩ i hi hl
        match i with
        | 1 => simpa using h1
        | i + 2 =>
          have := h2 (i + 1) (by omega) (by simp at hl ⊢; omega)
          simpa using this
      · intro h
        refine ⟨by simpa using h 1 (by omega) (by simp), fun i hi hl => ?_⟩
        have := h (i + 1) (by omega) (by simp at hl ⊢; omega)
        match i, hi with
        | i + 1, _ => simpa using this

set_option maxHeartbeats 1000000 in
theorem isSorted_any (w : World) (A : Option Addr) (n c : Nat) (zs : List Int) (hn : Hid (n = zs.length)) (hN : n ≤ 1000000) (hx : Rd w (· < w.heap.size) A (ic zs)) :
    Calls Try.prog 38 #[.slice A n c] w fun e w' => e = .returned (.bool (nf zs)) ∧ Below w.heap.size w w' := by
  have HX := Lib.hid hx
  clear hx
  go_enter Try.func38, Try.ntmps38
  go_wp2
  go_loopw [3] (fun v3 wr => ∃ i : Int, v3 = .int .i64 i ∧ -1 ≤ i ∧ i ≤ (n : Int) - 1 ∧ Below w.heap.size w wr ∧ Hid (∀ j : Nat, i < j → 0 < j → j < n → zs.getD (j - 1) 0 ≤ zs.getD j 0)) (fun v _ => (intOf v).toNat)
  case atStart => exact ⟨_, rfl, by omega, by omega, Below.refl _ _, fun j h1 _ h2 => by omega⟩
  case round =>
    obtain ⟨i, rfl, hi1, hi2, hbel, hall⟩ := hrel
    by_cases hlt : 0 < i
    · obtain ⟨k, rfl⟩ : ∃ k : Nat, i = (k : Int) := ⟨i.toNat, by omega⟩
      have hkn : k < n := by omega
      obtain ⟨ad, rfl, hS, hcell⟩ := (HX.out.below2 hbel).at_ (k := k) (by rw [← hn.out]; exact hkn)
      have hx0 := hcell k (by rw [← hn.out]; exact hkn)
      have hx1 := hcell (k - 1) (by rw [← hn.out]; omega)
      have HB := Lib.hid hbel
      clear hcell hbel
      have hk1 : (0 : Int) ≤ (k : Int) - 1 := by omega
      by_cases hl : zs.getD k 0 < zs.getD (k - 1) 0
      · have HF : Hid (nf zs = false) := by
          show _ = _
          rw [← Bool.not_eq_true, nf_iff]
          intro h
          have := h k (by omega) (by rw [← hn.out]; exact hkn)
          omega
        obtain ⟨x, hx⟩ : ∃ x, x = zs.getD k 0 := ⟨_, rfl⟩
        obtain ⟨y, hy⟩ : ∃ y, y = zs.getD (k - 1) 0 := ⟨_, rfl⟩
        rw [← hx] at hx0 hl
        rw [← hy] at hx1 hl
        clear hx hy
        go_wp2
        have ew : IntKind.i64.wrap ((k : Int) - 1) = (k : Int) - 1 := IntWalk.i64_in _ (by omega)
        have et : ((k : Int) - 1).toNat = k - 1 := by omega
        have eb : (k : Int) - 1 < (n : Int) := by omega
        have ec : (1 : Int) ≤ (k : Int) := by omega
        have ed : (k : Int) < (n : Int) + 1 := by omega
        have ef : (0 : Int) ≤ (k : Int) - 1 := by omega
        go_quiet ((go_at_call 39; exact Calls.quiet_of_same (less_yes x y (wr.drewN _) hl)))
        clear ew et eb ec ed ef
        go_wp2
        go_ret
        exact ⟨ret_b HF.out, below_drewN HB.out _⟩
      · have HF : Hid (∀ j : Nat, (k : Int) - 1 < j → 0 < j → j < n → zs.getD (j - 1) 0 ≤ zs.getD j 0) := by
          intro j h1 h2 h3
          by_cases hj : j = k
          · subst hj; omega
          · exact hall.out j (by omega) h2 h3
        obtain ⟨x, hx⟩ : ∃ x, x = zs.getD k 0 := ⟨_, rfl⟩
        obtain ⟨y, hy⟩ : ∃ y, y = zs.getD (k - 1) 0 := ⟨_, rfl⟩
        rw [← hx] at hx0 hl
        rw [← hy] at hx1 hl
        clear hx hy hall
        go_wp2
        have ew : IntKind.i64.wrap ((k : Int) - 1) = (k : Int) - 1 := IntWalk.i64_in _ (by omega)
        have et : ((k : Int) - 1).toNat = k - 1 := by omega
        have eb : (k : Int) - 1 < (n : Int) := by omega
        have ec : (1 : Int) ≤ (k : Int) := by omega
        have ed : (k : Int) < (n : Int) + 1 := by omega
        have ef : (0 : Int) ≤ (k : Int) - 1 := by omega
        go_quiet ((go_at_call 39; exact Calls.quiet_of_same (less_no x y (wr.drewN _) (by omega))))
        clear ew et eb ec ed ef
        go_wp2
        go_roundw
        case rel => exact ⟨_, rfl, by omega, by omega, below_drewN HB.out _, HF⟩
        case measure => simp [intOf]; omega
    · have HF : Hid (nf zs = true) := by
        show _ = _
        rw [nf_iff]
        intro j h1 h2
        exact hall.out j (by omega) h1 (by rw [hn.out]; exact h2)
      have HB := Lib.hid hbel
      clear hbel hall
      go_wp2
      go_ret
      exact ⟨ret_b HF.out, HB.out⟩
/-- the row rises -/
def rs : List Int → Bool
  | x :: y :: t => decide (x < y) && rs (y :: t)
  | _ => true
theorem rs_iff (l : List Int) : rs l = true ↔ ∀ i, 0 < i → i < l.length → l.getD (i - 1) 0 < l.getD i 0 := by
  induction l with
  | nil => simp [rs]
  | cons x l ih =>
    cases l with
    | nil => simp [rs]; intro i h1 h2; omega
    | cons y t =>
      simp only [rs, Bool.and_eq_true, decide_eq_true_eq, ih]
      constructor
      · rintro ⟨h1, h2⟩ i hi hl
        match i with
        | 1 => simpa using h1
        | i + 2 =>
          have := h2 (i + 1) (by omega) (by simp at hl ⊢; omega)
          simpa using this
      · intro h
        refine ⟨by simpa using h 1 (by omega) (by simp), fun i hi hl => ?_⟩
        have := h (i + 1) (by omega) (by simp at hl ⊢; omega)
        match i, hi with
        | i + 1, _ => simpa using this


set_option maxHeartbeats 1000000 in
theorem rising_any (w : World) (A : Option Addr) (n c : Nat) (zs : List Int) (hn : Hid (n = zs.length)) (hN : n ≤ 1000000) (hx : Rd w (· < w.heap.size) A (ic zs)) :
    Calls Try.prog 14 #[.slice A n c] w fun e w' => e = .returned (.bool (rs zs)) ∧ Below w.heap.size w w' := by
  have HX := Lib.hid hx
  clear hx
  go_enter Try.func14, Try.ntmps14
  go_wp2
  go_loopw [3] (fun v3 wr => ∃ k : Nat, v3 = .int .i64 k ∧ 1 ≤ k ∧ k ≤ n + 1 ∧ Below w.heap.size w wr ∧ Hid (∀ j : Nat, j < k → 0 < j → j < n → zs.getD (j - 1) 0 < zs.getD j 0)) (fun v _ => n + 1 - (intOf v).toNat)
  case atStart => exact ⟨1, rfl, by omega, by omega, Below.refl _ _, fun j h1 _ h2 => by omega⟩
  case round =>
    obtain ⟨k, rfl, hk1, hk2, hbel, hall⟩ := hrel
    by_cases hlt : k < n
    · obtain ⟨ad, rfl, hS, hcell⟩ := (HX.out.below2 hbel).at_ (k := k) (by rw [← hn.out]; exact hlt)
      have hx0 := hcell k (by rw [← hn.out]; exact hlt)
      have hx1 := hcell (k - 1) (by rw [← hn.out]; omega)
      have HB := Lib.hid hbel
      clear hcell hbel
      by_cases hl : zs.getD k 0 ≤ zs.getD (k - 1) 0
      · have HF : Hid ((rs zs) = false) := by
          show _ = _
          rw [← Bool.not_eq_true, rs_iff]
          intro h
          have := h k (by omega) (by rw [← hn.out]; exact hlt)
          omega
        obtain ⟨x, hx⟩ : ∃ x, x = zs.getD k 0 := ⟨_, rfl⟩
        obtain ⟨y, hy⟩ : ∃ y, y = zs.getD (k - 1) 0 := ⟨_, rfl⟩
        rw [← hx] at hx0 hl
        rw [← hy] at hx1 hl
        have hd : decide (x ≤ y) = true := by simpa using hl
        clear hx hy
        go_wp2
        have ew : IntKind.i64.wrap ((k : Int) - 1) = (k : Int) - 1 := IntWalk.i64_in _ (by omega)
        have et : ((k : Int) - 1).toNat = k - 1 := by omega
        have eb : (k : Int) - 1 < (n : Int) := by omega
        have ec : (1 : Int) ≤ (k : Int) := by omega
        have ed : (k : Int) < (n : Int) + 1 := by omega
        have ef : (0 : Int) ≤ (k : Int) - 1 := by omega
        go_quiet (fail)
        clear ew et eb ec ed ef
        go_wp2
        go_ret
        exact ⟨ret_b HF.out, below_drewN HB.out _⟩
      · have HF : Hid (∀ j : Nat, j < k + 1 → 0 < j → j < n → zs.getD (j - 1) 0 < zs.getD j 0) := by
          intro j h1 h2 h3
          by_cases hj : j = k
          · subst hj; omega
          · exact hall.out j (by omega) h2 h3
        obtain ⟨x, hx⟩ : ∃ x, x = zs.getD k 0 := ⟨_, rfl⟩
        obtain ⟨y, hy⟩ : ∃ y, y = zs.getD (k - 1) 0 := ⟨_, rfl⟩
        rw [← hx] at hx0 hl
        rw [← hy] at hx1 hl
        have hd : decide (x ≤ y) = false := by simpa using hl
        clear hx hy hall
        go_wp2
        have ew : IntKind.i64.wrap ((k : Int) - 1) = (k : Int) - 1 := IntWalk.i64_in _ (by omega)
        have et : ((k : Int) - 1).toNat = k - 1 := by omega
        have eb : (k : Int) - 1 < (n : Int) := by omega
        have ec : (1 : Int) ≤ (k : Int) := by omega
        have ed : (k : Int) < (n : Int) + 1 := by omega
        have ef : (0 : Int) ≤ (k : Int) - 1 := by omega
        go_quiet (fail)
        clear ew et eb ec ed ef
        go_wp2
        go_roundw
        case rel => exact ⟨k + 1, by go_num, by omega, by omega, below_drewN HB.out _, HF⟩
        case measure => simp [intOf]; omega
    · have HF : Hid ((rs zs) = true) := by
        show _ = _
        rw [rs_iff]
        intro j h1 h2
        exact hall.out j (by rw [← hn.out] at h2; omega) h1 (by rw [hn.out]; exact h2)
      have HB := Lib.hid hbel
      clear hbel hall
      go_wp2
      go_ret
      exact ⟨ret_b HF.out, HB.out⟩

set_option maxHeartbeats 1000000 in
theorem refRising_any (w : World) (A : Option Addr) (n c : Nat) (zs : List Int) (hn : Hid (n = zs.length)) (hN : n ≤ 1000000) (hx : Rd w (· < w.heap.size) A (ic zs)) :
    Calls Try.prog 25 #[.slice A n c] w fun e w' => e = .returned (.bool (rs zs)) ∧ Below w.heap.size w w' := by
  have HX := Lib.hid hx
  clear hx
  go_enter Try.func25, Try.ntmps25
  go_wp2
  go_loopw [3] (fun v3 wr => ∃ k : Nat, v3 = .int .i64 k ∧ 1 ≤ k ∧ k ≤ n + 1 ∧ Below w.heap.size w wr ∧ Hid (∀ j : Nat, j < k → 0 < j → j < n → zs.getD (j - 1) 0 < zs.getD j 0)) (fun v _ => n + 1 - (intOf v).toNat)
  case atStart => exact ⟨1, rfl, by omega, by omega, Below.refl _ _, fun j h1 _ h2 => by omega⟩
  case round =>
    obtain ⟨k, rfl, hk1, hk2, hbel, hall⟩ := hrel
    by_cases hlt : k < n
    · obtain ⟨ad, rfl, hS, hcell⟩ := (HX.out.below2 hbel).at_ (k := k) (by rw [← hn.out]; exact hlt)
      have hx0 := hcell k (by rw [← hn.out]; exact hlt)
      have hx1 := hcell (k - 1) (by rw [← hn.out]; omega)
      have HB := Lib.hid hbel
      clear hcell hbel
      by_cases hl : zs.getD k 0 ≤ zs.getD (k - 1) 0
      · have HF : Hid ((rs zs) = false) := by
          show _ = _
          rw [← Bool.not_eq_true, rs_iff]
          intro h
          have := h k (by omega) (by rw [← hn.out]; exact hlt)
          omega
        obtain ⟨x, hx⟩ : ∃ x, x = zs.getD k 0 := ⟨_, rfl⟩
        obtain ⟨y, hy⟩ : ∃ y, y = zs.getD (k - 1) 0 := ⟨_, rfl⟩
        rw [← hx] at hx0 hl
        rw [← hy] at hx1 hl
        have hd : decide (x ≤ y) = true := by simpa using hl
        clear hx hy
        go_wp2
        have ew : IntKind.i64.wrap ((k : Int) - 1) = (k : Int) - 1 := IntWalk.i64_in _ (by omega)
        have et : ((k : Int) - 1).toNat = k - 1 := by omega
        have eb : (k : Int) - 1 < (n : Int) := by omega
        have ec : (1 : Int) ≤ (k : Int) := by omega
        have ed : (k : Int) < (n : Int) + 1 := by omega
        have ef : (0 : Int) ≤ (k : Int) - 1 := by omega
        go_quiet (fail)
        clear ew et eb ec ed ef
        go_wp2
        go_ret
        exact ⟨ret_b HF.out, below_drewN HB.out _⟩
      · have HF : Hid (∀ j : Nat, j < k + 1 → 0 < j → j < n → zs.getD (j - 1) 0 < zs.getD j 0) := by
          intro j h1 h2 h3
          by_cases hj : j = k
          · subst hj; omega
          · exact hall.out j (by omega) h2 h3
        obtain ⟨x, hx⟩ : ∃ x, x = zs.getD k 0 := ⟨_, rfl⟩
        obtain ⟨y, hy⟩ : ∃ y, y = zs.getD (k - 1) 0 := ⟨_, rfl⟩
        rw [← hx] at hx0 hl
        rw [← hy] at hx1 hl
        have hd : decide (x ≤ y) = false := by simpa using hl
        clear hx hy hall
        go_wp2
        have ew : IntKind.i64.wrap ((k : Int) - 1) = (k : Int) - 1 := IntWalk.i64_in _ (by omega)
        have et : ((k : Int) - 1).toNat = k - 1 := by omega
        have eb : (k : Int) - 1 < (n : Int) := by omega
        have ec : (1 : Int) ≤ (k : Int) := by omega
        have ed : (k : Int) < (n : Int) + 1 := by omega
        have ef : (0 : Int) ≤ (k : Int) - 1 := by omega
        go_quiet (fail)
        clear ew et eb ec ed ef
        go_wp2
        go_roundw
        case rel => exact ⟨k + 1, by go_num, by omega, by omega, below_drewN HB.out _, HF⟩
        case measure => simp [intOf]; omega
    · have HF : Hid ((rs zs) = true) := by
        show _ = _
        rw [rs_iff]
        intro j h1 h2
        exact hall.out j (by rw [← hn.out] at h2; omega) h1 (by rw [hn.out]; exact h2)
      have HB := Lib.hid hbel
      clear hbel hall
      go_wp2
      go_ret
      exact ⟨ret_b HF.out, HB.out⟩

set_option maxHeartbeats 1000000 in
theorem falls_any (w : World) (A : Option Addr) (n c : Nat) (zs : List Int) (hn : Hid (n = zs.length)) (hN : n ≤ 1000000) (hx : Rd w (· < w.heap.size) A (ic zs)) :
    Calls Try.prog 37 #[.slice A n c] w fun e w' => e = .returned (.bool (!nf zs)) ∧ Below w.heap.size w w' := by
  have HX := Lib.hid hx
  clear hx
  go_enter Try.func37, Try.ntmps37
  go_wp2
  go_loopw [3] (fun v3 wr => ∃ k : Nat, v3 = .int .i64 k ∧ 1 ≤ k ∧ k ≤ n + 1 ∧ Below w.heap.size w wr ∧ Hid (∀ j : Nat, j < k → 0 < j → j < n → zs.getD (j - 1) 0 ≤ zs.getD j 0)) (fun v _ => n + 1 - (intOf v).toNat)
  case atStart => exact ⟨1, rfl, by omega, by omega, Below.refl _ _, fun j h1 _ h2 => by omega⟩
  case round =>
    obtain ⟨k, rfl, hk1, hk2, hbel, hall⟩ := hrel
    by_cases hlt : k < n
    · obtain ⟨ad, rfl, hS, hcell⟩ := (HX.out.below2 hbel).at_ (k := k) (by rw [← hn.out]; exact hlt)
      have hx0 := hcell k (by rw [← hn.out]; exact hlt)
      have hx1 := hcell (k - 1) (by rw [← hn.out]; omega)
      have HB := Lib.hid hbel
      clear hcell hbel
      by_cases hl : zs.getD k 0 < zs.getD (k - 1) 0
      · have HF : Hid ((nf zs) = false) := by
          show _ = _
          rw [← Bool.not_eq_true, nf_iff]
          intro h
          have := h k (by omega) (by rw [← hn.out]; exact hlt)
          omega
        obtain ⟨x, hx⟩ : ∃ x, x = zs.getD k 0 := ⟨_, rfl⟩
        obtain ⟨y, hy⟩ : ∃ y, y = zs.getD (k - 1) 0 := ⟨_, rfl⟩
        rw [← hx] at hx0 hl
        rw [← hy] at hx1 hl
        have hd : decide (x < y) = true := by simpa using hl
        clear hx hy
        go_wp2
        have ew : IntKind.i64.wrap ((k : Int) - 1) = (k : Int) - 1 := IntWalk.i64_in _ (by omega)
        have et : ((k : Int) - 1).toNat = k - 1 := by omega
        have eb : (k : Int) - 1 < (n : Int) := by omega
        have ec : (1 : Int) ≤ (k : Int) := by omega
        have ed : (k : Int) < (n : Int) + 1 := by omega
        have ef : (0 : Int) ≤ (k : Int) - 1 := by omega
        go_quiet (fail)
        clear ew et eb ec ed ef
        go_wp2
        go_ret
        exact ⟨ret_b (by rw [HF.out]; rfl), below_drewN HB.out _⟩
      · have HF : Hid (∀ j : Nat, j < k + 1 → 0 < j → j < n → zs.getD (j - 1) 0 ≤ zs.getD j 0) := by
          intro j h1 h2 h3
          by_cases hj : j = k
          · subst hj; omega
          · exact hall.out j (by omega) h2 h3
        obtain ⟨x, hx⟩ : ∃ x, x = zs.getD k 0 := ⟨_, rfl⟩
        obtain ⟨y, hy⟩ : ∃ y, y = zs.getD (k - 1) 0 := ⟨_, rfl⟩
        rw [← hx] at hx0 hl
        rw [← hy] at hx1 hl
        have hd : decide (x < y) = false := by simpa using hl
        clear hx hy hall
        go_wp2
        have ew : IntKind.i64.wrap ((k : Int) - 1) = (k : Int) - 1 := IntWalk.i64_in _ (by omega)
        have et : ((k : Int) - 1).toNat = k - 1 := by omega
        have eb : (k : Int) - 1 < (n : Int) := by omega
        have ec : (1 : Int) ≤ (k : Int) := by omega
        have ed : (k : Int) < (n : Int) + 1 := by omega
        have ef : (0 : Int) ≤ (k : Int) - 1 := by omega
        go_quiet (fail)
        clear ew et eb ec ed ef
        go_wp2
        go_roundw
        case rel => exact ⟨k + 1, by go_num, by omega, by omega, below_drewN HB.out _, HF⟩
        case measure => simp [intOf]; omega
    · have HF : Hid ((nf zs) = true) := by
        show _ = _
        rw [nf_iff]
        intro j h1 h2
        exact hall.out j (by rw [← hn.out] at h2; omega) h1 (by rw [hn.out]; exact h2)
      have HB := Lib.hid hbel
      clear hbel hall
      go_wp2
      go_ret
      exact ⟨ret_b (by rw [HF.out]; rfl), HB.out⟩
end Go.Proofs.Ytcjpimocbgeheaa.Od
