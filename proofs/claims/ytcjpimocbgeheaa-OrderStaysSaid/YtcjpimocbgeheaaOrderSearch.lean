/- order.first, order.Lower and order.Upper, and the document's answers for them, at any row of numbers below a million. -/
import Derived.Test.YtcjpimocbgeheaaOrderFind
namespace Go.Proofs.Ytcjpimocbgeheaa.Od
open Go.ChangeShapes Go.WideShapes Go.ChangeAt Go.RowKit
set_option linter.unusedVariables false

theorem nf_mono {zs : List Int} (h : nf zs = true) {i j : Nat} (hij : i ≤ j) (hj : j < zs.length) : zs.getD i 0 ≤ zs.getD j 0 := by
  have h' := (nf_iff zs).1 h
  induction j with
  | zero => have : i = 0 := by omega
            subst this; exact Int.le_refl _
  | succ j ih =>
    by_cases e : i = j + 1
    · subst e; exact Int.le_refl _
    · have h1 := ih (by omega) (by omega)
      have h2 := h' (j + 1) (by omega) hj
      simp only [Nat.add_sub_cancel] at h2
      omega

theorem fi_eq {p : Int → Bool} {zs : List Int} {k : Nat} (hk : k ≤ zs.length) (h1 : ∀ j, j < k → p (zs.getD j 0) = false) (h2 : k < zs.length → p (zs.getD k 0) = true) : zs.findIdx p = k := by
  by_cases h : k < zs.length
  · rw [List.findIdx_eq h]
    have e : ∀ j (hj : j < zs.length), zs.getD j 0 = zs[j] := fun j hj => by simp [List.getD_eq_getElem?_getD, List.getElem?_eq_getElem hj]
    refine ⟨by rw [← e k h]; exact h2 h, fun j hj => by rw [← e j (by omega)]; exact h1 j hj⟩
  · have hkl : k = zs.length := by omega
    rw [hkl, List.findIdx_eq_length]
    intro x hx
    obtain ⟨j, hj, rfl⟩ := List.getElem_of_mem hx
    have := h1 j (by omega)
    simpa [List.getD_eq_getElem?_getD, List.getElem?_eq_getElem hj] using this

def lowB (x y : Int) : Bool := decide (x ≤ y)
def upB (x y : Int) : Bool := decide (x < y)
/-- the first place of what has reached x by p; -1 of a row that falls -/
def placeS (p : Int → Bool) (zs : List Int) : Int := if nf zs = true then (zs.findIdx p : Nat) else -1

def FirstRel (w : World) (n : Nat) (zs : List Int) (p : Int → Bool) (v7 v8 : Value) (wr : World) : Prop :=
  ∃ lo hi : Nat, v7 = .int .i64 lo ∧ v8 = .int .i64 hi ∧ lo ≤ hi ∧ hi ≤ n ∧ Below w.heap.size w wr ∧ Hid (∀ j, j < lo → p (zs.getD j 0) = false) ∧ Hid (∀ j, hi ≤ j → j < n → p (zs.getD j 0) = true)

theorem reach_low_yes (a x : Int) (w : World) (h : Hid (lowB x a = true)) : Calls Try.prog 33 #[.int .i64 a, .int .i64 x] w fun e w' => e = .returned (.bool true) ∧ w = w' := by
  have hd : decide (x ≤ a) = true := h.out
  go_enter Try.func33, Try.ntmps33
  go_wp2
  go_ret
  exact ⟨rfl, rfl⟩
theorem reach_low_no (a x : Int) (w : World) (h : Hid (lowB x a = false)) : Calls Try.prog 33 #[.int .i64 a, .int .i64 x] w fun e w' => e = .returned (.bool false) ∧ w = w' := by
  have hd : decide (x ≤ a) = false := h.out
  go_enter Try.func33, Try.ntmps33
  go_wp2
  go_ret
  exact ⟨rfl, rfl⟩
theorem reach_up_yes (a x : Int) (w : World) (h : Hid (upB x a = true)) : Calls Try.prog 34 #[.int .i64 a, .int .i64 x] w fun e w' => e = .returned (.bool true) ∧ w = w' := by
  have hd : decide (x < a) = true := h.out
  go_enter Try.func34, Try.ntmps34
  go_wp2
  go_ret
  exact ⟨rfl, rfl⟩
theorem reach_up_no (a x : Int) (w : World) (h : Hid (upB x a = false)) : Calls Try.prog 34 #[.int .i64 a, .int .i64 x] w fun e w' => e = .returned (.bool false) ∧ w = w' := by
  have hd : decide (x < a) = false := h.out
  go_enter Try.func34, Try.ntmps34
  go_wp2
  go_ret
  exact ⟨rfl, rfl⟩
theorem low_mono {x a b : Int} (h : lowB x a = true) (hab : a ≤ b) : lowB x b = true := by simp only [lowB, decide_eq_true_eq] at h ⊢; omega
theorem up_mono {x a b : Int} (h : upB x a = true) (hab : a ≤ b) : upB x b = true := by simp only [upB, decide_eq_true_eq] at h ⊢; omega

set_option maxHeartbeats 1000000 in
theorem first_low (w : World) (A : Option Addr) (n c : Nat) (x : Int) (zs : List Int) (hn : Hid (n = zs.length)) (hN : n ≤ 1000000) (hx : Rd w (· < w.heap.size) A (ic zs)) :
    Calls Try.prog 32 #[.slice A n c, .int .i64 x, .func (.func 33) #[] #[]] w fun e w' => e = .returned (.int .i64 (placeS (lowB x) zs)) ∧ Below w.heap.size w w' := by
  have HX := Lib.hid hx
  clear hx
  by_cases hs : nf zs = true
  · have HS := Lib.hid hs
    have HC := Lib.hid (isSorted_any w A n c zs hn hN HX.out)
    rw [hs] at HC
    clear hs
    go_enter Try.func32, Try.ntmps32
    go_wp2_with (go_at_call 38; refine HC.out.mono ?_; rintro e w1 ⟨rfl, hb1⟩)
    have H0 := Lib.hid (show FirstRel w n zs (lowB x) (.int .i64 ((0 : Nat) : Int)) (.int .i64 n) w1 from ⟨0, n, rfl, rfl, by omega, by omega, hb1, fun j hj => by omega, fun j h1 h2 => by omega⟩)
    clear hb1
    go_loopw [7, 8] (fun v7 v8 wr => FirstRel w n zs (lowB x) v7 v8 wr) (fun v7 v8 _ => (intOf v8 - intOf v7).toNat)
    case atStart => exact H0.out
    case round =>
      obtain ⟨lo, hi, rfl, rfl, h1, h2, hbel, hlo, hhi⟩ := hrel
      clear H0
      by_cases hlt : lo < hi
      · have hm1 : lo + (hi - lo) / 2 < hi := by omega
        obtain ⟨ad, rfl, hS, hcell⟩ := (HX.out.below2 hbel).at_ (k := lo) (by rw [← hn.out]; omega)
        have hx0 := hcell (lo + (hi - lo) / 2) (by rw [← hn.out]; omega)
        have HB := Lib.hid hbel
        clear hcell hbel
        obtain ⟨a, ha⟩ : ∃ a, a = zs.getD (lo + (hi - lo) / 2) 0 := ⟨_, rfl⟩
        rw [← ha] at hx0
        have HA := Lib.hid ha
        clear ha
        by_cases hp : lowB x a = true
        · have HP := Lib.hid hp
          have HR := Lib.hid (show FirstRel w n zs (lowB x) (.int .i64 lo) (.int .i64 ((lo : Int) + ((hi : Int) - (lo : Int)) / 2)) wr from
            ⟨lo, lo + (hi - lo) / 2, rfl, by congr 1; omega, by omega, by omega, HB.out, hlo, fun j h3 h4 => low_mono hp (by rw [HA.out]; exact nf_mono HS.out h3 (by rw [← hn.out]; exact h4))⟩)
          clear hp hlo hhi
          go_wp2_with (go_at_call 33; refine (reach_low_yes a x _ HP).mono ?_; rintro e w' ⟨rfl, rfl⟩)
          go_roundw
          case rel => exact HR.out
          case measure => simp [intOf]; omega
        · have hp' : lowB x a = false := by simpa using hp
          have HP := Lib.hid hp'
          have HR := Lib.hid (show FirstRel w n zs (lowB x) (.int .i64 ((lo : Int) + ((hi : Int) - (lo : Int)) / 2 + 1)) (.int .i64 hi) wr from
            ⟨lo + (hi - lo) / 2 + 1, hi, by congr 1; omega, rfl, by omega, by omega, HB.out, fun j h3 => by
              by_cases hq : lowB x (zs.getD j 0) = true
              · have := low_mono hq (nf_mono HS.out (i := j) (j := lo + (hi - lo) / 2) (by omega) (by rw [← hn.out]; omega))
                rw [← HA.out] at this
                rw [hp'] at this; cases this
              · simpa using hq, hhi⟩)
          clear hp hp' hlo hhi
          go_wp2_with (go_at_call 33; refine (reach_low_no a x _ HP).mono ?_; rintro e w' ⟨rfl, rfl⟩)
          go_roundw
          case rel => exact HR.out
          case measure => simp [intOf]; omega
      · have he : hi = lo := by omega
        subst he
        have HF : Hid (placeS (lowB x) zs = (hi : Int)) := by
          show _ = _
          unfold placeS
          rw [if_pos HS.out, fi_eq (by rw [← hn.out]; exact h2) hlo.out (fun h => hhi.out hi (Nat.le_refl _) (by rw [hn.out]; exact h))]
        have HB := Lib.hid hbel
        clear hlo hhi hbel
        go_wp2
        go_ret
        exact ⟨ret_i HF.out.symm, HB.out⟩
  · have hs' : nf zs = false := by simpa using hs
    have HC := Lib.hid (isSorted_any w A n c zs hn hN HX.out)
    rw [hs'] at HC
    have HF : Hid (placeS (lowB x) zs = -1) := by show _ = _; unfold placeS; rw [if_neg hs]
    clear hs hs'
    go_enter Try.func32, Try.ntmps32
    go_wp2_with (go_at_call 38; refine HC.out.mono ?_; rintro e w1 ⟨rfl, hb1⟩)
    go_ret
    exact ⟨ret_i HF.out.symm, hb1⟩

set_option maxHeartbeats 1000000 in
theorem first_up (w : World) (A : Option Addr) (n c : Nat) (x : Int) (zs : List Int) (hn : Hid (n = zs.length)) (hN : n ≤ 1000000) (hx : Rd w (· < w.heap.size) A (ic zs)) :
    Calls Try.prog 32 #[.slice A n c, .int .i64 x, .func (.func 34) #[] #[]] w fun e w' => e = .returned (.int .i64 (placeS (upB x) zs)) ∧ Below w.heap.size w w' := by
  have HX := Lib.hid hx
  clear hx
  by_cases hs : nf zs = true
  · have HS := Lib.hid hs
    have HC := Lib.hid (isSorted_any w A n c zs hn hN HX.out)
    rw [hs] at HC
    clear hs
    go_enter Try.func32, Try.ntmps32
    go_wp2_with (go_at_call 38; refine HC.out.mono ?_; rintro e w1 ⟨rfl, hb1⟩)
    have H0 := Lib.hid (show FirstRel w n zs (upB x) (.int .i64 ((0 : Nat) : Int)) (.int .i64 n) w1 from ⟨0, n, rfl, rfl, by omega, by omega, hb1, fun j hj => by omega, fun j h1 h2 => by omega⟩)
    clear hb1
    go_loopw [7, 8] (fun v7 v8 wr => FirstRel w n zs (upB x) v7 v8 wr) (fun v7 v8 _ => (intOf v8 - intOf v7).toNat)
    case atStart => exact H0.out
    case round =>
      obtain ⟨lo, hi, rfl, rfl, h1, h2, hbel, hlo, hhi⟩ := hrel
      clear H0
      by_cases hlt : lo < hi
      · have hm1 : lo + (hi - lo) / 2 < hi := by omega
        obtain ⟨ad, rfl, hS, hcell⟩ := (HX.out.below2 hbel).at_ (k := lo) (by rw [← hn.out]; omega)
        have hx0 := hcell (lo + (hi - lo) / 2) (by rw [← hn.out]; omega)
        have HB := Lib.hid hbel
        clear hcell hbel
        obtain ⟨a, ha⟩ : ∃ a, a = zs.getD (lo + (hi - lo) / 2) 0 := ⟨_, rfl⟩
        rw [← ha] at hx0
        have HA := Lib.hid ha
        clear ha
        by_cases hp : upB x a = true
        · have HP := Lib.hid hp
          have HR := Lib.hid (show FirstRel w n zs (upB x) (.int .i64 lo) (.int .i64 ((lo : Int) + ((hi : Int) - (lo : Int)) / 2)) wr from
            ⟨lo, lo + (hi - lo) / 2, rfl, by congr 1; omega, by omega, by omega, HB.out, hlo, fun j h3 h4 => up_mono hp (by rw [HA.out]; exact nf_mono HS.out h3 (by rw [← hn.out]; exact h4))⟩)
          clear hp hlo hhi
          go_wp2_with (go_at_call 34; refine (reach_up_yes a x _ HP).mono ?_; rintro e w' ⟨rfl, rfl⟩)
          go_roundw
          case rel => exact HR.out
          case measure => simp [intOf]; omega
        · have hp' : upB x a = false := by simpa using hp
          have HP := Lib.hid hp'
          have HR := Lib.hid (show FirstRel w n zs (upB x) (.int .i64 ((lo : Int) + ((hi : Int) - (lo : Int)) / 2 + 1)) (.int .i64 hi) wr from
            ⟨lo + (hi - lo) / 2 + 1, hi, by congr 1; omega, rfl, by omega, by omega, HB.out, fun j h3 => by
              by_cases hq : upB x (zs.getD j 0) = true
              · have := up_mono hq (nf_mono HS.out (i := j) (j := lo + (hi - lo) / 2) (by omega) (by rw [← hn.out]; omega))
                rw [← HA.out] at this
                rw [hp'] at this; cases this
              · simpa using hq, hhi⟩)
          clear hp hp' hlo hhi
          go_wp2_with (go_at_call 34; refine (reach_up_no a x _ HP).mono ?_; rintro e w' ⟨rfl, rfl⟩)
          go_roundw
          case rel => exact HR.out
          case measure => simp [intOf]; omega
      · have he : hi = lo := by omega
        subst he
        have HF : Hid (placeS (upB x) zs = (hi : Int)) := by
          show _ = _
          unfold placeS
          rw [if_pos HS.out, fi_eq (by rw [← hn.out]; exact h2) hlo.out (fun h => hhi.out hi (Nat.le_refl _) (by rw [hn.out]; exact h))]
        have HB := Lib.hid hbel
        clear hlo hhi hbel
        go_wp2
        go_ret
        exact ⟨ret_i HF.out.symm, HB.out⟩
  · have hs' : nf zs = false := by simpa using hs
    have HC := Lib.hid (isSorted_any w A n c zs hn hN HX.out)
    rw [hs'] at HC
    have HF : Hid (placeS (upB x) zs = -1) := by show _ = _; unfold placeS; rw [if_neg hs]
    clear hs hs'
    go_enter Try.func32, Try.ntmps32
    go_wp2_with (go_at_call 38; refine HC.out.mono ?_; rintro e w1 ⟨rfl, hb1⟩)
    go_ret
    exact ⟨ret_i HF.out.symm, hb1⟩

theorem Lower_any (w : World) (A : Option Addr) (n c : Nat) (x : Int) (zs : List Int) (hn : Hid (n = zs.length)) (hN : n ≤ 1000000) (hx : Rd w (· < w.heap.size) A (ic zs)) :
    Calls Try.prog 15 #[.slice A n c, .int .i64 x] w fun e w' => e = .returned (.int .i64 (placeS (lowB x) zs)) ∧ Below w.heap.size w w' := by
  have HC := Lib.hid (first_low w A n c x zs hn hN hx)
  clear hx
  go_enter Try.func15, Try.ntmps15
  go_wp2_with (go_at_call 32; refine HC.out.mono ?_; rintro e w1 ⟨rfl, hb1⟩)
  go_ret
  exact ⟨rfl, hb1⟩

theorem Upper_any (w : World) (A : Option Addr) (n c : Nat) (x : Int) (zs : List Int) (hn : Hid (n = zs.length)) (hN : n ≤ 1000000) (hx : Rd w (· < w.heap.size) A (ic zs)) :
    Calls Try.prog 16 #[.slice A n c, .int .i64 x] w fun e w' => e = .returned (.int .i64 (placeS (upB x) zs)) ∧ Below w.heap.size w w' := by
  have HC := Lib.hid (first_up w A n c x zs hn hN hx)
  clear hx
  go_enter Try.func16, Try.ntmps16
  go_wp2_with (go_at_call 32; refine HC.out.mono ?_; rintro e w1 ⟨rfl, hb1⟩)
  go_ret
  exact ⟨rfl, hb1⟩
end Go.Proofs.Ytcjpimocbgeheaa.Od
