/- The document's answer of Merge is the merged row. Conditions: the rows hold fewer than a million keys together. -/
import Derived.Test.YtcjpimocbgeheaaOrderStaysMath
namespace Go.Proofs.Ytcjpimocbgeheaa.Od
open Go.ChangeShapes Go.WideShapes Go.ChangeAt Go.RowKit
set_option linter.unusedVariables false

def RmRel (w : World) (na nb : Nat) (xs ys : List Key) (v5 v6 v7 : Value) (wr : World) : Prop :=
  ∃ (i k : Nat) (V5 : Value) (done : List Key), V5 = v5 ∧ v6 = .int .i64 i ∧ v7 = .int .i64 k ∧ i ≤ na ∧ k ≤ nb ∧ done.length = i + k ∧ done ++ mg (xs.drop i) (ys.drop k) = mg xs ys ∧ wr.ownsRow w.heap.size 25 2 V5 (i + k) (kc done) ∧ Below w.heap.size w wr

theorem drop_getDK (l : List Key) (i : Nat) (h : i < l.length) : l.drop i = l.getD i (0, 0) :: l.drop (i + 1) := by
  rw [List.drop_eq_getElem_cons h]
  simp [List.getD_eq_getElem?_getD, List.getElem?_eq_getElem h]

theorem rm_b {w w1 : World} {na nb i k : Nat} {xs ys done : List Key} {v5 : Value} (hi : i ≤ na) (hk : k < nb) (hy : nb = ys.length) (hd : done.length = i + k) (hm : done ++ mg (xs.drop i) (ys.drop k) = mg xs ys)
    (ho : w1.ownsRow w.heap.size 25 2 v5 (i + k + 1) (kc (done ++ [ys.getD k (0, 0)]))) (hb : Below w.heap.size w w1) (h : xs.drop i = [] ∨ ∃ x s, xs.drop i = x :: s ∧ (ys.getD k (0, 0)).1 < x.1) :
    RmRel w na nb xs ys v5 (.int .i64 i) (.int .i64 ((k : Int) + 1)) w1 := by
  refine ⟨i, k + 1, v5, done ++ [ys.getD k (0, 0)], rfl, rfl, by simp, hi, by omega, by simp; omega, ?_, by rw [← Nat.add_assoc]; exact ho, hb⟩
  rw [← hm, drop_getDK ys k (by omega)]
  rcases h with h | ⟨x, s, h, hl⟩
  · rw [h, mg_nil_l, mg_nil_l]; simp
  · rw [h, mg_lt hl]; simp
theorem rm_a {w w1 : World} {na nb i k : Nat} {xs ys done : List Key} {v5 : Value} (hi : i < na) (hk : k ≤ nb) (hx : na = xs.length) (hd : done.length = i + k) (hm : done ++ mg (xs.drop i) (ys.drop k) = mg xs ys)
    (ho : w1.ownsRow w.heap.size 25 2 v5 (i + k + 1) (kc (done ++ [xs.getD i (0, 0)]))) (hb : Below w.heap.size w w1) (h : ys.drop k = [] ∨ ∃ y s, ys.drop k = y :: s ∧ ¬ y.1 < (xs.getD i (0, 0)).1) :
    RmRel w na nb xs ys v5 (.int .i64 ((i : Int) + 1)) (.int .i64 k) w1 := by
  refine ⟨i + 1, k, v5, done ++ [xs.getD i (0, 0)], rfl, by simp, rfl, by omega, hk, by simp; omega, ?_, by rw [show i + 1 + k = i + k + 1 by omega]; exact ho, hb⟩
  rw [← hm, drop_getDK xs i (by omega)]
  rcases h with h | ⟨x, s, h, hl⟩
  · rw [h, mg_nil_r, mg_nil_r]; simp
  · rw [h, mg_ge hl]; simp

set_option maxHeartbeats 4000000 in
theorem refMerge_any (w : World) (A B : Option Addr) (na nb ca cb : Nat) (xs ys : List Key) (hna : Hid (na = xs.length)) (hnb : Hid (nb = ys.length)) (hN : na + nb ≤ 1000000)
    (hx : Rd w (· < w.heap.size) A (kc xs)) (hy : Rd w (· < w.heap.size) B (kc ys)) :
    Calls Try.prog 22 #[.slice A na ca, .slice B nb cb] w (KeysNew w (mg xs ys)) := by
  have HX := Lib.hid hx
  have HY := Lib.hid hy
  clear hx hy
  have H0 := Lib.hid (show RmRel w na nb xs ys (.slice none 0 0) (.int .i64 ((0 : Nat) : Int)) (.int .i64 ((0 : Nat) : Int)) w from ⟨0, 0, _, [], rfl, rfl, rfl, by omega, by omega, rfl, rfl, World.ownsRow_nil _ _ _ _, Below.refl _ _⟩)
  go_enter Try.func22, Try.ntmps22
  go_wp2
  go_loopw [5, 6, 7] (fun v5 v6 v7 wr => RmRel w na nb xs ys v5 v6 v7 wr) (fun _ v6 v7 _ => na + nb - (intOf v6).toNat - (intOf v7).toNat)
  case atStart => exact H0.out
  case round =>
    obtain ⟨i, k, V5, done, rfl, rfl, rfl, hi, hk, hd, hm, ho, hbel⟩ := hrel
    clear H0
    have hsz := hbel.size
    have HB := Lib.hid hbel
    have HO := Lib.hid (show ∀ q, Hid ((wr.drewN q).ownsRow w.heap.size 25 2 V5 (i + k) (kc done)) from fun q => ho)
    have HD := Lib.hid hd
    have HM := Lib.hid hm
    by_cases hin : i < na
    · have hix : i < xs.length := by rw [← hna.out]; exact hin
      obtain ⟨ad, rfl, hS, hcell⟩ := (HX.out.below2 hbel).key2 (k := i) hix
      obtain ⟨ha0, ha1⟩ := hcell i hix
      have hdx := drop_getDK xs i hix
      obtain ⟨x, hx⟩ : ∃ x, x = xs.getD i (0, 0) := ⟨_, rfl⟩
      rw [← hx] at ha0 ha1 hdx
      have HXX := Lib.hid hx
      have HDX := Lib.hid hdx
      have e1 : ((i : Int) == (na : Int)) = false := by simp; omega
      have e1' : (i == na) = false := by simp; omega
      have hia : (i : Int) < (na : Int) := by omega
      clear hcell hx hdx hix hd hm ho
      by_cases hkn : k < nb
      · have hky : k < ys.length := by rw [← hnb.out]; exact hkn
        obtain ⟨bd, rfl, hT, hcellb⟩ := (HY.out.below2 hbel).key2 (k := k) hky
        obtain ⟨hb0, hb1⟩ := hcellb k hky
        have hdy := drop_getDK ys k hky
        obtain ⟨y, hy⟩ : ∃ y, y = ys.getD k (0, 0) := ⟨_, rfl⟩
        rw [← hy] at hb0 hb1 hdy
        have HYY := Lib.hid hy
        have HDY := Lib.hid hdy
        have hkb : (k : Int) < (nb : Int) := by omega
        have e2 : decide (k < nb) = true := by simpa using hkn
        have e3 : decide (i < na) = true := by simpa using hin
        clear hcellb hy hdy hky hbel
        by_cases hl : y.1 < x.1
        · have e4 : decide (y.1 < x.1) = true := by simpa using hl
          have HL := Lib.hid hl
          go_wp2
          go_quiet (fail)
          go_wp2_with (at_builtin; refine wpList_append_key rfl (.tmp 41) (.tmp 46) rfl w.heap.size V5 (i + k) done y rfl rfl (HO.out _) (by omega) hsz ?_; intro v5' w2 ho5' hb5')
          have HR := Lib.hid (rm_b (w1 := w2) hi hkn hnb.out HD.out HM.out (by rw [← HYY.out]; exact ho5'.out) ((below_drewN HB.out _).trans hb5'.out) (.inr ⟨x, _, HDX.out, by rw [← HYY.out]; exact HL.out⟩))
          go_roundw
          case rel => exact HR.out
          case measure => simp [intOf]; omega
        · have e4 : decide (y.1 < x.1) = false := by simpa using hl
          have HL := Lib.hid hl
          go_wp2
          go_quiet (fail)
          go_wp2_with (at_builtin; refine wpList_append_key rfl (.tmp 50) (.tmp 55) rfl w.heap.size V5 (i + k) done x rfl rfl (HO.out _) (by omega) hsz ?_; intro v5' w2 ho5' hb5')
          have HR := Lib.hid (rm_a (w1 := w2) hin hk hna.out HD.out HM.out (by rw [← HXX.out]; exact ho5'.out) ((below_drewN HB.out _).trans hb5'.out) (.inr ⟨y, _, HDY.out, by rw [← HXX.out]; have := HL.out; omega⟩))
          go_roundw
          case rel => exact HR.out
          case measure => simp [intOf]; omega
      · have hke : ys.drop k = [] := List.drop_eq_nil_of_le (by rw [← hnb.out]; omega)
        have HE := Lib.hid hke
        have e2 : decide (k < nb) = false := by simpa using hkn
        have e2' : decide ((k : Int) < (nb : Int)) = false := by simp; omega
        have e3 : decide (i < na) = true := by simpa using hin
        clear hke hbel
        go_wp2
        go_quiet (fail)
        go_wp2_with (at_builtin; refine wpList_append_key rfl (.tmp 50) (.tmp 55) rfl w.heap.size V5 (i + k) done x rfl rfl (HO.out _) (by omega) hsz ?_; intro v5' w2 ho5' hb5')
        have HR := Lib.hid (rm_a (w1 := w2) hin hk hna.out HD.out HM.out (by rw [← HXX.out]; exact ho5'.out) ((below_drewN HB.out _).trans hb5'.out) (.inl HE.out))
        go_roundw
        case rel => exact HR.out
        case measure => simp [intOf]; omega
    · have hie : xs.drop i = [] := List.drop_eq_nil_of_le (by rw [← hna.out]; omega)
      have HE := Lib.hid hie
      have e1 : ((i : Int) == (na : Int)) = true := by simp; omega
      have e1' : (i == na) = true := by simp; omega
      have e3 : decide (i < na) = false := by simpa using hin
      have e3' : decide ((i : Int) < (na : Int)) = false := by simp; omega
      clear hie hd hm ho
      by_cases hkn : k < nb
      · have hky : k < ys.length := by rw [← hnb.out]; exact hkn
        obtain ⟨bd, rfl, hT, hcellb⟩ := (HY.out.below2 hbel).key2 (k := k) hky
        obtain ⟨hb0, hb1⟩ := hcellb k hky
        obtain ⟨y, hy⟩ : ∃ y, y = ys.getD k (0, 0) := ⟨_, rfl⟩
        rw [← hy] at hb0 hb1
        have HYY := Lib.hid hy
        have hkb : (k : Int) < (nb : Int) := by omega
        have e2 : decide (k < nb) = true := by simpa using hkn
        clear hcellb hy hky hbel
        go_wp2
        go_quiet (fail)
        go_wp2_with (at_builtin; refine wpList_append_key rfl (.tmp 41) (.tmp 46) rfl w.heap.size V5 (i + k) done y rfl rfl (HO.out _) (by omega) hsz ?_; intro v5' w2 ho5' hb5')
        have HR := Lib.hid (rm_b (w1 := w2) hi hkn hnb.out HD.out HM.out (by rw [← HYY.out]; exact ho5'.out) ((below_drewN HB.out _).trans hb5'.out) (.inl HE.out))
        go_roundw
        case rel => exact HR.out
        case measure => simp [intOf]; omega
      · have hm2 : done = mg xs ys := by
          have h1 := HM.out
          rw [HE.out, List.drop_eq_nil_of_le (show ys.length ≤ k by rw [← hnb.out]; omega), mg_nil_l, List.append_nil] at h1
          exact h1
        have ho := (HO.out 0).out
        obtain ⟨A5, c5, hv5, hc5, hr5⟩ := own_form ho
        have hlen : i + k = (mg xs ys).length := by rw [← hm2]; exact HD.out.symm
        rw [hm2] at hr5
        have HR5 := Lib.hid hr5
        have HLN := Lib.hid hlen
        subst hv5
        have e2 : decide (k < nb) = false := by simpa using hkn
        clear hm2 ho hr5 hlen hbel HO HM HD HE
        go_wp2
        go_ret
        exact ⟨A5, i + k, c5, rfl, HLN.out, hc5, HR5.out, HB.out⟩
end Go.Proofs.Ytcjpimocbgeheaa.Od
