/- The document's answers of Perm (what Sorted answers taken by its contract), Lower, Upper and Uniq. Conditions: the rows hold fewer than a million numbers. -/
import Derived.Test.YtcjpimocbgeheaaOrderRefMerge
import Derived.Test.YtcjpimocbgeheaaOrderMovedWalk
namespace Go.Proofs.Ytcjpimocbgeheaa.Od
open Go.ChangeShapes Go.WideShapes Go.ChangeAt Go.RowKit
set_option linter.unusedVariables false


set_option maxHeartbeats 1000000 in
theorem refLower_any (w : World) (A : Option Addr) (n c : Nat) (x : Int) (zs : List Int) (hn : Hid (n = zs.length)) (hN : n ≤ 1000000) (hx : Rd w (· < w.heap.size) A (ic zs)) :
    Calls Try.prog 26 #[.slice A n c, .int .i64 x] w fun e w' => e = .returned (.int .i64 (placeS (lowB x) zs)) ∧ Below w.heap.size w w' := by
  have HC := Lib.hid (falls_any w A n c zs hn hN hx)
  have HX := Lib.hid hx
  clear hx
  by_cases hs : nf zs = true
  · rw [hs] at HC
    have HS := Lib.hid hs
    clear hs
    go_enter Try.func26, Try.ntmps26
    go_wp2_with fail
    refine HC.out.mono ?_
    rintro e w1 ⟨rfl, b1⟩
    have HX1 := Lib.hid (HX.out.later b1)
    have HB := Lib.hid b1
    clear HC b1
    go_wp2_with fail
    go_loopw [5] (fun v5 W => ∃ k : Nat, v5 = .int .i64 k ∧ k ≤ n ∧ Hid (∀ j, j < k → lowB x (zs.getD j 0) = false) ∧ w1 = W) (fun v _ => n - (intOf v).toNat)
    case atStart => exact ⟨0, rfl, by omega, fun j hj => by omega, by trivial⟩
    case round =>
      obtain ⟨k, rfl, hk, hall, rfl⟩ := hrel
      by_cases hlt : k < n
      · have hkz : k < zs.length := by rw [← hn.out]; exact hlt
        obtain ⟨ad, rfl, hS, hcell⟩ := HX1.out.at_ (k := k) hkz
        have hx0 := hcell k hkz
        have hf := fun (h : lowB x (zs.getD k 0) = true) => fi_eq (p := lowB x) (zs := zs) (k := k) (by omega) hall.out (fun _ => h)
        obtain ⟨y, hy⟩ : ∃ y, y = zs.getD k 0 := ⟨_, rfl⟩
        rw [← hy] at hx0 hf
        have HYY := Lib.hid hy
        have e1 : decide (k < n) = true := by simpa using hlt
        clear hcell hkz hy
        by_cases hp : y < x
        · have e2 : decide (y < x) = true := by simpa using hp
          have HA : Hid (∀ j, j < k + 1 → lowB x (zs.getD j 0) = false) := by
            intro j hj
            by_cases e : j = k
            · subst e; rw [← HYY.out]; simp only [lowB, decide_eq_false_iff_not]; omega
            · exact hall.out j (by omega)
          clear hf
          go_wp2
          go_roundw
          case rel => exact ⟨k + 1, by go_num, by omega, HA, by trivial⟩
          case measure => simp [intOf]; omega
        · have e2 : decide (y < x) = false := by simpa using hp
          have HF : Hid (placeS (lowB x) zs = (k : Int)) := by
            show _ = _
            unfold placeS
            rw [if_pos HS.out, hf (by simp only [lowB, decide_eq_true_eq]; omega)]
          clear hf
          go_wp2
          go_ret
          exact ⟨ret_i HF.out.symm, HB.out⟩
      · have hkn : k = n := by omega
        have HF : Hid (placeS (lowB x) zs = (n : Int)) := by
          show _ = _
          unfold placeS
          rw [if_pos HS.out, fi_eq (k := n) (by rw [← hn.out]; exact Nat.le_refl _) (by rw [← hkn]; exact hall.out) (fun h => by rw [← hn.out] at h; omega)]
        have e1 : decide (k < n) = false := by simpa using hlt
        subst hkn
        go_wp2
        go_ret
        exact ⟨ret_i HF.out.symm, HB.out⟩
  · have hs' : nf zs = false := by simpa using hs
    rw [hs'] at HC
    have HF : Hid (placeS (lowB x) zs = -1) := by show _ = _; unfold placeS; rw [if_neg hs]
    clear hs hs'
    go_enter Try.func26, Try.ntmps26
    go_wp2_with fail
    refine HC.out.mono ?_
    rintro e w1 ⟨rfl, b1⟩
    go_wp2
    go_ret
    exact ⟨ret_i HF.out.symm, b1⟩

set_option maxHeartbeats 1000000 in
theorem refUpper_any (w : World) (A : Option Addr) (n c : Nat) (x : Int) (zs : List Int) (hn : Hid (n = zs.length)) (hN : n ≤ 1000000) (hx : Rd w (· < w.heap.size) A (ic zs)) :
    Calls Try.prog 27 #[.slice A n c, .int .i64 x] w fun e w' => e = .returned (.int .i64 (placeS (upB x) zs)) ∧ Below w.heap.size w w' := by
  have HC := Lib.hid (falls_any w A n c zs hn hN hx)
  have HX := Lib.hid hx
  clear hx
  by_cases hs : nf zs = true
  · rw [hs] at HC
    have HS := Lib.hid hs
    clear hs
    go_enter Try.func27, Try.ntmps27
    go_wp2_with fail
    refine HC.out.mono ?_
    rintro e w1 ⟨rfl, b1⟩
    have HX1 := Lib.hid (HX.out.later b1)
    have HB := Lib.hid b1
    clear HC b1
    go_wp2_with fail
    go_loopw [5] (fun v5 W => ∃ k : Nat, v5 = .int .i64 k ∧ k ≤ n ∧ Hid (∀ j, j < k → upB x (zs.getD j 0) = false) ∧ w1 = W) (fun v _ => n - (intOf v).toNat)
    case atStart => exact ⟨0, rfl, by omega, fun j hj => by omega, by trivial⟩
    case round =>
      obtain ⟨k, rfl, hk, hall, rfl⟩ := hrel
      by_cases hlt : k < n
      · have hkz : k < zs.length := by rw [← hn.out]; exact hlt
        obtain ⟨ad, rfl, hS, hcell⟩ := HX1.out.at_ (k := k) hkz
        have hx0 := hcell k hkz
        have hf := fun (h : upB x (zs.getD k 0) = true) => fi_eq (p := upB x) (zs := zs) (k := k) (by omega) hall.out (fun _ => h)
        obtain ⟨y, hy⟩ : ∃ y, y = zs.getD k 0 := ⟨_, rfl⟩
        rw [← hy] at hx0 hf
        have HYY := Lib.hid hy
        have e1 : decide (k < n) = true := by simpa using hlt
        clear hcell hkz hy
        by_cases hp : y ≤ x
        · have e2 : decide (y ≤ x) = true := by simpa using hp
          have HA : Hid (∀ j, j < k + 1 → upB x (zs.getD j 0) = false) := by
            intro j hj
            by_cases e : j = k
            · subst e; rw [← HYY.out]; simp only [upB, decide_eq_false_iff_not]; omega
            · exact hall.out j (by omega)
          clear hf
          go_wp2
          go_roundw
          case rel => exact ⟨k + 1, by go_num, by omega, HA, by trivial⟩
          case measure => simp [intOf]; omega
        · have e2 : decide (y ≤ x) = false := by simpa using hp
          have HF : Hid (placeS (upB x) zs = (k : Int)) := by
            show _ = _
            unfold placeS
            rw [if_pos HS.out, hf (by simp only [upB, decide_eq_true_eq]; omega)]
          clear hf
          go_wp2
          go_ret
          exact ⟨ret_i HF.out.symm, HB.out⟩
      · have hkn : k = n := by omega
        have HF : Hid (placeS (upB x) zs = (n : Int)) := by
          show _ = _
          unfold placeS
          rw [if_pos HS.out, fi_eq (k := n) (by rw [← hn.out]; exact Nat.le_refl _) (by rw [← hkn]; exact hall.out) (fun h => by rw [← hn.out] at h; omega)]
        have e1 : decide (k < n) = false := by simpa using hlt
        subst hkn
        go_wp2
        go_ret
        exact ⟨ret_i HF.out.symm, HB.out⟩
  · have hs' : nf zs = false := by simpa using hs
    rw [hs'] at HC
    have HF : Hid (placeS (upB x) zs = -1) := by show _ = _; unfold placeS; rw [if_neg hs]
    clear hs hs'
    go_enter Try.func27, Try.ntmps27
    go_wp2_with fail
    refine HC.out.mono ?_
    rintro e w1 ⟨rfl, b1⟩
    go_wp2
    go_ret
    exact ⟨ret_i HF.out.symm, b1⟩

def RkRel (w : World) (n : Nat) (zs : List Int) (v3 v4 : Value) (wr : World) : Prop :=
  ∃ (k : Nat) (V3 : Value), V3 = v3 ∧ v4 = .int .i64 k ∧ k ≤ n ∧ wr.ownsRow w.heap.size 25 2 V3 k (kc (kzF zs k)) ∧ Below w.heap.size w wr
/-- numbers gathered one by one: those of L -/
def RgRel (w : World) (B : Nat) (t n : Nat) (L : List Int) (v5 v6 : Value) (wr : World) : Prop :=
  ∃ (k : Nat) (V5 : Value), V5 = v5 ∧ v6 = .int .i64 k ∧ k ≤ n ∧ wr.ownsRow B t 1 V5 k (ic (L.take k)) ∧ Below B w wr
theorem rg_next {w wr w1 : World} {B t n k : Nat} {L : List Int} {V5 v5 : Value} {z : Int} {o : Obj} (hn : n = L.length) (hlt : k < n) (hB : B = w.heap.size) (hz : L.getD k 0 = z) (ho : wr.ownsRow B t 1 V5 k (ic (L.take k))) (hb : Below B w wr)
    (h5 : w1.ownsRow B t 1 v5 (k + 1) (ic (L.take k ++ [z]))) (hg : (wr.alloc o).grownBy w1 V5.ownBlock) : RgRel w B t n L v5 (.int .i64 ((k : Int) + 1)) w1 := by
  refine ⟨k + 1, v5, rfl, by simp, by omega, ?_, (hb.alloc (by have := hb.size; omega) o).grown hg (by have := hb.size; simp; omega) (fun g hv => (ho.lt g hv).1)⟩
  rw [take_snocD _ _ (by omega), hz]
  exact h5

set_option maxHeartbeats 2000000 in
theorem refPerm_any (hsort : ∀ (w : World) (A : Option Addr) (n c : Nat) (xs : List Key), Hid (n = xs.length) → n ≤ 1000000 → Rd w (· < w.heap.size) A (kc xs) → n ≤ c → Calls Try.prog 21 #[.slice A n c] w (KeysNew w (srt xs)))
    (w : World) (A : Option Addr) (n c : Nat) (zs : List Int) (hn : Hid (n = zs.length)) (hN : n ≤ 1000000) (hx : Rd w (· < w.heap.size) A (ic zs)) :
    Calls Try.prog 24 #[.slice A n c] w (IntsNew w (pm zs)) := by
  have HS := Lib.hid hsort
  have HX := Lib.hid hx
  clear hx hsort
  have H0 := Lib.hid (show RkRel w n zs (.slice none 0 0) (.int .i64 ((0 : Nat) : Int)) w from ⟨0, _, rfl, rfl, by omega, World.ownsRow_nil _ _ _ _, Below.refl _ _⟩)
  go_enter Try.func24, Try.ntmps24
  go_wp2
  go_loopw [3, 4] (fun v3 v4 wr => RkRel w n zs v3 v4 wr) (fun _ v _ => n - (intOf v).toNat)
  case atStart => exact H0.out
  case round =>
    obtain ⟨k, V5, rfl, rfl, hk, ho, hbel⟩ := hrel
    clear H0
    have hszw := hbel.size
    by_cases hlt : k < n
    · have hkz : k < zs.length := by rw [← hn.out]; exact hlt
      obtain ⟨ad, rfl, hS, hcell⟩ := (HX.out.below2 hbel).at_ (k := k) hkz
      have hx0 := hcell k hkz
      have HO := Lib.hid ho
      have HB := Lib.hid hbel
      obtain ⟨z, hz⟩ : ∃ z, z = zs.getD k 0 := ⟨_, rfl⟩
      rw [← hz] at hx0
      have HZ := Lib.hid hz
      clear hcell hkz hz ho hbel
      go_wp2_with (at_builtin; refine wpList_append_key rfl (.tmp 13) (.tmp 20) rfl w.heap.size V5 k (kzF zs k) (z, (k : Int)) rfl rfl HO (by omega) hszw ?_; intro v5' w2 ho5' hb5')
      go_roundw
      case rel => exact ⟨k + 1, v5', rfl, by simp, by omega, by rw [kzF_succ, ← HZ.out]; exact ho5'.out, HB.out.trans hb5'.out⟩
      case measure => simp [intOf]; omega
    · have hkn : n = k := by omega
      subst hkn
      obtain ⟨A5, c5, hv5, hc5, hr5⟩ := own_form ho
      subst hv5
      have hkz5 : Hid (n = (kz zs).length) := by show _ = _; rw [kz_length]; exact hn.out
      have e5 : kzF zs n = kz zs := by unfold kz; rw [← hn.out]
      rw [e5] at hr5
      obtain ⟨wo, hwo⟩ : ∃ wo, wo = wr := ⟨_, rfl⟩
      have hr5' := hr5.old
      rw [← hwo] at hr5' hbel ⊢
      have HB1 := Lib.hid hbel
      have HK := Lib.hid hr5'
      clear e5 ho hr5 hr5' hwo hszw hbel
      go_wp2_with fail
      refine (HS.out wo A5 n c5 (kz zs) hkz5 hN HK.out hc5).mono ?_
      rintro e w7 ⟨A7, n7, c7, rfl, hn7, hc7, hr7, q7⟩
      have h7 : n = n7 := by rw [hn7.out, srt_length, kz_length, hn.out]
      subst h7
      have HB7 := Lib.hid (keep_trans HB1.out q7)
      have HS7 := Lib.hid hr7.old
      have HI := Lib.hid (show RgRel w7 w7.heap.size 3 n (pm zs) (.slice none 0 0) (.int .i64 ((0 : Nat) : Int)) w7 from ⟨0, _, rfl, rfl, by omega, World.ownsRow_nil _ _ _ _, Below.refl _ _⟩)
      have HPL : Hid (n = (pm zs).length) := by show _ = _; rw [pm_length]; exact hn.out
      clear q7 hr7 HS
      go_wp2_with fail
      go_loopw [5, 6] (fun v5 v6 wr => RgRel w7 w7.heap.size 3 n (pm zs) v5 v6 wr) (fun _ v _ => n - (intOf v).toNat)
      case atStart => exact HI.out
      case round =>
        obtain ⟨k, V5, rfl, rfl, hk2, ho, hbel⟩ := hrel
        clear HI
        have hszw := hbel.size
        by_cases hlt2 : k < n
        · have hkz : k < zs.length := by rw [← hn.out]; exact hlt2
          have hkl : k < (srt (kz zs)).length := by rw [srt_length, kz_length]; exact hkz
          obtain ⟨q, hq, hqz, hpq⟩ := srt_key zs k hkz
          obtain ⟨sd, rfl, _, hcell⟩ := (HS7.out.below2 hbel).key2 (k := k) hkl
          have hs1 := (hcell k hkl).2
          rw [hq] at hs1
          simp only at hs1
          have HN := Lib.hid (fun o w2 v5 h5 hg => rg_next (w := w7) (w1 := w2) (o := o) (v5 := v5) HPL.out hlt2 rfl hpq ho hbel h5 hg)
          have HO := Lib.hid ho
          clear hcell hq hqz hpq hkz hkl ho hbel
          go_wp2_with (at_builtin; refine wpList_append_num rfl (.tmp 30) (.tmp 36) 29 3 rfl Try.underlying29 info_int w7.heap.size V5 k ((pm zs).take k) (q : Int) rfl rfl HO (by omega) hszw ?_; intro v6' w2 ho6' hg6' hat6')
          go_roundw
          case rel => exact HN.out _ _ _ ho6'.out hg6'.out
          case measure => simp [intOf]; omega
        · have hkn : n = k := by omega
          subst hkn
          have e5 : (pm zs).take n = pm zs := List.take_of_length_le (by rw [← HPL.out]; exact Nat.le_refl _)
          rw [e5] at ho
          obtain ⟨A6, c6, hv6, hc6, hr6⟩ := own_form ho
          subst hv6
          have HR := Lib.hid (hr6.more (S' := fun b => w.heap.size ≤ b ∧ b < wr.heap.size) (fun b hb => ⟨by have := HB7.out.size; omega, hb.2⟩))
          have HB := Lib.hid (keep_trans HB7.out hbel)
          clear e5 ho hbel hr6 hszw
          go_wp2
          go_ret
          exact ⟨A6, n, c6, rfl, HPL, hc6, HR.out, HB.out⟩
end Go.Proofs.Ytcjpimocbgeheaa.Od
