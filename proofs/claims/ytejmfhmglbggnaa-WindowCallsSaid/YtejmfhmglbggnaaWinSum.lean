/- The document's Sum of chapter 8 at any row, proved by walking its text. Conditions: rows hold fewer than a million windows. -/
import Derived.Test.YtejmfhmglbggnaaWinAsk
import Derived.IntWalk
namespace Go.Proofs.Ytejmfhmglbggnaa.Wn
open Go.ChangeShapes Go.WideShapes Go.ChangeAt Go.RowKit
set_option linter.unusedVariables false
set_option linter.unusedSimpArgs false

set_option maxHeartbeats 2000000 in
theorem refsum_any (w : World) (A : Option Addr) (n c : Nat) (zs : List Win) (hn : Hid (n = zs.length)) (hN : n ≤ 1000000) (hx : Rd w (· < w.heap.size) A (kc zs)) :
    Calls Try.prog 24 #[.slice A n c] w fun e w' => e = .returned (.int .i64 (smV zs)) ∧ Below w.heap.size w w' := by
  have HX := Lib.hid hx
  have CG : Hid (∀ W, Below w.heap.size w W → Calls Try.prog 21 #[.slice A n c] W fun e w' => e = .returned (.bool (good zs)) ∧ Below W.heap.size W w') := Lib.hid fun W hW => refgood_any W A n c zs hn hN (hx.later hW)
  clear hx
  by_cases h0 : n = 0
  · subst h0
    have HR : Hid (smV zs = 0) := Lib.hid (by
      have : zs = [] := List.eq_nil_of_length_eq_zero hn.out.symm
      subst this; rfl)
    go_enter Try.func24, Try.ntmps24
    go_wp2
    go_loopw [3, 4] (fun v3 v4 wr => v3 = .int .i64 0 ∧ v4 = .int .i64 0 ∧ Below w.heap.size w wr) (fun _ _ _ => 0)
    case atStart => exact ⟨rfl, rfl, Below.refl _ _⟩
    case round =>
      obtain ⟨rfl, rfl, hbel⟩ := hrel
      have HB := Lib.hid hbel
      clear hbel
      go_wp2
      go_ret
      exact ⟨ret_i HR.out.symm, HB.out⟩
  · have h0' : (0 : Int) < (n : Int) := by omega
    cases hg : good zs with
    | false =>
      have HR : Hid (smV zs = 0) := Lib.hid (by simp [smV, hg])
      rw [hg] at CG
      go_enter Try.func24, Try.ntmps24
      go_wp2
      go_loopw [3, 4] (fun v3 v4 wr => v3 = .int .i64 0 ∧ v4 = .int .i64 0 ∧ Below w.heap.size w wr) (fun _ _ _ => 0)
      case atStart => exact ⟨rfl, rfl, Below.refl _ _⟩
      case round =>
        obtain ⟨rfl, rfl, hbel⟩ := hrel
        have HB := Lib.hid hbel
        clear hbel
        go_wp2_with (go_at_call 21; refine (CG.out _ HB.out).mono ?_; rintro e w1 ⟨rfl, hb1⟩)
        go_ret
        exact ⟨ret_i HR.out.symm, below_then HB.out hb1 HB.out.size⟩
    | true =>
      have HS : Hid (∀ k, k ≤ zs.length → 0 ≤ sm (zs.take k) ∧ sm (zs.take k) ≤ 2199023255553) := Lib.hid fun k _ => by
        have := ((good_gd hg).take k).sm_le (by omega); omega
      have HA : Hid (∀ k, k < zs.length → 0 ≤ (zs.getD k (0, 0)).1 ∧ (zs.getD k (0, 0)).1 < (zs.getD k (0, 0)).2 ∧ (zs.getD k (0, 0)).2 ≤ 2199023255552) := Lib.hid fun k hk => by
        have := (good_gd hg).all (zs.getD k (0, 0)) (by simp [List.getD_eq_getElem?_getD, List.getElem?_eq_getElem hk]); omega
      have HR : Hid (smV zs = sm zs) := Lib.hid (by simp [smV, hg])
      rw [hg] at CG
      go_enter Try.func24, Try.ntmps24
      go_wp2
      go_loopw [3, 4] (fun v3 v4 wr => ∃ (k : Nat) (e : Int), v3 = .int .i64 e ∧ v4 = .int .i64 k ∧ k ≤ n ∧ Hid (e = sm (zs.take k)) ∧ Below w.heap.size w wr) (fun _ v _ => n - (intOf v).toNat)
      case atStart => exact ⟨0, 0, rfl, rfl, by omega, by show _ = _; rfl, Below.refl _ _⟩
      case round =>
        obtain ⟨k, e, rfl, rfl, hk, hE, hbel⟩ := hrel
        have HB := Lib.hid hbel
        clear hbel
        by_cases hlt : k < n
        · have hkl : k < zs.length := by rw [← hn.out]; exact hlt
          obtain ⟨ad, rfl, hS, hca⟩ := HX.out.key2 (k := k) hkl
          have hz := HA.out k hkl
          have hs := HS.out k (by omega)
          rw [← hE.out] at hs
          have HE : Hid (e + ((zs.getD k (0, 0)).2 - (zs.getD k (0, 0)).1) = sm (zs.take (k + 1))) := Lib.hid (by rw [sm_take_succ zs k hkl, hE.out])
          obtain ⟨p, hp⟩ : ∃ p, p = zs.getD k (0, 0) := ⟨_, rfl⟩
          have HC : Hid (∀ W, Below w.heap.size w W → W.cell? (ad.add (k * 2)) = some (.int .i64 p.1) ∧ W.cell? ⟨(ad.add (k * 2)).block, (ad.add (k * 2)).off + 1, none⟩ = some (.int .i64 p.2)) := Lib.hid fun W hW => by
            obtain ⟨bd, e, _, hcb⟩ := (HX.out.below2 hW).key2 (k := k) hkl
            injection e with e
            subst e
            rw [hp]; exact hcb k hkl
          rw [← hp] at hz HE
          clear hca hp hE
          have hi : (k : Int) < (n : Int) := by omega
          obtain ⟨p1, p2⟩ := p
          dsimp only at HC hz HE
          go_wp2_with (go_at_call 21; refine (CG.out _ HB.out).mono ?_; rintro e1 w1 ⟨rfl, hb1⟩; have hb2 := Lib.hid (below_then HB.out hb1 HB.out.size); clear hb1; obtain ⟨ha0, ha1⟩ := HC.out w1 hb2.out)
          go_quiet (fail)
          go_wp2
          go_roundw
          case rel => exact ⟨k + 1, e + p2 - p1, rfl, by go_num, by omega, by show _ = _; rw [← HE.out]; omega, below_drewN hb2.out _⟩
          case measure => simp [intOf]; omega
        · have HE : Hid (e = smV zs) := Lib.hid (by rw [hE.out, List.take_of_length_le (by rw [← hn.out]; omega), HR.out])
          clear hE
          go_wp2
          go_ret
          exact ⟨ret_i HE.out, HB.out⟩
end Go.Proofs.Ytejmfhmglbggnaa.Wn
