/- The document's Has, Next, Gap, Free and Sum of chapter 8 at any row and numbers, each proved by walking its text. Conditions: rows hold fewer than a million windows. -/
import Derived.Test.YtmfocopokadloaaWinRef
import Derived.IntWalk
namespace Go.Proofs.Ytmfocopokadloaa.Wn
open Go.ChangeShapes Go.WideShapes Go.ChangeAt Go.RowKit
set_option linter.unusedVariables false
set_option linter.unusedSimpArgs false

def ak (l : List Win) (x : Int) : Bool := good l && tick x
theorem asked_any (w : World) (A : Option Addr) (n c : Nat) (zs : List Win) (x : Int) (hn : Hid (n = zs.length)) (hN : n ≤ 1000000) (hx : Rd w (· < w.heap.size) A (kc zs)) :
    Calls Try.prog 28 #[.slice A n c, .int .i64 x] w fun e w' => e = .returned (.bool (ak zs x)) ∧ Below w.heap.size w w' := by
  have CG := Lib.hid (refgood_any w A n c zs hn hN hx)
  clear hx hn
  cases hg : good zs with
  | false =>
    rw [hg] at CG
    have HR : Hid (ak zs x = false) := Lib.hid (by simp [ak, hg])
    go_enter Try.func28, Try.ntmps28
    go_wp2_with (go_at_call 13; refine CG.out.mono ?_; rintro e w1 ⟨rfl, hb⟩)
    go_ret
    exact ⟨ret_b HR.out, hb⟩
  | true =>
    rw [hg] at CG
    cases ht : tick x with
    | false =>
      have HR : Hid (ak zs x = false) := Lib.hid (by simp [ak, hg, ht])
      have C1 := Lib.hid (fun w => by have := refcheck1_any x w; rw [ht] at this; simpa using this : ∀ w, Calls Try.prog 45 #[.int .i64 x] w fun e w' => e = .returned (.int .i64 9) ∧ w = w')
      go_enter Try.func28, Try.ntmps28
      go_wp2_with (first | (go_at_call 13; refine CG.out.mono ?_; rintro e w1 ⟨rfl, hb⟩) | (go_at_call 45; refine (C1.out _).mono ?_; rintro e w2 ⟨rfl, rfl⟩) | fail)
      go_ret
      exact ⟨ret_b HR.out, hb⟩
    | true =>
      have HR : Hid (ak zs x = true) := Lib.hid (by simp [ak, hg, ht])
      have C1 := Lib.hid (fun w => by have := refcheck1_any x w; rw [ht] at this; simpa using this : ∀ w, Calls Try.prog 45 #[.int .i64 x] w fun e w' => e = .returned (.int .i64 0) ∧ w = w')
      go_enter Try.func28, Try.ntmps28
      go_wp2_with (first | (go_at_call 13; refine CG.out.mono ?_; rintro e w1 ⟨rfl, hb⟩) | (go_at_call 45; refine (C1.out _).mono ?_; rintro e w2 ⟨rfl, rfl⟩) | fail)
      go_ret
      exact ⟨ret_b HR.out, hb⟩
theorem Rd.since {w W : World} {A : Option Addr} {xs : List Value} (h : Rd w (· < w.heap.size) A xs) (hb : Below w.heap.size w W) : Rd W (· < W.heap.size) A xs := h.later hb
theorem asked_at {w : World} {A : Option Addr} {n c : Nat} {zs : List Win} {x : Int} {b : Bool} (hk : ak zs x = b) (hn : Hid (n = zs.length)) (hN : n ≤ 1000000) (hx : Rd w (· < w.heap.size) A (kc zs)) :
    ∀ W, Below w.heap.size w W → Calls Try.prog 28 #[.slice A n c, .int .i64 x] W fun e w' => e = .returned (.bool b) ∧ Below W.heap.size W w' := fun W hW => by
  subst hk; exact asked_any W A n c zs x hn hN (hx.later hW)
theorem memB_drop {zs : List Win} {k : Nat} (x : Int) (hk : k < zs.length) : memB (zs.drop k) x = (decide ((zs.getD k (0, 0)).1 ≤ x ∧ x < (zs.getD k (0, 0)).2) || memB (zs.drop (k + 1)) x) := by
  have e : zs.getD k (0, 0) = zs[k] := by simp [List.getD_eq_getElem?_getD, List.getElem?_eq_getElem hk]
  rw [List.drop_eq_getElem_cons hk, e]; rfl
theorem hs_memB {zs : List Win} {x : Int} (h : ak zs x = true) : hs zs x = memB zs x := by
  simp [ak] at h
  exact Bool.eq_iff_iff.2 ((hs_mem h.1 h.2).trans (memB_iff _ _).symm)
theorem hs_not {zs : List Win} {x : Int} (h : ak zs x = false) : hs zs x = false := by
  unfold hs nx
  cases ht : tick x with
  | false => rfl
  | true =>
    have hx := (tick_iff x).1 ht
    have hg : good zs = false := by simpa [ak, ht] using h
    simp [hg]; omega
theorem hs_none (x : Int) : hs [] x = false := by
  cases h : ak [] x with
  | false => exact hs_not h
  | true => rw [hs_memB h]; rfl

set_option maxHeartbeats 2000000 in
theorem refhas_any (w : World) (A : Option Addr) (n c : Nat) (zs : List Win) (x : Int) (hn : Hid (n = zs.length)) (hN : n ≤ 1000000) (hx : Rd w (· < w.heap.size) A (kc zs)) :
    Calls Try.prog 12 #[.slice A n c, .int .i64 x] w fun e w' => e = .returned (.bool (hs zs x)) ∧ Below w.heap.size w w' := by
  have HX := Lib.hid hx
  clear hx
  cases hk : ak zs x with
  | false =>
    have CA := Lib.hid (asked_at (c := c) hk hn hN HX.out)
    have HR := Lib.hid (hs_not hk)
    by_cases h0 : n = 0
    · subst h0
      go_enter Try.func12, Try.ntmps12
      go_wp2
      go_loopw [5] (fun v5 wr => v5 = .int .i64 0 ∧ Below w.heap.size w wr) (fun _ _ => 0)
      case atStart => exact ⟨rfl, Below.refl _ _⟩
      case round =>
        obtain ⟨rfl, hbel⟩ := hrel
        have HB := Lib.hid hbel
        clear hbel
        go_wp2
        go_ret
        exact ⟨ret_b HR.out, HB.out⟩
    · have h0' : (0 : Int) < (n : Int) := by omega
      go_enter Try.func12, Try.ntmps12
      go_wp2
      go_loopw [5] (fun v5 wr => v5 = .int .i64 0 ∧ Below w.heap.size w wr) (fun _ _ => 0)
      case atStart => exact ⟨rfl, Below.refl _ _⟩
      case round =>
        obtain ⟨rfl, hbel⟩ := hrel
        have HB := Lib.hid hbel
        clear hbel
        go_wp2_with (go_at_call 28; refine (CA.out _ HB.out).mono ?_; rintro e w1 ⟨rfl, hb1⟩)
        go_ret
        exact ⟨ret_b HR.out, below_then HB.out hb1 HB.out.size⟩
  | true =>
    have CA := Lib.hid (asked_at (c := c) hk hn hN HX.out)
    have HM := Lib.hid (hs_memB hk)
    go_enter Try.func12, Try.ntmps12
    go_wp2
    go_loopw [5] (fun v5 wr => ∃ k : Nat, v5 = .int .i64 k ∧ k ≤ n ∧ Hid (hs zs x = memB (zs.drop k) x) ∧ Below w.heap.size w wr) (fun v _ => n - (intOf v).toNat)
    case atStart => exact ⟨0, rfl, by omega, by show _ = _; exact HM.out, Below.refl _ _⟩
    case round =>
      obtain ⟨k, rfl, hkn, hM, hbel⟩ := hrel
      have HB := Lib.hid hbel
      clear hbel
      by_cases hlt : k < n
      · have hkl : k < zs.length := by rw [← hn.out]; exact hlt
        obtain ⟨ad, rfl, hS, hca⟩ := HX.out.key2 (k := k) hkl
        have hi : (k : Int) < (n : Int) := by omega
        have HM2 := Lib.hid (hM.out.trans (memB_drop x hkl))
        obtain ⟨p, hp⟩ : ∃ p, p = zs.getD k (0, 0) := ⟨_, rfl⟩
        have HC : Hid (∀ W, Below w.heap.size w W → W.cell? (ad.add (k * 2)) = some (.int .i64 p.1) ∧ W.cell? ⟨(ad.add (k * 2)).block, (ad.add (k * 2)).off + 1, none⟩ = some (.int .i64 p.2)) := Lib.hid fun W hW => by
          obtain ⟨bd, e, _, hcb⟩ := (HX.out.below2 hW).key2 (k := k) hkl
          injection e with e
          subst e
          rw [hp]; exact hcb k hkl
        rw [← hp] at HM2
        clear hca hM hp
        obtain ⟨p1, p2⟩ := p
        dsimp only at HM2 HC
        by_cases c1 : p1 ≤ x
        · by_cases c2 : x < p2
          · have HR : Hid (hs zs x = true) := Lib.hid (by rw [HM2.out]; simp [c1, c2])
            clear HM2
            go_wp2_with (go_at_call 28; refine (CA.out _ HB.out).mono ?_; rintro e w1 ⟨rfl, hb1⟩; have hb2 := Lib.hid (below_then HB.out hb1 HB.out.size); clear hb1; obtain ⟨ha0, ha1⟩ := HC.out w1 hb2.out)
            go_ret
            exact ⟨ret_b HR.out, hb2.out⟩
          · have HR : Hid (hs zs x = memB (zs.drop (k + 1)) x) := Lib.hid (by rw [HM2.out]; simp [c2])
            clear HM2
            go_wp2_with (go_at_call 28; refine (CA.out _ HB.out).mono ?_; rintro e w1 ⟨rfl, hb1⟩; have hb2 := Lib.hid (below_then HB.out hb1 HB.out.size); clear hb1; obtain ⟨ha0, ha1⟩ := HC.out w1 hb2.out)
            go_roundw
            case rel => exact ⟨k + 1, by go_num, by omega, HR.out, hb2.out⟩
            case measure => simp [intOf]; omega
        · have HR : Hid (hs zs x = memB (zs.drop (k + 1)) x) := Lib.hid (by rw [HM2.out]; simp [c1])
          clear HM2
          go_wp2_with (go_at_call 28; refine (CA.out _ HB.out).mono ?_; rintro e w1 ⟨rfl, hb1⟩; have hb2 := Lib.hid (below_then HB.out hb1 HB.out.size); clear hb1; obtain ⟨ha0, ha1⟩ := HC.out w1 hb2.out)
          go_roundw
          case rel => exact ⟨k + 1, by go_num, by omega, HR.out, hb2.out⟩
          case measure => simp [intOf]; omega
      · have HR : Hid (hs zs x = false) := Lib.hid (by rw [hM.out, List.drop_eq_nil_of_le (by rw [← hn.out]; omega)]; rfl)
        clear hM
        go_wp2
        go_ret
        exact ⟨ret_b HR.out, HB.out⟩
end Go.Proofs.Ytmfocopokadloaa.Wn
