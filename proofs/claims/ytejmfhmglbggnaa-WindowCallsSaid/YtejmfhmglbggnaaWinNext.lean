/- The document's Next, Gap, Free and Sum of chapter 8 at any row and numbers, each proved by walking its text. Conditions: rows hold fewer than a million windows. -/
import Derived.Test.YtejmfhmglbggnaaWinAsk
import Derived.IntWalk
namespace Go.Proofs.Ytejmfhmglbggnaa.Wn
open Go.ChangeShapes Go.WideShapes Go.ChangeAt Go.RowKit
set_option linter.unusedVariables false
set_option linter.unusedSimpArgs false

theorem ak_iff {zs : List Win} {x : Int} : ak zs x = true ↔ good zs = true ∧ tick x = true := by simp [ak]
theorem nx_not {zs : List Win} {x : Int} (h : ak zs x = false) : nx zs x = 4611686018427387904 := by
  unfold nx; rw [if_neg]; rw [← ak_iff, h]; simp
theorem nx_doc {zs : List Win} {x : Int} (h : ak zs x = true) : nx zs x = nxD x zs := by
  unfold nx; rw [if_pos (ak_iff.1 h), nxD_eq]
theorem nxD_drop {zs : List Win} {k : Nat} (x : Int) (hk : k < zs.length) : nxD x (zs.drop k) = if x < (zs.getD k (0, 0)).2 then max x (zs.getD k (0, 0)).1 else nxD x (zs.drop (k + 1)) := by
  have e : zs.getD k (0, 0) = zs[k] := by simp [List.getD_eq_getElem?_getD, List.getElem?_eq_getElem hk]
  rw [List.drop_eq_getElem_cons hk, e]; rfl
set_option maxHeartbeats 2000000 in
theorem refnext_any (w : World) (A : Option Addr) (n c : Nat) (zs : List Win) (x : Int) (hn : Hid (n = zs.length)) (hN : n ≤ 1000000) (hx : Rd w (· < w.heap.size) A (kc zs)) :
    Calls Try.prog 26 #[.slice A n c, .int .i64 x] w fun e w' => e = .returned (.int .i64 (nx zs x)) ∧ Below w.heap.size w w' := by
  have HX := Lib.hid hx
  clear hx
  cases hk : ak zs x with
  | false =>
    have CA := Lib.hid (asked_at (c := c) hk hn hN HX.out)
    have HR := Lib.hid (nx_not hk)
    by_cases h0 : n = 0
    · subst h0
      go_enter Try.func26, Try.ntmps26
      go_wp2
      go_loopw [5] (fun v5 wr => v5 = .int .i64 0 ∧ Below w.heap.size w wr) (fun _ _ => 0)
      case atStart => exact ⟨rfl, Below.refl _ _⟩
      case round =>
        obtain ⟨rfl, hbel⟩ := hrel
        have HB := Lib.hid hbel
        clear hbel
        go_wp2
        go_ret
        exact ⟨ret_i HR.out.symm, HB.out⟩
    · have h0' : (0 : Int) < (n : Int) := by omega
      go_enter Try.func26, Try.ntmps26
      go_wp2
      go_loopw [5] (fun v5 wr => v5 = .int .i64 0 ∧ Below w.heap.size w wr) (fun _ _ => 0)
      case atStart => exact ⟨rfl, Below.refl _ _⟩
      case round =>
        obtain ⟨rfl, hbel⟩ := hrel
        have HB := Lib.hid hbel
        clear hbel
        go_wp2_with (go_at_call 43; refine (CA.out _ HB.out).mono ?_; rintro e w1 ⟨rfl, hb1⟩)
        go_ret
        exact ⟨ret_i HR.out.symm, below_then HB.out hb1 HB.out.size⟩
  | true =>
    have CA := Lib.hid (asked_at (c := c) hk hn hN HX.out)
    have HM := Lib.hid (nx_doc hk)
    go_enter Try.func26, Try.ntmps26
    go_wp2
    go_loopw [5] (fun v5 wr => ∃ k : Nat, v5 = .int .i64 k ∧ k ≤ n ∧ Hid (nx zs x = nxD x (zs.drop k)) ∧ Below w.heap.size w wr) (fun v _ => n - (intOf v).toNat)
    case atStart => exact ⟨0, rfl, by omega, by show _ = _; exact HM.out, Below.refl _ _⟩
    case round =>
      obtain ⟨k, rfl, hkn, hM, hbel⟩ := hrel
      have HB := Lib.hid hbel
      clear hbel
      by_cases hlt : k < n
      · have hkl : k < zs.length := by rw [← hn.out]; exact hlt
        obtain ⟨ad, rfl, hS, hca⟩ := HX.out.key2 (k := k) hkl
        have hi : (k : Int) < (n : Int) := by omega
        have HM2 := Lib.hid (hM.out.trans (nxD_drop x hkl))
        obtain ⟨p, hp⟩ : ∃ p, p = zs.getD k (0, 0) := ⟨_, rfl⟩
        have HC : Hid (∀ W, Below w.heap.size w W → W.cell? (ad.add (k * 2)) = some (.int .i64 p.1) ∧ W.cell? ⟨(ad.add (k * 2)).block, (ad.add (k * 2)).off + 1, none⟩ = some (.int .i64 p.2)) := Lib.hid fun W hW => by
          obtain ⟨bd, e, _, hcb⟩ := (HX.out.below2 hW).key2 (k := k) hkl
          injection e with e
          subst e
          rw [hp]; exact hcb k hkl
        rw [← hp] at HM2
        clear hca hM hp
        obtain ⟨p1, p2⟩ := p
        dsimp only at HM2 HC
        by_cases c2 : x < p2
        · by_cases c1 : p1 ≤ x
          · have HR : Hid (nx zs x = x) := Lib.hid (by rw [HM2.out, if_pos c2]; omega)
            clear HM2
            go_wp2_with (go_at_call 43; refine (CA.out _ HB.out).mono ?_; rintro e w1 ⟨rfl, hb1⟩; have hb2 := Lib.hid (below_then HB.out hb1 HB.out.size); clear hb1; obtain ⟨ha0, ha1⟩ := HC.out w1 hb2.out)
            go_ret
            exact ⟨ret_i (by have := HR.out; omega), hb2.out⟩
          · have HR : Hid (nx zs x = p1) := Lib.hid (by rw [HM2.out, if_pos c2]; omega)
            clear HM2
            go_wp2_with (go_at_call 43; refine (CA.out _ HB.out).mono ?_; rintro e w1 ⟨rfl, hb1⟩; have hb2 := Lib.hid (below_then HB.out hb1 HB.out.size); clear hb1; obtain ⟨ha0, ha1⟩ := HC.out w1 hb2.out)
            go_ret
            exact ⟨ret_i (by have := HR.out; omega), hb2.out⟩
        · have HR : Hid (nx zs x = nxD x (zs.drop (k + 1))) := Lib.hid (by rw [HM2.out, if_neg c2])
          clear HM2
          go_wp2_with (go_at_call 43; refine (CA.out _ HB.out).mono ?_; rintro e w1 ⟨rfl, hb1⟩; have hb2 := Lib.hid (below_then HB.out hb1 HB.out.size); clear hb1; obtain ⟨ha0, ha1⟩ := HC.out w1 hb2.out)
          go_roundw
          case rel => exact ⟨k + 1, by go_num, by omega, HR.out, hb2.out⟩
          case measure => simp [intOf]; omega
      · have HR : Hid (nx zs x = 4611686018427387904) := Lib.hid (by rw [hM.out, List.drop_eq_nil_of_le (by rw [← hn.out]; omega)]; rfl)
        clear hM
        go_wp2
        go_ret
        exact ⟨ret_i HR.out.symm, HB.out⟩
theorem gpD_drop {zs : List Win} {k : Nat} (n y : Int) (hk : k < zs.length) : gpD n y (zs.drop k) = if (zs.getD k (0, 0)).1 < y + n ∧ y < (zs.getD k (0, 0)).2 then gpD n (zs.getD k (0, 0)).2 (zs.drop (k + 1)) else gpD n y (zs.drop (k + 1)) := by
  have e : zs.getD k (0, 0) = zs[k] := by simp [List.getD_eq_getElem?_getD, List.getElem?_eq_getElem hk]
  rw [List.drop_eq_getElem_cons hk, e]; rfl
theorem gp_not {zs : List Win} {x n : Int} (h : ¬ (ak zs x = true ∧ tick n = true)) : gp zs x n = 4611686018427387904 := by
  unfold gp; rw [if_neg]; rintro ⟨a, b, c⟩; exact h ⟨ak_iff.2 ⟨a, b⟩, c⟩
theorem gp_zero {zs : List Win} {x : Int} (h : ak zs x = true) : gp zs x 0 = x := by
  have := ak_iff.1 h
  unfold gp; rw [if_pos ⟨this.1, this.2, by simp [tick]⟩, if_pos rfl]
theorem gp_doc {zs : List Win} {x n : Int} (h : ak zs x = true) (ht : tick n = true) (hn : 0 < n) : gp zs x n = gpD n x zs := by
  have := ak_iff.1 h
  unfold gp; rw [if_pos ⟨this.1, this.2, ht⟩, if_neg (by omega), gpD_eq hn (good_gd this.1)]
set_option maxHeartbeats 4000000 in
theorem refgap_any (w : World) (A : Option Addr) (n c : Nat) (zs : List Win) (x m : Int) (hn : Hid (n = zs.length)) (hN : n ≤ 1000000) (hx : Rd w (· < w.heap.size) A (kc zs)) :
    Calls Try.prog 29 #[.slice A n c, .int .i64 x, .int .i64 m] w fun e w' => e = .returned (.int .i64 (gp zs x m)) ∧ Below w.heap.size w w' := by
  have HX := Lib.hid hx
  clear hx
  cases hk : ak zs x with
  | false =>
    have CA := Lib.hid (asked_at (c := c) hk hn hN HX.out)
    have HR : Hid (gp zs x m = 4611686018427387904) := Lib.hid (gp_not (by simp [hk]))
    go_enter Try.func29, Try.ntmps29
    go_wp2_with (go_at_call 43; refine (CA.out _ (Below.refl _ _)).mono ?_; rintro e w1 ⟨rfl, hb1⟩)
    go_ret
    exact ⟨ret_i HR.out.symm, hb1⟩
  | true =>
    have CA := Lib.hid (asked_at (c := c) hk hn hN HX.out)
    cases ht : tick m with
    | false =>
      have HR : Hid (gp zs x m = 4611686018427387904) := Lib.hid (gp_not (by simp [ht]))
      have C1 := Lib.hid (fun w => by have := refcheck1_any m w; rw [ht] at this; simpa using this : ∀ w, Calls Try.prog 39 #[.int .i64 m] w fun e w' => e = .returned (.int .i64 9) ∧ w = w')
      go_enter Try.func29, Try.ntmps29
      go_wp2_with (first | (go_at_call 43; refine (CA.out _ (Below.refl _ _)).mono ?_; rintro e w1 ⟨rfl, hb1⟩) | (go_at_call 39; refine (C1.out _).mono ?_; rintro e w2 ⟨rfl, rfl⟩) | fail)
      go_ret
      exact ⟨ret_i HR.out.symm, hb1⟩
    | true =>
      have C1 := Lib.hid (fun w => by have := refcheck1_any m w; rw [ht] at this; simpa using this : ∀ w, Calls Try.prog 39 #[.int .i64 m] w fun e w' => e = .returned (.int .i64 0) ∧ w = w')
      have hm := (tick_iff m).1 ht
      have hxt := (tick_iff x).1 (ak_iff.1 hk).2
      have HA : Hid (∀ k, k < zs.length → 0 ≤ (zs.getD k (0, 0)).1 ∧ (zs.getD k (0, 0)).1 < (zs.getD k (0, 0)).2 ∧ (zs.getD k (0, 0)).2 ≤ 2199023255552) := Lib.hid fun k hkk => by
        have := (good_gd (ak_iff.1 hk).1).all (zs.getD k (0, 0)) (by simp [List.getD_eq_getElem?_getD, List.getElem?_eq_getElem hkk]); omega
      by_cases h0 : m = 0
      · subst h0
        have HR := Lib.hid (gp_zero hk)
        by_cases hn0 : n = 0
        · subst hn0
          go_enter Try.func29, Try.ntmps29
          go_wp2_with (first | (go_at_call 43; refine (CA.out _ (Below.refl _ _)).mono ?_; rintro e w1 ⟨rfl, hb1⟩) | (go_at_call 39; refine (C1.out _).mono ?_; rintro e w2 ⟨rfl, rfl⟩) | fail)
          go_loopw [7, 8] (fun v7 v8 wr => v7 = .int .i64 x ∧ v8 = .int .i64 0 ∧ Below w.heap.size w wr) (fun _ _ _ => 0)
          case atStart => exact ⟨rfl, rfl, hb1⟩
          case round =>
            obtain ⟨rfl, rfl, hbel⟩ := hrel
            have HB := Lib.hid hbel
            clear hbel hb1
            go_wp2
            go_ret
            exact ⟨ret_i HR.out.symm, HB.out⟩
        · have hn0' : (0 : Int) < (n : Int) := by omega
          go_enter Try.func29, Try.ntmps29
          go_wp2_with (first | (go_at_call 43; refine (CA.out _ (Below.refl _ _)).mono ?_; rintro e w1 ⟨rfl, hb1⟩) | (go_at_call 39; refine (C1.out _).mono ?_; rintro e w2 ⟨rfl, rfl⟩) | fail)
          go_loopw [7, 8] (fun v7 v8 wr => v7 = .int .i64 x ∧ v8 = .int .i64 0 ∧ Below w.heap.size w wr) (fun _ _ _ => 0)
          case atStart => exact ⟨rfl, rfl, hb1⟩
          case round =>
            obtain ⟨rfl, rfl, hbel⟩ := hrel
            have HB := Lib.hid hbel
            clear hbel hb1
            go_wp2
            go_ret
            exact ⟨ret_i HR.out.symm, HB.out⟩
      · have hm0 : 0 < m := by omega
        have HD := Lib.hid (gp_doc hk ht hm0)
        go_enter Try.func29, Try.ntmps29
        go_wp2_with (first | (go_at_call 43; refine (CA.out _ (Below.refl _ _)).mono ?_; rintro e w1 ⟨rfl, hb1⟩) | (go_at_call 39; refine (C1.out _).mono ?_; rintro e w2 ⟨rfl, rfl⟩) | fail)
        go_loopw [7, 8] (fun v7 v8 wr => ∃ (k : Nat) (y : Int), v7 = .int .i64 y ∧ v8 = .int .i64 k ∧ k ≤ n ∧ 0 ≤ y ∧ y ≤ 2199023255552 ∧ Hid (gp zs x m = gpD m y (zs.drop k)) ∧ Below w.heap.size w wr) (fun _ v _ => n - (intOf v).toNat)
        case atStart => exact ⟨0, x, rfl, rfl, by omega, by omega, by omega, by show _ = _; exact HD.out, hb1⟩
        case round =>
          obtain ⟨k, y, rfl, rfl, hkn, hy0, hy1, hG, hbel⟩ := hrel
          by_cases hlt : k < n
          · have hkl : k < zs.length := by rw [← hn.out]; exact hlt
            obtain ⟨ad, rfl, hS, hca⟩ := (HX.out.below2 hbel).key2 (k := k) hkl
            obtain ⟨ha0, ha1⟩ := hca k hkl
            have hz := HA.out k hkl
            have HM2 := Lib.hid (hG.out.trans (gpD_drop m y hkl))
            have hi : (k : Int) < (n : Int) := by omega
            obtain ⟨p, hp⟩ : ∃ p, p = zs.getD k (0, 0) := ⟨_, rfl⟩
            rw [← hp] at ha0 ha1 hz HM2
            have HB := Lib.hid hbel
            clear hca hG hp hbel hb1
            obtain ⟨p1, p2⟩ := p
            dsimp only at ha0 ha1 hz HM2
            by_cases c1 : p1 < y + m
            · have d1 : decide (p1 < y + m) = true := decide_eq_true c1
              by_cases c2 : y < p2
              · have d2 : decide (y < p2) = true := decide_eq_true c2
                have HR : Hid (gp zs x m = gpD m p2 (zs.drop (k + 1))) := Lib.hid (by rw [HM2.out, if_pos ⟨c1, c2⟩])
                clear HM2
                go_wp2
                go_roundw
                case rel => exact ⟨k + 1, p2, rfl, by go_num, by omega, by omega, by omega, HR.out, HB.out⟩
                case measure => simp [intOf]; omega
              · have d2 : decide (y < p2) = false := decide_eq_false c2
                have HR : Hid (gp zs x m = gpD m y (zs.drop (k + 1))) := Lib.hid (by rw [HM2.out, if_neg (fun h => c2 h.2)])
                clear HM2
                go_wp2
                go_roundw
                case rel => exact ⟨k + 1, y, rfl, by go_num, by omega, by omega, by omega, HR.out, HB.out⟩
                case measure => simp [intOf]; omega
            · have d1 : decide (p1 < y + m) = false := decide_eq_false c1
              have HR : Hid (gp zs x m = gpD m y (zs.drop (k + 1))) := Lib.hid (by rw [HM2.out, if_neg (fun h => c1 h.1)])
              clear HM2
              go_wp2
              go_roundw
              case rel => exact ⟨k + 1, y, rfl, by go_num, by omega, by omega, by omega, HR.out, HB.out⟩
              case measure => simp [intOf]; omega
          · have HB := Lib.hid hbel
            have HR : Hid (gp zs x m = y) := Lib.hid (by rw [hG.out, List.drop_eq_nil_of_le (by rw [← hn.out]; omega)]; rfl)
            clear hG hbel hb1
            go_wp2
            go_ret
            exact ⟨ret_i HR.out.symm, HB.out⟩
theorem reffree_any (w : World) (A : Option Addr) (n c : Nat) (zs : List Win) (x : Int) (hn : Hid (n = zs.length)) (hN : n ≤ 1000000) (hx : Rd w (· < w.heap.size) A (kc zs)) :
    Calls Try.prog 28 #[.slice A n c, .int .i64 x] w fun e w' => e = .returned (.int .i64 (gp zs x 1)) ∧ Below w.heap.size w w' := by
  have CG := Lib.hid (refgap_any w A n c zs x 1 hn hN hx)
  clear hx hn
  go_enter Try.func28, Try.ntmps28
  go_wp2_with (go_at_call 29; refine CG.out.mono ?_; rintro e w1 ⟨rfl, hb⟩)
  go_ret
  exact ⟨rfl, hb⟩
end Go.Proofs.Ytejmfhmglbggnaa.Wn
