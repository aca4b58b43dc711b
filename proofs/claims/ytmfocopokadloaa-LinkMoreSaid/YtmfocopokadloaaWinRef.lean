/- The document's answers of chapter 8 for Check, Good, Sum, Has, Next, Gap and Free, at any times, row and numbers, each proved by walking its text. Conditions: rows hold fewer than a million windows. -/
import Derived.Test.YtmfocopokadloaaWinLex
import Derived.IntWalk
namespace Go.Proofs.Ytmfocopokadloaa.Wn
open Go.ChangeShapes Go.WideShapes Go.ChangeAt Go.RowKit
set_option linter.unusedVariables false
set_option linter.unusedSimpArgs false

theorem refcheck1_any (x : Int) (w : World) : Calls Try.prog 45 #[.int .i64 x] w fun e w' => e = .returned (.int .i64 (if tick x = true then 0 else 9)) ∧ w = w' := by
  by_cases h : tick x = true
  · have h' := (tick_iff x).1 h
    go_enter Try.func45, Try.ntmps45
    go_wp2
    go_ret
    exact ⟨ret_i (by simp [h]), rfl⟩
  · have h2 : ¬ (0 ≤ x ∧ x ≤ 1099511627776) := fun h' => h ((tick_iff x).2 h')
    by_cases h0 : x < 0
    · go_enter Try.func45, Try.ntmps45
      go_wp2
      go_ret
      exact ⟨ret_i (by simp [h]), rfl⟩
    · have h1 : 1099511627776 < x := by omega
      go_enter Try.func45, Try.ntmps45
      go_wp2
      go_ret
      exact ⟨ret_i (by simp [h]), rfl⟩

theorem goodB_snoc {zs : List Win} {k : Nat} {e : Int} (hk : k < zs.length) : goodB e (zs.drop k) = if (zs.getD k (0, 0)).1 ≤ e ∨ (zs.getD k (0, 0)).2 ≤ (zs.getD k (0, 0)).1 ∨ 2199023255552 < (zs.getD k (0, 0)).2 then false else goodB (zs.getD k (0, 0)).2 (zs.drop (k + 1)) := by
  rw [List.drop_eq_getElem_cons hk]
  simp [goodB, List.getD_eq_getElem?_getD, List.getElem?_eq_getElem hk]

set_option maxHeartbeats 2000000 in
theorem refgood_any (w : World) (A : Option Addr) (n c : Nat) (zs : List Win) (hn : Hid (n = zs.length)) (hN : n ≤ 1000000) (hx : Rd w (· < w.heap.size) A (kc zs)) :
    Calls Try.prog 13 #[.slice A n c] w fun e w' => e = .returned (.bool (good zs)) ∧ Below w.heap.size w w' := by
  have HX := Lib.hid hx
  clear hx
  go_enter Try.func13, Try.ntmps13
  go_wp2
  go_loopw [3] (fun v3 wr => ∃ (k : Nat) (e : Int), v3 = .int .i64 k ∧ k ≤ n ∧ Hid (good zs = goodB e (zs.drop k)) ∧ Hid ((k = 0 ∧ e = -1) ∨ (0 < k ∧ 0 ≤ e ∧ (zs.getD (k - 1) (0, 0)).2 = e)) ∧ Below w.heap.size w wr) (fun v _ => n - (intOf v).toNat)
  case atStart => exact ⟨0, -1, rfl, by omega, by show _ = _; rfl, .inl ⟨rfl, rfl⟩, Below.refl _ _⟩
  case round =>
    obtain ⟨k, e, rfl, hk, hG, hE, hbel⟩ := hrel
    by_cases hlt : k < n
    · have hkl : k < zs.length := by rw [← hn.out]; exact hlt
      obtain ⟨ad, rfl, hS, hca⟩ := (HX.out.below2 hbel).key2 (k := k) hkl
      obtain ⟨ha0, ha1⟩ := hca k hkl
      obtain ⟨j, hj⟩ : ∃ j, j = k - 1 := ⟨_, rfl⟩
      have hb1 := (hca j (by omega)).2
      have HG := Lib.hid (hG.out.trans (goodB_snoc hkl))
      have HE := hE
      obtain ⟨p, hp⟩ : ∃ p, p = zs.getD k (0, 0) := ⟨_, rfl⟩
      obtain ⟨q, hq⟩ : ∃ q, q = zs.getD j (0, 0) := ⟨_, rfl⟩
      have hp2 := Lib.hid hp
      rw [← hp] at ha0 ha1 HG
      rw [← hj, ← hq] at HE
      rw [← hq] at hb1
      have HJ := Lib.hid hj
      have HB := Lib.hid hbel
      clear hca hbel hp hq hG hE hj
      have hi : (k : Int) < (n : Int) := by omega
      obtain ⟨p1, p2⟩ := p
      obtain ⟨q1, q2⟩ := q
      dsimp only at ha0 ha1 hb1 HG HE
      by_cases c1 : p1 < 0
      · have g1 : decide (p1 < 0) = true := decide_eq_true c1
        have HR : Hid (false = good zs) := Lib.hid (by have := HE.out; rw [HG.out, if_pos (.inl (by omega))])
        clear HG HE hb1
        go_wp2
        refine wp_region_quiet_lit mixed lexG ?_
        repeat (go_big_quiet_step (fail))
        refine wpQuiet_nil ?_
        intro _ hw'
        obtain ⟨nq, hw''⟩ := hw'
        subst hw''
        go_wp2
        go_ret
        exact ⟨ret_b HR.out.symm, below_drewN HB.out _⟩
      · have g1 : decide (p1 < 0) = false := decide_eq_false c1
        by_cases c2 : p2 ≤ p1
        · have g2 : decide (p2 ≤ p1) = true := decide_eq_true c2
          have HR : Hid (false = good zs) := Lib.hid (by rw [HG.out, if_pos (.inr (.inl c2))])
          clear HG HE hb1
          go_wp2
          refine wp_region_quiet_lit mixed lexG ?_
          repeat (go_big_quiet_step (fail))
          refine wpQuiet_nil ?_
          intro _ hw'
          obtain ⟨nq, hw''⟩ := hw'
          subst hw''
          go_wp2
          go_ret
          exact ⟨ret_b HR.out.symm, below_drewN HB.out _⟩
        · have g2 : decide (p2 ≤ p1) = false := decide_eq_false c2
          by_cases c3 : 2199023255552 < p2
          · have g3 : decide (2199023255552 < p2) = true := decide_eq_true c3
            have HR : Hid (false = good zs) := Lib.hid (by rw [HG.out, if_pos (.inr (.inr c3))])
            clear HG HE hb1
            go_wp2
            refine wp_region_quiet_lit mixed lexG ?_
            repeat (go_big_quiet_step (fail))
            refine wpQuiet_nil ?_
            intro _ hw'
            obtain ⟨nq, hw''⟩ := hw'
            subst hw''
            go_wp2
            go_ret
            exact ⟨ret_b HR.out.symm, below_drewN HB.out _⟩
          · have g3 : decide (2199023255552 < p2) = false := decide_eq_false c3
            by_cases c4 : k = 0
            · have g4 : decide ((0 : Int) < (k : Int)) = false := by simp; omega
              have g4' : decide (0 < k) = false := by simp; omega
              have HR : Hid (good zs = goodB p2 (zs.drop (k + 1))) := Lib.hid (by have := HE.out; rw [HG.out, if_neg (by omega)])
              have HE2 : Hid ((k + 1 = 0 ∧ p2 = -1) ∨ (0 < k + 1 ∧ 0 ≤ p2 ∧ (zs.getD (k + 1 - 1) (0, 0)).2 = p2)) := Lib.hid (.inr ⟨by omega, by omega, by simp only [Nat.add_sub_cancel]; rw [← hp2.out]⟩)
              have C4 := Lib.hid c4
              clear HG HE hb1 hp2 c4
              go_wp2
              refine wp_region_quiet_lit mixed lexG ?_
              repeat (go_big_quiet_step (fail))
              refine wpQuiet_nil ?_
              intro _ hw'
              obtain ⟨nq, hw''⟩ := hw'
              subst hw''
              go_wp2
              go_roundw
              case rel => exact ⟨k + 1, p2, by go_num, by omega, HR.out, HE2.out, below_drewN HB.out _⟩
              case measure => simp [intOf]; omega
            · have g4 : decide ((0 : Int) < (k : Int)) = true := by simp; omega
              have g4' : decide (0 < k) = true := by simp; omega
              have HE2 : Hid ((k + 1 = 0 ∧ p2 = -1) ∨ (0 < k + 1 ∧ 0 ≤ p2 ∧ (zs.getD (k + 1 - 1) (0, 0)).2 = p2)) := Lib.hid (.inr ⟨by omega, by omega, by simp only [Nat.add_sub_cancel]; rw [← hp2.out]⟩)
              by_cases c5 : p1 ≤ q2
              · have g5 : decide (p1 ≤ q2) = true := decide_eq_true c5
                have HR : Hid (false = good zs) := Lib.hid (by have := HE.out; rw [HG.out, if_pos (.inl (by omega))])
                clear HG HE hp2
                go_wp2
                have ew : (k : Int) - 1 = (j : Int) := by have := HJ.out; omega
                have eb : (j : Int) < (n : Int) := by have := HJ.out; omega
                have eg : 0 < k := by omega
                refine wp_region_quiet_lit mixed lexG ?_
                repeat (go_big_quiet_step (fail))
                refine wpQuiet_nil ?_
                intro _ hw'
                obtain ⟨nq, hw''⟩ := hw'
                subst hw''
                go_wp2
                go_ret
                exact ⟨ret_b HR.out.symm, below_drewN HB.out _⟩
              · have g5 : decide (p1 ≤ q2) = false := decide_eq_false c5
                have HR : Hid (good zs = goodB p2 (zs.drop (k + 1))) := Lib.hid (by have := HE.out; rw [HG.out, if_neg (by omega)])
                clear HG HE hp2
                go_wp2
                have ew : (k : Int) - 1 = (j : Int) := by have := HJ.out; omega
                have eb : (j : Int) < (n : Int) := by have := HJ.out; omega
                have eg : 0 < k := by omega
                refine wp_region_quiet_lit mixed lexG ?_
                repeat (go_big_quiet_step (fail))
                refine wpQuiet_nil ?_
                intro _ hw'
                obtain ⟨nq, hw''⟩ := hw'
                subst hw''
                clear ew eb eg
                go_wp2
                go_roundw
                case rel => exact ⟨k + 1, p2, by go_num, by omega, HR.out, HE2.out, below_drewN HB.out _⟩
                case measure => simp [intOf]; omega
    · have HB := Lib.hid hbel
      have HR : Hid (good zs = true) := Lib.hid (by
        have := hG.out; rw [List.drop_eq_nil_of_le (by rw [← hn.out]; omega)] at this; exact this)
      clear hbel hG hE
      go_wp2
      go_ret
      exact ⟨ret_b HR.out, HB.out⟩
end Go.Proofs.Ytmfocopokadloaa.Wn
