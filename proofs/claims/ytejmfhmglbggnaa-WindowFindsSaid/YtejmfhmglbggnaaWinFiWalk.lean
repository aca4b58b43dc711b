/- The law WindowFinds at every world: Next and Gap tell a tick for which it is so, and none ahead of it is one. No conditions. -/
import Derived.RangeFuncBox
import Derived.RangeFuncLeaves
import Derived.Shelf.Abstract
import Derived.OwnWalkIn
import Derived.TacticsInMore
import Derived.LoopNIn
import Derived.LoopIn
import Derived.BigRegionIn
import Derived.RangeFuncNested
import Derived.RangeFuncCalls
import Derived.Shelf.RegionOpen
import Derived.Sort.QuietIn
import Derived.StillTail
import Derived.StillTactics
import Derived.Maps.AppendAt
import Derived.Lib.SliceRun
import Derived.RangeFuncNested
import Derived.Test.YtejmfhmglbggnaaWinRows
import Derived.IntWalk
import Derived.ChangeSlices
import Derived.Deep.SlicePairs
import Derived.Deep.Strs
import Derived.ChangeArms
import Derived.Carry
import Derived.OpenShut
namespace Go.Proofs.Ytejmfhmglbggnaa.Wn
open Go.ChangeShapes Go.WideShapes Go.ChangeAt Go.RowKit Go.Deep
set_option linter.unusedVariables false
set_option linter.unusedSimpArgs false
attribute [local go_sem] Oper.semAt_some

theorem finds_math {Z : List Win} (hg : good Z = true) {x n y : Int} (hx : tick x = true) (hn : tick n = true) (h1 : 1 ≤ n) (hy : tick y = true) (hxy : x ≤ y) :
    x ≤ nx Z x ∧ x ≤ gp Z x 1 ∧ gp Z x 1 ≤ gp Z x n ∧ gp Z x n ≤ 2199023255552 ∧
    ((nx Z x ≤ 1099511627776 ∧ hs Z (nx Z x) = true) ∨ 1099511627776 < nx Z x) ∧ ((gp Z x 1 ≤ 1099511627776 ∧ hs Z (gp Z x 1) = false) ∨ 1099511627776 < gp Z x 1) ∧
    ((hs Z y = true ∧ nx Z x ≤ y) ∨ (hs Z y = false ∧ gp Z x 1 ≤ y)) ∧ (∀ w ∈ Z, ¬ (w.1 < gp Z x n + n ∧ gp Z x n < w.2)) ∧ (gp Z x n ≤ y ∨ ∃ w ∈ Z, w.1 < y + n ∧ y < w.2) := by
  have hxt := (tick_iff x).1 hx
  have hyt := (tick_iff y).1 hy
  have ht1 : tick 1 = true := by decide
  obtain ⟨a1, a2, a3, a4⟩ := nxB_spec (x := x) (good_gd hg) hxt.2
  have ea : nx Z x = nxB x (bh x Z) := by unfold nx; rw [if_pos ⟨hg, hx⟩]
  rw [← ea] at a1 a2 a3 a4
  obtain ⟨b1, b2, b3⟩ := gp_spec hg hx ht1 (by omega)
  obtain ⟨c1, c2, c3⟩ := gp_spec hg hx hn h1
  have hbc : gp Z x 1 ≤ gp Z x n := by
    rcases Int.lt_or_le (gp Z x n) (gp Z x 1) with h | h
    · obtain ⟨w, hw, hw'⟩ := b3 _ c1 h
      exact (c2 w hw ⟨by omega, hw'.2⟩).elim
    · exact h
  have hle : gp Z x n ≤ 2199023255552 := by
    unfold gp
    rw [if_pos ⟨hg, hx, hn⟩, if_neg (by omega)]
    exact gpB_le _ _ (by omega) fun w hw => ((good_gd hg).all w (bh_mem.1 hw).1).2.2
  have notmem : ∀ z, tick z = true → z = gp Z x 1 → hs Z z = false := fun z hz e => by
    rw [← Bool.not_eq_true, hs_mem hg hz]
    rintro ⟨w, hw, hw'⟩
    exact b2 w hw (by rw [← e]; exact ⟨by omega, hw'.2⟩)
  refine ⟨a1, b1, hbc, hle, ?_, ?_, ?_, c2, ?_⟩
  · rcases Int.lt_or_le 1099511627776 (nx Z x) with h | h
    · exact .inr h
    · exact .inl ⟨h, (hs_mem hg ((tick_iff _).2 ⟨by omega, h⟩)).2 (a3 (by omega))⟩
  · rcases Int.lt_or_le 1099511627776 (gp Z x 1) with h | h
    · exact .inr h
    · exact .inl ⟨h, notmem _ ((tick_iff _).2 ⟨by omega, h⟩) rfl⟩
  · cases h : hs Z y with
    | true => exact .inl ⟨rfl, a4 y hxy ((hs_mem hg hy).1 h)⟩
    | false =>
      refine .inr ⟨rfl, ?_⟩
      rcases Int.lt_or_le y (gp Z x 1) with h' | h'
      · obtain ⟨w, hw, hw'⟩ := b3 y hxy h'
        have := (hs_mem hg hy).2 ⟨w, hw, by omega, hw'.2⟩
        rw [h] at this; cases this
      · exact h'
  · rcases Int.lt_or_le y (gp Z x n) with h | h
    · exact .inr (c3 y hxy h)
    · exact .inl h
theorem drop_mem {Z : List Win} {k : Nat} (hk : k < Z.length) (P : Win → Prop) : (∃ w ∈ Z.drop k, P w) ↔ P (Z.getD k (0, 0)) ∨ ∃ w ∈ Z.drop (k + 1), P w := by
  have e : Z.getD k (0, 0) = Z[k] := by simp [List.getD_eq_getElem?_getD, List.getElem?_eq_getElem hk]
  rw [List.drop_eq_getElem_cons hk, e]
  constructor
  · rintro ⟨w, hw, h⟩
    rcases List.mem_cons.1 hw with rfl | hw
    · exact .inl h
    · exact .inr ⟨w, hw, h⟩
  · rintro (h | ⟨w, hw, h⟩)
    · exact ⟨_, List.mem_cons_self .., h⟩
    · exact ⟨w, List.mem_cons_of_mem _ hw, h⟩

set_option maxRecDepth 100000 in
set_option maxHeartbeats 40000000 in
theorem finds_all (w : World) (A0 : Option Addr) (l0 c0 : Nat) (x n y : Int) (Z0 : List Win) (hl0 : Hid (l0 = Z0.length)) (hc0 : l0 ≤ c0) (hr0 : Rd w (· < w.heap.size) A0 (kc Z0)) :
    Calls Try.prog 6 #[.slice A0 l0 c0, .int .i64 x, .int .i64 n, .int .i64 y] w fun e w' => e = .returned (.bool true) ∧ Below w.heap.size w w' := by
  have HB := Lib.hid (Below.refl w.heap.size w)
  by_cases n0 : 300 < l0
  · have n0' : (300 : Int) < (l0 : Int) := by omega
    clear hr0
    go_enter Try.func6, Try.ntmps6
    go_wp2_with (first
      | (go_at_call 10; (with_reducible refine (lives_any _).mono ?_); rintro e1 wk ⟨rfl, hb⟩; (try (have R0 := Lib.hid (R0.out.later hb))); have HB := Lib.hid (below_then HB.out hb HB.out.size); clear hb)
      | fail)
    go_ret
    exact ⟨rfl, HB.out⟩
  · have n0' : ¬ (300 : Int) < (l0 : Int) := by omega
    have R0 := Lib.hid (RowAt.mk hl0 hc0 (by omega) hr0)
    clear hr0
    cases g0 : good Z0 with
    | false =>
      have g0 := Lib.hid g0
      go_enter Try.func6, Try.ntmps6
      go_wp2_with (first
        | (go_at_call 10; (with_reducible refine (lives_any _).mono ?_); rintro e1 wk ⟨rfl, hb⟩; (try (have R0 := Lib.hid (R0.out.later hb))); have HB := Lib.hid (below_then HB.out hb HB.out.size); clear hb)
        | (go_at_call 12; (with_reducible refine (good_n R0.out g0.out).mono ?_); rintro e1 wk ⟨rfl, hb⟩; (try (have R0 := Lib.hid (R0.out.later hb))); have HB := Lib.hid (below_then HB.out hb HB.out.size); clear hb)
        | fail)
      go_ret
      exact ⟨rfl, HB.out⟩
    | true =>
      have g1 := Lib.hid g0
      clear g0
      by_cases e0 : x < 0
      · go_enter Try.func6, Try.ntmps6
        go_wp2_with (first
          | (go_at_call 10; (with_reducible refine (lives_any _).mono ?_); rintro e1 wk ⟨rfl, hb⟩; (try (have R0 := Lib.hid (R0.out.later hb))); have HB := Lib.hid (below_then HB.out hb HB.out.size); clear hb)
          | (go_at_call 12; (with_reducible refine (good_y R0.out g1.out).mono ?_); rintro e1 wk ⟨rfl, hb⟩; (try (have R0 := Lib.hid (R0.out.later hb))); have HB := Lib.hid (below_then HB.out hb HB.out.size); clear hb)
          | fail)
        go_ret
        exact ⟨rfl, HB.out⟩
      · have e0' : ¬ x < 0 := e0
        by_cases e1 : 1099511627776 < x
        · go_enter Try.func6, Try.ntmps6
          go_wp2_with (first
            | (go_at_call 10; (with_reducible refine (lives_any _).mono ?_); rintro e1 wk ⟨rfl, hb⟩; (try (have R0 := Lib.hid (R0.out.later hb))); have HB := Lib.hid (below_then HB.out hb HB.out.size); clear hb)
            | (go_at_call 12; (with_reducible refine (good_y R0.out g1.out).mono ?_); rintro e1 wk ⟨rfl, hb⟩; (try (have R0 := Lib.hid (R0.out.later hb))); have HB := Lib.hid (below_then HB.out hb HB.out.size); clear hb)
            | fail)
          go_ret
          exact ⟨rfl, HB.out⟩
        · have e1' : ¬ 1099511627776 < x := e1
          by_cases e2 : y < x
          · go_enter Try.func6, Try.ntmps6
            go_wp2_with (first
              | (go_at_call 10; (with_reducible refine (lives_any _).mono ?_); rintro e1 wk ⟨rfl, hb⟩; (try (have R0 := Lib.hid (R0.out.later hb))); have HB := Lib.hid (below_then HB.out hb HB.out.size); clear hb)
              | (go_at_call 12; (with_reducible refine (good_y R0.out g1.out).mono ?_); rintro e1 wk ⟨rfl, hb⟩; (try (have R0 := Lib.hid (R0.out.later hb))); have HB := Lib.hid (below_then HB.out hb HB.out.size); clear hb)
              | fail)
            go_ret
            exact ⟨rfl, HB.out⟩
          · have e2' : ¬ y < x := e2
            by_cases e3 : 1099511627776 < y
            · go_enter Try.func6, Try.ntmps6
              go_wp2_with (first
                | (go_at_call 10; (with_reducible refine (lives_any _).mono ?_); rintro e1 wk ⟨rfl, hb⟩; (try (have R0 := Lib.hid (R0.out.later hb))); have HB := Lib.hid (below_then HB.out hb HB.out.size); clear hb)
                | (go_at_call 12; (with_reducible refine (good_y R0.out g1.out).mono ?_); rintro e1 wk ⟨rfl, hb⟩; (try (have R0 := Lib.hid (R0.out.later hb))); have HB := Lib.hid (below_then HB.out hb HB.out.size); clear hb)
                | fail)
              go_ret
              exact ⟨rfl, HB.out⟩
            · have e3' : ¬ 1099511627776 < y := e3
              by_cases e4 : n < 1
              · go_enter Try.func6, Try.ntmps6
                go_wp2_with (first
                  | (go_at_call 10; (with_reducible refine (lives_any _).mono ?_); rintro e1 wk ⟨rfl, hb⟩; (try (have R0 := Lib.hid (R0.out.later hb))); have HB := Lib.hid (below_then HB.out hb HB.out.size); clear hb)
                  | (go_at_call 12; (with_reducible refine (good_y R0.out g1.out).mono ?_); rintro e1 wk ⟨rfl, hb⟩; (try (have R0 := Lib.hid (R0.out.later hb))); have HB := Lib.hid (below_then HB.out hb HB.out.size); clear hb)
                  | fail)
                go_ret
                exact ⟨rfl, HB.out⟩
              · have e4' : ¬ n < 1 := e4
                by_cases e5 : 1099511627776 < n
                · go_enter Try.func6, Try.ntmps6
                  go_wp2_with (first
                    | (go_at_call 10; (with_reducible refine (lives_any _).mono ?_); rintro e1 wk ⟨rfl, hb⟩; (try (have R0 := Lib.hid (R0.out.later hb))); have HB := Lib.hid (below_then HB.out hb HB.out.size); clear hb)
                    | (go_at_call 12; (with_reducible refine (good_y R0.out g1.out).mono ?_); rintro e1 wk ⟨rfl, hb⟩; (try (have R0 := Lib.hid (R0.out.later hb))); have HB := Lib.hid (below_then HB.out hb HB.out.size); clear hb)
                    | fail)
                  go_ret
                  exact ⟨rfl, HB.out⟩
                · have e5' : ¬ 1099511627776 < n := e5
                  obtain ⟨m1, m2, m3, m4, m5, m6, m7, m8, m9⟩ := finds_math g1.out (x := x) (n := n) (y := y) ((tick_iff x).2 ⟨by omega, by omega⟩) ((tick_iff n).2 ⟨by omega, by omega⟩) (by omega) ((tick_iff y).2 ⟨by omega, by omega⟩) (by omega)
                  clear e0' e1' e2' e3' e4' e5'
                  obtain ⟨a, ha⟩ : ∃ a, a = nx Z0 x := ⟨_, rfl⟩
                  obtain ⟨b, hb⟩ : ∃ b, b = gp Z0 x 1 := ⟨_, rfl⟩
                  obtain ⟨c, hc⟩ : ∃ c, c = gp Z0 x n := ⟨_, rfl⟩
                  have ea := Lib.hid ha.symm
                  have eb := Lib.hid hb.symm
                  have ec := Lib.hid hc.symm
                  rw [← ha] at m1 m5 m7
                  rw [← hb] at m2 m3 m6 m7
                  rw [← hc] at m3 m4 m8 m9
                  clear ha hb hc
                  have HH : Hid (∀ k, k < Z0.length → ¬ ((Z0.getD k (0, 0)).1 < c + n ∧ c < (Z0.getD k (0, 0)).2)) := Lib.hid fun k hk => m8 _ (by simp [List.getD_eq_getElem?_getD, List.getElem?_eq_getElem hk])
                  have HO : Hid (false = true ∨ c ≤ y ∨ ∃ w ∈ Z0.drop 0, w.1 < y + n ∧ y < w.2) := Lib.hid (.inr m9)
                  clear m8 m9
                  rcases m5 with ⟨pa, qa⟩ | pa <;> rcases m6 with ⟨pb, qb⟩ | pb <;> rcases m7 with ⟨qy, py⟩ | ⟨qy, py⟩
                  all_goals
                    first
                    | (exfalso; omega)
                    | skip
                  all_goals
                    try (have qa := Lib.hid qa)
                    try (have qb := Lib.hid qb)
                    have qy := Lib.hid qy
                    go_enter Try.func6, Try.ntmps6
                    go_wp2_with (first
                      | (go_at_call 10; (with_reducible refine (lives_any _).mono ?_); rintro e1 wk ⟨rfl, hb⟩; (try (have R0 := Lib.hid (R0.out.later hb))); have HB := Lib.hid (below_then HB.out hb HB.out.size); clear hb)
                      | (go_at_call 12; (with_reducible refine (good_y R0.out g1.out).mono ?_); rintro e1 wk ⟨rfl, hb⟩; (try (have R0 := Lib.hid (R0.out.later hb))); have HB := Lib.hid (below_then HB.out hb HB.out.size); clear hb)
                      | (go_at_call 15; (with_reducible refine (next_v R0.out ea.out).mono ?_); rintro e1 wk ⟨rfl, hb⟩; (try (have R0 := Lib.hid (R0.out.later hb))); have HB := Lib.hid (below_then HB.out hb HB.out.size); clear hb)
                      | (go_at_call 27; (with_reducible refine (free_v R0.out eb.out).mono ?_); rintro e1 wk ⟨rfl, hb⟩; (try (have R0 := Lib.hid (R0.out.later hb))); have HB := Lib.hid (below_then HB.out hb HB.out.size); clear hb)
                      | (go_at_call 16; (with_reducible refine (gap_v R0.out ec.out).mono ?_); rintro e1 wk ⟨rfl, hb⟩; (try (have R0 := Lib.hid (R0.out.later hb))); have HB := Lib.hid (below_then HB.out hb HB.out.size); clear hb)
                      | (go_at_call 16; (with_reducible refine (gap_v R0.out eb.out).mono ?_); rintro e1 wk ⟨rfl, hb⟩; (try (have R0 := Lib.hid (R0.out.later hb))); have HB := Lib.hid (below_then HB.out hb HB.out.size); clear hb)
                      | (go_at_call 14; (with_reducible refine (has_v R0.out qa.out).mono ?_); rintro e1 wk ⟨rfl, hb⟩; (try (have R0 := Lib.hid (R0.out.later hb))); have HB := Lib.hid (below_then HB.out hb HB.out.size); clear hb)
                      | (go_at_call 14; (with_reducible refine (has_v R0.out qb.out).mono ?_); rintro e1 wk ⟨rfl, hb⟩; (try (have R0 := Lib.hid (R0.out.later hb))); have HB := Lib.hid (below_then HB.out hb HB.out.size); clear hb)
                      | (go_at_call 14; (with_reducible refine (has_v R0.out qy.out).mono ?_); rintro e1 wk ⟨rfl, hb⟩; (try (have R0 := Lib.hid (R0.out.later hb))); have HB := Lib.hid (below_then HB.out hb HB.out.size); clear hb)
                      | fail)
                    go_loopw [12, 13, 14] (fun v12 v13 v14 wr => ∃ (k : Nat) (ow : Bool), v12 = .bool false ∧ v13 = .bool ow ∧ v14 = .int .i64 k ∧ k ≤ l0 ∧ Hid (ow = true ∨ c ≤ y ∨ ∃ w ∈ Z0.drop k, w.1 < y + n ∧ y < w.2) ∧ Hid (RowAt wr A0 l0 c0 Z0) ∧ Hid (Below w.heap.size w wr)) (fun _ _ v _ => l0 - (intOf v).toNat)
                    case atStart => exact ⟨0, false, rfl, rfl, rfl, by omega, HO, R0, HB⟩
                    case round =>
                      clear R0 HB HO
                      obtain ⟨k, ow, rfl, rfl, rfl, hk, HO, R0, HB⟩ := hrel
                      by_cases hlt : k < l0
                      · have hi : (k : Int) < (l0 : Int) := by omega
                        have hkl : k < Z0.length := by rw [← hl0.out]; exact hlt
                        obtain ⟨ad, rfl, _, a0, a1⟩ := R0.out.cells hlt
                        have hh := HH.out k hkl
                        have HO2 : Hid (ow = true ∨ c ≤ y ∨ ((Z0.getD k (0, 0)).1 < y + n ∧ y < (Z0.getD k (0, 0)).2) ∨ ∃ w ∈ Z0.drop (k + 1), w.1 < y + n ∧ y < w.2) := Lib.hid (by
                          have := HO.out; rwa [drop_mem hkl (fun w => w.1 < y + n ∧ y < w.2)] at this)
                        obtain ⟨p, hp⟩ : ∃ p, p = Z0.getD k (0, 0) := ⟨_, rfl⟩
                        rw [← hp] at a0 a1 hh HO2
                        obtain ⟨p1, p2⟩ := p
                        dsimp only at a0 a1 hh HO2
                        clear HO hp hkl
                        have d0 : decide (p1 < c + n) = true ∧ decide (c < p2) = false ∨ decide (p1 < c + n) = false := by
                          by_cases hc1 : p1 < c + n
                          · exact .inl ⟨decide_eq_true hc1, decide_eq_false (fun h => hh ⟨hc1, h⟩)⟩
                          · exact .inr (decide_eq_false hc1)
                        clear hh
                        cases ow with
                        | true =>
                          have HO3 : Hid (true = true ∨ c ≤ y ∨ ∃ w ∈ Z0.drop (k + 1), w.1 < y + n ∧ y < w.2) := Lib.hid (.inl rfl)
                          clear HO2
                          rcases d0 with ⟨d1, d2⟩ | d1
                          all_goals
                            go_wp2
                            go_roundw
                            case rel => exact ⟨k + 1, true, rfl, rfl, by go_num, by omega, HO3, R0, HB⟩
                            case measure => simp [intOf]; omega
                        | false =>
                          by_cases hy1 : p1 < y + n
                          · have f1 : decide (p1 < y + n) = true := decide_eq_true hy1
                            by_cases hy2 : y < p2
                            · have f2 : decide (y < p2) = true := decide_eq_true hy2
                              have HO3 : Hid (true = true ∨ c ≤ y ∨ ∃ w ∈ Z0.drop (k + 1), w.1 < y + n ∧ y < w.2) := Lib.hid (.inl rfl)
                              clear HO2 hy1 hy2
                              rcases d0 with ⟨d1, d2⟩ | d1
                              all_goals
                                go_wp2
                                go_roundw
                                case rel => exact ⟨k + 1, true, rfl, rfl, by go_num, by omega, HO3, R0, HB⟩
                                case measure => simp [intOf]; omega
                            · have f2 : decide (y < p2) = false := decide_eq_false hy2
                              have HO3 : Hid (false = true ∨ c ≤ y ∨ ∃ w ∈ Z0.drop (k + 1), w.1 < y + n ∧ y < w.2) := Lib.hid (by
                                rcases HO2.out with h | h | h | h
                                · exact .inl h
                                · exact .inr (.inl h)
                                · exact (hy2 h.2).elim
                                · exact .inr (.inr h))
                              clear HO2 hy1 hy2
                              rcases d0 with ⟨d1, d2⟩ | d1
                              all_goals
                                go_wp2
                                go_roundw
                                case rel => exact ⟨k + 1, false, rfl, rfl, by go_num, by omega, HO3, R0, HB⟩
                                case measure => simp [intOf]; omega
                          · have f1 : decide (p1 < y + n) = false := decide_eq_false hy1
                            have HO3 : Hid (false = true ∨ c ≤ y ∨ ∃ w ∈ Z0.drop (k + 1), w.1 < y + n ∧ y < w.2) := Lib.hid (by
                              rcases HO2.out with h | h | h | h
                              · exact .inl h
                              · exact .inr (.inl h)
                              · exact (hy1 h.1).elim
                              · exact .inr (.inr h))
                            clear HO2 hy1
                            rcases d0 with ⟨d1, d2⟩ | d1
                            all_goals
                              go_wp2
                              go_roundw
                              case rel => exact ⟨k + 1, false, rfl, rfl, by go_num, by omega, HO3, R0, HB⟩
                              case measure => simp [intOf]; omega
                      · obtain rfl : k = l0 := by omega
                        have hnil : Z0.drop k = [] := List.drop_eq_nil_of_le (by rw [← hl0.out]; exact Nat.le_refl _)
                        have hfin : ow = true ∨ c ≤ y := by
                          have := HO.out
                          rw [hnil] at this
                          rcases this with h | h | ⟨w, hw, _⟩
                          · exact .inl h
                          · exact .inr h
                          · cases hw
                        clear HO hnil
                        by_cases hcy : c ≤ y
                        · have d1 : decide (c ≤ y) = true := decide_eq_true hcy
                          clear hfin
                          go_wp2
                          go_ret
                          exact ⟨rfl, HB.out⟩
                        · have d1 : decide (c ≤ y) = false := decide_eq_false hcy
                          have how : ow = true := hfin.elim id (fun h => (hcy h).elim)
                          subst how
                          go_wp2
                          go_ret
                          exact ⟨rfl, HB.out⟩
end Go.Proofs.Ytejmfhmglbggnaa.Wn
