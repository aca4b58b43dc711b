/- The law WindowMoves at every world: moved by so many ticks windows are moved; so are what they tell. Conditions: numbers are int64. -/
import Derived.RangeFuncBox
import Derived.RangeFuncLeaves
import Derived.Shelf.Abstract
import Derived.OwnWalkIn
import Derived.TacticsInMore
import Derived.LoopNIn
import Derived.LoopIn
import Derived.BigRegionIn
import Derived.RangeFuncNested
import Derived.RangeFuncCalls
import Derived.Shelf.RegionOpen
import Derived.Sort.QuietIn
import Derived.StillTail
import Derived.StillTactics
import Derived.Maps.AppendAt
import Derived.Lib.SliceRun
import Derived.RangeFuncNested
import Derived.Test.YtejmfhmglbggnaaWinRows
import Derived.IntWalk
import Derived.ChangeSlices
import Derived.Deep.SlicePairs
import Derived.Deep.Strs
import Derived.ChangeArms
import Derived.Carry
import Derived.OpenShut
import Derived.Lib.QuietBelow
import Derived.Deep.QuietTactic
import Derived.Test.YtejmfhmglbggnaaWinLex
import Derived.Test.YtejmfhmglbggnaaWinMoved
namespace Go.Proofs.Ytejmfhmglbggnaa.Wn
open Go.ChangeShapes Go.WideShapes Go.ChangeAt Go.RowKit Go.Deep Go.Sort
set_option linter.unusedVariables false
set_option linter.unusedSimpArgs false
attribute [local go_sem] Oper.semAt_some

theorem tcells {W : World} {g : Nat} {t : TypeId} {a b c : Value} (h : Blk W g t [a, b, c]) : W.cell? ⟨g, 0, none⟩ = some a ∧ W.cell? ⟨g, 1, none⟩ = some b ∧ W.cell? ⟨g, 2, none⟩ = some c := ⟨h.cell 0, h.cell 1, h.cell 2⟩
theorem wn_bad {t : Tm} {h : Int} (hw : ¬ we t h = 0) : wn t h = [] := by unfold wn; rw [if_neg hw]
/-- a row in blocks of its own, behind B -/
structure RowNew (W : World) (B : Nat) (A : Option Addr) (n c : Nat) (zs : List Win) : Prop where
  len : Hid (n = zs.length)
  cap : n ≤ c
  small : n ≤ 1000000
  rd : Rd W (fun b => B < b ∧ b < W.heap.size) A (kc zs)
theorem RowNew.stored {W : World} {B : Nat} {A : Option Addr} {n c : Nat} {zs : List Win} (h : RowNew W B A n c zs) (u : Value) : RowAt (W.setCell ⟨B, 0, none⟩ u) A n c zs :=
  ⟨h.len, h.cap, h.small, (h.rd.keep (fun b hb => Below.heap_setCell W ⟨B, 0, none⟩ u b (by show b ≠ B; omega))).more fun b hb => by have := hb.2; simpa [World.setCell] using this⟩
theorem wins_n {t : Tm} {h x : Int} {zs : List Win} (hz : wn t h = zs) (hx : we t h = x) (B : Nat) (W : World) (hB : B < W.heap.size) : Calls Try.prog 9 #[.agg #[.int .i64 t.f, .int .i64 t.e, .int .i64 t.l], .int .i64 h] W fun e w' => ∃ A n c, e = .returned (.tuple #[.slice A n c, .int .i64 x]) ∧ RowNew w' B A n c zs ∧ Below W.heap.size W w' :=
  (wins_any t h W).mono fun e w' hh => by
    obtain ⟨A, n, c, rfl, h1, h2, h3, h4⟩ := hh
    have hl := wn_length t h
    subst hx
    rw [hz] at h1 h3 hl
    exact ⟨A, n, c, rfl, ⟨h1, h2, by rw [h1.out]; omega, h3.more fun b hb => ⟨by omega, hb.2⟩⟩, h4⟩

set_option maxRecDepth 100000 in
set_option maxHeartbeats 40000000 in
theorem moves_all (w : World) (T0 : Tm) (h d x n : Int) (bf : -9223372036854775808 ≤ T0.f ∧ T0.f ≤ 9223372036854775807) (bh' : -9223372036854775808 ≤ h ∧ h ≤ 9223372036854775807) :
    Calls Try.prog 8 #[tv T0, .int .i64 h, .int .i64 d, .int .i64 x, .int .i64 n] w fun e w' => e = .returned (.bool true) ∧ Below w.heap.size w w' := by
  have BS := Lib.hid (Blk.new w 27 [.int .i64 T0.f, .int .i64 T0.e, .int .i64 T0.l])
  have HB := Lib.hid ((Below.refl w.heap.size w).alloc (Nat.le_refl _) (.cells #[.int .i64 T0.f, .int .i64 T0.e, .int .i64 T0.l] 27))
  show Calls Try.prog 8 #[.agg #[.int .i64 T0.f, .int .i64 T0.e, .int .i64 T0.l], .int .i64 h, .int .i64 d, .int .i64 x, .int .i64 n] w _
  have D0 : Hid (∀ W : World, w.heap.size < W.heap.size → _) := Lib.hid fun W hW => wins_n (t := T0) (h := h) rfl rfl w.heap.size W hW
  have D1 : Hid (∀ W : World, _) := Lib.hid fun W => wins_v (t := ⟨T0.f + d, T0.e, T0.l⟩) (h := h + d) rfl rfl W
  dsimp only at D1
  obtain ⟨f, s, l⟩ := T0
  dsimp only at BS HB D0 D1 bf
  by_cases e0 : d < 0
  · clear D0 D1
    go_enter Try.func8, Try.ntmps8
    go_wp2_with (first
      | (go_at_call 10; (with_reducible refine (lives_any _).mono ?_); rintro e1 wk ⟨rfl, hb⟩; (try (have X1 := Lib.hid (X1.out.later hb))); (try (have X2 := Lib.hid (X2.out.later hb))); (try (have BS := Lib.hid (BS.out.after hb))); have HB := Lib.hid (below_then HB.out hb HB.out.size); clear hb; obtain ⟨s0, s1, s2⟩ := tcells BS.out; have hsz := BS.out.lt; have fz := BS.out.frozen 0)
      | fail)
    go_ret
    exact ⟨rfl, HB.out⟩
  · have e0' : ¬ d < 0 := e0
    by_cases e1 : 549755813888 < d
    · clear D0 D1
      go_enter Try.func8, Try.ntmps8
      go_wp2_with (first
        | (go_at_call 10; (with_reducible refine (lives_any _).mono ?_); rintro e1 wk ⟨rfl, hb⟩; (try (have X1 := Lib.hid (X1.out.later hb))); (try (have X2 := Lib.hid (X2.out.later hb))); (try (have BS := Lib.hid (BS.out.after hb))); have HB := Lib.hid (below_then HB.out hb HB.out.size); clear hb; obtain ⟨s0, s1, s2⟩ := tcells BS.out; have hsz := BS.out.lt; have fz := BS.out.frozen 0)
        | fail)
      go_ret
      exact ⟨rfl, HB.out⟩
    · have e1' : ¬ 549755813888 < d := e1
      by_cases e2 : x < 0
      · clear D0 D1
        go_enter Try.func8, Try.ntmps8
        go_wp2_with (first
          | (go_at_call 10; (with_reducible refine (lives_any _).mono ?_); rintro e1 wk ⟨rfl, hb⟩; (try (have X1 := Lib.hid (X1.out.later hb))); (try (have X2 := Lib.hid (X2.out.later hb))); (try (have BS := Lib.hid (BS.out.after hb))); have HB := Lib.hid (below_then HB.out hb HB.out.size); clear hb; obtain ⟨s0, s1, s2⟩ := tcells BS.out; have hsz := BS.out.lt; have fz := BS.out.frozen 0)
          | fail)
        go_ret
        exact ⟨rfl, HB.out⟩
      · have e2' : ¬ x < 0 := e2
        by_cases e3 : 549755813888 < x
        · clear D0 D1
          go_enter Try.func8, Try.ntmps8
          go_wp2_with (first
            | (go_at_call 10; (with_reducible refine (lives_any _).mono ?_); rintro e1 wk ⟨rfl, hb⟩; (try (have X1 := Lib.hid (X1.out.later hb))); (try (have X2 := Lib.hid (X2.out.later hb))); (try (have BS := Lib.hid (BS.out.after hb))); have HB := Lib.hid (below_then HB.out hb HB.out.size); clear hb; obtain ⟨s0, s1, s2⟩ := tcells BS.out; have hsz := BS.out.lt; have fz := BS.out.frozen 0)
            | fail)
          go_ret
          exact ⟨rfl, HB.out⟩
        · have e3' : ¬ 549755813888 < x := e3
          by_cases e4 : 549755813888 < f
          · clear D0 D1
            go_enter Try.func8, Try.ntmps8
            go_wp2_with (first
              | (go_at_call 10; (with_reducible refine (lives_any _).mono ?_); rintro e1 wk ⟨rfl, hb⟩; (try (have X1 := Lib.hid (X1.out.later hb))); (try (have X2 := Lib.hid (X2.out.later hb))); (try (have BS := Lib.hid (BS.out.after hb))); have HB := Lib.hid (below_then HB.out hb HB.out.size); clear hb; obtain ⟨s0, s1, s2⟩ := tcells BS.out; have hsz := BS.out.lt; have fz := BS.out.frozen 0)
              | fail)
            go_ret
            exact ⟨rfl, HB.out⟩
          · have e4' : ¬ 549755813888 < f := e4
            by_cases e5 : 549755813888 < h
            · clear D0 D1
              go_enter Try.func8, Try.ntmps8
              go_wp2_with (first
                | (go_at_call 10; (with_reducible refine (lives_any _).mono ?_); rintro e1 wk ⟨rfl, hb⟩; (try (have X1 := Lib.hid (X1.out.later hb))); (try (have X2 := Lib.hid (X2.out.later hb))); (try (have BS := Lib.hid (BS.out.after hb))); have HB := Lib.hid (below_then HB.out hb HB.out.size); clear hb; obtain ⟨s0, s1, s2⟩ := tcells BS.out; have hsz := BS.out.lt; have fz := BS.out.frozen 0)
                | fail)
              go_ret
              exact ⟨rfl, HB.out⟩
            · have e5' : ¬ 549755813888 < h := e5
              by_cases e6 : n < 0
              · clear D0 D1
                go_enter Try.func8, Try.ntmps8
                go_wp2_with (first
                  | (go_at_call 10; (with_reducible refine (lives_any _).mono ?_); rintro e1 wk ⟨rfl, hb⟩; (try (have X1 := Lib.hid (X1.out.later hb))); (try (have X2 := Lib.hid (X2.out.later hb))); (try (have BS := Lib.hid (BS.out.after hb))); have HB := Lib.hid (below_then HB.out hb HB.out.size); clear hb; obtain ⟨s0, s1, s2⟩ := tcells BS.out; have hsz := BS.out.lt; have fz := BS.out.frozen 0)
                  | fail)
                go_ret
                exact ⟨rfl, HB.out⟩
              · have e6' : ¬ n < 0 := e6
                by_cases e7 : 549755813888 < n
                · clear D0 D1
                  go_enter Try.func8, Try.ntmps8
                  go_wp2_with (first
                    | (go_at_call 10; (with_reducible refine (lives_any _).mono ?_); rintro e1 wk ⟨rfl, hb⟩; (try (have X1 := Lib.hid (X1.out.later hb))); (try (have X2 := Lib.hid (X2.out.later hb))); (try (have BS := Lib.hid (BS.out.after hb))); have HB := Lib.hid (below_then HB.out hb HB.out.size); clear hb; obtain ⟨s0, s1, s2⟩ := tcells BS.out; have hsz := BS.out.lt; have fz := BS.out.frozen 0)
                    | fail)
                  go_ret
                  exact ⟨rfl, HB.out⟩
                · have e7' : ¬ 549755813888 < n := e7
                  have HE := Lib.hid (fun f0 h0 => moves_err (t := ⟨f, s, l⟩) (h := h) (d := d) (by omega) (by omega) (by show f ≤ _; omega) (by omega) f0 h0)
                  have HRW := Lib.hid (moves_row (t := ⟨f, s, l⟩) (h := h) (d := d))
                  have ga := wn_good' ⟨f, s, l⟩ h
                  have gb := wn_good' ⟨f + d, s, l⟩ (h + d)
                  have na := Lib.hid (wn_bad (t := ⟨f, s, l⟩) (h := h))
                  have nb := Lib.hid (wn_bad (t := ⟨f + d, s, l⟩) (h := h + d))
                  dsimp only at HE HRW
                  obtain ⟨z0, hz0⟩ : ∃ z, z = we ⟨f, s, l⟩ h := ⟨_, rfl⟩
                  obtain ⟨z1, hz1⟩ : ∃ z, z = we ⟨f + d, s, l⟩ (h + d) := ⟨_, rfl⟩
                  obtain ⟨ZA, hza⟩ : ∃ z, z = wn ⟨f, s, l⟩ h := ⟨_, rfl⟩
                  obtain ⟨ZB, hzb⟩ : ∃ z, z = wn ⟨f + d, s, l⟩ (h + d) := ⟨_, rfl⟩
                  rw [← hz0, ← hz1] at HE HRW
                  rw [← hza, ← hzb] at HRW
                  rw [← hza] at ga
                  rw [← hzb] at gb
                  rw [← hz0, ← hza] at na D0
                  rw [← hz1, ← hzb] at nb D1
                  clear hz0 hz1 hza hzb
                  by_cases q : z0 = z1
                  · by_cases q0 : z0 = 0
                    · subst q0
                      subst q
                      have hrow := HRW.out rfl rfl
                      obtain ⟨m1, m2, m3, m4, m5⟩ := moves_math hrow ga gb (d := d) (x := x) (n := n) (by omega) (by omega) (by omega) (by omega) (by omega) (by omega)
                      have hlen : ZB.length = ZA.length := by rw [hrow, mv_length]
                      have hsum : sm ZB = sm ZA := by rw [hrow, mv_sm]
                      obtain ⟨sv, hsv⟩ : ∃ z, z = sm ZA := ⟨_, rfl⟩
                      have SA : Hid (smV ZA = sv) := Lib.hid (by rw [hsv]; simp [smV, ga])
                      have SB : Hid (smV ZB = sv) := Lib.hid (by rw [hsv, ← hsum]; simp [smV, gb])
                      have hlen := Lib.hid hlen
                      have HCL : Hid (∀ k, k < ZA.length → ZB.getD k (0, 0) = ((ZA.getD k (0, 0)).1 + d, (ZA.getD k (0, 0)).2 + d)) := Lib.hid fun k hk => by rw [hrow]; exact mv_getD hk
                      have HAL : Hid (∀ k, k < ZA.length → 0 ≤ (ZA.getD k (0, 0)).1 ∧ (ZA.getD k (0, 0)).1 < (ZA.getD k (0, 0)).2 ∧ (ZA.getD k (0, 0)).2 ≤ 2199023255552) := Lib.hid fun k hk => by
                        have := (good_gd ga).all (ZA.getD k (0, 0)) (by simp [List.getD_eq_getElem?_getD, List.getElem?_eq_getElem hk]); omega
                      obtain ⟨v, hv⟩ : ∃ v, hs ZA x = v := ⟨_, rfl⟩
                      have V2 := Lib.hid (m2.trans hv)
                      have V1 := Lib.hid hv
                      obtain ⟨g, hg⟩ : ∃ g, gp ZA x n = g := ⟨_, rfl⟩
                      rw [hg] at m3 m4 m5
                      have G1 := Lib.hid hg
                      have G2 := Lib.hid m3
                      obtain ⟨pn, hpn⟩ : ∃ p, nx ZA x = p := ⟨_, rfl⟩
                      obtain ⟨qn, hqn⟩ : ∃ p, nx ZB (x + d) = p := ⟨_, rfl⟩
                      rw [hpn, hqn] at m1
                      have P1 := Lib.hid hpn
                      have P2 := Lib.hid hqn
                      have hvv : (v != v) = false := by simp
                      clear HE HRW na nb ga gb hrow m2 m3 hsum hsv hv hg hpn hqn
                      go_enter Try.func8, Try.ntmps8
                      go_wp2_with (first
                        | (go_at_call 10; (with_reducible refine (lives_any _).mono ?_); rintro e1 wk ⟨rfl, hb⟩; (try (have X1 := Lib.hid (X1.out.later hb))); (try (have X2 := Lib.hid (X2.out.later hb))); (try (have BS := Lib.hid (BS.out.after hb))); have HB := Lib.hid (below_then HB.out hb HB.out.size); clear hb; obtain ⟨s0, s1, s2⟩ := tcells BS.out; have hsz := BS.out.lt; have fz := BS.out.frozen 0)
                        | (go_at_call 9; (with_reducible refine (D0.out _ hsz).mono ?_); rintro e1 wk ⟨a1, k1, d1, rfl, rr, hb⟩; have BS := Lib.hid (BS.out.after hb); have HB := Lib.hid (below_then HB.out hb HB.out.size); have N1 := Lib.hid rr; clear rr hb; obtain ⟨s0, s1, s2⟩ := tcells BS.out; have fz := BS.out.frozen 0; have X1 := Lib.hid (N1.out.stored (.int .i64 (f + d))); have BS := Lib.hid (BS.out.set_ 0 (.int .i64 (f + d))); have HB := Lib.hid (HB.out.setCell (p := ⟨w.heap.size, 0, none⟩) (Nat.le_refl _) (.int .i64 (f + d))); obtain ⟨r0, r1, r2⟩ := tcells BS.out; clear N1)
                        | (go_at_call 9; (with_reducible refine (D1.out _).mono ?_); rintro e1 wk ⟨a2, k2, d2, rfl, rr, hb⟩; have X1 := Lib.hid (X1.out.later hb); have BS := Lib.hid (BS.out.after hb); have HB := Lib.hid (below_then HB.out hb HB.out.size); have X2 := Lib.hid rr; clear rr hb; obtain ⟨r0, r1, r2⟩ := tcells BS.out; obtain rfl : k1 = k2 := by rw [X2.out.len.out, X1.out.len.out]; exact hlen.out.symm)
                        | (go_at_call 13; (with_reducible refine (sum_v X1.out SA.out).mono ?_); rintro e1 wk ⟨rfl, hb⟩; (try (have X1 := Lib.hid (X1.out.later hb))); (try (have X2 := Lib.hid (X2.out.later hb))); (try (have BS := Lib.hid (BS.out.after hb))); have HB := Lib.hid (below_then HB.out hb HB.out.size); clear hb)
                        | (go_at_call 13; (with_reducible refine (sum_v X2.out SB.out).mono ?_); rintro e1 wk ⟨rfl, hb⟩; (try (have X1 := Lib.hid (X1.out.later hb))); (try (have X2 := Lib.hid (X2.out.later hb))); (try (have BS := Lib.hid (BS.out.after hb))); have HB := Lib.hid (below_then HB.out hb HB.out.size); clear hb)
                        | (go_at_call 14; (with_reducible refine (has_v X1.out V1.out).mono ?_); rintro e1 wk ⟨rfl, hb⟩; (try (have X1 := Lib.hid (X1.out.later hb))); (try (have X2 := Lib.hid (X2.out.later hb))); (try (have BS := Lib.hid (BS.out.after hb))); have HB := Lib.hid (below_then HB.out hb HB.out.size); clear hb)
                        | (go_at_call 14; (with_reducible refine (has_v X2.out V2.out).mono ?_); rintro e1 wk ⟨rfl, hb⟩; (try (have X1 := Lib.hid (X1.out.later hb))); (try (have X2 := Lib.hid (X2.out.later hb))); (try (have BS := Lib.hid (BS.out.after hb))); have HB := Lib.hid (below_then HB.out hb HB.out.size); clear hb)
                        | fail)
                      clear SA SB V1 V2 D0 D1 BS
                      go_loopw [15] (fun v15 wr => ∃ k : Nat, v15 = .int .i64 k ∧ k ≤ k1 ∧ Hid (RowAt wr a1 k1 d1 ZA) ∧ Hid (RowAt wr a2 k1 d2 ZB) ∧ Hid (Below w.heap.size w wr)) (fun v _ => k1 - (intOf v).toNat)
                      case atStart => exact ⟨0, rfl, by omega, X1, X2, HB⟩
                      case round =>
                        clear X1 X2 HB
                        obtain ⟨k, rfl, hk, X1, X2, HB⟩ := hrel
                        by_cases hlt : k < k1
                        · have hi : (k : Int) < (k1 : Int) := by omega
                          have hkl : k < ZA.length := by rw [← X1.out.len.out]; exact hlt
                          have hks := X1.out.small
                          obtain ⟨ad, rfl, _, y0, y1⟩ := X1.out.cells hlt
                          obtain ⟨bd, rfl, _, z0, z1⟩ := X2.out.cells hlt
                          have hb := HAL.out k hkl
                          rw [HCL.out k hkl] at z0 z1
                          obtain ⟨p, hp⟩ : ∃ p, p = ZA.getD k (0, 0) := ⟨_, rfl⟩
                          rw [← hp] at y0 y1 z0 z1 hb
                          obtain ⟨p1, p2⟩ := p
                          dsimp only at y0 y1 z0 z1 hb
                          clear hp hkl
                          go_wp2
                          go_quiet (fail)
                          go_wp2
                          go_roundw
                          case rel => exact ⟨k + 1, by go_num, by omega, Lib.hid (X1.out.drewN _), Lib.hid (X2.out.drewN _), Lib.hid (below_drewN HB.out _)⟩
                          case measure => simp [intOf]; omega
                        · have hgd : (g + d == g + d) = true := by simp
                          rcases m1 with ⟨i1, i2⟩ | ⟨i1, i2, i3⟩
                          · subst i1
                            subst i2
                            clear HCL HAL hlen
                            go_wp2_with (first
                              | (go_at_call 15; (with_reducible refine (next_v X1.out P1.out).mono ?_); rintro e1 wk ⟨rfl, hb⟩; have X1 := Lib.hid (X1.out.later hb); have X2 := Lib.hid (X2.out.later hb); have HB := Lib.hid (below_then HB.out hb HB.out.size); clear hb)
                              | (go_at_call 15; (with_reducible refine (next_v X2.out P2.out).mono ?_); rintro e1 wk ⟨rfl, hb⟩; have X1 := Lib.hid (X1.out.later hb); have X2 := Lib.hid (X2.out.later hb); have HB := Lib.hid (below_then HB.out hb HB.out.size); clear hb)
                              | (go_at_call 16; (with_reducible refine (gap_v X1.out G1.out).mono ?_); rintro e1 wk ⟨rfl, hb⟩; have X1 := Lib.hid (X1.out.later hb); have X2 := Lib.hid (X2.out.later hb); have HB := Lib.hid (below_then HB.out hb HB.out.size); clear hb)
                              | (go_at_call 16; (with_reducible refine (gap_v X2.out G2.out).mono ?_); rintro e1 wk ⟨rfl, hb⟩; have X1 := Lib.hid (X1.out.later hb); have X2 := Lib.hid (X2.out.later hb); have HB := Lib.hid (below_then HB.out hb HB.out.size); clear hb)
                              | fail)
                            go_ret
                            exact ⟨rfl, HB.out⟩
                          · subst i3
                            have j1 : (pn == 4611686018427387904) = false := by simp; omega
                            have j2 : (pn + d == 4611686018427387904) = false := by simp; omega
                            have j3 : (pn + d == pn + d) = true := by simp
                            clear HCL HAL hlen
                            go_wp2_with (first
                              | (go_at_call 15; (with_reducible refine (next_v X1.out P1.out).mono ?_); rintro e1 wk ⟨rfl, hb⟩; have X1 := Lib.hid (X1.out.later hb); have X2 := Lib.hid (X2.out.later hb); have HB := Lib.hid (below_then HB.out hb HB.out.size); clear hb)
                              | (go_at_call 15; (with_reducible refine (next_v X2.out P2.out).mono ?_); rintro e1 wk ⟨rfl, hb⟩; have X1 := Lib.hid (X1.out.later hb); have X2 := Lib.hid (X2.out.later hb); have HB := Lib.hid (below_then HB.out hb HB.out.size); clear hb)
                              | (go_at_call 16; (with_reducible refine (gap_v X1.out G1.out).mono ?_); rintro e1 wk ⟨rfl, hb⟩; have X1 := Lib.hid (X1.out.later hb); have X2 := Lib.hid (X2.out.later hb); have HB := Lib.hid (below_then HB.out hb HB.out.size); clear hb)
                              | (go_at_call 16; (with_reducible refine (gap_v X2.out G2.out).mono ?_); rintro e1 wk ⟨rfl, hb⟩; have X1 := Lib.hid (X1.out.later hb); have X2 := Lib.hid (X2.out.later hb); have HB := Lib.hid (below_then HB.out hb HB.out.size); clear hb)
                              | fail)
                            go_ret
                            exact ⟨rfl, HB.out⟩
                    · have q0' : (z0 == 0) = false := by simpa using q0
                      subst q
                      have hna := na.out q0
                      have hnb := nb.out q0
                      subst hna
                      subst hnb
                      clear HE HRW na nb ga gb
                      go_enter Try.func8, Try.ntmps8
                      go_wp2_with (first
                        | (go_at_call 10; (with_reducible refine (lives_any _).mono ?_); rintro e1 wk ⟨rfl, hb⟩; (try (have X1 := Lib.hid (X1.out.later hb))); (try (have X2 := Lib.hid (X2.out.later hb))); (try (have BS := Lib.hid (BS.out.after hb))); have HB := Lib.hid (below_then HB.out hb HB.out.size); clear hb; obtain ⟨s0, s1, s2⟩ := tcells BS.out; have hsz := BS.out.lt; have fz := BS.out.frozen 0)
                        | (go_at_call 9; (with_reducible refine (D0.out _ hsz).mono ?_); rintro e1 wk ⟨a1, k1, d1, rfl, rr, hb⟩; have BS := Lib.hid (BS.out.after hb); have HB := Lib.hid (below_then HB.out hb HB.out.size); have N1 := Lib.hid rr; clear rr hb; obtain ⟨s0, s1, s2⟩ := tcells BS.out; have fz := BS.out.frozen 0; have X1 := Lib.hid (N1.out.stored (.int .i64 (f + d))); have BS := Lib.hid (BS.out.set_ 0 (.int .i64 (f + d))); have HB := Lib.hid (HB.out.setCell (p := ⟨w.heap.size, 0, none⟩) (Nat.le_refl _) (.int .i64 (f + d))); obtain ⟨r0, r1, r2⟩ := tcells BS.out; clear N1)
                        | (go_at_call 9; (with_reducible refine (D1.out _).mono ?_); rintro e1 wk ⟨a2, k2, d2, rfl, rr, hb⟩; have X1 := Lib.hid (X1.out.later hb); have BS := Lib.hid (BS.out.after hb); have HB := Lib.hid (below_then HB.out hb HB.out.size); have X2 := Lib.hid rr; clear rr hb; obtain ⟨r0, r1, r2⟩ := tcells BS.out; obtain rfl : k1 = 0 := X1.out.zero; obtain rfl : k2 = 0 := X2.out.zero)
                        | fail)
                      go_ret
                      exact ⟨rfl, HB.out⟩
                  · have q' : (z0 == z1) = false := by simpa using q
                    have hfh : f < 0 ∨ h < 0 := by
                      by_cases f0 : 0 ≤ f
                      · by_cases h0 : 0 ≤ h
                        · exact (q (HE.out f0 h0).symm).elim
                        · exact .inr (by omega)
                      · exact .inl (by omega)
                    clear HE HRW na nb ga gb
                    by_cases h0 : h < 0
                    · clear hfh
                      go_enter Try.func8, Try.ntmps8
                      go_wp2_with (first
                        | (go_at_call 10; (with_reducible refine (lives_any _).mono ?_); rintro e1 wk ⟨rfl, hb⟩; (try (have X1 := Lib.hid (X1.out.later hb))); (try (have X2 := Lib.hid (X2.out.later hb))); (try (have BS := Lib.hid (BS.out.after hb))); have HB := Lib.hid (below_then HB.out hb HB.out.size); clear hb; obtain ⟨s0, s1, s2⟩ := tcells BS.out; have hsz := BS.out.lt; have fz := BS.out.frozen 0)
                        | (go_at_call 9; (with_reducible refine (D0.out _ hsz).mono ?_); rintro e1 wk ⟨a1, k1, d1, rfl, rr, hb⟩; have BS := Lib.hid (BS.out.after hb); have HB := Lib.hid (below_then HB.out hb HB.out.size); have N1 := Lib.hid rr; clear rr hb; obtain ⟨s0, s1, s2⟩ := tcells BS.out; have fz := BS.out.frozen 0; have X1 := Lib.hid (N1.out.stored (.int .i64 (f + d))); have BS := Lib.hid (BS.out.set_ 0 (.int .i64 (f + d))); have HB := Lib.hid (HB.out.setCell (p := ⟨w.heap.size, 0, none⟩) (Nat.le_refl _) (.int .i64 (f + d))); obtain ⟨r0, r1, r2⟩ := tcells BS.out; clear N1)
                        | (go_at_call 9; (with_reducible refine (D1.out _).mono ?_); rintro e1 wk ⟨a2, k2, d2, rfl, rr, hb⟩; have X1 := Lib.hid (X1.out.later hb); have BS := Lib.hid (BS.out.after hb); have HB := Lib.hid (below_then HB.out hb HB.out.size); have X2 := Lib.hid rr; clear rr hb; obtain ⟨r0, r1, r2⟩ := tcells BS.out)
                        | fail)
                      go_ret
                      exact ⟨rfl, HB.out⟩
                    · have f0 : f < 0 := by omega
                      clear hfh
                      go_enter Try.func8, Try.ntmps8
                      go_wp2_with (first
                        | (go_at_call 10; (with_reducible refine (lives_any _).mono ?_); rintro e1 wk ⟨rfl, hb⟩; (try (have X1 := Lib.hid (X1.out.later hb))); (try (have X2 := Lib.hid (X2.out.later hb))); (try (have BS := Lib.hid (BS.out.after hb))); have HB := Lib.hid (below_then HB.out hb HB.out.size); clear hb; obtain ⟨s0, s1, s2⟩ := tcells BS.out; have hsz := BS.out.lt; have fz := BS.out.frozen 0)
                        | (go_at_call 9; (with_reducible refine (D0.out _ hsz).mono ?_); rintro e1 wk ⟨a1, k1, d1, rfl, rr, hb⟩; have BS := Lib.hid (BS.out.after hb); have HB := Lib.hid (below_then HB.out hb HB.out.size); have N1 := Lib.hid rr; clear rr hb; obtain ⟨s0, s1, s2⟩ := tcells BS.out; have fz := BS.out.frozen 0; have X1 := Lib.hid (N1.out.stored (.int .i64 (f + d))); have BS := Lib.hid (BS.out.set_ 0 (.int .i64 (f + d))); have HB := Lib.hid (HB.out.setCell (p := ⟨w.heap.size, 0, none⟩) (Nat.le_refl _) (.int .i64 (f + d))); obtain ⟨r0, r1, r2⟩ := tcells BS.out; clear N1)
                        | (go_at_call 9; (with_reducible refine (D1.out _).mono ?_); rintro e1 wk ⟨a2, k2, d2, rfl, rr, hb⟩; have X1 := Lib.hid (X1.out.later hb); have BS := Lib.hid (BS.out.after hb); have HB := Lib.hid (below_then HB.out hb HB.out.size); have X2 := Lib.hid rr; clear rr hb; obtain ⟨r0, r1, r2⟩ := tcells BS.out)
                        | fail)
                      go_ret
                      exact ⟨rfl, HB.out⟩
end Go.Proofs.Ytejmfhmglbggnaa.Wn
