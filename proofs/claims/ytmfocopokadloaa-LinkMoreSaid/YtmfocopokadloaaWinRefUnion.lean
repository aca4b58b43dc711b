/- The document's Union of chapter 8 at any two rows, proved by walking its text. Conditions: the rows hold fewer than a million windows together. -/
import Derived.RangeFuncBox
import Derived.RangeFuncLeaves
import Derived.Shelf.Abstract
import Derived.OwnWalkIn
import Derived.TacticsInMore
import Derived.LoopNIn
import Derived.LoopIn
import Derived.BigRegionIn
import Derived.RangeFuncNested
import Derived.RangeFuncCalls
import Derived.Shelf.RegionOpen
import Derived.Sort.QuietIn
import Derived.StillTail
import Derived.StillTactics
import Derived.Maps.AppendAt
import Derived.Lib.SliceRun
import Derived.RangeFuncNested
import Derived.Test.YtmfocopokadloaaWinRefJoin
import Derived.IntWalk
import Derived.ChangeSlices
import Derived.Deep.SlicePairs
import Derived.Deep.Strs
import Derived.ChangeArms
import Derived.Carry
import Derived.OpenShut
import Derived.Lib.QuietBelow
import Derived.Deep.QuietTactic
import Derived.Test.YtmfocopokadloaaWinRef
namespace Go.Proofs.Ytmfocopokadloaa.Wn
open Go.ChangeShapes Go.WideShapes Go.ChangeAt Go.RowKit Go.Deep Go.Sort
set_option linter.unusedVariables false
set_option linter.unusedSimpArgs false
attribute [local go_sem] Oper.semAt_some

theorem md_a {xs ys : List Win} {i j : Nat} (hi : i < xs.length) (h : ys.length ≤ j ∨ ¬ (ys.getD j (0, 0)).1 < (xs.getD i (0, 0)).1) : md (xs.drop i) (ys.drop j) = xs.getD i (0, 0) :: md (xs.drop (i + 1)) (ys.drop j) := by
  have e : xs.getD i (0, 0) = xs[i] := by simp [List.getD_eq_getElem?_getD, List.getElem?_eq_getElem hi]
  rw [List.drop_eq_getElem_cons hi, e]
  rcases Nat.lt_or_ge j ys.length with hj | hj
  · have e2 : ys.getD j (0, 0) = ys[j] := by simp [List.getD_eq_getElem?_getD, List.getElem?_eq_getElem hj]
    rw [List.drop_eq_getElem_cons hj, md_ge]
    rcases h with h | h
    · omega
    · rwa [e, e2] at h
  · rw [List.drop_eq_nil_of_le hj, md_nil_r, md_nil_r]
theorem md_b {xs ys : List Win} {i j : Nat} (hj : j < ys.length) (h : xs.length ≤ i ∨ (ys.getD j (0, 0)).1 < (xs.getD i (0, 0)).1) : md (xs.drop i) (ys.drop j) = ys.getD j (0, 0) :: md (xs.drop i) (ys.drop (j + 1)) := by
  have e2 : ys.getD j (0, 0) = ys[j] := by simp [List.getD_eq_getElem?_getD, List.getElem?_eq_getElem hj]
  rw [List.drop_eq_getElem_cons hj, e2]
  rcases Nat.lt_or_ge i xs.length with hi | hi
  · have e : xs.getD i (0, 0) = xs[i] := by simp [List.getD_eq_getElem?_getD, List.getElem?_eq_getElem hi]
    rw [List.drop_eq_getElem_cons hi, md_lt]
    rcases h with h | h
    · omega
    · rwa [e, e2] at h
  · rw [List.drop_eq_nil_of_le hi, md_nil_l, md_nil_l]

set_option maxRecDepth 100000 in
set_option maxHeartbeats 16000000 in
theorem refunion_any (w : World) (A B : Option Addr) (n m c d : Nat) (xs ys : List Win) (hn : Hid (n = xs.length)) (hm : Hid (m = ys.length)) (hN : n + m ≤ 1000000)
    (hx : Rd w (· < w.heap.size) A (kc xs)) (hy : Rd w (· < w.heap.size) B (kc ys)) :
    Calls Try.prog 15 #[.slice A n c, .slice B m d] w (WinsNew w (un xs ys)) := by
  have C1 := Lib.hid (refgood_any w A n c xs hn (by omega) hx)
  have C2 : Hid (∀ W, Below w.heap.size w W → Calls Try.prog 13 #[.slice B m d] W fun e w' => e = .returned (.bool (good ys)) ∧ Below W.heap.size W w') := Lib.hid fun W hW => refgood_any W B m d ys hm (by omega) (hy.later hW)
  have HX := Lib.hid hx
  have HY := Lib.hid hy
  clear hx hy
  cases h1 : good xs with
  | false =>
    rw [h1] at C1
    have HR : Hid (un xs ys = []) := Lib.hid (by simp [un, h1])
    go_enter Try.func15, Try.ntmps15
    go_wp2_with (go_at_call 13; with_reducible refine C1.out.mono ?_; rintro e w1 ⟨rfl, hb1⟩)
    go_ret
    rw [HR.out]; exact WinsNew.none_ _ _ hb1
  | true =>
    rw [h1] at C1
    cases h2 : good ys with
    | false =>
      rw [h2] at C2
      have HR : Hid (un xs ys = []) := Lib.hid (by simp [un, h2])
      go_enter Try.func15, Try.ntmps15
      go_wp2_with (first | (go_at_call 13; with_reducible refine C1.out.mono ?_; rintro e w1 ⟨rfl, hb1⟩) | (go_at_call 13; with_reducible refine (C2.out _ hb1).mono ?_; rintro e w2 ⟨rfl, hb2⟩) | fail)
      go_ret
      rw [HR.out]; exact WinsNew.none_ _ _ (keep_trans hb1 hb2)
    | true =>
      rw [h2] at C2
      have HR : Hid (un xs ys = jn (md xs ys)) := Lib.hid (by rw [un_doc, if_pos ⟨h1, h2⟩])
      go_enter Try.func15, Try.ntmps15
      go_wp2_with (first | (go_at_call 13; with_reducible refine C1.out.mono ?_; rintro e w1 ⟨rfl, hb1⟩) | (go_at_call 13; with_reducible refine (C2.out _ hb1).mono ?_; rintro e w2 ⟨rfl, hb2⟩; have HB := Lib.hid (keep_trans hb1 hb2); clear hb1 hb2) | fail)
      go_loopw [5, 6, 7] (fun v5 v6 v7 wr => ∃ (i j : Nat) (pre : List Win), v6 = .int .i64 i ∧ v7 = .int .i64 j ∧ i ≤ n ∧ j ≤ m ∧ Hid (wr.ownsRow w.heap.size 39 2 v5 (i + j) (kc pre)) ∧ Hid (pre.length = i + j) ∧ Hid (pre ++ md (xs.drop i) (ys.drop j) = md xs ys) ∧ Hid (Below w.heap.size w wr)) (fun _ v6 v7 _ => n + m - ((intOf v6).toNat + (intOf v7).toNat))
      case atStart => exact ⟨0, 0, [], rfl, rfl, by omega, by omega, Lib.hid (World.ownsRow_nil _ _ _ _), Lib.hid rfl, Lib.hid rfl, HB⟩
      case round =>
        clear HB
        obtain ⟨i, j, pre, rfl, rfl, hi, hj, HO, HP, HM, HB⟩ := hrel
        obtain ⟨A3, c3, hv3, hc3, hr3⟩ := own_form HO.out
        subst hv3
        by_cases ci : i < n
        · have di : decide ((i : Int) < (n : Int)) = true := decide_eq_true (by omega)
          have di' : decide (i < n) = true := decide_eq_true ci
          have dii : (i : Int) < (n : Int) := by omega
          have hil : i < xs.length := by rw [← hn.out]; exact ci
          obtain ⟨ad, rfl, _, hca⟩ := (HX.out.below2 HB.out).key2 (k := i) hil
          obtain ⟨a0, a1⟩ := hca i hil
          by_cases cj : j < m
          · have dj : ((j : Int) == (m : Int)) = false := by simp; omega
            have djj : (j : Int) < (m : Int) := by omega
            have hjl : j < ys.length := by rw [← hm.out]; exact cj
            obtain ⟨bd, rfl, _, hcb⟩ := (HY.out.below2 HB.out).key2 (k := j) hjl
            obtain ⟨b0, b1⟩ := hcb j hjl
            have ma := md_a (ys := ys) (j := j) hil
            have mb := md_b (xs := xs) (i := i) hjl
            obtain ⟨p, hp⟩ : ∃ p, p = xs.getD i (0, 0) := ⟨_, rfl⟩
            obtain ⟨q, hq⟩ : ∃ q, q = ys.getD j (0, 0) := ⟨_, rfl⟩
            rw [← hp] at a0 a1 ma mb
            rw [← hq] at b0 b1 ma mb
            obtain ⟨p1, p2⟩ := p
            obtain ⟨q1, q2⟩ := q
            dsimp only at a0 a1 b0 b1 ma mb
            clear hp hq hca hcb hr3
            by_cases cp : p1 ≤ q1
            · have dp : decide (p1 ≤ q1) = true := decide_eq_true cp
              have HM2 : Hid (pre ++ [(p1, p2)] ++ md (xs.drop (i + 1)) (ys.drop j) = md xs ys) := Lib.hid (by
                have := HM.out; rw [ma (.inr (by omega))] at this; rw [List.append_assoc]; exact this)
              clear ma mb
              go_wp2
              go_quiet (fail)
              go_wp2_with (at_builtin; refine stop ?_)
              unfold Stop
              refine wpList_append_rd rfl (.tmp 49) (.tmp 54) 31 rfl w.heap.size 39 _ 2 16 Try.underlying31 info_win rfl (by omega) (by omega) _ (i + j) (kc pre) rfl (((HO.out : World.ownsRow (wr.drewN nq) _ _ _ _ _ _)).alloc _) (fun _ => True) (some ⟨(wr.drewN nq).heap.size, 0, none⟩) 1 1 [.int .i64 p1, .int .i64 p2] rfl rfl (fun _ => ⟨_, rfl, trivial, cells_two (wr.drewN nq) _ _ _⟩) (by simp [Value.oneCell']) (by omega) (by have := HB.out.size; simp; omega) ?_
              intro v' w1 hown hbel
              obtain ⟨g', cap', rfl⟩ := ownsRow_succ hown.out
              have HB1 := Lib.hid (((below_drewN HB.out nq).alloc (by have := HB.out.size; simpa using this) _).trans hbel.out)
              clear hbel
              go_wp2
              go_roundw
              case rel => exact ⟨(i + 1), j, pre ++ [(p1, p2)], by go_num, by go_num, by omega, by omega, by show World.ownsRow _ _ _ _ _ _ _; rw [kc_append, show (i + 1) + j = i + j + 1 by omega]; exact hown.out, by show _ = _; have := HP.out; simp; omega, HM2, HB1⟩
              case measure => simp [intOf]; omega
            · have dp : decide (p1 ≤ q1) = false := decide_eq_false cp
              have HM2 : Hid (pre ++ [(q1, q2)] ++ md (xs.drop i) (ys.drop (j + 1)) = md xs ys) := Lib.hid (by
                have := HM.out; rw [mb (.inr (by omega))] at this; rw [List.append_assoc]; exact this)
              clear ma mb
              go_wp2
              go_quiet (fail)
              go_wp2_with (at_builtin; refine stop ?_)
              unfold Stop
              refine wpList_append_rd rfl (.tmp 58) (.tmp 63) 31 rfl w.heap.size 39 _ 2 16 Try.underlying31 info_win rfl (by omega) (by omega) _ (i + j) (kc pre) rfl (((HO.out : World.ownsRow (wr.drewN nq) _ _ _ _ _ _)).alloc _) (fun _ => True) (some ⟨(wr.drewN nq).heap.size, 0, none⟩) 1 1 [.int .i64 q1, .int .i64 q2] rfl rfl (fun _ => ⟨_, rfl, trivial, cells_two (wr.drewN nq) _ _ _⟩) (by simp [Value.oneCell']) (by omega) (by have := HB.out.size; simp; omega) ?_
              intro v' w1 hown hbel
              obtain ⟨g', cap', rfl⟩ := ownsRow_succ hown.out
              have HB1 := Lib.hid (((below_drewN HB.out nq).alloc (by have := HB.out.size; simpa using this) _).trans hbel.out)
              clear hbel
              go_wp2
              go_roundw
              case rel => exact ⟨i, (j + 1), pre ++ [(q1, q2)], by go_num, by go_num, by omega, by omega, by show World.ownsRow _ _ _ _ _ _ _; rw [kc_append, show i + (j + 1) = i + j + 1 by omega]; exact hown.out, by show _ = _; have := HP.out; simp; omega, HM2, HB1⟩
              case measure => simp [intOf]; omega
          · obtain rfl : j = m := by omega
            have ma := md_a (ys := ys) (j := j) hil
            obtain ⟨p, hp⟩ : ∃ p, p = xs.getD i (0, 0) := ⟨_, rfl⟩
            rw [← hp] at a0 a1 ma
            obtain ⟨p1, p2⟩ := p
            dsimp only at a0 a1 ma
            clear hp hca hr3
            have HM2 : Hid (pre ++ [(p1, p2)] ++ md (xs.drop (i + 1)) (ys.drop j) = md xs ys) := Lib.hid (by
              have := HM.out; rw [ma (.inl (by rw [← hm.out]; exact Nat.le_refl _))] at this; rw [List.append_assoc]; exact this)
            have dj : ((j : Int) == (j : Int)) = true := by simp
            clear ma
            go_wp2
            go_quiet (fail)
            go_wp2_with (at_builtin; refine stop ?_)
            unfold Stop
            refine wpList_append_rd rfl (.tmp 49) (.tmp 54) 31 rfl w.heap.size 39 _ 2 16 Try.underlying31 info_win rfl (by omega) (by omega) _ (i + j) (kc pre) rfl (((HO.out : World.ownsRow (wr.drewN nq) _ _ _ _ _ _)).alloc _) (fun _ => True) (some ⟨(wr.drewN nq).heap.size, 0, none⟩) 1 1 [.int .i64 p1, .int .i64 p2] rfl rfl (fun _ => ⟨_, rfl, trivial, cells_two (wr.drewN nq) _ _ _⟩) (by simp [Value.oneCell']) (by omega) (by have := HB.out.size; simp; omega) ?_
            intro v' w1 hown hbel
            obtain ⟨g', cap', rfl⟩ := ownsRow_succ hown.out
            have HB1 := Lib.hid (((below_drewN HB.out nq).alloc (by have := HB.out.size; simpa using this) _).trans hbel.out)
            clear hbel
            go_wp2
            go_roundw
            case rel => exact ⟨(i + 1), j, pre ++ [(p1, p2)], by go_num, by go_num, by omega, by omega, by show World.ownsRow _ _ _ _ _ _ _; rw [kc_append, show (i + 1) + j = i + j + 1 by omega]; exact hown.out, by show _ = _; have := HP.out; simp; omega, HM2, HB1⟩
            case measure => simp [intOf]; omega
        · obtain rfl : i = n := by omega
          have di : decide ((i : Int) < (i : Int)) = false := by simp
          have dii : ¬ (i : Int) < (i : Int) := by omega
          by_cases cj : j < m
          · have dj : ((j : Int) == (m : Int)) = false := by simp; omega
            have djj : (j : Int) < (m : Int) := by omega
            have hjl : j < ys.length := by rw [← hm.out]; exact cj
            obtain ⟨bd, rfl, _, hcb⟩ := (HY.out.below2 HB.out).key2 (k := j) hjl
            obtain ⟨b0, b1⟩ := hcb j hjl
            have mb := md_b (xs := xs) (i := i) hjl
            obtain ⟨q, hq⟩ : ∃ q, q = ys.getD j (0, 0) := ⟨_, rfl⟩
            rw [← hq] at b0 b1 mb
            obtain ⟨q1, q2⟩ := q
            dsimp only at b0 b1 mb
            clear hq hcb hr3
            have HM2 : Hid (pre ++ [(q1, q2)] ++ md (xs.drop i) (ys.drop (j + 1)) = md xs ys) := Lib.hid (by
              have := HM.out; rw [mb (.inl (by rw [← hn.out]; exact Nat.le_refl _))] at this; rw [List.append_assoc]; exact this)
            clear mb
            go_wp2
            go_quiet (fail)
            go_wp2_with (at_builtin; refine stop ?_)
            unfold Stop
            refine wpList_append_rd rfl (.tmp 58) (.tmp 63) 31 rfl w.heap.size 39 _ 2 16 Try.underlying31 info_win rfl (by omega) (by omega) _ (i + j) (kc pre) rfl (((HO.out : World.ownsRow (wr.drewN nq) _ _ _ _ _ _)).alloc _) (fun _ => True) (some ⟨(wr.drewN nq).heap.size, 0, none⟩) 1 1 [.int .i64 q1, .int .i64 q2] rfl rfl (fun _ => ⟨_, rfl, trivial, cells_two (wr.drewN nq) _ _ _⟩) (by simp [Value.oneCell']) (by omega) (by have := HB.out.size; simp; omega) ?_
            intro v' w1 hown hbel
            obtain ⟨g', cap', rfl⟩ := ownsRow_succ hown.out
            have HB1 := Lib.hid (((below_drewN HB.out nq).alloc (by have := HB.out.size; simpa using this) _).trans hbel.out)
            clear hbel
            go_wp2
            go_roundw
            case rel => exact ⟨i, (j + 1), pre ++ [(q1, q2)], by go_num, by go_num, by omega, by omega, by show World.ownsRow _ _ _ _ _ _ _; rw [kc_append, show i + (j + 1) = i + j + 1 by omega]; exact hown.out, by show _ = _; have := HP.out; simp; omega, HM2, HB1⟩
            case measure => simp [intOf]; omega
          · obtain rfl : j = m := by omega
            have djj : ¬ (j : Int) < (j : Int) := by omega
            have hfin : pre = md xs ys := by
              have := HM.out
              rw [List.drop_eq_nil_of_le (by rw [← hn.out]; exact Nat.le_refl _), List.drop_eq_nil_of_le (by rw [← hm.out]; exact Nat.le_refl _), md_nil_l, List.append_nil] at this
              exact this
            have CJ := Lib.hid (refjoined_any wr A3 (i + j) c3 pre (by show _ = _; exact HP.out.symm) (by omega) (hr3.more fun b hb => hb.2))
            rw [hfin] at CJ
            clear hr3 hfin
            go_wp2_with (go_at_call 31; refine CJ.out.mono ?_; rintro e5 w5 ⟨A5, n5, c5, rfl, hn5, hc5, hr5, hb5⟩)
            go_ret
            rw [HR.out]
            exact ⟨A5, n5, c5, rfl, hn5, hc5, hr5.grow HB.out.size, below_then HB.out hb5 HB.out.size⟩
end Go.Proofs.Ytmfocopokadloaa.Wn
