/- The document's joined of chapter 8, at any row: the row joined, in memory of its own. Conditions: the row holds fewer than a million windows. -/
import Derived.RangeFuncBox
import Derived.RangeFuncLeaves
import Derived.Shelf.Abstract
import Derived.OwnWalkIn
import Derived.TacticsInMore
import Derived.LoopNIn
import Derived.LoopIn
import Derived.BigRegionIn
import Derived.RangeFuncNested
import Derived.RangeFuncCalls
import Derived.Shelf.RegionOpen
import Derived.Sort.QuietIn
import Derived.StillTail
import Derived.StillTactics
import Derived.Maps.AppendAt
import Derived.Lib.SliceRun
import Derived.RangeFuncNested
import Derived.Test.YtmfocopokadloaaWinGap
import Derived.IntWalk
import Derived.ChangeSlices
import Derived.Deep.SlicePairs
import Derived.Deep.Strs
import Derived.ChangeArms
import Derived.Carry
import Derived.OpenShut
import Derived.Lib.QuietBelow
import Derived.Deep.QuietTactic
import Derived.StillTactics
import Derived.StillTail
import Derived.Test.YtmfocopokadloaaWinLex
namespace Go.Proofs.Ytmfocopokadloaa.Wn
open Go.ChangeShapes Go.WideShapes Go.ChangeAt Go.RowKit Go.Deep Go.Sort
set_option linter.unusedVariables false
set_option linter.unusedSimpArgs false
attribute [local go_sem] Oper.semAt_some

theorem cells_two (w : World) (t : TypeId) (u v : Value) : ∀ j a, [u, v][j]? = some a → (w.alloc (.cells #[u, v] t)).cell? ((⟨w.heap.size, 0, none⟩ : Addr).add j) = some a := by
  obtain ⟨ad, e, _, h⟩ := lit_rd w #[u, v] t [u, v] rfl (by simp)
  injection e with e
  subst e
  exact h
def Stop (p : Prop) : Prop := p
theorem stop {p : Prop} (h : Stop p) : p := h
theorem kc_set (q : List Win) (c1 c2 u : Int) : (kc (q ++ [(c1, c2)])).set (q.length * 2 + 1) (.int .i64 u) = kc (q ++ [(c1, u)]) := by
  rw [kc_append, kc_append, List.set_append_right _ _ (by rw [kc_length]; omega), kc_length]
  have e : q.length * 2 + 1 - q.length * 2 = 1 := by omega
  rw [e]; rfl
theorem Rd.grow {w w' : World} {n0 : Nat} {A : Option Addr} {xs : List Value} (h : Rd w' (fun b => w.heap.size ≤ b ∧ b < w'.heap.size) A xs) (h0 : n0 ≤ w.heap.size) : Rd w' (fun b => n0 ≤ b ∧ b < w'.heap.size) A xs := h.more fun b hb => ⟨by omega, hb.2⟩
theorem WinsNew.after {w w1 : World} {l : List Win} {e : Ending} {w' : World} (h : WinsNew w1 l e w') (hb : Below w.heap.size w w1) : WinsNew w l e w' := by
  obtain ⟨A, n, c, rfl, h1, h2, h3, h4⟩ := h
  exact ⟨A, n, c, rfl, h1, h2, h3.grow hb.size, below_then hb h4 hb.size⟩
theorem WinsNew.none_ (w w' : World) (hb : Below w.heap.size w w') : WinsNew w [] (.returned (.slice none 0 0)) w' := ⟨none, 0, 0, rfl, Lib.hid rfl, Nat.le_refl _, Rd.none_, hb⟩

/-- where the document's joined stands -/
def RJ (w : World) (zs : List Win) (v3 v4 : Value) (wr : World) : Prop :=
  ∃ k : Nat, v4 = .int .i64 k ∧ k ≤ zs.length ∧ Hid (wr.ownsRow w.heap.size 39 2 v3 (jn (zs.take k)).length (kc (jn (zs.take k)))) ∧ Hid (Below w.heap.size w wr)
theorem jn_take {zs : List Win} {k : Nat} (hk : k < zs.length) : jn (zs.take (k + 1)) = jstep (jn (zs.take k)) (zs.getD k (0, 0)) := by
  have e : zs.getD k (0, 0) = zs[k] := by simp [List.getD_eq_getElem?_getD, List.getElem?_eq_getElem hk]
  rw [List.take_add_one, List.getElem?_eq_getElem hk, e]
  exact jn_snoc _ _
theorem kc_set2 (q : List Win) (c1 c2 u : Int) : (kc (q ++ [(c1, c2)])).set (q.length * 2 + 1) (.int .i64 u) = kc (q ++ [(c1, u)]) := kc_set q c1 c2 u
theorem rj_over {w wr : World} {q : List Win} {c1 c2 u : Int} {gr cp k j : Nat} (hb : Below w.heap.size w wr) (how : wr.ownsRow w.heap.size 39 2 (.slice (some ⟨gr, 0, none⟩) (k + 1) cp) (k + 1) (kc (q ++ [(c1, c2)]))) (hk : k = q.length) :
    ((wr.drewN j).setCell ⟨gr, k * 2 + 1, none⟩ (.int .i64 u)).ownsRow w.heap.size 39 2 (.slice (some ⟨gr, 0, none⟩) (k + 1) cp) (q ++ [(c1, u)]).length (kc (q ++ [(c1, u)])) ∧ Below w.heap.size w ((wr.drewN j).setCell ⟨gr, k * 2 + 1, none⟩ (.int .i64 u)) := by
  have hg := (how.lt gr rfl).1
  have how2 : (wr.drewN j).ownsRow w.heap.size 39 2 (.slice (some ⟨gr, 0, none⟩) (k + 1) cp) (k + 1) (kc (q ++ [(c1, c2)])) := how
  obtain ⟨s1, s2⟩ := how2.stored (k * 2 + 1) (.int .i64 u)
  subst hk
  rw [kc_set] at s1
  exact ⟨by simpa using s1, (below_drewN hb j).setCell (p := ⟨gr, q.length * 2 + 1, none⟩) hg _⟩

set_option maxRecDepth 100000 in
set_option maxHeartbeats 8000000 in
theorem refjoined_any (w : World) (A : Option Addr) (n c : Nat) (zs : List Win) (hn : Hid (n = zs.length)) (hN : n ≤ 1000000) (hx : Rd w (· < w.heap.size) A (kc zs)) :
    Calls Try.prog 31 #[.slice A n c] w (WinsNew w (jn zs)) := by
  have HX := Lib.hid hx
  clear hx
  obtain ⟨i0, hi0, hz0, hz1, hz2⟩ := info_parts info_win
  go_enter Try.func31, Try.ntmps31
  go_wp2
  go_loopw [3, 4] (fun v3 v4 wr => RJ w zs v3 v4 wr) (fun _ v _ => n - (intOf v).toNat)
  case atStart => exact ⟨0, rfl, by omega, World.ownsRow_nil _ _ _ _, Below.refl _ _⟩
  case round =>
    obtain ⟨i, rfl, hi, HO, HB⟩ := hrel
    by_cases hlt : i < n
    · have hil : i < zs.length := by rw [← hn.out]; exact hlt
      obtain ⟨ad, rfl, hS, hca⟩ := (HX.out.below2 HB.out).key2 (k := i) hil
      obtain ⟨ha0, ha1⟩ := hca i hil
      have hjt := jn_take hil
      obtain ⟨p, hp⟩ : ∃ p, p = zs.getD i (0, 0) := ⟨_, rfl⟩
      rw [← hp] at ha0 ha1 hjt
      obtain ⟨x1, x2⟩ := p
      dsimp only at ha0 ha1
      have hii : (i : Int) < (n : Int) := by omega
      have hpl := jn_length (zs.take i)
      have hpl2 : (zs.take i).length ≤ i := by simp; omega
      rcases List.eq_nil_or_concat (jn (zs.take i)) with hq | ⟨q, cc, hq⟩
      · have how := HO.out
        rw [hq] at how
        have HJ : Hid (jn (zs.take (i + 1)) = [(x1, x2)]) := Lib.hid (by rw [hjt, hq]; rfl)
        obtain ⟨A3, c3, hv3, _, _⟩ := own_form how
        simp only [List.length_nil] at hv3
        subst hv3
        have HOW : Hid (∀ j, (wr.drewN j).ownsRow w.heap.size 39 2 (.slice A3 0 c3) 0 []) := Lib.hid fun _ => how
        clear how hq hjt hpl hpl2 hca hp HO
        go_wp2
        go_quiet (fail)
        go_wp2_with (at_builtin; refine stop ?_)
        unfold Stop
        refine wpList_append_rd rfl (.tmp 47) (.tmp 52) 31 rfl w.heap.size 39 _ 2 16 Try.underlying31 info_win rfl (by omega) (by omega) _ 0 [] rfl ((HOW.out nq).alloc _) (fun _ => True) (some ⟨(wr.drewN nq).heap.size, 0, none⟩) 1 1 [.int .i64 x1, .int .i64 x2] rfl rfl (fun _ => ⟨_, rfl, trivial, cells_two (wr.drewN nq) _ _ _⟩) (by simp [Value.oneCell']) (by omega) (by have := HB.out.size; simp; omega) ?_
        intro v' w1 hown hbel
        obtain ⟨g', cap', rfl⟩ := ownsRow_succ hown.out
        have HB1 := Lib.hid (((below_drewN HB.out nq).alloc (by have := HB.out.size; simpa using this) _).trans hbel.out)
        clear hbel
        go_wp2
        go_roundw
        case rel => exact ⟨i + 1, by go_num, by omega, by show World.ownsRow _ _ _ _ _ _ _; rw [HJ.out]; exact hown.out, HB1.out⟩
        case measure => simp [intOf]; omega
      · rw [List.concat_eq_append] at hq
        have hql : q.length + 1 ≤ 1000000 := by rw [hq] at hpl; simp at hpl; omega
        have how := HO.out
        rw [hq] at how
        have how2 := how
        simp only [List.length_append, List.length_cons, List.length_nil, Nat.zero_add] at how2
        obtain ⟨gr, cp, hv3⟩ := ownsRow_succ how2
        subst hv3
        have HOW : Hid (∀ j, (wr.drewN j).ownsRow w.heap.size 39 2 (.slice (some ⟨gr, 0, none⟩) (q.length + 1) cp) (q.length + 1) (kc (q ++ [cc]))) := Lib.hid fun _ => how2
        obtain ⟨c1, c2⟩ := cc
        have hat := kc_at (q ++ [(c1, c2)]) q.length (c1, c2) (by simp)
        have hc0 := (how2.cellAt (q.length * 2) (by omega)).trans hat.1
        have hc1 := (how2.cellAt (q.length * 2 + 1) (by omega)).trans hat.2
        have hf1 := how2.frozenAt (q.length * 2 + 1)
        obtain ⟨k, hk⟩ : ∃ k, k = q.length := ⟨_, rfl⟩
        have HK := Lib.hid hk
        rw [← hk] at hc0 hc1 hf1 HOW hql ⊢
        clear how how2 hat hk hpl hpl2 hca hp HO
        have hk0 : (0 : Int) < (k : Int) + 1 := by omega
        have dk0 : decide ((0 : Int) < (k : Int) + 1) = true := decide_eq_true hk0
        have dk1 : decide (0 < k + 1) = true := by simp
        have hk1 : (k : Int) < (k : Int) + 1 := by omega
        dsimp only at hc1
        by_cases hov : x1 ≤ c2
        · have HJ : Hid (jn (zs.take (i + 1)) = q ++ [(c1, max c2 x2)]) := Lib.hid (by rw [hjt, hq, jstep_last, if_pos hov])
          have dov : decide (x1 ≤ c2) = true := decide_eq_true hov
          clear hq hjt
          go_wp2
          go_quiet (fail)
          go_wp2
          have ew : IntKind.i64.wrap (k : Int) = (k : Int) := IntWalk.i64_in _ (by omega)
          have ek : (0 : Int) ≤ (k : Int) := by omega
          refine wp_region_still_tail 17 mixed (by kernel_rfl) ?_
          simp only [List.take_succ_cons, List.take_zero, List.drop_succ_cons, List.drop_zero]
          change wpStill _ _ (wr.drewN (nq + 1)) (fun a' => wpList _ _ _ _ a' (wr.drewN (nq + 1))) _ _
          iterate 17 still_step
          refine wpStill_nil ?_
          change wpList _ _ _ _ _ (wr.drewN (nq + 1))
          go_wp2
          have hmx : max c2 x2 = if c2 < x2 then x2 else c2 := by split <;> omega
          clear ew ek
          go_roundw
          case rel => exact ⟨i + 1, by go_num, by omega, by show World.ownsRow _ _ _ _ _ _ _; rw [HJ.out, hmx]; exact (rj_over HB.out (HOW.out 0) HK.out).1, Lib.hid (rj_over (j := nq + 1) HB.out (HOW.out 0) HK.out).2⟩
          case measure => simp [intOf]; omega
        · have HJ : Hid (jn (zs.take (i + 1)) = q ++ [(c1, c2)] ++ [(x1, x2)]) := Lib.hid (by rw [hjt, hq, jstep_last, if_neg hov])
          have dov : decide (x1 ≤ c2) = false := decide_eq_false hov
          clear hq hjt
          go_wp2
          go_quiet (fail)
          go_wp2_with (at_builtin; refine stop ?_)
          unfold Stop
          refine wpList_append_rd rfl (.tmp 47) (.tmp 52) 31 rfl w.heap.size 39 _ 2 16 Try.underlying31 info_win rfl (by omega) (by omega) _ (k + 1) (kc (q ++ [(c1, c2)])) rfl ((HOW.out nq).alloc _) (fun _ => True) (some ⟨(wr.drewN nq).heap.size, 0, none⟩) 1 1 [.int .i64 x1, .int .i64 x2] rfl rfl (fun _ => ⟨_, rfl, trivial, cells_two (wr.drewN nq) _ _ _⟩) (by simp [Value.oneCell']) (by omega) (by have := HB.out.size; simp; omega) ?_
          intro v' w1 hown hbel
          obtain ⟨g', cap', rfl⟩ := ownsRow_succ hown.out
          have HB1 := Lib.hid (((below_drewN HB.out nq).alloc (by have := HB.out.size; simpa using this) _).trans hbel.out)
          clear hbel
          go_wp2
          go_roundw
          case rel => exact ⟨i + 1, by go_num, by omega, by show World.ownsRow _ _ _ _ _ _ _; rw [HJ.out]; rw [kc_append]; simp only [List.length_append, List.length_cons, List.length_nil, ← HK.out]; exact hown.out, HB1.out⟩
          case measure => simp [intOf]; omega
    · have hfin : zs.take i = zs := List.take_of_length_le (by rw [← hn.out]; omega)
      have how := HO.out
      rw [hfin] at how
      obtain ⟨A3, c3, hv3, hc3, hr3⟩ := own_form how
      subst hv3
      clear HO how hfin
      go_wp2
      go_ret
      exact ⟨A3, _, c3, rfl, Lib.hid rfl, hc3, hr3, HB.out⟩
end Go.Proofs.Ytmfocopokadloaa.Wn
